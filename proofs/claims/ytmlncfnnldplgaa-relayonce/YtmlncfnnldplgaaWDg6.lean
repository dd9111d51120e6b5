/-
  Delegations: New, Valid.
-/
import Derived.Test.YtmlncfnnldplgaaWDg3
import Derived.Deep.DeepCutAuto
namespace Go.Proofs.Ytmlncfnnldplgaa
open Go.RowKit

set_option maxRecDepth 100000 in
set_option maxHeartbeats 1000000 in
theorem new_any (ho : Int) (w : World) : Calls Try.prog 43 #[.int .i64 ho] w fun e w' => e = .returned (.slice (some ⟨w.heap.size, 0, none⟩) 1 1) ∧ OwnB w.heap.size w' (some ⟨w.heap.size, 0, none⟩) 1 [⟨[], ho⟩] ∧ Kept Nil w w' := by
  go_enter Try.func43, Try.ntmps43
  go_wp2
  go_ret
  exact ⟨rfl, World.ownsRow_lit w #[.string (bs []), .int .i64 ho] 1 (Nat.le_refl _) (by decide) rfl, (Kept.refl _ _).alloc _⟩

def bdOk (x : Bd) : Bool := isNd x.h && decide (x.f.length ≤ 16)
def vRise : Option Bd → List Bd → Bool
  | _, [] => true
  | p, x :: t => bdOk x && (match p with | none => true | some q => followB q x) && vRise (some x) t
def vpv (ps : List Bd) (k : Nat) : Option Bd := if k = 0 then none else ps[k - 1]?
theorem vRise_at {ps : List Bd} {k : Nat} (h : k < ps.length) : vRise (vpv ps k) (ps.drop k) = (bdOk ps[k] && (match vpv ps k with | none => true | some q => followB q ps[k]) && vRise (vpv ps (k + 1)) (ps.drop (k + 1))) := by
  have e : vpv ps (k + 1) = some ps[k] := by simp [vpv, h]
  rw [List.drop_eq_getElem_cons h, e]
  rfl
theorem vRise_end {ps : List Bd} {k : Nat} (h : ¬ k < ps.length) : vRise (vpv ps k) (ps.drop k) = true := by
  rw [List.drop_of_length_le (by omega)]
  unfold vRise
  cases vpv ps k <;> rfl
def firstE : List Bd → Bool
  | [] => false
  | x :: _ => x.f.isEmpty
def validB (ps : List Bd) : Bool := firstE ps && vRise none ps

end Go.Proofs.Ytmlncfnnldplgaa
