/-
  Rows of numbers, read where they lie: are they nodes, rising; is a number among them: by the program (slices.Contains, slices.Index) and by the document's answer.
-/
import Derived.Test.YtmlncfnnldplgaaWBase
import Derived.Test.YtmlncfnnldplgaaProg
import Derived.Outline
import Derived.Deep.DeepMust
import Derived.Deep.QuietTactic
import Derived.BigQuiet
namespace Go.Proofs.Ytmlncfnnldplgaa
open Go.RowKit

theorem Kept.drewN {X : Nat → Obj → Prop} {a w : World} (h : Kept X a w) (n : Nat) : Kept X a (w.drewN n) := ⟨h.os, h.tape, h.output, h.size, h.block⟩

/-- A row of numbers that lies below block B. -/
def IntRow (B : Nat) (w : World) (ao : Option Addr) (zs : List Int) : Prop := ∀ j, (hj : j < zs.length) → ∃ a, ao = some a ∧ a.block < B ∧ w.cell? (a.add j) = some (.int .i64 zs[j])
theorem IntRow.kept {X : Nat → Obj → Prop} {B : Nat} {w w' : World} {ao : Option Addr} {zs : List Int} (h : IntRow B w ao zs) (hk : Kept X w w') (hX : ∀ k o, k < B → ¬ X k o) : IntRow B w' ao zs := by
  intro j hj
  obtain ⟨a, ha, hb, hc⟩ := h j hj
  refine ⟨a, ha, hb, ?_⟩
  have e : (a.add j).block = a.block := by unfold Addr.add; split <;> rfl
  have hlt : a.block < w.heap.size := by
    have : (a.add j).block < w.heap.size := World.block_lt_of_cell? w _ hc
    omega
  rw [World.cell?_of_block (w := w) (by rw [e, hk.block a.block _ (Array.getElem?_eq_getElem hlt) (hX _ _ hb), Array.getElem?_eq_getElem hlt])]
  exact hc
theorem IntRow.nil {B : Nat} {w w' : World} {ao : Option Addr} {zs : List Int} (h : IntRow B w ao zs) (hk : Kept Nil w w') : IntRow B w' ao zs := h.kept hk (fun _ _ _ x => x)
theorem IntRow.alloc {B : Nat} {w : World} {ao : Option Addr} {zs : List Int} (h : IntRow B w ao zs) (o : Obj) : IntRow B (w.alloc o) ao zs := h.nil ((Kept.refl _ _).alloc o)
theorem IntRow.mono {B B' : Nat} {w : World} {ao : Option Addr} {zs : List Int} (h : IntRow B w ao zs) (hB : B ≤ B') : IntRow B' w ao zs := fun j hj => by
  obtain ⟨a, ha, hb, hc⟩ := h j hj
  exact ⟨a, ha, by omega, hc⟩
theorem IntRow.full {B : Nat} {w : World} {ao : Option Addr} {zs : List Int} (h : IntRow B w ao zs) : IntRow w.heap.size w ao zs := fun j hj => by
  obtain ⟨a, ha, hb, hc⟩ := h j hj
  have e : (a.add j).block = a.block := by unfold Addr.add; split <;> rfl
  have := World.block_lt_of_cell? w _ hc
  exact ⟨a, ha, by omega, hc⟩
theorem intRow_nil (B : Nat) (w : World) (ao : Option Addr) : IntRow B w ao [] := fun j hj => by simp at hj

/-! ### rising -/
def isNd (z : Int) : Bool := decide (1 ≤ z) && decide (z ≤ 9)
def rise : Int → List Int → Bool
  | _, [] => true
  | p, z :: t => isNd z && decide (p < z) && rise z t
def pv (zs : List Int) (k : Nat) : Int := if k = 0 then 0 else zs.getD (k - 1) 0
theorem rise_at {zs : List Int} {k : Nat} (h : k < zs.length) : rise (pv zs k) (zs.drop k) = (isNd zs[k] && decide (pv zs k < zs[k]) && rise (pv zs (k + 1)) (zs.drop (k + 1))) := by
  have e : pv zs (k + 1) = zs[k] := by simp [pv, List.getD_eq_getElem?_getD, h]
  rw [List.drop_eq_getElem_cons h, e]
  rfl
theorem rise_end {zs : List Int} {k : Nat} (h : ¬ k < zs.length) : rise (pv zs k) (zs.drop k) = true := by
  rw [List.drop_of_length_le (by omega)]
  rfl

set_option maxRecDepth 100000 in
theorem isNode_any (z : Int) (w : World) : Calls Try.prog 30 #[.int .i64 z] w fun e w' => e = .returned (.bool (isNd z)) ∧ w' = w := by
  unfold isNd
  by_cases h1 : 1 ≤ z
  · by_cases h2 : z ≤ 9
    · rw [decide_eq_true h1, decide_eq_true h2]
      go_enter Try.func30, Try.ntmps30
      go_wp2
      go_ret
      exact ⟨rfl, rfl⟩
    · rw [decide_eq_true h1, decide_eq_false h2]
      go_enter Try.func30, Try.ntmps30
      go_wp2
      go_ret
      exact ⟨rfl, rfl⟩
  · rw [decide_eq_false h1]
    go_enter Try.func30, Try.ntmps30
    go_wp2
    go_ret
    exact ⟨rfl, rfl⟩

/-! ### among them -/
def pos (z : Int) : Nat → List Int → Int
  | _, [] => -1
  | k, y :: t => if y = z then k else pos z (k + 1) t
theorem pos_at {zs : List Int} {z : Int} {k : Nat} (h : k < zs.length) : pos z k (zs.drop k) = if zs[k] = z then (k : Int) else pos z (k + 1) (zs.drop (k + 1)) := by
  rw [List.drop_eq_getElem_cons h]
  rfl
/-- Is a number among them? -/
def hasZ (zs : List Int) (z : Int) : Bool := decide (0 ≤ pos z 0 zs)
theorem pos_has (z : Int) : ∀ (zs : List Int) (k : Nat), decide (0 ≤ pos z k zs) = zs.contains z
  | [], k => rfl
  | y :: t, k => by
    unfold pos
    by_cases h : y = z
    · rw [if_pos h, List.contains_cons, h]
      simp
    · rw [if_neg h, pos_has z t (k + 1), List.contains_cons]
      have : (z == y) = false := by simp; exact fun e => h e.symm
      rw [this, Bool.false_or]

theorem hasZ_eq (zs : List Int) (z : Int) : hasZ zs z = zs.contains z := pos_has z zs 0

/-! ### the document's -/
end Go.Proofs.Ytmlncfnnldplgaa
