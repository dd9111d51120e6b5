/-
  Compact and Slice: the program's.
-/
import Derived.Test.YtopdgkebbdheiaaWLog6
namespace Go.Proofs.Ytopdgkebbdheiaa
open Go.RowKit

/-- Compact: the log and the error. -/
def cmpE (base bt : Int) (es : List En) (i : Int) : Int := (tAt base bt es i).2
def cmpL (base bt : Int) (es : List En) (i : Int) : Int × Int × List En := if (tAt base bt es i).2 = 0 then (i, (tAt base bt es i).1, es.drop (i - base).toNat) else (0, 0, [])
theorem tAt_ok {base bt i : Int} {es : List En} (h : (tAt base bt es i).2 = 0) : base ≤ i ∧ i ≤ base + es.length := by
  unfold tAt at h
  split at h
  · simp at h
  · split at h
    · simp at h
    · omega

theorem EntRow.sub {B : Nat} {w : World} {ao : Option Addr} {es : List En} (h : EntRow B w ao es) (q : Nat) : EntRow B w (ao.map (fun x => x.add (q * 4))) (es.drop q) := by
  cases ao with
  | some a => exact h.drop q
  | none =>
    intro j hj
    obtain ⟨a, e, _⟩ := h (q + j) (by rw [List.length_drop] at hj; omega)
    cases e
/-- What Clone makes of a slice's end. -/
theorem cloneSub {B c : Nat} {ao : Option Addr} {es : List En} (q : Nat) {w : World} (h : EntRow B w ao es) (hn : ao = none → es = [] ∧ c = 0) (hl : (es.length : Int) ≤ 1099511627776) :
    Calls Try.prog 105 #[.slice (ao.map (fun x => x.add (q * 4))) (es.length - q) (c - q)] w fun e w' => ∃ ao' c', e = .returned (.slice ao' (es.length - q) c') ∧ OwnEs w.heap.size w' ao' c' (es.drop q) ∧ Kept Nil w w' := by
  have H := cloneE_any B (c - q) (ao.map (fun x => x.add (q * 4))) (es.drop q) w (h.sub q) (fun e => by
    cases ao with
    | some a => cases e
    | none => obtain ⟨rfl, rfl⟩ := hn rfl; exact ⟨List.drop_nil, Nat.zero_sub _⟩) (by rw [List.length_drop]; omega)
  rw [List.length_drop] at H
  exact H
theorem cloneEnd (ao : Option Addr) (w : World) :
    Calls Try.prog 105 #[.slice ao 0 0] w fun e w' => ∃ ao' c', e = .returned (.slice ao' 0 c') ∧ OwnEs w.heap.size w' ao' c' [] ∧ Kept Nil w w' := cloneE_any w.heap.size 0 ao [] w (entRow_nil _ _ _) (fun _ => ⟨rfl, rfl⟩) (by simp)

end Go.Proofs.Ytopdgkebbdheiaa
