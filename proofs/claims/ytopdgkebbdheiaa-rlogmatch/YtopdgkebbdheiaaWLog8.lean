/-
  Slice: the program's.
-/
import Derived.Test.YtopdgkebbdheiaaWLog7
namespace Go.Proofs.Ytopdgkebbdheiaa
open Go.RowKit

def slE (base : Int) (n : Nat) (fr most : Int) : Int := if fr ≤ base then 11 else if base + n + 1 < fr ∨ most < 0 then 12 else 0
def slL (base : Int) (es : List En) (fr most : Int) : List En := if slE base es.length fr most = 0 then (es.drop (fr - 1 - base).toNat).take most.toNat else []
/-- What Clone makes of a slice's middle. -/
theorem cloneMid {B c : Nat} {ao : Option Addr} {es : List En} (q m : Nat) {w : World} (h : EntRow B w ao es) (hn : ao = none → es = [] ∧ c = 0) (hl : (es.length : Int) ≤ 1099511627776) (hm : m ≤ es.length - q) :
    Calls Try.prog 105 #[.slice (ao.map (fun x => x.add (q * 4))) m (c - q)] w fun e w' => ∃ ao' c', e = .returned (.slice ao' m c') ∧ OwnEs w.heap.size w' ao' c' ((es.drop q).take m) ∧ Kept Nil w w' := by
  have hlen : ((es.drop q).take m).length = m := by rw [List.length_take, List.length_drop]; omega
  have H := cloneE_any B (c - q) (ao.map (fun x => x.add (q * 4))) ((es.drop q).take m) w ((h.sub q).take m) (fun e => by
    cases ao with
    | some a => cases e
    | none => obtain ⟨rfl, rfl⟩ := hn rfl; exact ⟨by simp, Nat.zero_sub _⟩) (by rw [hlen]; omega)
  rw [hlen] at H
  exact H

end Go.Proofs.Ytopdgkebbdheiaa
