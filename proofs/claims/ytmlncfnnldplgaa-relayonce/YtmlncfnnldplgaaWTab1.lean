/-
  Keys: a row of texts, rising, none too long: by the program (areKeys).
-/
import Derived.Test.YtmlncfnnldplgaaWCfg1
namespace Go.Proofs.Ytmlncfnnldplgaa
open Go.RowKit

/-- A row of texts that lies below block B. -/
def StrRow (B : Nat) (w : World) (ao : Option Addr) (ks : List (List UInt8)) : Prop := ∀ j, (hj : j < ks.length) → ∃ a, ao = some a ∧ a.block < B ∧ w.cell? (a.add j) = some (.string (bs ks[j])) ∧ ks[j].length ≤ maxLen
theorem StrRow.kept {X : Nat → Obj → Prop} {B : Nat} {w w' : World} {ao : Option Addr} {ks : List (List UInt8)} (h : StrRow B w ao ks) (hk : Kept X w w') (hX : ∀ k o, k < B → ¬ X k o) : StrRow B w' ao ks := by
  intro j hj
  obtain ⟨a, ha, hb, hc, hl⟩ := h j hj
  refine ⟨a, ha, hb, ?_, hl⟩
  have e : (a.add j).block = a.block := by unfold Addr.add; split <;> rfl
  have hlt : a.block < w.heap.size := by
    have : (a.add j).block < w.heap.size := World.block_lt_of_cell? w _ hc
    omega
  rw [World.cell?_of_block (w := w) (by rw [e, hk.block a.block _ (Array.getElem?_eq_getElem hlt) (hX _ _ hb), Array.getElem?_eq_getElem hlt])]
  exact hc
theorem StrRow.nil {B : Nat} {w w' : World} {ao : Option Addr} {ks : List (List UInt8)} (h : StrRow B w ao ks) (hk : Kept Nil w w') : StrRow B w' ao ks := h.kept hk (fun _ _ _ x => x)
theorem StrRow.alloc {B : Nat} {w : World} {ao : Option Addr} {ks : List (List UInt8)} (h : StrRow B w ao ks) (o : Obj) : StrRow B (w.alloc o) ao ks := h.nil ((Kept.refl _ _).alloc o)

/-- Is one text ahead of another? -/
def lessB (x y : List UInt8) : Bool := Op.bytesLess x y
/-- Rising, none longer than 16 (the first one may be anything). -/
def kRise : Option (List UInt8) → List (List UInt8) → Bool
  | _, [] => true
  | p, k :: t => decide (k.length ≤ 16) && (match p with | none => true | some q => lessB q k) && kRise (some k) t
def kpv (ks : List (List UInt8)) (k : Nat) : Option (List UInt8) := if k = 0 then none else ks[k - 1]?
theorem kRise_at {ks : List (List UInt8)} {k : Nat} (h : k < ks.length) : kRise (kpv ks k) (ks.drop k) = (decide (ks[k].length ≤ 16) && (match kpv ks k with | none => true | some q => lessB q ks[k]) && kRise (kpv ks (k + 1)) (ks.drop (k + 1))) := by
  have e : kpv ks (k + 1) = some ks[k] := by simp [kpv, h]
  rw [List.drop_eq_getElem_cons h, e]
  rfl
theorem kRise_end {ks : List (List UInt8)} {k : Nat} (h : ¬ k < ks.length) : kRise (kpv ks k) (ks.drop k) = true := by
  rw [List.drop_of_length_le (by omega)]
  unfold kRise
  cases kpv ks k <;> rfl
def keysOk (ks : List (List UInt8)) : Bool := decide (ks.length ≤ 32) && kRise none ks

end Go.Proofs.Ytmlncfnnldplgaa
