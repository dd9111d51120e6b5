/-
  Sessions: one session of a ledger put.
-/
import Derived.Test.YtilolhjlokfkeaaWSe7
import Derived.Test.YtilolhjlokfkeaaWKv12
namespace Go.Proofs.Ytilolhjlokfkeaa
open Go.RowKit

theorem seCells_put (es : List Se) (k r : Nat) (hk : k < es.length) (hr : r < 7) (x : Se) (u : Value) (hu : (seCell x)[r]? = some u) (hs : ∀ r', r' ≠ r → (seCell x)[r']? = (seCell es[k])[r']?) : (seCells es).set (k * 7 + r) u = seCells (es.set k x) := by
  apply List.ext_getElem?
  intro j
  have hkx : k < (es.set k x).length := by rw [List.length_set]; exact hk
  by_cases hj : j < es.length * 7
  · have hd : j = j / 7 * 7 + j % 7 := by omega
    have hq : j / 7 < es.length := by omega
    have hq2 : j / 7 < (es.set k x).length := by rw [List.length_set]; exact hq
    rw [List.getElem?_set, hd, seCells_at (es.set k x) (j / 7) (j % 7) hq2 (by omega)]
    by_cases hqk : k = j / 7
    · have e1 : (es.set k x)[j / 7] = x := by
        rw [List.getElem_set, if_pos hqk]
      rw [e1]
      by_cases hrr : r = j % 7
      · rw [if_pos (by omega), if_pos (by rw [seCells_len]; omega), ← hrr, hu]
      · rw [if_neg (by omega), seCells_at es (j / 7) (j % 7) hq (by omega), hs (j % 7) (fun e => hrr e.symm)]
        subst hqk
        rfl
    · have e1 : (es.set k x)[j / 7] = es[j / 7] := by rw [List.getElem_set, if_neg hqk]
      rw [e1, if_neg (by omega), seCells_at es (j / 7) (j % 7) hq (by omega)]
  · rw [List.getElem?_eq_none (by rw [List.length_set, seCells_len]; omega), List.getElem?_eq_none (by rw [seCells_len, List.length_set]; omega)]
theorem OwnE.put1 {B g c k r : Nat} {w : World} {es : List Se} (h : OwnE B w (some ⟨g, 0, none⟩) c es) (hk : k < es.length) (hr : r < 7) (x : Se) (u : Value) (hu : (seCell x)[r]? = some u) (hs : ∀ r', r' ≠ r → (seCell x)[r']? = (seCell es[k])[r']?) : OwnE B (w.setCell ⟨g, k * 7 + r, none⟩ u) (some ⟨g, 0, none⟩) c (es.set k x) := by
  have := own_setAtK h (k * 7 + r) u
  rw [seCells_put es k r hk hr x u hu hs] at this
  unfold OwnE
  rw [List.length_set]
  exact this
/-- Cells of a session put: rows of another kind are as they were. -/
theorem own_ses {B size n g o : Nat} {e : TypeId} {w : World} {v x : Value} {xs : List Value} {cs : Array Value} (h : w.ownsRow B e size v n xs) (hb : w.heap[g]? = some (.cells cs 121 (0, 0))) (hne : e ≠ 121) : (w.setCell ⟨g, o, none⟩ x).ownsRow B e size v n xs :=
  ownsRow_setCell_other h (a := ⟨g, o, none⟩) (own_neTyS h hb hne) x
theorem kept_ses {b g i : Nat} {w X : World} {cs : Array Value} (h : Kept (TX b) w X) (hb : X.heap[g]? = some (.cells cs 121 (0, 0))) (hw : w.heap.size ≤ g ∨ ∃ cs', w.heap[g]? = some (.cells cs' 121 (0, 0))) (u : Value) : Kept (TX b) w (X.setCell ⟨g, i, none⟩ u) := by
  have k2 : Kept (One g) X (X.setCell ⟨g, i, none⟩ u) := (Kept.refl (One g) X).setCell (p := ⟨g, i, none⟩) (fun _ => rfl) u
  refine ⟨k2.os.trans h.os, k2.tape.trans h.tape, k2.output.trans h.output, Nat.le_trans h.size k2.size, fun k o ho hx => ?_⟩
  have h1 := h.block k o ho hx
  refine k2.block k o h1 (fun e => hx ?_)
  have e' : k = g := e
  subst e'
  rcases hw with hw | ⟨cs', hw⟩
  · have := lt_of_block ho
    omega
  · rw [hw] at ho
    cases ho
    exact .inr (.inl ⟨_, _, rfl⟩)
/-- Where the sessions of a ledger lie. -/
theorem Led.row {w0 w : World} {b : Nat} {ps : List Pr} {es : List Se} {tm : Int} {ap sa : Option Addr} {cp cs : Nat} (h : Led w0 w b ps es tm ap sa cp cs) (h0 : 0 < es.length) : ∃ g cl, sa = some ⟨g, 0, none⟩ ∧ w.heap[g]? = some (.cells cl 121 (0, 0)) ∧ w0.heap.size ≤ g ∧ es.length * 7 ≤ cl.size := by
  obtain ⟨g, cl, e, hg, hb, hl, _, hs, _⟩ := h.oe.block (fun e => by
    have h9 := h.oe
    rw [e] at h9
    have := h9.noneE.1
    rw [this] at h0
    simp at h0)
  exact ⟨g, cl, e, hb, hg, by rw [hs]; exact Nat.mul_le_mul_right _ hl⟩
/-- One cell of one session of a ledger put. -/
theorem Led.put1 {w0 w : World} {b g k r : Nat} {ps : List Pr} {es : List Se} {tm : Int} {ap : Option Addr} {cp cs : Nat} (h : Led w0 w b ps es tm ap (some ⟨g, 0, none⟩) cp cs) (hk : k < es.length) (hr : r < 7) (x : Se) (u : Value) (hu : (seCell x)[r]? = some u) (hs : ∀ r', r' ≠ r → (seCell x)[r']? = (seCell es[k])[r']?) (ho : OwnK w0.heap.size w x.ao x.c x.s.ks) : Led w0 (w.setCell ⟨g, k * 7 + r, none⟩ u) b ps (es.set k x) tm ap (some ⟨g, 0, none⟩) cp cs := by
  obtain ⟨g', cl, e, hb, hg, _⟩ := h.row (by omega)
  cases e
  have hbg : b ≠ g := fun e => by
    have h1 := h.blk
    unfold LedAt at h1
    rw [e, hb] at h1
    simp at h1
  refine ⟨?_, own_ses h.op hb (by decide), h.oe.put1 hk hr x u hu hs, fun e he => ?_, h.kept.setNew (p := ⟨g, k * 7 + r, none⟩) hg _, h.new⟩
  · unfold LedAt
    rw [List.length_set]
    exact blk_other h.blk (a := ⟨g, k * 7 + r, none⟩) hbg _
  · rcases List.mem_or_eq_of_mem_set he with he | rfl
    · exact own_ses (h.ok e he) hb (by decide)
    · exact own_ses ho hb (by decide)

end Go.Proofs.Ytilolhjlokfkeaa
