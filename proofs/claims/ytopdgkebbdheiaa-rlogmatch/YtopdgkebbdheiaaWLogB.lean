/-
  The document's Slice and Compact of a log that may be.
-/
import Derived.Test.YtopdgkebbdheiaaWLog8
namespace Go.Proofs.Ytopdgkebbdheiaa
open Go.RowKit

theorem grown_oldB {wa w' : World} {B n s : Nat} {e : TypeId} {v : Value} {xs : List Value} {k : Nat} {o : Obj} (hg : wa.grownBy w' v.ownBlock) (ho : wa.ownsRow B e s v n xs) (hk : k < B) (hb : wa.heap[k]? = some o) : w'.heap[k]? = some o := by
  rw [hg.block k (lt_of_block hb) (fun e => by have := own_row ho k e.symm; omega)]
  exact hb
theorem src_en {w : World} (z : En) : Src Try.prog 4 51 (.slice (some ⟨w.heap.size, 0, none⟩) 1 1) 1 [.int .i64 z.ix, .int .i64 z.tm, .int .i64 z.kd, .string (bs z.dt)] (w.alloc (.cells #[.int .i64 z.ix, .int .i64 z.tm, .int .i64 z.kd, .string (bs z.dt)] 57)) := by
  refine Src.ofSlice _ Try.underlying51 _ 1 1 _ rfl ?_ ?_
  · intro j u hj
    match j, hj with
    | 0, hj | 1, hj | 2, hj | 3, hj =>
      simp at hj
      subst hj
      simp [Addr.add]
  · intro u hu
    simp at hu
    rcases hu with rfl | rfl | rfl | rfl <;> rfl
theorem OwnEs.push {B : Nat} {w' : World} {ao : Option Addr} {c : Nat} {es : List En} {x : En} (h : w'.ownsRow B 57 4 (.slice ao (es.length + 1) c) (es.length + 1) (enCells es ++ [.int .i64 x.ix, .int .i64 x.tm, .int .i64 x.kd, .string (bs x.dt)])) : OwnEs B w' ao c (es ++ [x]) := by
  unfold OwnEs
  rw [enCells_append, List.length_append]
  exact h

theorem takeDrop_more {es : List En} {q k : Nat} (h : k < es.length) (hq : q ≤ k) : (es.take (k + 1)).drop q = (es.take k).drop q ++ [⟨es[k].ix, es[k].tm, es[k].kd, es[k].dt⟩] := by
  rw [List.take_succ_eq_append_getElem h, List.drop_append_of_le_length (by rw [List.length_take]; omega)]
theorem takeDrop_same {es : List En} {q k : Nat} (hq : k < q) : (es.take (k + 1)).drop q = (es.take k).drop q := by
  rw [List.drop_eq_nil_of_le (by rw [List.length_take]; omega), List.drop_eq_nil_of_le (by rw [List.length_take]; omega)]

end Go.Proofs.Ytopdgkebbdheiaa
