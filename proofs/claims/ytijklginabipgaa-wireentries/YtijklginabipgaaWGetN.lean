/-
  The program's read at a row of numbers: caught or not.
-/
import Derived.Test.YtijklginabipgaaWNums
namespace Go.Proofs.Ytijklginabipgaa
open Go.RowKit

theorem blk_drewN {w : World} {b : Nat} {o : Obj} (h : w.heap[b]? = some o) : w.drew.heap[b]? = some o := h
theorem setsN {w : World} {A : Nat} {t : TypeId} {x0 : Value} (hA : w.heap[A]? = some (.cells #[x0] t (0, 0))) (v0 : Value) :
    (w.setCell ⟨A, 0, none⟩ v0).heap[A]? = some (.cells #[v0] t (0, 0)) := by
  have s0 : (w.setCell ⟨A, 0, none⟩ v0).heap[A]? = some (.cells #[v0] t (0, 0)) := blk_set hA 0 v0
  exact s0

end Go.Proofs.Ytijklginabipgaa
