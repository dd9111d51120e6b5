/-
  Which entries may be, by the program and by the document's answer; an entry written by either.
-/
import Derived.Test.YtmlncfnnldplgaaWGen
import Derived.Deep.QuietTactic
import Derived.BigQuiet
import Derived.RegionCalls
import Derived.Deep.RegionWith
namespace Go.Proofs.Ytmlncfnnldplgaa
open Go.RowKit

/-- An entry, plainly. -/
structure En where
  ix : Int
  tm : Int
  kd : Int
  dt : List UInt8
def isCnt (x : Int) : Bool := decide (1 ≤ x) && decide (x ≤ 1099511627775)
def En.ok (x : En) : Bool := isCnt x.ix && isCnt x.tm && (if x.kd = 0 then x.dt.isEmpty else if x.kd = 1 ∨ x.kd = 2 then decide (x.dt.length ≤ 256) else false)

theorem ints2 (w : World) (o : Obj) (x y : Int) : IntsAt ((w.alloc o).alloc (.cells #[.int .i64 x, .int .i64 y] 3)) (w.heap.size + 1) [x, y] := by
  have hb := blk_new (w.alloc o) (.cells #[.int .i64 x, .int .i64 y] 3)
  rw [show (w.alloc o).heap.size = w.heap.size + 1 by simp] at hb
  intro j hj
  simp at hj
  rcases (show j = 0 ∨ j = 1 by omega) with rfl | rfl
  · exact blk_cell hb 0
  · exact blk_cell hb 1

/-! ### the document's -/
end Go.Proofs.Ytmlncfnnldplgaa
