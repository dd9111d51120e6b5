/-
  TermAt and Fresh, and slices.Clone at entries: the program's.
-/
import Derived.Test.YtmlncfnnldplgaaWLog1
import Derived.Test.YtmlncfnnldplgaaWStepA
import Derived.Lib.SliceRun
namespace Go.Proofs.Ytmlncfnnldplgaa
open Go.RowKit

/-- Fresh: is a log that ends so as far? -/
def freshB (base bt : Int) (es : List En) (index term : Int) : Bool := decide (tmAt bt es es.length < term) || (decide (term = tmAt bt es es.length) && decide (base + es.length ≤ index))

/-! ### the library's Clone at entries -/
theorem add_posE (a : Addr) {i : Nat} (h : 0 < i) : a.add i = ⟨a.block, a.off + i, none⟩ := by unfold Addr.add; rw [if_neg (by omega)]
end Go.Proofs.Ytmlncfnnldplgaa
