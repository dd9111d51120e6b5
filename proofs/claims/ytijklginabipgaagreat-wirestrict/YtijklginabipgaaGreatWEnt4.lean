/-
  An entry read by the document's reader.
-/
import Derived.Test.YtijklginabipgaaGreatWEnt3
import Derived.Test.YtijklginabipgaaGreatWStep
namespace Go.Proofs.YtijklginabipgaaGreat
open Go.RowKit

theorem stText_le (most : Nat) (st : Except Int (List UInt8)) : (stRun (rdText most) [] st).1.length ≤ most := by
  cases st with
  | error c => exact Nat.zero_le _
  | ok l =>
    cases hr : rdText most l with
    | error c => rw [stRun_no hr]; exact Nat.zero_le _
    | ok x => obtain ⟨a, t⟩ := x; rw [stRun_ok hr]; exact rdText_le hr
end Go.Proofs.YtijklginabipgaaGreat
