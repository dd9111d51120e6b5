/-
  The same result twice is the same to the document's SameResult.
  The same table twice is the same to the document's SameTable.
-/
import Derived.Test.YtgkacepcggjfkaaDoorWTab4
import Derived.Test.YtgkacepcggjfkaaDoorWTab5
import Derived.Deep.CutRange
import Derived.Deep.LoopGhost
import Derived.Deep.RegionWith
import Derived.BigQuiet
namespace Go.Proofs.YtgkacepcggjfkaaDoor
open Go.RowKit

end Go.Proofs.YtgkacepcggjfkaaDoor

namespace Go.Proofs.YtgkacepcggjfkaaDoor
open Go.RowKit

end Go.Proofs.YtgkacepcggjfkaaDoor
