/-
  The same result twice is the same to the document's SameResult.
  The same table twice is the same to the document's SameTable.
-/
import Derived.Test.YtfhhockoadeigaaDoorWTab4
import Derived.Test.YtfhhockoadeigaaDoorWTab5
import Derived.Deep.CutRange
import Derived.Deep.LoopGhost
import Derived.Deep.RegionWith
import Derived.BigQuiet
namespace Go.Proofs.YtfhhockoadeigaaDoor
open Go.RowKit

end Go.Proofs.YtfhhockoadeigaaDoor

namespace Go.Proofs.YtfhhockoadeigaaDoor
open Go.RowKit

end Go.Proofs.YtfhhockoadeigaaDoor
