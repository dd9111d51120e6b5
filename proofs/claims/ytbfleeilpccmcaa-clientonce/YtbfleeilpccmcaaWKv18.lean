/-
  kv: the document's Apply: list.
-/
import Derived.Test.YtbfleeilpccmcaaWKv15
import Derived.Deep.RegionLaw
namespace Go.Proofs.Ytbfleeilpccmcaa
open Go.RowKit

end Go.Proofs.Ytbfleeilpccmcaa
