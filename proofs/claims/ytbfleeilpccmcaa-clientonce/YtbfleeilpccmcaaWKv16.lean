/-
  kv: the document's Apply: get and swap.
-/
import Derived.Test.YtbfleeilpccmcaaWKv15
namespace Go.Proofs.Ytbfleeilpccmcaa
open Go.RowKit

end Go.Proofs.Ytbfleeilpccmcaa
