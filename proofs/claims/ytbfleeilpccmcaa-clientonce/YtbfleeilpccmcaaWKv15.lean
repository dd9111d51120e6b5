/-
  kv: the document's Apply: no command, put, get, swap, append.
-/
import Derived.Test.YtbfleeilpccmcaaWKv14
import Derived.Test.YtbfleeilpccmcaaWTab3
import Derived.Test.YtbfleeilpccmcaaWCmdR
namespace Go.Proofs.Ytbfleeilpccmcaa
open Go.RowKit

end Go.Proofs.Ytbfleeilpccmcaa
