/-
  Tables: may a table be: by the document's answer.
-/
import Derived.Test.YtbfleeilpccmcaaWTab3
import Derived.Test.YtbfleeilpccmcaaWOld
namespace Go.Proofs.Ytbfleeilpccmcaa
open Go.RowKit

end Go.Proofs.Ytbfleeilpccmcaa
