/-
  ClientOnce: the pieces of its code.
-/
import Derived.Test.YtbfleeilpccmcaaWCo1
namespace Go.Proofs.Ytbfleeilpccmcaa
open Go.RowKit

def headIsC (n : Nat) : Code → Bool
  | .region k _ _ => k == n
  | .seq a _ => headIsC n a
  | .block _ c => headIsC n c
  | .loop c => headIsC n c
  | _ => false
/-- From the statement on that begins with a region. -/
def findTailC (n : Nat) : Code → Option Code
  | .seq a b => if headIsC n a then some (.seq a b) else match findTailC n a with
    | some c => some c
    | none => findTailC n b
  | .block _ c => findTailC n c
  | .loop c => findTailC n c
  | .cond _ a b => match findTailC n a with
    | some c => some c
    | none => findTailC n b
  | _ => none
noncomputable def cT27 : Code := (Try.f4.body.bind (findTailC 27)).getD .skip
noncomputable def cT42 : Code := (Try.f4.body.bind (findTailC 42)).getD .skip
noncomputable def cT49 : Code := (Try.f4.body.bind (findTailC 49)).getD .skip
noncomputable def cT51 : Code := (Try.f4.body.bind (findTailC 51)).getD .skip
noncomputable def cT54 : Code := (Try.f4.body.bind (findTailC 54)).getD .skip

end Go.Proofs.Ytbfleeilpccmcaa
