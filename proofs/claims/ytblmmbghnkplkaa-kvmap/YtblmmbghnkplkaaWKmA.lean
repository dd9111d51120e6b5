/-
  KvMap: the pieces of its code.
-/
import Derived.Test.YtblmmbghnkplkaaWKmD
namespace Go.Proofs.Ytblmmbghnkplkaa
open Go.RowKit

def headIs (n : Nat) : Code → Bool
  | .region k _ _ => k == n
  | .seq a _ => headIs n a
  | .block _ c => headIs n c
  | .loop c => headIs n c
  | _ => false
/-- From the statement on that begins with a region. -/
def findTail (n : Nat) : Code → Option Code
  | .seq a b => if headIs n a then some (.seq a b) else match findTail n a with
    | some c => some c
    | none => findTail n b
  | .block _ c => findTail n c
  | .loop c => findTail n c
  | .cond _ a b => match findTail n a with
    | some c => some c
    | none => findTail n b
  | _ => none
def condOf (n : Nat) : Code → Option Code
  | .cond (.tmp k) a b => if k = n then some (.cond (.tmp k) a b) else match condOf n a with
    | some c => some c
    | none => condOf n b
  | .cond _ a b => match condOf n a with
    | some c => some c
    | none => condOf n b
  | .seq a b => match condOf n a with
    | some c => some c
    | none => condOf n b
  | .block _ c => condOf n c
  | .loop c => condOf n c
  | _ => none
def regionOf (n : Nat) : Code → Option Code
  | .region k ops d => if k = n then some (.region k ops d) else none
  | .seq a b => match regionOf n a with
    | some c => some c
    | none => regionOf n b
  | .block _ c => regionOf n c
  | .loop c => regionOf n c
  | .cond _ a b => match regionOf n a with
    | some c => some c
    | none => regionOf n b
  | _ => none
noncomputable def cPut : Code := (Try.f6.body.bind (condOf 161)).getD .skip
noncomputable def cDel : Code := (Try.f6.body.bind (condOf 188)).getD .skip
noncomputable def cKeys : Code := (Try.f6.body.bind (regionOf 46)).getD .skip
noncomputable def cVals : Code := (Try.f6.body.bind (regionOf 47)).getD .skip
noncomputable def cEnd : Code := (Try.f6.body.bind (findTail 48)).getD .skip

end Go.Proofs.Ytblmmbghnkplkaa
