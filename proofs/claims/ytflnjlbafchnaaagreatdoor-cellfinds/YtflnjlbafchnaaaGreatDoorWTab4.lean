/-
  Results: may they be: by the program and by the document's answer.
-/
import Derived.Test.YtflnjlbafchnaaaGreatDoorWOld
import Derived.Test.YtflnjlbafchnaaaGreatDoorWCmd
namespace Go.Proofs.YtflnjlbafchnaaaGreatDoor
open Go.RowKit

def rsOk (kd : Int) (val : List UInt8) (ver : Int) (ks : List (List UInt8)) : Bool := (decide (0 ≤ kd) && decide (kd ≤ 8)) && decide (val.length ≤ 64) && isNum ver && keysOk ks

end Go.Proofs.YtflnjlbafchnaaaGreatDoor
