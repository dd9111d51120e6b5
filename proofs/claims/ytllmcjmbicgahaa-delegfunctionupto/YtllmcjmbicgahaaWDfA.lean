/-
  DelegFunction: the pieces of its code.
-/
import Derived.Test.YtllmcjmbicgahaaWDf0
namespace Go.Proofs.Ytllmcjmbicgahaa
open Go.RowKit

def headIsD (n : Nat) : Code → Bool
  | .region k _ _ => k == n
  | .seq a _ => headIsD n a
  | .block _ c => headIsD n c
  | .loop c => headIsD n c
  | _ => false
/-- A function's code from the statement on that begins with a region. -/
def tailFromD (n : Nat) : Code → Option Code
  | .seq a b => if headIsD n a then some (.seq a b) else tailFromD n b
  | _ => none
noncomputable def dT17 : Code := (Try.f4.body.bind (tailFromD 17)).getD .skip
noncomputable def dT28 : Code := (Try.f4.body.bind (tailFromD 28)).getD .skip
noncomputable def dT40 : Code := (Try.f4.body.bind (tailFromD 40)).getD .skip
theorem dTails : (Try.f4.body.bind (tailFromD 17)).isSome = true ∧ (Try.f4.body.bind (tailFromD 28)).isSome = true ∧ (Try.f4.body.bind (tailFromD 40)).isSome = true := ⟨by kernel_rfl, by kernel_rfl, by kernel_rfl⟩

end Go.Proofs.Ytllmcjmbicgahaa
