/-
  What an act makes of files, plainly.
-/
import Derived.Test.YtnmkccdcgmajgaaWAct4
namespace Go.Proofs.Ytnmkccdcgmajgaa
open Go.RowKit

def actZ (fs : List Fi) (what : Int) (nm tn dt : List UInt8) (sz : Int) : List Fi :=
  if what = 1 then putZ fs nm dt
  else if what = 2 then putZ fs nm (datAt fs (plc (isF nm) fs) ++ dt)
  else if what = 6 then (if plc (isF nm) fs < 0 then fs else fs.set (plc (isF nm) fs).toNat (((fs[(plc (isF nm) fs).toNat]?).map (·.1)).getD [], (datAt fs (plc (isF nm) fs)).take sz.toNat))
  else if what = 4 then (if plc (isF nm) fs < 0 then fs else (fs.filter fun f => !inF [nm, tn] f) ++ [(tn, datAt fs (plc (isF nm) fs))])
  else if what = 7 then fs.filter fun f => !inF [nm] f
  else fs
theorem plc_range (p : Fi → Bool) (fs : List Fi) : plc p fs = -1 ∨ ∃ k : Nat, plc p fs = k ∧ k < fs.length := by
  rcases plc_cases p fs with ⟨h, _⟩ | ⟨k, hk, h, _⟩
  · exact .inl h
  · exact .inr ⟨k, h, hk⟩

end Go.Proofs.Ytnmkccdcgmajgaa
