/-
  RlogMatch: the code of one region, by its number.
-/
import Derived.Test.YtopdgkebbdheiaaWLog9
import Derived.Test.YtopdgkebbdheiaaWMatch4
import Derived.Test.YtopdgkebbdheiaaWMatch0
import Derived.Deep.CutBlock
namespace Go.Proofs.Ytopdgkebbdheiaa
open Go.RowKit

def regionOf (n : Nat) : Code → Option Code
  | .region k ops d => if k = n then some (.region k ops d) else none
  | .seq a b => match regionOf n a with
    | some c => some c
    | none => regionOf n b
  | .block _ c => regionOf n c
  | .loop c => regionOf n c
  | .cond _ a b => match regionOf n a with
    | some c => some c
    | none => regionOf n b
  | _ => none
noncomputable def reg19 : Code := (Try.f5.body.bind (regionOf 19)).getD .skip
theorem blk_set3' {w : World} {b g : Nat} {o : Obj} (h : w.heap[g]? = some o) (hne : g ≠ b) (u v z : Value) : (((w.setCell ⟨b, 0, none⟩ u).setCell ⟨b, 1, none⟩ v).setCell ⟨b, 2, none⟩ z).heap[g]? = some o := by
  have k : Kept (One b) w (((w.setCell ⟨b, 0, none⟩ u).setCell ⟨b, 1, none⟩ v).setCell ⟨b, 2, none⟩ z) := (((Kept.refl _ _).setCell (fun _ => rfl) _).setCell (fun _ => rfl) _).setCell (fun _ => rfl) _
  exact k.block _ _ h (fun x => hne x)

end Go.Proofs.Ytopdgkebbdheiaa
