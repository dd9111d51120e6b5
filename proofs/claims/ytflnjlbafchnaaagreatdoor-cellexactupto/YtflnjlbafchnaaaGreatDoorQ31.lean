/-
  Joined: WTab4, WTab5.
-/
import Derived.Test.YtflnjlbafchnaaaGreatDoorQ00
import Derived.Test.YtflnjlbafchnaaaGreatDoorQ01
import Derived.Test.YtflnjlbafchnaaaGreatDoorQ08
/-
  Results: may they be: by the program and by the document's answer.
-/
namespace Go.Proofs.YtflnjlbafchnaaaGreatDoor
open Go.RowKit

end Go.Proofs.YtflnjlbafchnaaaGreatDoor

/-
  Tables: rows of sessions (seven cells each); may a table be: by the program.
-/
namespace Go.Proofs.YtflnjlbafchnaaaGreatDoor
open Go.RowKit

structure Ss where
  cl : Int
  ls : Int
  kd : Int
  val : List UInt8
  ver : Int
  ks : List (List UInt8)
  sn : Int
/-- A row of sessions that lies, with its keys, below block B. -/
def SessRow (B : Nat) (w : World) (ao : Option Addr) (ss : List Ss) : Prop := ∀ j, (hj : j < ss.length) → ∃ a ao2 c2, ao = some a ∧ a.block < B ∧ w.cell? (a.add (j * 7)) = some (.int .i64 ss[j].cl) ∧ w.cell? ⟨(a.add (j * 7)).block, (a.add (j * 7)).off + 1, none⟩ = some (.int .i64 ss[j].ls) ∧ w.cell? ⟨(a.add (j * 7)).block, (a.add (j * 7)).off + 2, none⟩ = some (.int .i64 ss[j].kd) ∧ w.cell? ⟨(a.add (j * 7)).block, (a.add (j * 7)).off + 3, none⟩ = some (.string (bs ss[j].val)) ∧ w.cell? ⟨(a.add (j * 7)).block, (a.add (j * 7)).off + 4, none⟩ = some (.int .i64 ss[j].ver) ∧ w.cell? ⟨(a.add (j * 7)).block, (a.add (j * 7)).off + 5, none⟩ = some (.slice ao2 ss[j].ks.length c2) ∧ w.cell? ⟨(a.add (j * 7)).block, (a.add (j * 7)).off + 6, none⟩ = some (.int .i64 ss[j].sn) ∧ StrRow B w ao2 ss[j].ks ∧ (ss[j].ks.length : Int) ≤ 9223372036854775807 ∧ ss[j].val.length ≤ maxLen
theorem SessRow.kept {X : Nat → Obj → Prop} {B : Nat} {w w' : World} {ao : Option Addr} {ss : List Ss} (h : SessRow B w ao ss) (hk : Kept X w w') (hX : ∀ k o, k < B → ¬ X k o) : SessRow B w' ao ss := by
  intro j hj
  obtain ⟨a, ao2, c2, ha, hb, c0, c1, c2', c3, c4, c5, c6, hs, l1, l2⟩ := h j hj
  refine ⟨a, ao2, c2, ha, hb, cell_kept hk (fun o => ?_) c0, cell_kept hk (fun o => ?_) c1, cell_kept hk (fun o => ?_) c2', cell_kept hk (fun o => ?_) c3, cell_kept hk (fun o => ?_) c4, cell_kept hk (fun o => ?_) c5, cell_kept hk (fun o => ?_) c6, hs.kept hk hX, l1, l2⟩ <;> exact hX _ _ (by simpa [add_block] using hb)
theorem SessRow.nil {B : Nat} {w w' : World} {ao : Option Addr} {ss : List Ss} (h : SessRow B w ao ss) (hk : Kept Nil w w') : SessRow B w' ao ss := h.kept hk (fun _ _ _ x => x)
theorem SessRow.alloc {B : Nat} {w : World} {ao : Option Addr} {ss : List Ss} (h : SessRow B w ao ss) (o : Obj) : SessRow B (w.alloc o) ao ss := h.nil ((Kept.refl _ _).alloc o)
end Go.Proofs.YtflnjlbafchnaaaGreatDoor
