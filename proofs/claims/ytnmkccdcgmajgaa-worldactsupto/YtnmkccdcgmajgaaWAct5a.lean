/-
  world.Act: write.
-/
import Derived.Test.YtnmkccdcgmajgaaWAct5
import Derived.Deep.DeepCutAuto
import Derived.Deep.RegionHeld3
import Derived.Deep.DeepFit
namespace Go.Proofs.Ytnmkccdcgmajgaa
open Go.RowKit

set_option maxRecDepth 100000 in
set_option maxHeartbeats 4000000 in
theorem act_write (B c : Nat) (ao : Option Addr) (fs : List Fi) (nm tn dt : List UInt8) (sz : Int) (w : World) (h : OwnFs B w ao c fs) (hl : (fs.length : Int) ≤ 1099511627775) :
    Calls Try.prog 51 #[.slice ao fs.length c, .agg #[.int .i64 1, .string (bs nm), .string (bs tn), .string (bs dt), .int .i64 sz]] w fun e w' => ∃ ao' c', e = .returned (.slice ao' (actZ fs 1 nm tn dt sz).length c') ∧ OwnFs w.heap.size w' ao' c' (actZ fs 1 nm tn dt sz) ∧ Kept Nil w w' := by
  obtain ⟨W, hW⟩ : ∃ W, W = w.alloc (.cells #[.int .i64 1, .string (bs nm), .string (bs tn), .string (bs dt), .int .i64 sz] 86) := ⟨_, rfl⟩
  have KW : Hid (Kept Nil w W) := by rw [hW]; exact (Kept.refl _ _).alloc _
  have HB : Hid (W.heap[w.heap.size]? = some (.cells #[.int .i64 1, .string (bs nm), .string (bs tn), .string (bs dt), .int .i64 sz] 86 (0, 0))) := by rw [hW]; exact blk_new _ _
  have CL := cloneF_any B c ao fs W (h.kept KW.out) (by omega)
  obtain ⟨gs, HGS⟩ : ∃ x : List Fi, Hid (x = actZ fs 1 nm tn dt sz) := ⟨_, rfl⟩
  rw [← HGS.out]
  clear h
  go_enter Try.func51, Try.ntmps51
  go_wp2_with fail
  rw [← hW]
  clear hW
  go_fit CL
  rintro e w1 ⟨a1, c1, rfl, o1, k1⟩
  have HO1 : Hid (OwnFs W.heap.size w1 a1 c1 fs) := o1
  have K1 : Hid (Kept Nil W w1) := k1
  have HB1 : Hid (w1.heap[w.heap.size]? = some (.cells #[.int .i64 1, .string (bs nm), .string (bs tn), .string (bs dt), .int .i64 sz] 86 (0, 0))) := k1.block _ _ HB.out (fun x => x.elim)
  have q1 : w1.cell? ⟨w.heap.size, 1, none⟩ = some (.string (bs nm)) := blk_at HB1.out 1 rfl
  have PL := place_any w1.heap.size c1 a1 fs nm w1 o1.row (by omega)
  clear o1 k1 CL
  go_wp2_with fail
  go_fit PL
  rintro e w2 ⟨rfl, k2⟩
  have HO2 : Hid (OwnFs W.heap.size w2 a1 c1 fs) := HO1.out.kept k2
  have K2 : Hid (Kept Nil W w2) := K1.out.trans k2
  have HB2 : Hid (w2.heap[w.heap.size]? = some (.cells #[.int .i64 1, .string (bs nm), .string (bs tn), .string (bs dt), .int .i64 sz] 86 (0, 0))) := k2.block _ _ HB1.out (fun x => x.elim)
  have HWW : Hid (w.heap.size ≤ W.heap.size) := KW.out.size
  clear k2 PL q1 HO1 K1 HB1
  have q0 : w2.cell? ⟨w.heap.size, 0, none⟩ = some (.int .i64 1) := blk_at HB2.out 0 rfl
  have q1 : w2.cell? ⟨w.heap.size, 1, none⟩ = some (.string (bs nm)) := blk_at HB2.out 1 rfl
  have q2 : w2.cell? ⟨w.heap.size, 2, none⟩ = some (.string (bs tn)) := blk_at HB2.out 2 rfl
  have q3 : w2.cell? ⟨w.heap.size, 3, none⟩ = some (.string (bs dt)) := blk_at HB2.out 3 rfl
  have q4 : w2.cell? ⟨w.heap.size, 4, none⟩ = some (.int .i64 sz) := blk_at HB2.out 4 rfl
  have PU := put_any c1 a1 fs nm dt W w2 HO2.out K2.out (by omega)
  rw [show putZ fs nm dt = gs from HGS.out.symm] at PU
  go_wp2_with fail
  go_fit PU
  rintro e w3 ⟨a3, c3, rfl, o3, k3⟩
  have HO3 : Hid (OwnFs w.heap.size w3 a3 c3 gs) := o3.mono HWW.out
  have K3 : Hid (Kept Nil w w3) := KW.out.trans k3
  clear o3 k3
  go_wp2
  go_ret
  exact ⟨a3, c3, rfl, HO3.out, K3.out⟩

end Go.Proofs.Ytnmkccdcgmajgaa
