/-
  world.Act: rename.
-/
import Derived.Test.YtnmkccdcgmajgaaWAct5
import Derived.Deep.DeepCutAuto
import Derived.Deep.RegionHeld3
import Derived.Deep.DeepFit
import Derived.Test.YtnmkccdcgmajgaaWOld
namespace Go.Proofs.Ytnmkccdcgmajgaa
open Go.RowKit

set_option maxRecDepth 100000 in
set_option maxHeartbeats 4000000 in
theorem act_rename (B c : Nat) (ao : Option Addr) (fs : List Fi) (nm tn dt : List UInt8) (sz : Int) (w : World) (h : OwnFs B w ao c fs) (hl : (fs.length : Int) ≤ 1099511627775) (hnm : nm.length ≤ maxLen) (htn : tn.length ≤ maxLen) :
    Calls Try.prog 51 #[.slice ao fs.length c, .agg #[.int .i64 4, .string (bs nm), .string (bs tn), .string (bs dt), .int .i64 sz]] w fun e w' => ∃ ao' c', e = .returned (.slice ao' (actZ fs 4 nm tn dt sz).length c') ∧ OwnFs w.heap.size w' ao' c' (actZ fs 4 nm tn dt sz) ∧ Kept Nil w w' := by
  obtain ⟨W, hW⟩ : ∃ W, W = w.alloc (.cells #[.int .i64 4, .string (bs nm), .string (bs tn), .string (bs dt), .int .i64 sz] 86) := ⟨_, rfl⟩
  have KW : Hid (Kept Nil w W) := by rw [hW]; exact (Kept.refl _ _).alloc _
  have HB : Hid (W.heap[w.heap.size]? = some (.cells #[.int .i64 4, .string (bs nm), .string (bs tn), .string (bs dt), .int .i64 sz] 86 (0, 0))) := by rw [hW]; exact blk_new _ _
  have CL := cloneF_any B c ao fs W (h.kept KW.out) (by omega)
  obtain ⟨gs, HGS⟩ : ∃ x : List Fi, Hid (x = actZ fs 4 nm tn dt sz) := ⟨_, rfl⟩
  rw [← HGS.out]
  clear h
  go_enter Try.func51, Try.ntmps51
  go_wp2_with fail
  rw [← hW]
  clear hW
  go_fit CL
  rintro e w1 ⟨a1, c1, rfl, o1, k1⟩
  have HO1 : Hid (OwnFs W.heap.size w1 a1 c1 fs) := o1
  have K1 : Hid (Kept Nil W w1) := k1
  have HB1 : Hid (w1.heap[w.heap.size]? = some (.cells #[.int .i64 4, .string (bs nm), .string (bs tn), .string (bs dt), .int .i64 sz] 86 (0, 0))) := k1.block _ _ HB.out (fun x => x.elim)
  have q1 : w1.cell? ⟨w.heap.size, 1, none⟩ = some (.string (bs nm)) := blk_at HB1.out 1 rfl
  have PL := place_any w1.heap.size c1 a1 fs nm w1 o1.row (by omega)
  clear o1 k1 CL
  go_wp2_with fail
  go_fit PL
  rintro e w2 ⟨rfl, k2⟩
  have HO2 : Hid (OwnFs W.heap.size w2 a1 c1 fs) := HO1.out.kept k2
  have K2 : Hid (Kept Nil W w2) := K1.out.trans k2
  have HB2 : Hid (w2.heap[w.heap.size]? = some (.cells #[.int .i64 4, .string (bs nm), .string (bs tn), .string (bs dt), .int .i64 sz] 86 (0, 0))) := k2.block _ _ HB1.out (fun x => x.elim)
  have HWW : Hid (w.heap.size ≤ W.heap.size) := KW.out.size
  clear k2 PL q1 HO1 K1 HB1
  have q0 : w2.cell? ⟨w.heap.size, 0, none⟩ = some (.int .i64 4) := blk_at HB2.out 0 rfl
  have q1 : w2.cell? ⟨w.heap.size, 1, none⟩ = some (.string (bs nm)) := blk_at HB2.out 1 rfl
  have q2 : w2.cell? ⟨w.heap.size, 2, none⟩ = some (.string (bs tn)) := blk_at HB2.out 2 rfl
  have q3 : w2.cell? ⟨w.heap.size, 3, none⟩ = some (.string (bs dt)) := blk_at HB2.out 3 rfl
  have q4 : w2.cell? ⟨w.heap.size, 4, none⟩ = some (.int .i64 sz) := blk_at HB2.out 4 rfl
  rcases plc_cases (isF nm) fs with ⟨ep, _⟩ | ⟨k, hk, ep, _, _⟩
  · have HGE : Hid (gs = fs) := by
      show gs = fs
      rw [HGS.out]
      unfold actZ
      simp [ep]
    have HO3 : Hid (OwnFs w.heap.size w2 a1 c1 fs) := HO2.out.mono HWW.out
    have K3 : Hid (Kept Nil w w2) := KW.out.trans K2.out
    rw [ep]
    go_wp2
    go_ret
    rw [HGE.out]
    exact ⟨a1, c1, rfl, HO3.out, K3.out⟩
  · obtain ⟨ls, HFS⟩ : ∃ x : List Fi, Hid (x = fs.filter fun f => !inF [nm, tn] f) := ⟨_, rfl⟩
    have HGE : Hid (gs = ls ++ [(tn, fs[k].2)]) := by
      show gs = _
      rw [HGS.out, HFS.out]
      unfold actZ datAt
      have hk0 : ¬ ((k : Int) < 0) := by omega
      simp [ep, hk0, hk]
    have hls : ls.length ≤ fs.length := by rw [HFS.out]; exact List.length_filter_le _ _
    rw [ep]
    obtain ⟨g, rfl, hBg, hgw, hcs⟩ := HO2.out.cells (by omega)
    obtain ⟨d0, d1, z0, z1⟩ := hcs k hk
    have hki : (k : Int) < fs.length := by omega
    clear hcs
    obtain ⟨i0, hi, hz0, hz1, hz2⟩ := info_parts Try.infoFi
    have HLL : Hid (ls.length + 1 ≤ maxLen ∧ (ls.length + 1) * 32 ≤ 140737488355328) := by constructor <;> (try unfold maxLen) <;> omega
    have hsA : (w2.drew.alloc (.cells #[.string (bs nm), .string (bs tn)] 9)).heap.size = w2.heap.size + 1 := by simp
    have hsB : (w2.drew.alloc (.cells #[.string (bs tn), .string (bs fs[k].2)] 88)).heap.size = w2.heap.size + 1 := by simp
    have FA2 : Hid (((w2.drew.alloc (.cells #[.string (bs nm), .string (bs tn)] 9)).alloc (.cells #[.string (bs tn), .string (bs fs[k].2)] 88)).heap[w2.heap.size + 1]? = some (.cells #[.string (bs tn), .string (bs fs[k].2)] 88 (0, 0))) := by
      have := blk_new (w2.drew.alloc (.cells #[.string (bs nm), .string (bs tn)] 9)) (.cells #[.string (bs tn), .string (bs fs[k].2)] 88)
      rw [hsA] at this
      exact this
    have FA3 : Hid (((w2.drew.alloc (.cells #[.string (bs tn), .string (bs fs[k].2)] 88)).alloc (.cells #[.string (bs nm), .string (bs tn)] 9)).heap[w2.heap.size]? = some (.cells #[.string (bs tn), .string (bs fs[k].2)] 88 (0, 0))) := blk_past (blk_new w2.drew _) _
    have NB1 : Hid ((w2.drew.alloc (.cells #[.string (bs nm), .string (bs tn)] 9)).heap[w2.heap.size]? = some (.cells #[.string (bs nm), .string (bs tn)] 9 (0, 0))) := blk_new w2.drew _
    have SR1 : Hid (StrRow (w2.heap.size + 1) (w2.drew.alloc (.cells #[.string (bs nm), .string (bs tn)] 9)) (some ⟨w2.heap.size, 0, none⟩) [nm, tn]) := fun j hj => by
      have hj' : j = 0 ∨ j = 1 := by simp at hj; omega
      rcases hj' with rfl | rfl
      · exact ⟨_, rfl, Nat.lt_succ_self _, blk_at NB1.out 0 rfl, hnm⟩
      · exact ⟨_, rfl, Nat.lt_succ_self _, blk_at NB1.out 1 rfl, htn⟩
    have WO1 := wo_any (w2.heap.size + 1) c1 2 (some ⟨g, 0, none⟩) (some ⟨w2.heap.size, 0, none⟩) fs [nm, tn] W (w2.drew.alloc (.cells #[.string (bs nm), .string (bs tn)] 9)) (HO2.out.kept (((Kept.refl Nil _).drew.alloc _))) (K2.out.trans (((Kept.refl Nil _).drew.alloc _))) (by omega) SR1.out (by simp) (fun a o ha hb => by
      cases ha
      obtain ⟨x, hx, e⟩ := hb
      cases hx
      simp at e
      omega)
    rw [← HFS.out] at WO1
    have NB2 : Hid (((w2.drew.alloc (.cells #[.string (bs nm), .string (bs tn)] 9)).alloc (.cells #[.string (bs tn), .string (bs fs[k].2)] 88)).heap[w2.heap.size]? = some (.cells #[.string (bs nm), .string (bs tn)] 9 (0, 0))) := blk_past (blk_new w2.drew _) _
    have SR2 : Hid (StrRow (w2.heap.size + 1) ((w2.drew.alloc (.cells #[.string (bs nm), .string (bs tn)] 9)).alloc (.cells #[.string (bs tn), .string (bs fs[k].2)] 88)) (some ⟨w2.heap.size, 0, none⟩) [nm, tn]) := fun j hj => by
      have hj' : j = 0 ∨ j = 1 := by simp at hj; omega
      rcases hj' with rfl | rfl
      · exact ⟨_, rfl, Nat.lt_succ_self _, blk_at NB2.out 0 rfl, hnm⟩
      · exact ⟨_, rfl, Nat.lt_succ_self _, blk_at NB2.out 1 rfl, htn⟩
    have WO2 := wo_any (w2.heap.size + 1) c1 2 (some ⟨g, 0, none⟩) (some ⟨w2.heap.size, 0, none⟩) fs [nm, tn] W ((w2.drew.alloc (.cells #[.string (bs nm), .string (bs tn)] 9)).alloc (.cells #[.string (bs tn), .string (bs fs[k].2)] 88)) (HO2.out.kept ((((Kept.refl Nil _).drew.alloc _).alloc _))) (K2.out.trans ((((Kept.refl Nil _).drew.alloc _).alloc _))) (by omega) SR2.out (by simp) (fun a o ha hb => by
      cases ha
      obtain ⟨x, hx, e⟩ := hb
      cases hx
      simp at e
      omega)
    rw [← HFS.out] at WO2
    have NB3 : Hid (((w2.drew.alloc (.cells #[.string (bs tn), .string (bs fs[k].2)] 88)).alloc (.cells #[.string (bs nm), .string (bs tn)] 9)).heap[(w2.heap.size + 1)]? = some (.cells #[.string (bs nm), .string (bs tn)] 9 (0, 0))) := by have := blk_new (w2.drew.alloc (.cells #[.string (bs tn), .string (bs fs[k].2)] 88)) (.cells #[.string (bs nm), .string (bs tn)] 9); rw [hsB] at this; exact this
    have SR3 : Hid (StrRow ((w2.heap.size + 1) + 1) ((w2.drew.alloc (.cells #[.string (bs tn), .string (bs fs[k].2)] 88)).alloc (.cells #[.string (bs nm), .string (bs tn)] 9)) (some ⟨(w2.heap.size + 1), 0, none⟩) [nm, tn]) := fun j hj => by
      have hj' : j = 0 ∨ j = 1 := by simp at hj; omega
      rcases hj' with rfl | rfl
      · exact ⟨_, rfl, Nat.lt_succ_self _, blk_at NB3.out 0 rfl, hnm⟩
      · exact ⟨_, rfl, Nat.lt_succ_self _, blk_at NB3.out 1 rfl, htn⟩
    have WO3 := wo_any ((w2.heap.size + 1) + 1) c1 2 (some ⟨g, 0, none⟩) (some ⟨(w2.heap.size + 1), 0, none⟩) fs [nm, tn] W ((w2.drew.alloc (.cells #[.string (bs tn), .string (bs fs[k].2)] 88)).alloc (.cells #[.string (bs nm), .string (bs tn)] 9)) (HO2.out.kept ((((Kept.refl Nil _).drew.alloc _).alloc _))) (K2.out.trans ((((Kept.refl Nil _).drew.alloc _).alloc _))) (by omega) SR3.out (by simp) (fun a o ha hb => by
      cases ha
      obtain ⟨x, hx, e⟩ := hb
      cases hx
      simp at e
      omega)
    rw [← HFS.out] at WO3
    clear hsA hsB
    have sD : w2.drew.cell? ⟨w.heap.size, 1, none⟩ = some (.string (bs nm)) ∧ w2.drew.cell? ⟨w.heap.size, 2, none⟩ = some (.string (bs tn)) := ⟨q1, q2⟩
    have hn1 := lt_of_block HB2.out
    go_wp2
    go_region_held3 (fun w' => w'.cell? ⟨w.heap.size, 1, none⟩ = some (.string (bs nm)) ∧ w'.cell? ⟨w.heap.size, 2, none⟩ = some (.string (bs tn))) (first | assumption | go_keep) (first | (go_at_call 97; first | (go_fit WO1; rintro e w3 ⟨rfl, o3, k3, kb3⟩; have HO3 : Hid (OwnFs W.heap.size w3 (some ⟨g, 0, none⟩) c1 ls) := o3; have K3 : Hid (Kept Nil W w3) := k3; have HB3 : Hid (w3.heap[w.heap.size]? = some (.cells #[.int .i64 4, .string (bs nm), .string (bs tn), .string (bs dt), .int .i64 sz] 86 (0, 0))) := k3.block _ _ HB.out (fun x => x.elim); have s3 : w3.cell? ⟨w.heap.size, 1, none⟩ = some (.string (bs nm)) ∧ w3.cell? ⟨w.heap.size, 2, none⟩ = some (.string (bs tn)) := ⟨blk_at HB3.out 1 rfl, blk_at HB3.out 2 rfl⟩; clear o3 k3 kb3) | (go_fit WO2; rintro e w3 ⟨rfl, o3, k3, kb3⟩; have HO3 : Hid (OwnFs W.heap.size w3 (some ⟨g, 0, none⟩) c1 ls) := o3; have K3 : Hid (Kept Nil W w3) := k3; have HB3 : Hid (w3.heap[w.heap.size]? = some (.cells #[.int .i64 4, .string (bs nm), .string (bs tn), .string (bs dt), .int .i64 sz] 86 (0, 0))) := k3.block _ _ HB.out (fun x => x.elim); have s3 : w3.cell? ⟨w.heap.size, 1, none⟩ = some (.string (bs nm)) ∧ w3.cell? ⟨w.heap.size, 2, none⟩ = some (.string (bs tn)) := ⟨blk_at HB3.out 1 rfl, blk_at HB3.out 2 rfl⟩; have FB3 : Hid (w3.heap[w2.heap.size + 1]? = some (.cells #[.string (bs tn), .string (bs fs[k].2)] 88 (0, 0))) := kb3.block _ _ (FA2.out) (fun hb => by obtain ⟨x, hx, e⟩ := hb; cases hx; simp at e; omega); clear o3 k3 kb3) | (go_fit WO3; rintro e w3 ⟨rfl, o3, k3, kb3⟩; have HO3 : Hid (OwnFs W.heap.size w3 (some ⟨g, 0, none⟩) c1 ls) := o3; have K3 : Hid (Kept Nil W w3) := k3; have HB3 : Hid (w3.heap[w.heap.size]? = some (.cells #[.int .i64 4, .string (bs nm), .string (bs tn), .string (bs dt), .int .i64 sz] 86 (0, 0))) := k3.block _ _ HB.out (fun x => x.elim); have s3 : w3.cell? ⟨w.heap.size, 1, none⟩ = some (.string (bs nm)) ∧ w3.cell? ⟨w.heap.size, 2, none⟩ = some (.string (bs tn)) := ⟨blk_at HB3.out 1 rfl, blk_at HB3.out 2 rfl⟩; have FB3 : Hid (w3.heap[w2.heap.size]? = some (.cells #[.string (bs tn), .string (bs fs[k].2)] 88 (0, 0))) := kb3.block _ _ (FA3.out) (fun hb => by obtain ⟨x, hx, e⟩ := hb; cases hx; simp at e; omega); clear o3 k3 kb3)) | (refine step_append_src w3 (by rfl) (.tmp 75) (.tmp 80) 83 83 (by rfl) W.heap.size 88 i0 (.agg #[.string ⟨#[]⟩, .string ⟨#[]⟩]) 2 32 Try.underlying83 hi hz0 hz1 hz2 rfl (.slice (some ⟨g, 0, none⟩) ls.length c1) ls.length (fiCells ls) (by simp [Act.eval]) (HO3.out) (.slice (some ⟨_, 0, none⟩) 1 1) 1 [.string (bs tn), .string (bs fs[k].2)] (by simp [Act.eval]) (src_fi_blk FB3.out) HLL.out.1 HLL.out.2 (K3.out.size) ?_; intro a4 c4 w4 ho4 hg4; have HO4 : Hid (OwnFs W.heap.size w4 a4 c4 (ls ++ [(tn, fs[k].2)])) := OwnFs.push ho4; have K4 : Hid (Kept Nil W w4) := (K3.out).grown hg4 (own_row HO3.out); have HB4 : Hid (w4.heap[w.heap.size]? = some (.cells #[.int .i64 4, .string (bs nm), .string (bs tn), .string (bs dt), .int .i64 sz] 86 (0, 0))) := K4.out.block _ _ HB.out (fun x => x.elim); have s4 : w4.cell? ⟨w.heap.size, 1, none⟩ = some (.string (bs nm)) ∧ w4.cell? ⟨w.heap.size, 2, none⟩ = some (.string (bs tn)) := ⟨blk_at HB4.out 1 rfl, blk_at HB4.out 2 rfl⟩; clear ho4 hg4) | (refine step_append_src (w3.alloc (.cells #[.string (bs tn), .string (bs fs[k].2)] 88)) (by rfl) (.tmp 75) (.tmp 80) 83 83 (by rfl) W.heap.size 88 i0 (.agg #[.string ⟨#[]⟩, .string ⟨#[]⟩]) 2 32 Try.underlying83 hi hz0 hz1 hz2 rfl (.slice (some ⟨g, 0, none⟩) ls.length c1) ls.length (fiCells ls) (by simp [Act.eval]) (World.ownsRow.alloc HO3.out _) (.slice (some ⟨w3.heap.size, 0, none⟩) 1 1) 1 [.string (bs tn), .string (bs fs[k].2)] (by simp [Act.eval]) (src_fi _ _) HLL.out.1 HLL.out.2 (le_alloc K3.out.size _) ?_; intro a4 c4 w4 ho4 hg4; have HO4 : Hid (OwnFs W.heap.size w4 a4 c4 (ls ++ [(tn, fs[k].2)])) := OwnFs.push ho4; have K4 : Hid (Kept Nil W w4) := (K3.out.alloc _).grown hg4 (own_row HO3.out); have HB4 : Hid (w4.heap[w.heap.size]? = some (.cells #[.int .i64 4, .string (bs nm), .string (bs tn), .string (bs dt), .int .i64 sz] 86 (0, 0))) := K4.out.block _ _ HB.out (fun x => x.elim); have s4 : w4.cell? ⟨w.heap.size, 1, none⟩ = some (.string (bs nm)) ∧ w4.cell? ⟨w.heap.size, 2, none⟩ = some (.string (bs tn)) := ⟨blk_at HB4.out 1 rfl, blk_at HB4.out 2 rfl⟩; clear ho4 hg4))
    all_goals
      have HO5 : Hid (OwnFs w.heap.size w4 a4 c4 (ls ++ [(tn, fs[k].2)])) := HO4.out.mono HWW.out
      have K5 : Hid (Kept Nil w w4) := KW.out.trans K4.out
      go_wp2
      go_ret
      rw [HGE.out]
      exact ⟨a4, c4, by simp, HO5.out, K5.out⟩

end Go.Proofs.Ytnmkccdcgmajgaa
