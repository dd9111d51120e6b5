/-
  Joined: WCg9.
-/
import Derived.Test.YtflnjlbafchnaaaGreatDoorQ38
/-
  Cells: Next, the other phases (the program).
-/
namespace Go.Proofs.YtflnjlbafchnaaaGreatDoor
open Go.RowKit

set_option maxRecDepth 100000 in
set_option maxHeartbeats 4000000 in
theorem cnext3_any (w : World) (b : Nat) (j : Jb) (K : Jn) (h : JbAt w b j K) (hp : j.ph = 3) (o : j.Ok) (hL : LW w) :
    Calls Tryz.prog 25 #[.pointer (some ⟨b, 0, none⟩)] w (CNPost w j.next) := by
  have hn : j.next = (j.tg, swapC (cKey j.k) (ceTxt (unsaid j.tg)) 0, true) := by unfold Jb.next; rw [if_neg (by omega), if_neg (by omega), if_neg (by omega), if_pos hp]
  rw [hn]
  have hk := o.k2
  obtain ⟨W, hW⟩ : ∃ W, W = w.alloc (.cells #[.int .i64 0, .string ⟨#[]⟩, .string ⟨#[]⟩, .int .i64 0] 31) := ⟨_, rfl⟩
  obtain ⟨R, HRe⟩ : ∃ A, Hid (A = w.heap.size) := ⟨_, rfl⟩
  have KW : Hid (Kept Nil w W) := by rw [hW]; exact (Kept.refl _ _).alloc _
  have HR : Hid (W.heap[R]? = some (.cells #[.int .i64 0, .string ⟨#[]⟩, .string ⟨#[]⟩, .int .i64 0] 31 (0, 0))) := by rw [hW, HRe.out]; exact blk_new _ _
  have HRw : Hid (w.heap.size ≤ R) := by show _ ≤ _; rw [HRe.out]; exact Nat.le_refl _
  have HJ : Hid (JbAt W b j K) := h.kept KW.out
  have HLW : Hid (LW W) := hL.kept KW.out
  have hlb : b < W.heap.size := lt_of_block HJ.out
  have hlR : R < W.heap.size := lt_of_block HR.out
  have hbR : b ≠ R := by rw [HRe.out]; have := lt_of_block h; omega
  have hRb : R ≠ b := fun e => hbR e.symm
  obtain ⟨cd, Hcd⟩ : ∃ c, Hid (c = swapC (cKey j.k) (ceTxt (unsaid j.tg)) 0) := ⟨_, rfl⟩
  rw [← Hcd.out]
  have SC : ∀ X, Kept Nil W X → Calls Tryz.prog 78 #[.string (bs j.k), ceV (unsaid j.tg), .int .i64 0] X fun e w' => e = .returned (cdV cd) ∧ Kept Nil X w' := fun X kX => by rw [Hcd.out]; exact cswap_any j.k (unsaid j.tg) 0 X (by omega) (unsaid_ok _) (HLW.out.kept kX)
  have UN := fun X => unsaid_any j.tg X
  unfold ceV at SC UN
  clear h hL hn
  have q1 : W.cell? ⟨b, 1, none⟩ = some (.string (bs j.k)) := blk_at HJ.out 1 rfl
  have q6 : W.cell? ⟨b, 6, none⟩ = some (.int .i64 j.at') := blk_at HJ.out 6 rfl
  have q16 : W.cell? ⟨b, 16, none⟩ = some (.int .i64 j.sn.g) := blk_at HJ.out 16 rfl
  go_enter Tryz.func25, Tryz.ntmps25
  go_upto_region 1 with fail
  rw [← hW, ← HRe.out]
  clear hW
  go_region
  all_goals
    go_upto_region 2 with fail
    have HJd : Hid (JbAt W.drew b j K) := HJ.out.drew
    have HRd : Hid (W.drew.heap[R]? = some (.cells #[.int .i64 0, .string ⟨#[]⟩, .string ⟨#[]⟩, .int .i64 0] 31 (0, 0))) := HR.out
    have d11 : W.drew.cell? ⟨b, 11, none⟩ = some (.int .i64 3) := by have := blk_at HJd.out 11 rfl; rw [hp] at this; exact this
    have d4 : W.drew.cell? ⟨b, 4, none⟩ = some (.int .i64 j.tg) := blk_at HJd.out 4 rfl
    go_upto_region 10 with fail
    go_region_with (first | (go_at_call 79; go_must (go_fit (UN _)); rintro _ wb ⟨rfl, kb⟩; have Kb : Hid (Kept Nil W wb) := Kept.trans (by repeat (first | exact Kept.refl _ _ | refine Kept.drew ?_)) kb; clear kb; have HJeb : Hid (JbAt wb b j K) := HJ.out.kept Kb.out; have eb4 : wb.cell? ⟨b, 4, none⟩ = some (.int .i64 j.tg) := blk_at HJeb.out 4 rfl; (try (unfold ceV))) | (go_at_call 78; go_must (go_fit (SC _ (by repeat (first | exact Kb.out | exact Kept.refl _ _ | refine Kept.drew ?_)))); rintro _ wa ⟨rfl, ka⟩; have Ka : Hid (Kept Nil W wa) := Kept.trans (by repeat (first | exact Kb.out | exact Kept.refl _ _ | refine Kept.drew ?_)) ka; have HRa : Hid (wa.heap[R]? = some (.cells #[.int .i64 0, .string ⟨#[]⟩, .string ⟨#[]⟩, .int .i64 0] 31 (0, 0))) := Ka.out.block _ _ HR.out (fun x => x); clear ka; have n0 : wa.cell? ⟨R, 0, none⟩ = some (.int .i64 0) := blk_at HRa.out 0 rfl; have o0 := blk_free HRa.out 0; have n1 : wa.cell? ⟨R, 1, none⟩ = some (.string ⟨#[]⟩) := blk_at HRa.out 1 rfl; have o1 := blk_free HRa.out 1; have n2 : wa.cell? ⟨R, 2, none⟩ = some (.string ⟨#[]⟩) := blk_at HRa.out 2 rfl; have o2 := blk_free HRa.out 2; have n3 : wa.cell? ⟨R, 3, none⟩ = some (.int .i64 0) := blk_at HRa.out 3 rfl; have o3 := blk_free HRa.out 3; have HJea : Hid (JbAt wa b j K) := HJ.out.kept Ka.out; have ea4 : wa.cell? ⟨b, 4, none⟩ = some (.int .i64 j.tg) := blk_at HJea.out 4 rfl; unfold cdV))
    all_goals
      obtain ⟨Y, hY⟩ : ∃ Y, Y = (((wa.setCell ⟨R, 0, none⟩ (.int .i64 cd.kd)).setCell ⟨R, 1, none⟩ (.string (bs cd.k))).setCell ⟨R, 2, none⟩ (.string (bs cd.v))).setCell ⟨R, 3, none⟩ (.int .i64 cd.m) := ⟨_, rfl⟩
      have HY : Hid (Y.heap[R]? = some (.cells #[.int .i64 cd.kd, .string (bs cd.k), .string (bs cd.v), .int .i64 cd.m] 31 (0, 0)) ∧ Kept Nil w Y) := by rw [hY]; exact ⟨gput4 HRa.out, ((((KW.out.trans Ka.out).setNew (p := ⟨R, 0, none⟩) HRw.out _).setNew (p := ⟨R, 1, none⟩) HRw.out _).setNew (p := ⟨R, 2, none⟩) HRw.out _).setNew (p := ⟨R, 3, none⟩) HRw.out _⟩
      go_wp2
      rw [← hY]
      have j0 := blk_at HY.out.1 0 rfl
      have j1 := blk_at HY.out.1 1 rfl
      have j2 := blk_at HY.out.1 2 rfl
      have j3 := blk_at HY.out.1 3 rfl
      exact bodyPost_ret (v := .tuple #[.int .i64 j.tg, cdV cd, .bool true]) (by simp [results, Tryz.results25, go_sem, j0, j1, j2, j3, cdV]) rfl ⟨rfl, HY.out.2⟩
set_option maxRecDepth 100000 in
set_option maxHeartbeats 4000000 in
theorem cnext5_any (w : World) (b : Nat) (j : Jb) (K : Jn) (h : JbAt w b j K) (hp : j.ph = 5) (o : j.Ok) (hL : LW w) :
    Calls Tryz.prog 25 #[.pointer (some ⟨b, 0, none⟩)] w (CNPost w j.next) := by
  have hn : j.next = (j.sn.g, swapC (cKey j.k) (ceTxt j.sn.arrived) j.sp, true) := by unfold Jb.next; rw [if_neg (by omega), if_neg (by omega), if_neg (by omega), if_neg (by omega), if_neg (by omega), if_pos hp]
  rw [hn]
  have hk := o.k2
  obtain ⟨W, hW⟩ : ∃ W, W = w.alloc (.cells #[.int .i64 0, .string ⟨#[]⟩, .string ⟨#[]⟩, .int .i64 0] 31) := ⟨_, rfl⟩
  obtain ⟨R, HRe⟩ : ∃ A, Hid (A = w.heap.size) := ⟨_, rfl⟩
  have KW : Hid (Kept Nil w W) := by rw [hW]; exact (Kept.refl _ _).alloc _
  have HR : Hid (W.heap[R]? = some (.cells #[.int .i64 0, .string ⟨#[]⟩, .string ⟨#[]⟩, .int .i64 0] 31 (0, 0))) := by rw [hW, HRe.out]; exact blk_new _ _
  have HRw : Hid (w.heap.size ≤ R) := by show _ ≤ _; rw [HRe.out]; exact Nat.le_refl _
  have HJ : Hid (JbAt W b j K) := h.kept KW.out
  have HLW : Hid (LW W) := hL.kept KW.out
  have hlb : b < W.heap.size := lt_of_block HJ.out
  have hlR : R < W.heap.size := lt_of_block HR.out
  have hbR : b ≠ R := by rw [HRe.out]; have := lt_of_block h; omega
  have hRb : R ≠ b := fun e => hbR e.symm
  obtain ⟨cd, Hcd⟩ : ∃ c, Hid (c = swapC (cKey j.k) (ceTxt j.sn.arrived) j.sp) := ⟨_, rfl⟩
  rw [← Hcd.out]
  have SC : ∀ X, Kept Nil W X → Calls Tryz.prog 78 #[.string (bs j.k), ceV j.sn.arrived, .int .i64 j.sp] X fun e w' => e = .returned (cdV cd) ∧ Kept Nil X w' := fun X kX => by rw [Hcd.out]; exact cswap_any j.k j.sn.arrived j.sp X (by omega) o.sn.arrived (HLW.out.kept kX)
  have UN := fun X => arrived_any j.sn X
  unfold ceV at SC UN
  clear h hL hn
  have q1 : W.cell? ⟨b, 1, none⟩ = some (.string (bs j.k)) := blk_at HJ.out 1 rfl
  have q6 : W.cell? ⟨b, 6, none⟩ = some (.int .i64 j.at') := blk_at HJ.out 6 rfl
  have q16 : W.cell? ⟨b, 16, none⟩ = some (.int .i64 j.sn.g) := blk_at HJ.out 16 rfl
  go_enter Tryz.func25, Tryz.ntmps25
  go_upto_region 1 with fail
  rw [← hW, ← HRe.out]
  clear hW
  go_region
  all_goals
    go_upto_region 2 with fail
    have HJd : Hid (JbAt W.drew b j K) := HJ.out.drew
    have HRd : Hid (W.drew.heap[R]? = some (.cells #[.int .i64 0, .string ⟨#[]⟩, .string ⟨#[]⟩, .int .i64 0] 31 (0, 0))) := HR.out
    have d11 : W.drew.cell? ⟨b, 11, none⟩ = some (.int .i64 5) := by have := blk_at HJd.out 11 rfl; rw [hp] at this; exact this
    have d12 : W.drew.cell? ⟨b, 12, none⟩ = some (.string (bs j.sn.v)) := blk_at HJd.out 12 rfl
    have d13 : W.drew.cell? ⟨b, 13, none⟩ = some (.int .i64 j.sn.n) := blk_at HJd.out 13 rfl
    have d14 : W.drew.cell? ⟨b, 14, none⟩ = some (.int .i64 j.sn.s) := blk_at HJd.out 14 rfl
    have d15 : W.drew.cell? ⟨b, 15, none⟩ = some (.int .i64 j.sn.h) := blk_at HJd.out 15 rfl
    have d16 : W.drew.cell? ⟨b, 16, none⟩ = some (.int .i64 j.sn.g) := blk_at HJd.out 16 rfl
    have d27 : W.drew.cell? ⟨b, 27, none⟩ = some (.int .i64 j.sp) := blk_at HJd.out 27 rfl
    go_upto_region 14 with fail
    go_region_with (first | (go_at_call 80; go_must (go_fit (UN _)); rintro _ wb ⟨rfl, kb⟩; have Kb : Hid (Kept Nil W wb) := Kept.trans (by repeat (first | exact Kept.refl _ _ | refine Kept.drew ?_)) kb; clear kb; have HJeb : Hid (JbAt wb b j K) := HJ.out.kept Kb.out; have eb12 : wb.cell? ⟨b, 12, none⟩ = some (.string (bs j.sn.v)) := blk_at HJeb.out 12 rfl; have eb13 : wb.cell? ⟨b, 13, none⟩ = some (.int .i64 j.sn.n) := blk_at HJeb.out 13 rfl; have eb14 : wb.cell? ⟨b, 14, none⟩ = some (.int .i64 j.sn.s) := blk_at HJeb.out 14 rfl; have eb15 : wb.cell? ⟨b, 15, none⟩ = some (.int .i64 j.sn.h) := blk_at HJeb.out 15 rfl; have eb16 : wb.cell? ⟨b, 16, none⟩ = some (.int .i64 j.sn.g) := blk_at HJeb.out 16 rfl; have eb27 : wb.cell? ⟨b, 27, none⟩ = some (.int .i64 j.sp) := blk_at HJeb.out 27 rfl; (try (unfold ceV))) | (go_at_call 78; go_must (go_fit (SC _ (by repeat (first | exact Kb.out | exact Kept.refl _ _ | refine Kept.drew ?_)))); rintro _ wa ⟨rfl, ka⟩; have Ka : Hid (Kept Nil W wa) := Kept.trans (by repeat (first | exact Kb.out | exact Kept.refl _ _ | refine Kept.drew ?_)) ka; have HRa : Hid (wa.heap[R]? = some (.cells #[.int .i64 0, .string ⟨#[]⟩, .string ⟨#[]⟩, .int .i64 0] 31 (0, 0))) := Ka.out.block _ _ HR.out (fun x => x); clear ka; have n0 : wa.cell? ⟨R, 0, none⟩ = some (.int .i64 0) := blk_at HRa.out 0 rfl; have o0 := blk_free HRa.out 0; have n1 : wa.cell? ⟨R, 1, none⟩ = some (.string ⟨#[]⟩) := blk_at HRa.out 1 rfl; have o1 := blk_free HRa.out 1; have n2 : wa.cell? ⟨R, 2, none⟩ = some (.string ⟨#[]⟩) := blk_at HRa.out 2 rfl; have o2 := blk_free HRa.out 2; have n3 : wa.cell? ⟨R, 3, none⟩ = some (.int .i64 0) := blk_at HRa.out 3 rfl; have o3 := blk_free HRa.out 3; have HJea : Hid (JbAt wa b j K) := HJ.out.kept Ka.out; have ea12 : wa.cell? ⟨b, 12, none⟩ = some (.string (bs j.sn.v)) := blk_at HJea.out 12 rfl; have ea13 : wa.cell? ⟨b, 13, none⟩ = some (.int .i64 j.sn.n) := blk_at HJea.out 13 rfl; have ea14 : wa.cell? ⟨b, 14, none⟩ = some (.int .i64 j.sn.s) := blk_at HJea.out 14 rfl; have ea15 : wa.cell? ⟨b, 15, none⟩ = some (.int .i64 j.sn.h) := blk_at HJea.out 15 rfl; have ea16 : wa.cell? ⟨b, 16, none⟩ = some (.int .i64 j.sn.g) := blk_at HJea.out 16 rfl; have ea27 : wa.cell? ⟨b, 27, none⟩ = some (.int .i64 j.sp) := blk_at HJea.out 27 rfl; unfold cdV))
    all_goals
      obtain ⟨Y, hY⟩ : ∃ Y, Y = (((wa.setCell ⟨R, 0, none⟩ (.int .i64 cd.kd)).setCell ⟨R, 1, none⟩ (.string (bs cd.k))).setCell ⟨R, 2, none⟩ (.string (bs cd.v))).setCell ⟨R, 3, none⟩ (.int .i64 cd.m) := ⟨_, rfl⟩
      have HY : Hid (Y.heap[R]? = some (.cells #[.int .i64 cd.kd, .string (bs cd.k), .string (bs cd.v), .int .i64 cd.m] 31 (0, 0)) ∧ Kept Nil w Y) := by rw [hY]; exact ⟨gput4 HRa.out, ((((KW.out.trans Ka.out).setNew (p := ⟨R, 0, none⟩) HRw.out _).setNew (p := ⟨R, 1, none⟩) HRw.out _).setNew (p := ⟨R, 2, none⟩) HRw.out _).setNew (p := ⟨R, 3, none⟩) HRw.out _⟩
      go_wp2
      rw [← hY]
      have j0 := blk_at HY.out.1 0 rfl
      have j1 := blk_at HY.out.1 1 rfl
      have j2 := blk_at HY.out.1 2 rfl
      have j3 := blk_at HY.out.1 3 rfl
      exact bodyPost_ret (v := .tuple #[.int .i64 j.sn.g, cdV cd, .bool true]) (by simp [results, Tryz.results25, go_sem, j0, j1, j2, j3, cdV]) rfl ⟨rfl, HY.out.2⟩
set_option maxRecDepth 100000 in
set_option maxHeartbeats 4000000 in
theorem cnext6_any (w : World) (b : Nat) (j : Jb) (K : Jn) (h : JbAt w b j K) (hp : j.ph = 6) (o : j.Ok) (hL : LW w) :
    Calls Tryz.prog 25 #[.pointer (some ⟨b, 0, none⟩)] w (CNPost w j.next) := by
  have hn : j.next = (j.at', swapC (cKey j.k) (ceTxt j.sn.left) j.sv, true) := by unfold Jb.next; rw [if_neg (by omega), if_neg (by omega), if_neg (by omega), if_neg (by omega), if_neg (by omega), if_neg (by omega), if_pos hp]
  rw [hn]
  have hk := o.k2
  obtain ⟨W, hW⟩ : ∃ W, W = w.alloc (.cells #[.int .i64 0, .string ⟨#[]⟩, .string ⟨#[]⟩, .int .i64 0] 31) := ⟨_, rfl⟩
  obtain ⟨R, HRe⟩ : ∃ A, Hid (A = w.heap.size) := ⟨_, rfl⟩
  have KW : Hid (Kept Nil w W) := by rw [hW]; exact (Kept.refl _ _).alloc _
  have HR : Hid (W.heap[R]? = some (.cells #[.int .i64 0, .string ⟨#[]⟩, .string ⟨#[]⟩, .int .i64 0] 31 (0, 0))) := by rw [hW, HRe.out]; exact blk_new _ _
  have HRw : Hid (w.heap.size ≤ R) := by show _ ≤ _; rw [HRe.out]; exact Nat.le_refl _
  have HJ : Hid (JbAt W b j K) := h.kept KW.out
  have HLW : Hid (LW W) := hL.kept KW.out
  have hlb : b < W.heap.size := lt_of_block HJ.out
  have hlR : R < W.heap.size := lt_of_block HR.out
  have hbR : b ≠ R := by rw [HRe.out]; have := lt_of_block h; omega
  have hRb : R ≠ b := fun e => hbR e.symm
  obtain ⟨cd, Hcd⟩ : ∃ c, Hid (c = swapC (cKey j.k) (ceTxt j.sn.left) j.sv) := ⟨_, rfl⟩
  rw [← Hcd.out]
  have SC : ∀ X, Kept Nil W X → Calls Tryz.prog 78 #[.string (bs j.k), ceV j.sn.left, .int .i64 j.sv] X fun e w' => e = .returned (cdV cd) ∧ Kept Nil X w' := fun X kX => by rw [Hcd.out]; exact cswap_any j.k j.sn.left j.sv X (by omega) (o.sn.left (o.snm ⟨by omega, by omega⟩)) (HLW.out.kept kX)
  have UN := fun X => left_any j.sn X
  unfold ceV at SC UN
  clear h hL hn
  have q1 : W.cell? ⟨b, 1, none⟩ = some (.string (bs j.k)) := blk_at HJ.out 1 rfl
  have q6 : W.cell? ⟨b, 6, none⟩ = some (.int .i64 j.at') := blk_at HJ.out 6 rfl
  have q16 : W.cell? ⟨b, 16, none⟩ = some (.int .i64 j.sn.g) := blk_at HJ.out 16 rfl
  go_enter Tryz.func25, Tryz.ntmps25
  go_upto_region 1 with fail
  rw [← hW, ← HRe.out]
  clear hW
  go_region
  all_goals
    go_upto_region 2 with fail
    have HJd : Hid (JbAt W.drew b j K) := HJ.out.drew
    have HRd : Hid (W.drew.heap[R]? = some (.cells #[.int .i64 0, .string ⟨#[]⟩, .string ⟨#[]⟩, .int .i64 0] 31 (0, 0))) := HR.out
    have d11 : W.drew.cell? ⟨b, 11, none⟩ = some (.int .i64 6) := by have := blk_at HJd.out 11 rfl; rw [hp] at this; exact this
    have d12 : W.drew.cell? ⟨b, 12, none⟩ = some (.string (bs j.sn.v)) := blk_at HJd.out 12 rfl
    have d13 : W.drew.cell? ⟨b, 13, none⟩ = some (.int .i64 j.sn.n) := blk_at HJd.out 13 rfl
    have d14 : W.drew.cell? ⟨b, 14, none⟩ = some (.int .i64 j.sn.s) := blk_at HJd.out 14 rfl
    have d15 : W.drew.cell? ⟨b, 15, none⟩ = some (.int .i64 j.sn.h) := blk_at HJd.out 15 rfl
    have d16 : W.drew.cell? ⟨b, 16, none⟩ = some (.int .i64 j.sn.g) := blk_at HJd.out 16 rfl
    have d17 : W.drew.cell? ⟨b, 17, none⟩ = some (.int .i64 j.sv) := blk_at HJd.out 17 rfl
    go_upto_region 16 with fail
    go_region_with (first | (go_at_call 81; go_must (go_fit (UN _)); rintro _ wb ⟨rfl, kb⟩; have Kb : Hid (Kept Nil W wb) := Kept.trans (by repeat (first | exact Kept.refl _ _ | refine Kept.drew ?_)) kb; clear kb; have HJeb : Hid (JbAt wb b j K) := HJ.out.kept Kb.out; have eb12 : wb.cell? ⟨b, 12, none⟩ = some (.string (bs j.sn.v)) := blk_at HJeb.out 12 rfl; have eb13 : wb.cell? ⟨b, 13, none⟩ = some (.int .i64 j.sn.n) := blk_at HJeb.out 13 rfl; have eb14 : wb.cell? ⟨b, 14, none⟩ = some (.int .i64 j.sn.s) := blk_at HJeb.out 14 rfl; have eb15 : wb.cell? ⟨b, 15, none⟩ = some (.int .i64 j.sn.h) := blk_at HJeb.out 15 rfl; have eb16 : wb.cell? ⟨b, 16, none⟩ = some (.int .i64 j.sn.g) := blk_at HJeb.out 16 rfl; have eb17 : wb.cell? ⟨b, 17, none⟩ = some (.int .i64 j.sv) := blk_at HJeb.out 17 rfl; (try (unfold ceV))) | (go_at_call 78; go_must (go_fit (SC _ (by repeat (first | exact Kb.out | exact Kept.refl _ _ | refine Kept.drew ?_)))); rintro _ wa ⟨rfl, ka⟩; have Ka : Hid (Kept Nil W wa) := Kept.trans (by repeat (first | exact Kb.out | exact Kept.refl _ _ | refine Kept.drew ?_)) ka; have HRa : Hid (wa.heap[R]? = some (.cells #[.int .i64 0, .string ⟨#[]⟩, .string ⟨#[]⟩, .int .i64 0] 31 (0, 0))) := Ka.out.block _ _ HR.out (fun x => x); clear ka; have n0 : wa.cell? ⟨R, 0, none⟩ = some (.int .i64 0) := blk_at HRa.out 0 rfl; have o0 := blk_free HRa.out 0; have n1 : wa.cell? ⟨R, 1, none⟩ = some (.string ⟨#[]⟩) := blk_at HRa.out 1 rfl; have o1 := blk_free HRa.out 1; have n2 : wa.cell? ⟨R, 2, none⟩ = some (.string ⟨#[]⟩) := blk_at HRa.out 2 rfl; have o2 := blk_free HRa.out 2; have n3 : wa.cell? ⟨R, 3, none⟩ = some (.int .i64 0) := blk_at HRa.out 3 rfl; have o3 := blk_free HRa.out 3; have HJea : Hid (JbAt wa b j K) := HJ.out.kept Ka.out; have ea12 : wa.cell? ⟨b, 12, none⟩ = some (.string (bs j.sn.v)) := blk_at HJea.out 12 rfl; have ea13 : wa.cell? ⟨b, 13, none⟩ = some (.int .i64 j.sn.n) := blk_at HJea.out 13 rfl; have ea14 : wa.cell? ⟨b, 14, none⟩ = some (.int .i64 j.sn.s) := blk_at HJea.out 14 rfl; have ea15 : wa.cell? ⟨b, 15, none⟩ = some (.int .i64 j.sn.h) := blk_at HJea.out 15 rfl; have ea16 : wa.cell? ⟨b, 16, none⟩ = some (.int .i64 j.sn.g) := blk_at HJea.out 16 rfl; have ea17 : wa.cell? ⟨b, 17, none⟩ = some (.int .i64 j.sv) := blk_at HJea.out 17 rfl; unfold cdV))
    all_goals
      obtain ⟨Y, hY⟩ : ∃ Y, Y = (((wa.setCell ⟨R, 0, none⟩ (.int .i64 cd.kd)).setCell ⟨R, 1, none⟩ (.string (bs cd.k))).setCell ⟨R, 2, none⟩ (.string (bs cd.v))).setCell ⟨R, 3, none⟩ (.int .i64 cd.m) := ⟨_, rfl⟩
      have HY : Hid (Y.heap[R]? = some (.cells #[.int .i64 cd.kd, .string (bs cd.k), .string (bs cd.v), .int .i64 cd.m] 31 (0, 0)) ∧ Kept Nil w Y) := by rw [hY]; exact ⟨gput4 HRa.out, ((((KW.out.trans Ka.out).setNew (p := ⟨R, 0, none⟩) HRw.out _).setNew (p := ⟨R, 1, none⟩) HRw.out _).setNew (p := ⟨R, 2, none⟩) HRw.out _).setNew (p := ⟨R, 3, none⟩) HRw.out _⟩
      go_wp2
      rw [← hY]
      have j0 := blk_at HY.out.1 0 rfl
      have j1 := blk_at HY.out.1 1 rfl
      have j2 := blk_at HY.out.1 2 rfl
      have j3 := blk_at HY.out.1 3 rfl
      exact bodyPost_ret (v := .tuple #[.int .i64 j.at', cdV cd, .bool true]) (by simp [results, Tryz.results25, go_sem, j0, j1, j2, j3, cdV]) rfl ⟨rfl, HY.out.2⟩
end Go.Proofs.YtflnjlbafchnaaaGreatDoor
