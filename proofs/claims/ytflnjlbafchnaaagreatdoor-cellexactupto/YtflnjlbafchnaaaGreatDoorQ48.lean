/-
  Joined: WCh1, WCx3.
-/
import Derived.Test.YtflnjlbafchnaaaGreatDoorQ41
import Derived.Test.YtflnjlbafchnaaaGreatDoorQ47
import Derived.Test.YtflnjlbafchnaaaGreatDoorQ20
/-
  Cells: Next whole, Answer, Look (the program).
-/
namespace Go.Proofs.YtflnjlbafchnaaaGreatDoor
open Go.RowKit

theorem gdrew {w : World} {R : Nat} {o : Obj} (h : w.heap[R]? = some o) : w.drew.heap[R]? = some o := h
set_option maxRecDepth 100000 in
set_option maxHeartbeats 4000000 in
theorem cnext7_any (w : World) (b : Nat) (j : Jb) (K : Jn) (h : JbAt w b j K) (hp : j.ph = 7) :
    Calls Tryz.prog 25 #[.pointer (some ⟨b, 0, none⟩)] w (CNPost w j.next) := by
  have hn : j.next = (0, ⟨0, [], [], 0⟩, false) := by unfold Jb.next; rw [if_neg (by omega), if_neg (by omega), if_neg (by omega), if_neg (by omega), if_neg (by omega), if_neg (by omega), if_neg (by omega)]
  rw [hn]
  obtain ⟨W, hW⟩ : ∃ W, W = w.alloc (.cells #[.int .i64 0, .string ⟨#[]⟩, .string ⟨#[]⟩, .int .i64 0] 31) := ⟨_, rfl⟩
  obtain ⟨R, HRe⟩ : ∃ A, Hid (A = w.heap.size) := ⟨_, rfl⟩
  have KW : Hid (Kept Nil w W) := by rw [hW]; exact (Kept.refl _ _).alloc _
  have HR : Hid (W.heap[R]? = some (.cells #[.int .i64 0, .string ⟨#[]⟩, .string ⟨#[]⟩, .int .i64 0] 31 (0, 0))) := by rw [hW, HRe.out]; exact blk_new _ _
  have HRw : Hid (w.heap.size ≤ R) := by show _ ≤ _; rw [HRe.out]; exact Nat.le_refl _
  have HJ : Hid (JbAt W b j K) := h.kept KW.out
  have hlb : b < W.heap.size := lt_of_block HJ.out
  have hlR : R < W.heap.size := lt_of_block HR.out
  have hbR : b ≠ R := by rw [HRe.out]; have := lt_of_block h; omega
  have hRb : R ≠ b := fun e => hbR e.symm
  clear h hn
  have q1 : W.cell? ⟨b, 1, none⟩ = some (.string (bs j.k)) := blk_at HJ.out 1 rfl
  have q6 : W.cell? ⟨b, 6, none⟩ = some (.int .i64 j.at') := blk_at HJ.out 6 rfl
  have q16 : W.cell? ⟨b, 16, none⟩ = some (.int .i64 j.sn.g) := blk_at HJ.out 16 rfl
  go_enter Tryz.func25, Tryz.ntmps25
  go_upto_region 1 with fail
  rw [← hW, ← HRe.out]
  clear hW
  go_region
  all_goals
    go_upto_region 2 with fail
    have HJd : Hid (JbAt W.drew b j K) := HJ.out.drew
    have HRd : Hid (W.drew.heap[R]? = some (.cells #[.int .i64 0, .string ⟨#[]⟩, .string ⟨#[]⟩, .int .i64 0] 31 (0, 0))) := HR.out
    have d11 : W.drew.cell? ⟨b, 11, none⟩ = some (.int .i64 7) := by have := blk_at HJd.out 11 rfl; rw [hp] at this; exact this
    have n0 : W.cell? ⟨R, 0, none⟩ = some (.int .i64 0) := blk_at HR.out 0 rfl
    have o0 := blk_free HR.out 0
    have n1 : W.cell? ⟨R, 1, none⟩ = some (.string ⟨#[]⟩) := blk_at HR.out 1 rfl
    have o1 := blk_free HR.out 1
    have n2 : W.cell? ⟨R, 2, none⟩ = some (.string ⟨#[]⟩) := blk_at HR.out 2 rfl
    have o2 := blk_free HR.out 2
    have n3 : W.cell? ⟨R, 3, none⟩ = some (.int .i64 0) := blk_at HR.out 3 rfl
    have o3 := blk_free HR.out 3
    obtain ⟨Y, hY⟩ : ∃ Y, Y = ((((W.setCell ⟨R, 0, none⟩ (.int .i64 0)).setCell ⟨R, 1, none⟩ (.string ⟨#[]⟩)).setCell ⟨R, 2, none⟩ (.string ⟨#[]⟩)).setCell ⟨R, 3, none⟩ (.int .i64 0)).drew := ⟨_, rfl⟩
    have HY : Hid (Y.heap[R]? = some (.cells #[.int .i64 0, .string ⟨#[]⟩, .string ⟨#[]⟩, .int .i64 0] 31 (0, 0)) ∧ Kept Nil w Y) := by rw [hY]; exact ⟨gdrew (gput4 HR.out), ((((KW.out.setNew (p := ⟨R, 0, none⟩) HRw.out _).setNew (p := ⟨R, 1, none⟩) HRw.out _).setNew (p := ⟨R, 2, none⟩) HRw.out _).setNew (p := ⟨R, 3, none⟩) HRw.out _).drew⟩
    go_wp2
    rw [← hY]
    have j0 := blk_at HY.out.1 0 rfl
    have j1 := blk_at HY.out.1 1 rfl
    have j2 := blk_at HY.out.1 2 rfl
    have j3 := blk_at HY.out.1 3 rfl
    exact bodyPost_ret (v := .tuple #[.int .i64 0, cdV ⟨0, [], [], 0⟩, .bool false]) (by simp [results, Tryz.results25, go_sem, j0, j1, j2, j3, cdV, bs]) rfl ⟨rfl, HY.out.2⟩
theorem cnext_any (w : World) (b : Nat) (j : Jb) (K : Jn) (h : JbAt w b j K) (o : j.Ok) (hL : LW w) :
    Calls Tryz.prog 25 #[.pointer (some ⟨b, 0, none⟩)] w (CNPost w j.next) := by
  have hp := o.ph
  rcases (show j.ph = 0 ∨ j.ph = 1 ∨ j.ph = 2 ∨ j.ph = 3 ∨ j.ph = 4 ∨ j.ph = 5 ∨ j.ph = 6 ∨ j.ph = 7 by omega) with e | e | e | e | e | e | e | e
  · exact cnext0_any w b j K h e o hL
  · exact cnext1_any w b j K h e o hL
  · exact cnext2_any w b j K h e o hL
  · exact cnext3_any w b j K h e o hL
  · exact cnext4_any w b j K h e o hL
  · exact cnext5_any w b j K h e o hL
  · exact cnext6_any w b j K h e o hL
  · exact cnext7_any w b j K h e
set_option maxRecDepth 100000 in
set_option maxHeartbeats 4000000 in
theorem canswer_any (w : World) (b : Nat) (j : Jb) (K : Jn) (h : JbAt w b j K) (r : Rr) (ko : Option Addr) (kc : Nat) (o : j.Ok) (hr : r.v.length < 4294967281) (hw : 14 ≤ w.heap.size) (hL : LW w) (hc : ∀ c : Ce, c.Ok → CmOk j.kd j.k j.v j.m c.v c.n) :
    Calls Tryz.prog 32 #[.pointer (some ⟨b, 0, none⟩), rrV r ko kc] w (JPost w b (j.answer r)) := by
  obtain ⟨W, hW⟩ : ∃ W, W = w.alloc (.cells #[.int .i64 r.kd, .string (bs r.v), .int .i64 r.n, .slice ko r.ks.length kc] 50) := ⟨_, rfl⟩
  obtain ⟨A, HAe⟩ : ∃ A, Hid (A = w.heap.size) := ⟨_, rfl⟩
  have KW : Hid (Kept Nil w W) := by rw [hW]; exact (Kept.refl _ _).alloc _
  have HA : Hid (W.heap[A]? = some (.cells #[.int .i64 r.kd, .string (bs r.v), .int .i64 r.n, .slice ko r.ks.length kc] 50 (0, 0))) := by rw [hW, HAe.out]; exact blk_new _ _
  have HJ : Hid (JbAt W b j K) := h.kept KW.out
  have hlb : b < W.heap.size := lt_of_block HJ.out
  have hlA : A < W.heap.size := lt_of_block HA.out
  have hbA : b ≠ A := by rw [HAe.out]; have := lt_of_block h; omega
  have hAb : A ≠ b := fun e => hbA e.symm
  have a0 : W.cell? ⟨A, 0, none⟩ = some (.int .i64 r.kd) := blk_at HA.out 0 rfl
  have a1 : W.cell? ⟨A, 1, none⟩ = some (.string (bs r.v)) := blk_at HA.out 1 rfl
  have a2 : W.cell? ⟨A, 2, none⟩ = some (.int .i64 r.n) := blk_at HA.out 2 rfl
  have a3 : W.cell? ⟨A, 3, none⟩ = some (.slice ko r.ks.length kc) := blk_at HA.out 3 rfl
  have HLW : Hid (LW W) := hL.kept KW.out
  have HW20 : Hid (14 ≤ W.heap.size) := Nat.le_trans hw KW.out.size
  obtain ⟨u, Hu⟩ : ∃ u, Hid (u = j.answer r) := ⟨_, rfl⟩
  rw [← Hu.out]
  have hp := o.ph
  clear h hL
  rcases (show j.ph = 0 ∨ j.ph = 1 ∨ j.ph = 2 ∨ j.ph = 3 ∨ j.ph = 4 ∨ j.ph = 5 ∨ j.ph = 6 ∨ j.ph = 7 by omega) with e | e | e | e | e | e | e | e
  · have q11 : W.cell? ⟨b, 11, none⟩ = some (.int .i64 0) := by have := blk_at HJ.out 11 rfl; rw [e] at this; exact this
    have hu : u = j.hasRead r := by rw [Hu.out]; unfold Jb.answer; rw [if_pos e]
    have EN := hasRead_any W b j K HJ.out r ko kc hr HW20.out HLW.out hc
    rw [← hu] at EN
    (try (unfold rrV at EN))
    unfold rrV
    clear hu e hp
    go_enter Tryz.func32, Tryz.ntmps32
    go_upto_region 1 with fail
    rw [← hW, ← HAe.out]
    clear hW
    go_wp2_with fail
    go_fit EN
    rintro _ w1 ⟨rfl, h1, k1⟩
    have HY : Hid ((∃ K, JbAt w1 b u K) ∧ Kept (One b) w w1) := ⟨h1, (kept_oneN KW.out).trans k1⟩
    clear h1 k1
    go_wp2
    go_end0
    exact ⟨rfl, HY.out⟩
  · have q11 : W.cell? ⟨b, 11, none⟩ = some (.int .i64 1) := by have := blk_at HJ.out 11 rfl; rw [e] at this; exact this
    have hu : u = j.hasWritten r := by rw [Hu.out]; unfold Jb.answer; rw [if_neg (by omega), if_pos e]
    have EN := hasWritten_any W b j K HJ.out r ko kc
    rw [← hu] at EN
    (try (unfold rrV at EN))
    unfold rrV
    clear hu e hp
    go_enter Tryz.func32, Tryz.ntmps32
    go_upto_region 1 with fail
    rw [← hW, ← HAe.out]
    clear hW
    go_wp2_with fail
    go_fit EN
    rintro _ w1 ⟨rfl, h1, k1⟩
    have HY : Hid ((∃ K, JbAt w1 b u K) ∧ Kept (One b) w w1) := ⟨h1, (kept_oneN KW.out).trans k1⟩
    clear h1 k1
    go_wp2
    go_end0
    exact ⟨rfl, HY.out⟩
  · have q11 : W.cell? ⟨b, 11, none⟩ = some (.int .i64 2) := by have := blk_at HJ.out 11 rfl; rw [e] at this; exact this
    have hu : u = j.hasPrepared r := by rw [Hu.out]; unfold Jb.answer; rw [if_neg (by omega), if_neg (by omega), if_pos e]
    have EN := hasPrepared_any W b j K HJ.out r ko kc
    rw [← hu] at EN
    (try (unfold rrV at EN))
    unfold rrV
    clear hu e hp
    go_enter Tryz.func32, Tryz.ntmps32
    go_upto_region 1 with fail
    rw [← hW, ← HAe.out]
    clear hW
    go_wp2_with fail
    go_fit EN
    rintro _ w1 ⟨rfl, h1, k1⟩
    have HY : Hid ((∃ K, JbAt w1 b u K) ∧ Kept (One b) w w1) := ⟨h1, (kept_oneN KW.out).trans k1⟩
    clear h1 k1
    go_wp2
    go_end0
    exact ⟨rfl, HY.out⟩
  · have q11 : W.cell? ⟨b, 11, none⟩ = some (.int .i64 3) := by have := blk_at HJ.out 11 rfl; rw [e] at this; exact this
    have hu : u = j.hasRoom r := by rw [Hu.out]; unfold Jb.answer; rw [if_neg (by omega), if_neg (by omega), if_neg (by omega), if_pos e]
    have EN := chasRoom_any W b j K HJ.out r ko kc
    rw [← hu] at EN
    (try (unfold rrV at EN))
    unfold rrV
    clear hu e hp
    go_enter Tryz.func32, Tryz.ntmps32
    go_upto_region 1 with fail
    rw [← hW, ← HAe.out]
    clear hW
    go_wp2_with fail
    go_fit EN
    rintro _ w1 ⟨rfl, h1, k1⟩
    have HY : Hid ((∃ K, JbAt w1 b u K) ∧ Kept (One b) w w1) := ⟨h1, (kept_oneN KW.out).trans k1⟩
    clear h1 k1
    go_wp2
    go_end0
    exact ⟨rfl, HY.out⟩
  · have q11 : W.cell? ⟨b, 11, none⟩ = some (.int .i64 4) := by have := blk_at HJ.out 11 rfl; rw [e] at this; exact this
    have hu : u = j.hasLooked r := by rw [Hu.out]; unfold Jb.answer; rw [if_neg (by omega), if_neg (by omega), if_neg (by omega), if_neg (by omega), if_pos e]
    have EN := hasLooked_any W b j K HJ.out r ko kc hr HW20.out HLW.out
    rw [← hu] at EN
    (try (unfold rrV at EN))
    unfold rrV
    clear hu e hp
    go_enter Tryz.func32, Tryz.ntmps32
    go_upto_region 1 with fail
    rw [← hW, ← HAe.out]
    clear hW
    go_wp2_with fail
    go_fit EN
    rintro _ w1 ⟨rfl, h1, k1⟩
    have HY : Hid ((∃ K, JbAt w1 b u K) ∧ Kept (One b) w w1) := ⟨h1, (kept_oneN KW.out).trans k1⟩
    clear h1 k1
    go_wp2
    go_end0
    exact ⟨rfl, HY.out⟩
  · have q11 : W.cell? ⟨b, 11, none⟩ = some (.int .i64 5) := by have := blk_at HJ.out 11 rfl; rw [e] at this; exact this
    have hu : u = j.hasPut r := by rw [Hu.out]; unfold Jb.answer; rw [if_neg (by omega), if_neg (by omega), if_neg (by omega), if_neg (by omega), if_neg (by omega), if_pos e]
    have EN := hasPut_any W b j K HJ.out r ko kc
    rw [← hu] at EN
    (try (unfold rrV at EN))
    unfold rrV
    clear hu e hp
    go_enter Tryz.func32, Tryz.ntmps32
    go_upto_region 1 with fail
    rw [← hW, ← HAe.out]
    clear hW
    go_wp2_with fail
    go_fit EN
    rintro _ w1 ⟨rfl, h1, k1⟩
    have HY : Hid ((∃ K, JbAt w1 b u K) ∧ Kept (One b) w w1) := ⟨h1, (kept_oneN KW.out).trans k1⟩
    clear h1 k1
    go_wp2
    go_end0
    exact ⟨rfl, HY.out⟩
  · have q11 : W.cell? ⟨b, 11, none⟩ = some (.int .i64 6) := by have := blk_at HJ.out 11 rfl; rw [e] at this; exact this
    have hu : u = j.hasSealed := by rw [Hu.out]; unfold Jb.answer; rw [if_neg (by omega), if_neg (by omega), if_neg (by omega), if_neg (by omega), if_neg (by omega), if_neg (by omega), if_pos e]
    have EN := hasSealed_any W b j K HJ.out
    rw [← hu] at EN
    (try (unfold rrV at EN))
    unfold rrV
    clear hu e hp
    go_enter Tryz.func32, Tryz.ntmps32
    go_upto_region 1 with fail
    rw [← hW, ← HAe.out]
    clear hW
    go_wp2_with fail
    go_fit EN
    rintro _ w1 ⟨rfl, h1, k1⟩
    have HY : Hid ((∃ K, JbAt w1 b u K) ∧ Kept (One b) w w1) := ⟨h1, (kept_oneN KW.out).trans k1⟩
    clear h1 k1
    go_wp2
    go_end0
    exact ⟨rfl, HY.out⟩
  · have q11 : W.cell? ⟨b, 11, none⟩ = some (.int .i64 7) := by have := blk_at HJ.out 11 rfl; rw [e] at this; exact this
    have hu : u = j := by rw [Hu.out]; unfold Jb.answer; rw [if_neg (by omega), if_neg (by omega), if_neg (by omega), if_neg (by omega), if_neg (by omega), if_neg (by omega), if_neg (by omega)]
    unfold rrV
    clear e hp
    go_enter Tryz.func32, Tryz.ntmps32
    go_upto_region 1 with fail
    rw [← hW, ← HAe.out]
    clear hW
    go_wp2
    go_end0
    rw [hu]
    exact ⟨rfl, ⟨K, HJ.out⟩, kept_oneN KW.out⟩
def stV (j : Jb) (K : Jk) : Value := .agg #[.int .i64 j.st, .int .i64 j.at', .int .i64 j.rs.kd, .string (bs j.rs.v), .int .i64 j.rs.n, .slice K.ro j.rs.ks.length K.rc]
theorem gput6 {w : World} {R : Nat} {t : TypeId} {p0 p1 p2 p3 p4 p5 x0 x1 x2 x3 x4 x5 : Value} (h : w.heap[R]? = some (.cells #[p0, p1, p2, p3, p4, p5] t (0, 0))) : ((((((w.setCell ⟨R, 0, none⟩ x0).setCell ⟨R, 1, none⟩ x1).setCell ⟨R, 2, none⟩ x2).setCell ⟨R, 3, none⟩ x3).setCell ⟨R, 4, none⟩ x4).setCell ⟨R, 5, none⟩ x5).heap[R]? = some (.cells #[x0, x1, x2, x3, x4, x5] t (0, 0)) := by
  have h0 := blk_set h 0 x0
  have h1 := blk_set h0 1 x1
  have h2 := blk_set h1 2 x2
  have h3 := blk_set h2 3 x3
  have h4 := blk_set h3 4 x4
  have h5 := blk_set h4 5 x5
  simpa using h5
set_option maxRecDepth 100000 in
set_option maxHeartbeats 4000000 in
theorem clook_any (w : World) (b : Nat) (j : Jb) (K : Jn) (h : JbAt w b j K) :
    Calls Tryz.prog 28 #[.pointer (some ⟨b, 0, none⟩)] w fun e w' => e = .returned (stV j K.toJk) ∧ Kept Nil w w' := by
  obtain ⟨W, hW⟩ : ∃ W, W = w.alloc (.cells #[.int .i64 0, .int .i64 0, .int .i64 0, .string ⟨#[]⟩, .int .i64 0, .slice none 0 0] 76) := ⟨_, rfl⟩
  obtain ⟨R, HRe⟩ : ∃ A, Hid (A = w.heap.size) := ⟨_, rfl⟩
  have KW : Hid (Kept Nil w W) := by rw [hW]; exact (Kept.refl _ _).alloc _
  have HR : Hid (W.heap[R]? = some (.cells #[.int .i64 0, .int .i64 0, .int .i64 0, .string ⟨#[]⟩, .int .i64 0, .slice none 0 0] 76 (0, 0))) := by rw [hW, HRe.out]; exact blk_new _ _
  have HRw : Hid (w.heap.size ≤ R) := by show _ ≤ _; rw [HRe.out]; exact Nat.le_refl _
  have HJ : Hid (JbAt W b j K) := h.kept KW.out
  have hbR : b ≠ R := by rw [HRe.out]; have := lt_of_block h; omega
  have hRb : R ≠ b := fun e => hbR e.symm
  clear h
  have q5 : W.cell? ⟨b, 5, none⟩ = some (.int .i64 j.st) := blk_at HJ.out 5 rfl
  have q6 : W.cell? ⟨b, 6, none⟩ = some (.int .i64 j.at') := blk_at HJ.out 6 rfl
  have q7 : W.cell? ⟨b, 7, none⟩ = some (.int .i64 j.rs.kd) := blk_at HJ.out 7 rfl
  have q8 : W.cell? ⟨b, 8, none⟩ = some (.string (bs j.rs.v)) := blk_at HJ.out 8 rfl
  have q9 : W.cell? ⟨b, 9, none⟩ = some (.int .i64 j.rs.n) := blk_at HJ.out 9 rfl
  have q10 : W.cell? ⟨b, 10, none⟩ = some (.slice K.ro j.rs.ks.length K.rc) := blk_at HJ.out 10 rfl
  have n0 : W.cell? ⟨R, 0, none⟩ = some (.int .i64 0) := blk_at HR.out 0 rfl
  have o0 := blk_free HR.out 0
  have n1 : W.cell? ⟨R, 1, none⟩ = some (.int .i64 0) := blk_at HR.out 1 rfl
  have o1 := blk_free HR.out 1
  have n2 : W.cell? ⟨R, 2, none⟩ = some (.int .i64 0) := blk_at HR.out 2 rfl
  have o2 := blk_free HR.out 2
  have n3 : W.cell? ⟨R, 3, none⟩ = some (.string ⟨#[]⟩) := blk_at HR.out 3 rfl
  have o3 := blk_free HR.out 3
  have n4 : W.cell? ⟨R, 4, none⟩ = some (.int .i64 0) := blk_at HR.out 4 rfl
  have o4 := blk_free HR.out 4
  have n5 : W.cell? ⟨R, 5, none⟩ = some (.slice none 0 0) := blk_at HR.out 5 rfl
  have o5 := blk_free HR.out 5
  obtain ⟨Y, hY⟩ : ∃ Y, Y = ((((((W.setCell ⟨R, 0, none⟩ (.int .i64 j.st)).setCell ⟨R, 1, none⟩ (.int .i64 j.at')).setCell ⟨R, 2, none⟩ (.int .i64 j.rs.kd)).setCell ⟨R, 3, none⟩ (.string (bs j.rs.v))).setCell ⟨R, 4, none⟩ (.int .i64 j.rs.n)).setCell ⟨R, 5, none⟩ (.slice K.ro j.rs.ks.length K.rc)) := ⟨_, rfl⟩
  have HY : Hid (Y.heap[R]? = some (.cells #[.int .i64 j.st, .int .i64 j.at', .int .i64 j.rs.kd, .string (bs j.rs.v), .int .i64 j.rs.n, .slice K.ro j.rs.ks.length K.rc] 76 (0, 0)) ∧ Kept Nil w Y) := by rw [hY]; exact ⟨gput6 HR.out, ((((((KW.out.setNew (p := ⟨R, 0, none⟩) HRw.out _).setNew (p := ⟨R, 1, none⟩) HRw.out _).setNew (p := ⟨R, 2, none⟩) HRw.out _).setNew (p := ⟨R, 3, none⟩) HRw.out _).setNew (p := ⟨R, 4, none⟩) HRw.out _).setNew (p := ⟨R, 5, none⟩) HRw.out _)⟩
  go_enter Tryz.func28, Tryz.ntmps28
  go_upto_region 1 with fail
  rw [← hW, ← HRe.out]
  clear hW
  go_wp2
  rw [← hY]
  have j0 := blk_at HY.out.1 0 rfl
  have j1 := blk_at HY.out.1 1 rfl
  have j2 := blk_at HY.out.1 2 rfl
  have j3 := blk_at HY.out.1 3 rfl
  have j4 := blk_at HY.out.1 4 rfl
  have j5 := blk_at HY.out.1 5 rfl
  exact bodyPost_ret (v := stV j K.toJk) (by simp [results, Tryz.results28, go_sem, j0, j1, j2, j3, j4, j5, stV]) rfl ⟨rfl, HY.out.2⟩
end Go.Proofs.YtflnjlbafchnaaaGreatDoor

/-
  Cells: Status (the document's).
-/
namespace Go.Proofs.YtflnjlbafchnaaaGreatDoor
open Go.RowKit

theorem blk_drew0 {w : World} {R : Nat} {o : Option Obj} (h : w.heap[R]? = o) : w.drew.heap[R]? = o := h
set_option maxRecDepth 100000 in
set_option maxHeartbeats 1000000 in
theorem jstatus_any (w : World) (b : Nat) (j : Jb) (K : Jk) (h : JdAt w b j K) :
    Calls Tryz.prog 29 #[.pointer (some ⟨b, 0, none⟩)] w fun e w' => e = .returned (stV j K) ∧ Kept Nil w w' := by
  obtain ⟨W, hW⟩ : ∃ W, W = w.alloc (.cells #[.int .i64 0, .int .i64 0, .int .i64 0, .string ⟨#[]⟩, .int .i64 0, .slice none 0 0] 76) := ⟨_, rfl⟩
  obtain ⟨R, HRe⟩ : ∃ A, Hid (A = w.heap.size) := ⟨_, rfl⟩
  have KW : Hid (Kept Nil w W) := by rw [hW]; exact (Kept.refl _ _).alloc _
  have HR : Hid (W.heap[R]? = some (.cells #[.int .i64 0, .int .i64 0, .int .i64 0, .string ⟨#[]⟩, .int .i64 0, .slice none 0 0] 76 (0, 0))) := by rw [hW, HRe.out]; exact blk_new _ _
  have HRw : Hid (w.heap.size ≤ R) := by show _ ≤ _; rw [HRe.out]; exact Nat.le_refl _
  have HJ : Hid (JdAt W b j K) := h.kept KW.out
  have hbR : b ≠ R := by rw [HRe.out]; have := lt_of_block h; omega
  have hRb : R ≠ b := fun e => hbR e.symm
  have hlb : b < W.heap.size := lt_of_block HJ.out
  have hlR : R < W.heap.size := lt_of_block HR.out
  clear h
  have q0 : W.cell? ⟨b, 0, none⟩ = some (.int .i64 j.at') := blk_at HJ.out 0 rfl
  have q20 : W.cell? ⟨b, 20, none⟩ = some (.int .i64 j.st) := blk_at HJ.out 20 rfl
  have q21 : W.cell? ⟨b, 21, none⟩ = some (.int .i64 j.rs.kd) := blk_at HJ.out 21 rfl
  have q22 : W.cell? ⟨b, 22, none⟩ = some (.string (bs j.rs.v)) := blk_at HJ.out 22 rfl
  have q23 : W.cell? ⟨b, 23, none⟩ = some (.int .i64 j.rs.n) := blk_at HJ.out 23 rfl
  have q24 : W.cell? ⟨b, 24, none⟩ = some (.slice K.ro j.rs.ks.length K.rc) := blk_at HJ.out 24 rfl
  have n0 : W.cell? ⟨R, 0, none⟩ = some (.int .i64 0) := blk_at HR.out 0 rfl
  have o0 := blk_free HR.out 0
  have n1 : W.cell? ⟨R, 1, none⟩ = some (.int .i64 0) := blk_at HR.out 1 rfl
  have o1 := blk_free HR.out 1
  have n2 : W.cell? ⟨R, 2, none⟩ = some (.int .i64 0) := blk_at HR.out 2 rfl
  have o2 := blk_free HR.out 2
  have n3 : W.cell? ⟨R, 3, none⟩ = some (.string ⟨#[]⟩) := blk_at HR.out 3 rfl
  have o3 := blk_free HR.out 3
  have n4 : W.cell? ⟨R, 4, none⟩ = some (.int .i64 0) := blk_at HR.out 4 rfl
  have o4 := blk_free HR.out 4
  have n5 : W.cell? ⟨R, 5, none⟩ = some (.slice none 0 0) := blk_at HR.out 5 rfl
  have o5 := blk_free HR.out 5
  obtain ⟨Y, hY⟩ : ∃ Y, Y = ((((((W.setCell ⟨R, 0, none⟩ (.int .i64 j.st)).setCell ⟨R, 1, none⟩ (.int .i64 j.at')).setCell ⟨R, 2, none⟩ (.int .i64 j.rs.kd)).setCell ⟨R, 3, none⟩ (.string (bs j.rs.v))).setCell ⟨R, 4, none⟩ (.int .i64 j.rs.n)).setCell ⟨R, 5, none⟩ (.slice K.ro j.rs.ks.length K.rc)).drew := ⟨_, rfl⟩
  have HY : Hid (Y.heap[R]? = some (.cells #[.int .i64 j.st, .int .i64 j.at', .int .i64 j.rs.kd, .string (bs j.rs.v), .int .i64 j.rs.n, .slice K.ro j.rs.ks.length K.rc] 76 (0, 0)) ∧ Kept Nil w Y) := by rw [hY]; exact ⟨blk_drew0 (gput6 HR.out), ((((((KW.out.setNew (p := ⟨R, 0, none⟩) HRw.out _).setNew (p := ⟨R, 1, none⟩) HRw.out _).setNew (p := ⟨R, 2, none⟩) HRw.out _).setNew (p := ⟨R, 3, none⟩) HRw.out _).setNew (p := ⟨R, 4, none⟩) HRw.out _).setNew (p := ⟨R, 5, none⟩) HRw.out _).drew⟩
  go_enter Tryz.func29, Tryz.ntmps29
  go_upto_region 1 with fail
  rw [← hW, ← HRe.out]
  clear hW
  go_region
  all_goals
    go_wp2
    rw [← hY]
    have j0 := blk_at HY.out.1 0 rfl
    have j1 := blk_at HY.out.1 1 rfl
    have j2 := blk_at HY.out.1 2 rfl
    have j3 := blk_at HY.out.1 3 rfl
    have j4 := blk_at HY.out.1 4 rfl
    have j5 := blk_at HY.out.1 5 rfl
    exact bodyPost_ret (v := stV j K) (by simp [results, Tryz.results29, go_sem, j0, j1, j2, j3, j4, j5, stV]) rfl ⟨rfl, HY.out.2⟩
end Go.Proofs.YtflnjlbafchnaaaGreatDoor
