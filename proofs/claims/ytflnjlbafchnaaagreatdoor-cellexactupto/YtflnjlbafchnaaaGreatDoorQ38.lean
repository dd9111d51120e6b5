/-
  Joined: WCg8.
-/
import Derived.Test.YtflnjlbafchnaaaGreatDoorQ37
/-
  Cells: Next (the program).
-/
namespace Go.Proofs.YtflnjlbafchnaaaGreatDoor
open Go.RowKit

def CNPost (w : World) (x : Nat × Cd × Bool) (e : Ending) (w' : World) : Prop := e = .returned (.tuple #[.int .i64 x.1, cdV x.2.1, .bool x.2.2]) ∧ Kept Nil w w'
set_option maxRecDepth 100000 in
set_option maxHeartbeats 4000000 in
theorem cnext0_any (w : World) (b : Nat) (j : Jb) (K : Jn) (h : JbAt w b j K) (hp : j.ph = 0) (o : j.Ok) (hL : LW w) :
    Calls Tryz.prog 25 #[.pointer (some ⟨b, 0, none⟩)] w (CNPost w j.next) := by
  have hn : j.next = (j.at', getC (cKey j.k), true) := by unfold Jb.next; rw [if_pos hp]
  rw [hn]
  have hk := o.k2
  obtain ⟨W, hW⟩ : ∃ W, W = w.alloc (.cells #[.int .i64 0, .string ⟨#[]⟩, .string ⟨#[]⟩, .int .i64 0] 31) := ⟨_, rfl⟩
  obtain ⟨R, HRe⟩ : ∃ A, Hid (A = w.heap.size) := ⟨_, rfl⟩
  have KW : Hid (Kept Nil w W) := by rw [hW]; exact (Kept.refl _ _).alloc _
  have HR : Hid (W.heap[R]? = some (.cells #[.int .i64 0, .string ⟨#[]⟩, .string ⟨#[]⟩, .int .i64 0] 31 (0, 0))) := by rw [hW, HRe.out]; exact blk_new _ _
  have HRw : Hid (w.heap.size ≤ R) := by show _ ≤ _; rw [HRe.out]; exact Nat.le_refl _
  have HJ : Hid (JbAt W b j K) := h.kept KW.out
  have HLW : Hid (LW W) := hL.kept KW.out
  have hlb : b < W.heap.size := lt_of_block HJ.out
  have hlR : R < W.heap.size := lt_of_block HR.out
  have hbR : b ≠ R := by rw [HRe.out]; have := lt_of_block h; omega
  have hRb : R ≠ b := fun e => hbR e.symm
  obtain ⟨cd, Hcd⟩ : ∃ c, Hid (c = getC (cKey j.k)) := ⟨_, rfl⟩
  rw [← Hcd.out]
  have GC : ∀ X, Kept Nil W X → Calls Tryz.prog 77 #[.string (bs j.k)] X fun e w' => e = .returned (cdV cd) ∧ Kept Nil X w' := fun X _ => by rw [Hcd.out]; exact cgetCommand_any j.k (by omega) X
  clear h hL hn
  have q1 : W.cell? ⟨b, 1, none⟩ = some (.string (bs j.k)) := blk_at HJ.out 1 rfl
  have q6 : W.cell? ⟨b, 6, none⟩ = some (.int .i64 j.at') := blk_at HJ.out 6 rfl
  have q16 : W.cell? ⟨b, 16, none⟩ = some (.int .i64 j.sn.g) := blk_at HJ.out 16 rfl
  go_enter Tryz.func25, Tryz.ntmps25
  go_upto_region 1 with fail
  rw [← hW, ← HRe.out]
  clear hW
  go_region
  all_goals
    go_upto_region 2 with fail
    have HJd : Hid (JbAt W.drew b j K) := HJ.out.drew
    have HRd : Hid (W.drew.heap[R]? = some (.cells #[.int .i64 0, .string ⟨#[]⟩, .string ⟨#[]⟩, .int .i64 0] 31 (0, 0))) := HR.out
    have d11 : W.drew.cell? ⟨b, 11, none⟩ = some (.int .i64 0) := by have := blk_at HJd.out 11 rfl; rw [hp] at this; exact this
    go_wp2_with fail
    go_fit (GC W.drew (Kept.refl _ _).drew)
    rintro _ wa ⟨rfl, ka⟩
    have Ka : Hid (Kept Nil W wa) := (Kept.refl _ _).drew.trans ka
    have HRa : Hid (wa.heap[R]? = some (.cells #[.int .i64 0, .string ⟨#[]⟩, .string ⟨#[]⟩, .int .i64 0] 31 (0, 0))) := Ka.out.block _ _ HR.out (fun x => x)
    clear ka
    have n0 : wa.cell? ⟨R, 0, none⟩ = some (.int .i64 0) := blk_at HRa.out 0 rfl
    have o0 := blk_free HRa.out 0
    have n1 : wa.cell? ⟨R, 1, none⟩ = some (.string ⟨#[]⟩) := blk_at HRa.out 1 rfl
    have o1 := blk_free HRa.out 1
    have n2 : wa.cell? ⟨R, 2, none⟩ = some (.string ⟨#[]⟩) := blk_at HRa.out 2 rfl
    have o2 := blk_free HRa.out 2
    have n3 : wa.cell? ⟨R, 3, none⟩ = some (.int .i64 0) := blk_at HRa.out 3 rfl
    have o3 := blk_free HRa.out 3
    unfold cdV
    obtain ⟨Y, hY⟩ : ∃ Y, Y = (((wa.setCell ⟨R, 0, none⟩ (.int .i64 cd.kd)).setCell ⟨R, 1, none⟩ (.string (bs cd.k))).setCell ⟨R, 2, none⟩ (.string (bs cd.v))).setCell ⟨R, 3, none⟩ (.int .i64 cd.m) := ⟨_, rfl⟩
    have HY : Hid (Y.heap[R]? = some (.cells #[.int .i64 cd.kd, .string (bs cd.k), .string (bs cd.v), .int .i64 cd.m] 31 (0, 0)) ∧ Kept Nil w Y) := by rw [hY]; exact ⟨gput4 HRa.out, ((((KW.out.trans Ka.out).setNew (p := ⟨R, 0, none⟩) HRw.out _).setNew (p := ⟨R, 1, none⟩) HRw.out _).setNew (p := ⟨R, 2, none⟩) HRw.out _).setNew (p := ⟨R, 3, none⟩) HRw.out _⟩
    go_wp2
    rw [← hY]
    have j0 := blk_at HY.out.1 0 rfl
    have j1 := blk_at HY.out.1 1 rfl
    have j2 := blk_at HY.out.1 2 rfl
    have j3 := blk_at HY.out.1 3 rfl
    exact bodyPost_ret (v := .tuple #[.int .i64 j.at', cdV cd, .bool true]) (by simp [results, Tryz.results25, go_sem, j0, j1, j2, j3, cdV]) rfl ⟨rfl, HY.out.2⟩
set_option maxRecDepth 100000 in
set_option maxHeartbeats 4000000 in
theorem cnext4_any (w : World) (b : Nat) (j : Jb) (K : Jn) (h : JbAt w b j K) (hp : j.ph = 4) (o : j.Ok) (hL : LW w) :
    Calls Tryz.prog 25 #[.pointer (some ⟨b, 0, none⟩)] w (CNPost w j.next) := by
  have hn : j.next = (j.sn.g, getC (cKey j.k), true) := by unfold Jb.next; rw [if_neg (by omega), if_neg (by omega), if_neg (by omega), if_neg (by omega), if_pos hp]
  rw [hn]
  have hk := o.k2
  obtain ⟨W, hW⟩ : ∃ W, W = w.alloc (.cells #[.int .i64 0, .string ⟨#[]⟩, .string ⟨#[]⟩, .int .i64 0] 31) := ⟨_, rfl⟩
  obtain ⟨R, HRe⟩ : ∃ A, Hid (A = w.heap.size) := ⟨_, rfl⟩
  have KW : Hid (Kept Nil w W) := by rw [hW]; exact (Kept.refl _ _).alloc _
  have HR : Hid (W.heap[R]? = some (.cells #[.int .i64 0, .string ⟨#[]⟩, .string ⟨#[]⟩, .int .i64 0] 31 (0, 0))) := by rw [hW, HRe.out]; exact blk_new _ _
  have HRw : Hid (w.heap.size ≤ R) := by show _ ≤ _; rw [HRe.out]; exact Nat.le_refl _
  have HJ : Hid (JbAt W b j K) := h.kept KW.out
  have HLW : Hid (LW W) := hL.kept KW.out
  have hlb : b < W.heap.size := lt_of_block HJ.out
  have hlR : R < W.heap.size := lt_of_block HR.out
  have hbR : b ≠ R := by rw [HRe.out]; have := lt_of_block h; omega
  have hRb : R ≠ b := fun e => hbR e.symm
  obtain ⟨cd, Hcd⟩ : ∃ c, Hid (c = getC (cKey j.k)) := ⟨_, rfl⟩
  rw [← Hcd.out]
  have GC : ∀ X, Kept Nil W X → Calls Tryz.prog 77 #[.string (bs j.k)] X fun e w' => e = .returned (cdV cd) ∧ Kept Nil X w' := fun X _ => by rw [Hcd.out]; exact cgetCommand_any j.k (by omega) X
  clear h hL hn
  have q1 : W.cell? ⟨b, 1, none⟩ = some (.string (bs j.k)) := blk_at HJ.out 1 rfl
  have q6 : W.cell? ⟨b, 6, none⟩ = some (.int .i64 j.at') := blk_at HJ.out 6 rfl
  have q16 : W.cell? ⟨b, 16, none⟩ = some (.int .i64 j.sn.g) := blk_at HJ.out 16 rfl
  go_enter Tryz.func25, Tryz.ntmps25
  go_upto_region 1 with fail
  rw [← hW, ← HRe.out]
  clear hW
  go_region
  all_goals
    go_upto_region 2 with fail
    have HJd : Hid (JbAt W.drew b j K) := HJ.out.drew
    have HRd : Hid (W.drew.heap[R]? = some (.cells #[.int .i64 0, .string ⟨#[]⟩, .string ⟨#[]⟩, .int .i64 0] 31 (0, 0))) := HR.out
    have d11 : W.drew.cell? ⟨b, 11, none⟩ = some (.int .i64 4) := by have := blk_at HJd.out 11 rfl; rw [hp] at this; exact this
    go_wp2_with fail
    go_fit (GC W.drew (Kept.refl _ _).drew)
    rintro _ wa ⟨rfl, ka⟩
    have Ka : Hid (Kept Nil W wa) := (Kept.refl _ _).drew.trans ka
    have HRa : Hid (wa.heap[R]? = some (.cells #[.int .i64 0, .string ⟨#[]⟩, .string ⟨#[]⟩, .int .i64 0] 31 (0, 0))) := Ka.out.block _ _ HR.out (fun x => x)
    clear ka
    have n0 : wa.cell? ⟨R, 0, none⟩ = some (.int .i64 0) := blk_at HRa.out 0 rfl
    have o0 := blk_free HRa.out 0
    have n1 : wa.cell? ⟨R, 1, none⟩ = some (.string ⟨#[]⟩) := blk_at HRa.out 1 rfl
    have o1 := blk_free HRa.out 1
    have n2 : wa.cell? ⟨R, 2, none⟩ = some (.string ⟨#[]⟩) := blk_at HRa.out 2 rfl
    have o2 := blk_free HRa.out 2
    have n3 : wa.cell? ⟨R, 3, none⟩ = some (.int .i64 0) := blk_at HRa.out 3 rfl
    have o3 := blk_free HRa.out 3
    unfold cdV
    obtain ⟨Y, hY⟩ : ∃ Y, Y = (((wa.setCell ⟨R, 0, none⟩ (.int .i64 cd.kd)).setCell ⟨R, 1, none⟩ (.string (bs cd.k))).setCell ⟨R, 2, none⟩ (.string (bs cd.v))).setCell ⟨R, 3, none⟩ (.int .i64 cd.m) := ⟨_, rfl⟩
    have HY : Hid (Y.heap[R]? = some (.cells #[.int .i64 cd.kd, .string (bs cd.k), .string (bs cd.v), .int .i64 cd.m] 31 (0, 0)) ∧ Kept Nil w Y) := by rw [hY]; exact ⟨gput4 HRa.out, ((((KW.out.trans Ka.out).setNew (p := ⟨R, 0, none⟩) HRw.out _).setNew (p := ⟨R, 1, none⟩) HRw.out _).setNew (p := ⟨R, 2, none⟩) HRw.out _).setNew (p := ⟨R, 3, none⟩) HRw.out _⟩
    go_wp2
    rw [← hY]
    have j0 := blk_at HY.out.1 0 rfl
    have j1 := blk_at HY.out.1 1 rfl
    have j2 := blk_at HY.out.1 2 rfl
    have j3 := blk_at HY.out.1 3 rfl
    exact bodyPost_ret (v := .tuple #[.int .i64 j.sn.g, cdV cd, .bool true]) (by simp [results, Tryz.results25, go_sem, j0, j1, j2, j3, cdV]) rfl ⟨rfl, HY.out.2⟩
set_option maxRecDepth 100000 in
set_option maxHeartbeats 4000000 in
theorem cnext2_any (w : World) (b : Nat) (j : Jb) (K : Jn) (h : JbAt w b j K) (hp : j.ph = 2) (o : j.Ok) (hL : LW w) :
    Calls Tryz.prog 25 #[.pointer (some ⟨b, 0, none⟩)] w (CNPost w j.next) := by
  have hn : j.next = (j.tg, getC (cKey j.k), true) := by unfold Jb.next; rw [if_neg (by omega), if_neg (by omega), if_pos hp]
  rw [hn]
  have hk := o.k2
  obtain ⟨W, hW⟩ : ∃ W, W = w.alloc (.cells #[.int .i64 0, .string ⟨#[]⟩, .string ⟨#[]⟩, .int .i64 0] 31) := ⟨_, rfl⟩
  obtain ⟨R, HRe⟩ : ∃ A, Hid (A = w.heap.size) := ⟨_, rfl⟩
  have KW : Hid (Kept Nil w W) := by rw [hW]; exact (Kept.refl _ _).alloc _
  have HR : Hid (W.heap[R]? = some (.cells #[.int .i64 0, .string ⟨#[]⟩, .string ⟨#[]⟩, .int .i64 0] 31 (0, 0))) := by rw [hW, HRe.out]; exact blk_new _ _
  have HRw : Hid (w.heap.size ≤ R) := by show _ ≤ _; rw [HRe.out]; exact Nat.le_refl _
  have HJ : Hid (JbAt W b j K) := h.kept KW.out
  have HLW : Hid (LW W) := hL.kept KW.out
  have hlb : b < W.heap.size := lt_of_block HJ.out
  have hlR : R < W.heap.size := lt_of_block HR.out
  have hbR : b ≠ R := by rw [HRe.out]; have := lt_of_block h; omega
  have hRb : R ≠ b := fun e => hbR e.symm
  obtain ⟨cd, Hcd⟩ : ∃ c, Hid (c = getC (cKey j.k)) := ⟨_, rfl⟩
  rw [← Hcd.out]
  have GC : ∀ X, Kept Nil W X → Calls Tryz.prog 77 #[.string (bs j.k)] X fun e w' => e = .returned (cdV cd) ∧ Kept Nil X w' := fun X _ => by rw [Hcd.out]; exact cgetCommand_any j.k (by omega) X
  clear h hL hn
  have q1 : W.cell? ⟨b, 1, none⟩ = some (.string (bs j.k)) := blk_at HJ.out 1 rfl
  have q6 : W.cell? ⟨b, 6, none⟩ = some (.int .i64 j.at') := blk_at HJ.out 6 rfl
  have q16 : W.cell? ⟨b, 16, none⟩ = some (.int .i64 j.sn.g) := blk_at HJ.out 16 rfl
  go_enter Tryz.func25, Tryz.ntmps25
  go_upto_region 1 with fail
  rw [← hW, ← HRe.out]
  clear hW
  go_region
  all_goals
    go_upto_region 2 with fail
    have HJd : Hid (JbAt W.drew b j K) := HJ.out.drew
    have HRd : Hid (W.drew.heap[R]? = some (.cells #[.int .i64 0, .string ⟨#[]⟩, .string ⟨#[]⟩, .int .i64 0] 31 (0, 0))) := HR.out
    have d11 : W.drew.cell? ⟨b, 11, none⟩ = some (.int .i64 2) := by have := blk_at HJd.out 11 rfl; rw [hp] at this; exact this
    have d4 : W.drew.cell? ⟨b, 4, none⟩ = some (.int .i64 j.tg) := blk_at HJd.out 4 rfl
    go_upto_region 8 with fail
    go_region_with (first | (go_at_call 77; go_must (go_fit (GC _ (by repeat (first | exact Kept.refl _ _ | refine Kept.drew ?_)))); rintro _ wa ⟨rfl, ka⟩; have Ka : Hid (Kept Nil W wa) := Kept.trans (by repeat (first | exact Kept.refl _ _ | refine Kept.drew ?_)) ka; have HRa : Hid (wa.heap[R]? = some (.cells #[.int .i64 0, .string ⟨#[]⟩, .string ⟨#[]⟩, .int .i64 0] 31 (0, 0))) := Ka.out.block _ _ HR.out (fun x => x); clear ka; have n0 : wa.cell? ⟨R, 0, none⟩ = some (.int .i64 0) := blk_at HRa.out 0 rfl; have o0 := blk_free HRa.out 0; have n1 : wa.cell? ⟨R, 1, none⟩ = some (.string ⟨#[]⟩) := blk_at HRa.out 1 rfl; have o1 := blk_free HRa.out 1; have n2 : wa.cell? ⟨R, 2, none⟩ = some (.string ⟨#[]⟩) := blk_at HRa.out 2 rfl; have o2 := blk_free HRa.out 2; have n3 : wa.cell? ⟨R, 3, none⟩ = some (.int .i64 0) := blk_at HRa.out 3 rfl; have o3 := blk_free HRa.out 3; have HJea : Hid (JbAt wa b j K) := HJ.out.kept Ka.out; have ea4 : wa.cell? ⟨b, 4, none⟩ = some (.int .i64 j.tg) := blk_at HJea.out 4 rfl; unfold cdV))
    all_goals
      obtain ⟨Y, hY⟩ : ∃ Y, Y = (((wa.setCell ⟨R, 0, none⟩ (.int .i64 cd.kd)).setCell ⟨R, 1, none⟩ (.string (bs cd.k))).setCell ⟨R, 2, none⟩ (.string (bs cd.v))).setCell ⟨R, 3, none⟩ (.int .i64 cd.m) := ⟨_, rfl⟩
      have HY : Hid (Y.heap[R]? = some (.cells #[.int .i64 cd.kd, .string (bs cd.k), .string (bs cd.v), .int .i64 cd.m] 31 (0, 0)) ∧ Kept Nil w Y) := by rw [hY]; exact ⟨gput4 HRa.out, ((((KW.out.trans Ka.out).setNew (p := ⟨R, 0, none⟩) HRw.out _).setNew (p := ⟨R, 1, none⟩) HRw.out _).setNew (p := ⟨R, 2, none⟩) HRw.out _).setNew (p := ⟨R, 3, none⟩) HRw.out _⟩
      go_wp2
      rw [← hY]
      have j0 := blk_at HY.out.1 0 rfl
      have j1 := blk_at HY.out.1 1 rfl
      have j2 := blk_at HY.out.1 2 rfl
      have j3 := blk_at HY.out.1 3 rfl
      exact bodyPost_ret (v := .tuple #[.int .i64 j.tg, cdV cd, .bool true]) (by simp [results, Tryz.results25, go_sem, j0, j1, j2, j3, cdV]) rfl ⟨rfl, HY.out.2⟩
set_option maxRecDepth 100000 in
set_option maxHeartbeats 4000000 in
theorem cnext1_any (w : World) (b : Nat) (j : Jb) (K : Jn) (h : JbAt w b j K) (hp : j.ph = 1) (o : j.Ok) (hL : LW w) :
    Calls Tryz.prog 25 #[.pointer (some ⟨b, 0, none⟩)] w (CNPost w j.next) := by
  have hn : j.next = (j.at', swapC (cKey j.k) (ceTxt j.nx) j.sv, true) := by unfold Jb.next; rw [if_neg (by omega), if_pos hp]
  rw [hn]
  have hk := o.k2
  obtain ⟨W, hW⟩ : ∃ W, W = w.alloc (.cells #[.int .i64 0, .string ⟨#[]⟩, .string ⟨#[]⟩, .int .i64 0] 31) := ⟨_, rfl⟩
  obtain ⟨R, HRe⟩ : ∃ A, Hid (A = w.heap.size) := ⟨_, rfl⟩
  have KW : Hid (Kept Nil w W) := by rw [hW]; exact (Kept.refl _ _).alloc _
  have HR : Hid (W.heap[R]? = some (.cells #[.int .i64 0, .string ⟨#[]⟩, .string ⟨#[]⟩, .int .i64 0] 31 (0, 0))) := by rw [hW, HRe.out]; exact blk_new _ _
  have HRw : Hid (w.heap.size ≤ R) := by show _ ≤ _; rw [HRe.out]; exact Nat.le_refl _
  have HJ : Hid (JbAt W b j K) := h.kept KW.out
  have HLW : Hid (LW W) := hL.kept KW.out
  have hlb : b < W.heap.size := lt_of_block HJ.out
  have hlR : R < W.heap.size := lt_of_block HR.out
  have hbR : b ≠ R := by rw [HRe.out]; have := lt_of_block h; omega
  have hRb : R ≠ b := fun e => hbR e.symm
  obtain ⟨cd, Hcd⟩ : ∃ c, Hid (c = swapC (cKey j.k) (ceTxt j.nx) j.sv) := ⟨_, rfl⟩
  rw [← Hcd.out]
  have SC : ∀ X, Kept Nil W X → Calls Tryz.prog 78 #[.string (bs j.k), ceV j.nx, .int .i64 j.sv] X fun e w' => e = .returned (cdV cd) ∧ Kept Nil X w' := fun X kX => by rw [Hcd.out]; exact cswap_any j.k j.nx j.sv X (by omega) (o.nx (.inl hp)) (HLW.out.kept kX)
  unfold ceV at SC
  clear h hL hn
  have q1 : W.cell? ⟨b, 1, none⟩ = some (.string (bs j.k)) := blk_at HJ.out 1 rfl
  have q6 : W.cell? ⟨b, 6, none⟩ = some (.int .i64 j.at') := blk_at HJ.out 6 rfl
  have q16 : W.cell? ⟨b, 16, none⟩ = some (.int .i64 j.sn.g) := blk_at HJ.out 16 rfl
  go_enter Tryz.func25, Tryz.ntmps25
  go_upto_region 1 with fail
  rw [← hW, ← HRe.out]
  clear hW
  go_region
  all_goals
    go_upto_region 2 with fail
    have HJd : Hid (JbAt W.drew b j K) := HJ.out.drew
    have HRd : Hid (W.drew.heap[R]? = some (.cells #[.int .i64 0, .string ⟨#[]⟩, .string ⟨#[]⟩, .int .i64 0] 31 (0, 0))) := HR.out
    have d11 : W.drew.cell? ⟨b, 11, none⟩ = some (.int .i64 1) := by have := blk_at HJd.out 11 rfl; rw [hp] at this; exact this
    have d17 : W.drew.cell? ⟨b, 17, none⟩ = some (.int .i64 j.sv) := blk_at HJd.out 17 rfl
    have d18 : W.drew.cell? ⟨b, 18, none⟩ = some (.string (bs j.nx.v)) := blk_at HJd.out 18 rfl
    have d19 : W.drew.cell? ⟨b, 19, none⟩ = some (.int .i64 j.nx.n) := blk_at HJd.out 19 rfl
    have d20 : W.drew.cell? ⟨b, 20, none⟩ = some (.int .i64 j.nx.s) := blk_at HJd.out 20 rfl
    have d21 : W.drew.cell? ⟨b, 21, none⟩ = some (.int .i64 j.nx.h) := blk_at HJd.out 21 rfl
    have d22 : W.drew.cell? ⟨b, 22, none⟩ = some (.int .i64 j.nx.g) := blk_at HJd.out 22 rfl
    go_upto_region 6 with fail
    go_region_with (first | (go_at_call 78; go_must (go_fit (SC _ (by repeat (first | exact Kept.refl _ _ | refine Kept.drew ?_)))); rintro _ wa ⟨rfl, ka⟩; have Ka : Hid (Kept Nil W wa) := Kept.trans (by repeat (first | exact Kept.refl _ _ | refine Kept.drew ?_)) ka; have HRa : Hid (wa.heap[R]? = some (.cells #[.int .i64 0, .string ⟨#[]⟩, .string ⟨#[]⟩, .int .i64 0] 31 (0, 0))) := Ka.out.block _ _ HR.out (fun x => x); clear ka; have n0 : wa.cell? ⟨R, 0, none⟩ = some (.int .i64 0) := blk_at HRa.out 0 rfl; have o0 := blk_free HRa.out 0; have n1 : wa.cell? ⟨R, 1, none⟩ = some (.string ⟨#[]⟩) := blk_at HRa.out 1 rfl; have o1 := blk_free HRa.out 1; have n2 : wa.cell? ⟨R, 2, none⟩ = some (.string ⟨#[]⟩) := blk_at HRa.out 2 rfl; have o2 := blk_free HRa.out 2; have n3 : wa.cell? ⟨R, 3, none⟩ = some (.int .i64 0) := blk_at HRa.out 3 rfl; have o3 := blk_free HRa.out 3; have HJea : Hid (JbAt wa b j K) := HJ.out.kept Ka.out; have ea17 : wa.cell? ⟨b, 17, none⟩ = some (.int .i64 j.sv) := blk_at HJea.out 17 rfl; have ea18 : wa.cell? ⟨b, 18, none⟩ = some (.string (bs j.nx.v)) := blk_at HJea.out 18 rfl; have ea19 : wa.cell? ⟨b, 19, none⟩ = some (.int .i64 j.nx.n) := blk_at HJea.out 19 rfl; have ea20 : wa.cell? ⟨b, 20, none⟩ = some (.int .i64 j.nx.s) := blk_at HJea.out 20 rfl; have ea21 : wa.cell? ⟨b, 21, none⟩ = some (.int .i64 j.nx.h) := blk_at HJea.out 21 rfl; have ea22 : wa.cell? ⟨b, 22, none⟩ = some (.int .i64 j.nx.g) := blk_at HJea.out 22 rfl; unfold cdV))
    all_goals
      obtain ⟨Y, hY⟩ : ∃ Y, Y = (((wa.setCell ⟨R, 0, none⟩ (.int .i64 cd.kd)).setCell ⟨R, 1, none⟩ (.string (bs cd.k))).setCell ⟨R, 2, none⟩ (.string (bs cd.v))).setCell ⟨R, 3, none⟩ (.int .i64 cd.m) := ⟨_, rfl⟩
      have HY : Hid (Y.heap[R]? = some (.cells #[.int .i64 cd.kd, .string (bs cd.k), .string (bs cd.v), .int .i64 cd.m] 31 (0, 0)) ∧ Kept Nil w Y) := by rw [hY]; exact ⟨gput4 HRa.out, ((((KW.out.trans Ka.out).setNew (p := ⟨R, 0, none⟩) HRw.out _).setNew (p := ⟨R, 1, none⟩) HRw.out _).setNew (p := ⟨R, 2, none⟩) HRw.out _).setNew (p := ⟨R, 3, none⟩) HRw.out _⟩
      go_wp2
      rw [← hY]
      have j0 := blk_at HY.out.1 0 rfl
      have j1 := blk_at HY.out.1 1 rfl
      have j2 := blk_at HY.out.1 2 rfl
      have j3 := blk_at HY.out.1 3 rfl
      exact bodyPost_ret (v := .tuple #[.int .i64 j.at', cdV cd, .bool true]) (by simp [results, Tryz.results25, go_sem, j0, j1, j2, j3, cdV]) rfl ⟨rfl, HY.out.2⟩
end Go.Proofs.YtflnjlbafchnaaaGreatDoor
