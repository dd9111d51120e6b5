/-
  Joined: WCx6, WCd4.
-/
import Derived.Test.YtflnjlbafchnaaaGreatDoorQ20
import Derived.Test.YtflnjlbafchnaaaGreatDoorQ17
/-
  Cells: Take in the phases that see no cell (the document's).
-/
namespace Go.Proofs.YtflnjlbafchnaaaGreatDoor
open Go.RowKit

set_option maxRecDepth 100000 in
set_option maxHeartbeats 1000000 in
theorem jtake1 (w : World) (b : Nat) (j : Jb) (K : Jk) (h : JdAt w b j K) (hp : j.ph = 1) (r : Rr) (ko : Option Addr) (kc : Nat) :
    Calls Tryz.prog 33 #[.pointer (some ⟨b, 0, none⟩), rrV r ko kc] w (JdPost w b (j.answer r)) := by
  obtain ⟨W, hW⟩ : ∃ W, W = w.alloc (.cells #[.int .i64 r.kd, .string (bs r.v), .int .i64 r.n, .slice ko r.ks.length kc] 50) := ⟨_, rfl⟩
  obtain ⟨A, HAe⟩ : ∃ A, Hid (A = w.heap.size) := ⟨_, rfl⟩
  have KW : Hid (Kept Nil w W) := by rw [hW]; exact (Kept.refl _ _).alloc _
  have HA : Hid (W.heap[A]? = some (.cells #[.int .i64 r.kd, .string (bs r.v), .int .i64 r.n, .slice ko r.ks.length kc] 50 (0, 0))) := by rw [hW, HAe.out]; exact blk_new _ _
  have HJ : Hid (JdAt W b j K) := h.kept KW.out
  have hlb : b < W.heap.size := lt_of_block HJ.out
  have hlA : A < W.heap.size := lt_of_block HA.out
  have hbA : b ≠ A := by rw [HAe.out]; have := lt_of_block h; omega
  have hAb : A ≠ b := fun e => hbA e.symm
  have a0 : W.cell? ⟨A, 0, none⟩ = some (.int .i64 r.kd) := blk_at HA.out 0 rfl
  have a1 : W.cell? ⟨A, 1, none⟩ = some (.string (bs r.v)) := blk_at HA.out 1 rfl
  have a2 : W.cell? ⟨A, 2, none⟩ = some (.int .i64 r.n) := blk_at HA.out 2 rfl
  have a3 : W.cell? ⟨A, 3, none⟩ = some (.slice ko r.ks.length kc) := blk_at HA.out 3 rfl
  have q6 : W.cell? ⟨b, 6, none⟩ = some (.int .i64 2) := by
    have e : W.cell? ⟨b, 6, none⟩ = some (.int .i64 ((j.ph : Int) + 1)) := blk_at HJ.out 6 rfl
    rw [hp] at e
    exact e
  have f6 : W.frozen? ⟨b, 6, none⟩ = false := blk_free HJ.out 6
  obtain ⟨u, Hu⟩ : ∃ u, Hid (u = j.answer r) := ⟨_, rfl⟩
  rw [← Hu.out]
  have HU : Hid (u = j.hasWritten r) := by show _ = _; rw [Hu.out]; unfold Jb.answer; rw [hp]; rfl
  clear h Hu hp
  unfold rrV
  have EN : Calls Tryz.prog 93 #[.pointer (some ⟨b, 0, none⟩), .agg #[.int .i64 r.kd, .string (bs r.v), .int .i64 r.n, .slice ko r.ks.length kc]] W (JdPost W b (j.hasWritten r)) := jwrites_any W b j K HJ.out r ko kc
  have HU2 : Hid (u = j.hasWritten r) := HU
  clear HU
  go_enter Tryz.func33, Tryz.ntmps33
  go_upto_region 1 with fail
  rw [← hW, ← HAe.out]
  clear hW
  go_wp2_with fail
  go_fit EN
  rintro _ w1 ⟨rfl, h1, k1⟩
  have HY : Hid ((∃ K, JdAt w1 b u K) ∧ Kept (One b) w w1) := ⟨by rw [HU2.out]; exact h1, (kept_oneN KW.out).trans k1⟩
  clear h1 k1 HU2 EN
  go_wp2
  go_end0
  exact ⟨rfl, HY.out⟩
set_option maxRecDepth 100000 in
set_option maxHeartbeats 1000000 in
theorem jtake2 (w : World) (b : Nat) (j : Jb) (K : Jk) (h : JdAt w b j K) (hp : j.ph = 2) (r : Rr) (ko : Option Addr) (kc : Nat) :
    Calls Tryz.prog 33 #[.pointer (some ⟨b, 0, none⟩), rrV r ko kc] w (JdPost w b (j.answer r)) := by
  obtain ⟨W, hW⟩ : ∃ W, W = w.alloc (.cells #[.int .i64 r.kd, .string (bs r.v), .int .i64 r.n, .slice ko r.ks.length kc] 50) := ⟨_, rfl⟩
  obtain ⟨A, HAe⟩ : ∃ A, Hid (A = w.heap.size) := ⟨_, rfl⟩
  have KW : Hid (Kept Nil w W) := by rw [hW]; exact (Kept.refl _ _).alloc _
  have HA : Hid (W.heap[A]? = some (.cells #[.int .i64 r.kd, .string (bs r.v), .int .i64 r.n, .slice ko r.ks.length kc] 50 (0, 0))) := by rw [hW, HAe.out]; exact blk_new _ _
  have HJ : Hid (JdAt W b j K) := h.kept KW.out
  have hlb : b < W.heap.size := lt_of_block HJ.out
  have hlA : A < W.heap.size := lt_of_block HA.out
  have hbA : b ≠ A := by rw [HAe.out]; have := lt_of_block h; omega
  have hAb : A ≠ b := fun e => hbA e.symm
  have a0 : W.cell? ⟨A, 0, none⟩ = some (.int .i64 r.kd) := blk_at HA.out 0 rfl
  have a1 : W.cell? ⟨A, 1, none⟩ = some (.string (bs r.v)) := blk_at HA.out 1 rfl
  have a2 : W.cell? ⟨A, 2, none⟩ = some (.int .i64 r.n) := blk_at HA.out 2 rfl
  have a3 : W.cell? ⟨A, 3, none⟩ = some (.slice ko r.ks.length kc) := blk_at HA.out 3 rfl
  have q6 : W.cell? ⟨b, 6, none⟩ = some (.int .i64 3) := by
    have e : W.cell? ⟨b, 6, none⟩ = some (.int .i64 ((j.ph : Int) + 1)) := blk_at HJ.out 6 rfl
    rw [hp] at e
    exact e
  have f6 : W.frozen? ⟨b, 6, none⟩ = false := blk_free HJ.out 6
  obtain ⟨u, Hu⟩ : ∃ u, Hid (u = j.answer r) := ⟨_, rfl⟩
  rw [← Hu.out]
  have HU : Hid (u = j.hasPrepared r) := by show _ = _; rw [Hu.out]; unfold Jb.answer; rw [hp]; rfl
  clear h Hu hp
  unfold rrV
  by_cases c5 : 5 < r.kd
  · have HU2 : Hid (u = j) := by show _ = _; rw [HU.out]; exact if_pos c5
    obtain ⟨Y, hY⟩ : ∃ Y, Y = W := ⟨_, rfl⟩
    have HY : Hid ((∃ K, JdAt Y b u K) ∧ Kept (One b) w Y) := by rw [hY, HU2.out]; exact ⟨⟨_, HJ.out⟩, (kept_oneN KW.out)⟩
    clear HU2 HU
    go_enter Tryz.func33, Tryz.ntmps33
    go_upto_region 1 with fail
    rw [← hW, ← HAe.out]
    clear hW
    go_wp2
    rw [← hY]
    go_end0
    exact ⟨rfl, HY.out⟩
  · by_cases c2 : r.kd = 2
    · have y2 : (r.kd == 2) = true := by simp [c2]
      have y5 : ¬ (5 : Int) < r.kd := c5
      have HU2 : Hid (u = { j with ph := 3 }) := by show _ = _; rw [HU.out]; exact (if_neg c5).trans (if_pos c2)
      obtain ⟨Y, hY⟩ : ∃ Y, Y = ((W.setCell ⟨b, 6, none⟩ (.int .i64 2)).setCell ⟨b, 6, none⟩ (.int .i64 4)) := ⟨_, rfl⟩
      have HY : Hid ((∃ K, JdAt Y b u K) ∧ Kept (One b) w Y) := by rw [hY, HU2.out]; exact ⟨⟨_, (HJ.out.s6 1).s6 3⟩, (((kept_oneN KW.out).setCell (p := ⟨b, 6, none⟩) (fun _ => rfl) _).setCell (p := ⟨b, 6, none⟩) (fun _ => rfl) _)⟩
      clear HU2 HU c2 c5
      go_enter Tryz.func33, Tryz.ntmps33
      go_upto_region 1 with fail
      rw [← hW, ← HAe.out]
      clear hW
      go_wp2
      rw [← hY]
      go_end0
      exact ⟨rfl, HY.out⟩
    · have y2 : (r.kd == 2) = false := by simp [c2]
      have y5 : ¬ (5 : Int) < r.kd := c5
      have HU2 : Hid (u = { j with ph := 1 }) := by show _ = _; rw [HU.out]; exact (if_neg c5).trans (if_neg c2)
      obtain ⟨Y, hY⟩ : ∃ Y, Y = (W.setCell ⟨b, 6, none⟩ (.int .i64 2)) := ⟨_, rfl⟩
      have HY : Hid ((∃ K, JdAt Y b u K) ∧ Kept (One b) w Y) := by rw [hY, HU2.out]; exact ⟨⟨_, HJ.out.s6 1⟩, ((kept_oneN KW.out).setCell (p := ⟨b, 6, none⟩) (fun _ => rfl) _)⟩
      clear HU2 HU c2 c5
      go_enter Tryz.func33, Tryz.ntmps33
      go_upto_region 1 with fail
      rw [← hW, ← HAe.out]
      clear hW
      go_wp2
      rw [← hY]
      go_end0
      exact ⟨rfl, HY.out⟩
set_option maxRecDepth 100000 in
set_option maxHeartbeats 1000000 in
theorem jtake3 (w : World) (b : Nat) (j : Jb) (K : Jk) (h : JdAt w b j K) (hp : j.ph = 3) (r : Rr) (ko : Option Addr) (kc : Nat) :
    Calls Tryz.prog 33 #[.pointer (some ⟨b, 0, none⟩), rrV r ko kc] w (JdPost w b (j.answer r)) := by
  obtain ⟨W, hW⟩ : ∃ W, W = w.alloc (.cells #[.int .i64 r.kd, .string (bs r.v), .int .i64 r.n, .slice ko r.ks.length kc] 50) := ⟨_, rfl⟩
  obtain ⟨A, HAe⟩ : ∃ A, Hid (A = w.heap.size) := ⟨_, rfl⟩
  have KW : Hid (Kept Nil w W) := by rw [hW]; exact (Kept.refl _ _).alloc _
  have HA : Hid (W.heap[A]? = some (.cells #[.int .i64 r.kd, .string (bs r.v), .int .i64 r.n, .slice ko r.ks.length kc] 50 (0, 0))) := by rw [hW, HAe.out]; exact blk_new _ _
  have HJ : Hid (JdAt W b j K) := h.kept KW.out
  have hlb : b < W.heap.size := lt_of_block HJ.out
  have hlA : A < W.heap.size := lt_of_block HA.out
  have hbA : b ≠ A := by rw [HAe.out]; have := lt_of_block h; omega
  have hAb : A ≠ b := fun e => hbA e.symm
  have a0 : W.cell? ⟨A, 0, none⟩ = some (.int .i64 r.kd) := blk_at HA.out 0 rfl
  have a1 : W.cell? ⟨A, 1, none⟩ = some (.string (bs r.v)) := blk_at HA.out 1 rfl
  have a2 : W.cell? ⟨A, 2, none⟩ = some (.int .i64 r.n) := blk_at HA.out 2 rfl
  have a3 : W.cell? ⟨A, 3, none⟩ = some (.slice ko r.ks.length kc) := blk_at HA.out 3 rfl
  have q6 : W.cell? ⟨b, 6, none⟩ = some (.int .i64 4) := by
    have e : W.cell? ⟨b, 6, none⟩ = some (.int .i64 ((j.ph : Int) + 1)) := blk_at HJ.out 6 rfl
    rw [hp] at e
    exact e
  have f6 : W.frozen? ⟨b, 6, none⟩ = false := blk_free HJ.out 6
  obtain ⟨u, Hu⟩ : ∃ u, Hid (u = j.answer r) := ⟨_, rfl⟩
  rw [← Hu.out]
  have HU : Hid (u = j.hasRoom r) := by show _ = _; rw [Hu.out]; unfold Jb.answer; rw [hp]; rfl
  clear h Hu hp
  unfold rrV
  by_cases c4 : r.kd = 4
  · have y4 : (r.kd == 4) = true := by simp [c4]
    obtain ⟨Z, hZ⟩ : ∃ Z, Z = W.setCell ⟨b, 6, none⟩ (.int .i64 1) := ⟨_, rfl⟩
    have KZ : Hid (Kept (One b) w Z) := by rw [hZ]; exact (kept_oneN KW.out).setCell (p := ⟨b, 6, none⟩) (fun _ => rfl) _
    have EN : Calls Tryz.prog 94 #[.pointer (some ⟨b, 0, none⟩), .agg #[.int .i64 4, .string ⟨#[]⟩, .int .i64 0, .slice none 0 0]] Z (JdPost Z b (j.finK 4)) := by rw [hZ]; exact jends_any _ b { j with ph := 0 } K (HJ.out.s6 0) ⟨4, [], 0, []⟩ none 0
    have HU2 : Hid (u = j.finK 4) := by show _ = _; rw [HU.out]; exact if_pos c4
    clear HU c4
    go_enter Tryz.func33, Tryz.ntmps33
    go_upto_region 1 with fail
    rw [← hW, ← HAe.out]
    clear hW
    go_wp2_with fail
    rw [← hZ]
    clear hZ
    go_fit EN
    rintro _ w1 ⟨rfl, h1, k1⟩
    have HY : Hid ((∃ K, JdAt w1 b u K) ∧ Kept (One b) w w1) := ⟨by rw [HU2.out]; exact h1, KZ.out.trans k1⟩
    clear h1 k1 HU2 EN
    go_wp2
    go_end0
    exact ⟨rfl, HY.out⟩
  · have y4 : (r.kd == 4) = false := by simp [c4]
    have HU2 : Hid (u = { j with ph := 0 }) := by show _ = _; rw [HU.out]; exact if_neg c4
    obtain ⟨Y, hY⟩ : ∃ Y, Y = (W.setCell ⟨b, 6, none⟩ (.int .i64 1)) := ⟨_, rfl⟩
    have HY : Hid ((∃ K, JdAt Y b u K) ∧ Kept (One b) w Y) := by rw [hY, HU2.out]; exact ⟨⟨_, HJ.out.s6 0⟩, ((kept_oneN KW.out).setCell (p := ⟨b, 6, none⟩) (fun _ => rfl) _)⟩
    clear HU2 HU c4
    go_enter Tryz.func33, Tryz.ntmps33
    go_upto_region 1 with fail
    rw [← hW, ← HAe.out]
    clear hW
    go_wp2
    rw [← hY]
    go_end0
    exact ⟨rfl, HY.out⟩
set_option maxRecDepth 100000 in
set_option maxHeartbeats 1000000 in
theorem jtake5 (w : World) (b : Nat) (j : Jb) (K : Jk) (h : JdAt w b j K) (hp : j.ph = 5) (r : Rr) (ko : Option Addr) (kc : Nat) :
    Calls Tryz.prog 33 #[.pointer (some ⟨b, 0, none⟩), rrV r ko kc] w (JdPost w b (j.answer r)) := by
  obtain ⟨W, hW⟩ : ∃ W, W = w.alloc (.cells #[.int .i64 r.kd, .string (bs r.v), .int .i64 r.n, .slice ko r.ks.length kc] 50) := ⟨_, rfl⟩
  obtain ⟨A, HAe⟩ : ∃ A, Hid (A = w.heap.size) := ⟨_, rfl⟩
  have KW : Hid (Kept Nil w W) := by rw [hW]; exact (Kept.refl _ _).alloc _
  have HA : Hid (W.heap[A]? = some (.cells #[.int .i64 r.kd, .string (bs r.v), .int .i64 r.n, .slice ko r.ks.length kc] 50 (0, 0))) := by rw [hW, HAe.out]; exact blk_new _ _
  have HJ : Hid (JdAt W b j K) := h.kept KW.out
  have hlb : b < W.heap.size := lt_of_block HJ.out
  have hlA : A < W.heap.size := lt_of_block HA.out
  have hbA : b ≠ A := by rw [HAe.out]; have := lt_of_block h; omega
  have hAb : A ≠ b := fun e => hbA e.symm
  have a0 : W.cell? ⟨A, 0, none⟩ = some (.int .i64 r.kd) := blk_at HA.out 0 rfl
  have a1 : W.cell? ⟨A, 1, none⟩ = some (.string (bs r.v)) := blk_at HA.out 1 rfl
  have a2 : W.cell? ⟨A, 2, none⟩ = some (.int .i64 r.n) := blk_at HA.out 2 rfl
  have a3 : W.cell? ⟨A, 3, none⟩ = some (.slice ko r.ks.length kc) := blk_at HA.out 3 rfl
  have q6 : W.cell? ⟨b, 6, none⟩ = some (.int .i64 6) := by
    have e : W.cell? ⟨b, 6, none⟩ = some (.int .i64 ((j.ph : Int) + 1)) := blk_at HJ.out 6 rfl
    rw [hp] at e
    exact e
  have f6 : W.frozen? ⟨b, 6, none⟩ = false := blk_free HJ.out 6
  obtain ⟨u, Hu⟩ : ∃ u, Hid (u = j.answer r) := ⟨_, rfl⟩
  rw [← Hu.out]
  have HU : Hid (u = j.hasPut r) := by show _ = _; rw [Hu.out]; unfold Jb.answer; rw [hp]; rfl
  clear h Hu hp
  unfold rrV
  by_cases c1 : r.kd = 1
  · have y1 : (r.kd == 1) = true := by simp [c1]
    have HU2 : Hid (u = { j with ph := 6 }) := by show _ = _; rw [HU.out]; exact by unfold Jb.hasPut; rw [if_pos c1]
    obtain ⟨Y, hY⟩ : ∃ Y, Y = ((W.setCell ⟨b, 6, none⟩ (.int .i64 5)).setCell ⟨b, 6, none⟩ (.int .i64 7)) := ⟨_, rfl⟩
    have HY : Hid ((∃ K, JdAt Y b u K) ∧ Kept (One b) w Y) := by rw [hY, HU2.out]; exact ⟨⟨_, (HJ.out.s6 4).s6 6⟩, (((kept_oneN KW.out).setCell (p := ⟨b, 6, none⟩) (fun _ => rfl) _).setCell (p := ⟨b, 6, none⟩) (fun _ => rfl) _)⟩
    clear HU2 HU c1
    go_enter Tryz.func33, Tryz.ntmps33
    go_upto_region 1 with fail
    rw [← hW, ← HAe.out]
    clear hW
    go_wp2
    rw [← hY]
    go_end0
    exact ⟨rfl, HY.out⟩
  · have y1 : (r.kd == 1) = false := by simp [c1]
    have HU2 : Hid (u = { j with ph := 4 }) := by show _ = _; rw [HU.out]; exact by unfold Jb.hasPut; rw [if_neg c1]
    obtain ⟨Y, hY⟩ : ∃ Y, Y = (W.setCell ⟨b, 6, none⟩ (.int .i64 5)) := ⟨_, rfl⟩
    have HY : Hid ((∃ K, JdAt Y b u K) ∧ Kept (One b) w Y) := by rw [hY, HU2.out]; exact ⟨⟨_, HJ.out.s6 4⟩, ((kept_oneN KW.out).setCell (p := ⟨b, 6, none⟩) (fun _ => rfl) _)⟩
    clear HU2 HU c1
    go_enter Tryz.func33, Tryz.ntmps33
    go_upto_region 1 with fail
    rw [← hW, ← HAe.out]
    clear hW
    go_wp2
    rw [← hY]
    go_end0
    exact ⟨rfl, HY.out⟩
set_option maxRecDepth 100000 in
set_option maxHeartbeats 1000000 in
theorem jtake6 (w : World) (b : Nat) (j : Jb) (K : Jk) (h : JdAt w b j K) (hp : j.ph = 6) (r : Rr) (ko : Option Addr) (kc : Nat) :
    Calls Tryz.prog 33 #[.pointer (some ⟨b, 0, none⟩), rrV r ko kc] w (JdPost w b (j.answer r)) := by
  obtain ⟨W, hW⟩ : ∃ W, W = w.alloc (.cells #[.int .i64 r.kd, .string (bs r.v), .int .i64 r.n, .slice ko r.ks.length kc] 50) := ⟨_, rfl⟩
  obtain ⟨A, HAe⟩ : ∃ A, Hid (A = w.heap.size) := ⟨_, rfl⟩
  have KW : Hid (Kept Nil w W) := by rw [hW]; exact (Kept.refl _ _).alloc _
  have HA : Hid (W.heap[A]? = some (.cells #[.int .i64 r.kd, .string (bs r.v), .int .i64 r.n, .slice ko r.ks.length kc] 50 (0, 0))) := by rw [hW, HAe.out]; exact blk_new _ _
  have HJ : Hid (JdAt W b j K) := h.kept KW.out
  have hlb : b < W.heap.size := lt_of_block HJ.out
  have hlA : A < W.heap.size := lt_of_block HA.out
  have hbA : b ≠ A := by rw [HAe.out]; have := lt_of_block h; omega
  have hAb : A ≠ b := fun e => hbA e.symm
  have a0 : W.cell? ⟨A, 0, none⟩ = some (.int .i64 r.kd) := blk_at HA.out 0 rfl
  have a1 : W.cell? ⟨A, 1, none⟩ = some (.string (bs r.v)) := blk_at HA.out 1 rfl
  have a2 : W.cell? ⟨A, 2, none⟩ = some (.int .i64 r.n) := blk_at HA.out 2 rfl
  have a3 : W.cell? ⟨A, 3, none⟩ = some (.slice ko r.ks.length kc) := blk_at HA.out 3 rfl
  have q0 : W.cell? ⟨b, 0, none⟩ = some (.int .i64 j.at') := blk_at HJ.out 0 rfl
  have q9 : W.cell? ⟨b, 9, none⟩ = some (.int .i64 j.sn.g) := blk_at HJ.out 9 rfl
  have q6 : W.cell? ⟨b, 6, none⟩ = some (.int .i64 7) := by
    have e : W.cell? ⟨b, 6, none⟩ = some (.int .i64 ((j.ph : Int) + 1)) := blk_at HJ.out 6 rfl
    rw [hp] at e
    exact e
  have f0 : W.frozen? ⟨b, 0, none⟩ = false := blk_free HJ.out 0
  have f6 : W.frozen? ⟨b, 6, none⟩ = false := blk_free HJ.out 6
  have f9 : W.frozen? ⟨b, 9, none⟩ = false := blk_free HJ.out 9
  obtain ⟨u, Hu⟩ : ∃ u, Hid (u = j.answer r) := ⟨_, rfl⟩
  rw [← Hu.out]
  have HU : Hid (u = j.hasSealed) := by show _ = _; rw [Hu.out]; unfold Jb.answer; rw [hp]; rfl
  clear h Hu hp
  unfold rrV
  obtain ⟨ow, Hw⟩ : ∃ ow, Hid (ow = j.ow) := ⟨_, rfl⟩
  have q19 : W.cell? ⟨b, 19, none⟩ = some (.bool ow) := by rw [Hw.out]; exact blk_at HJ.out 19 rfl
  have EN : Calls Tryz.prog 94 #[.pointer (some ⟨b, 0, none⟩), .agg #[.int .i64 1, .string ⟨#[]⟩, .int .i64 0, .slice none 0 0]] W (JdPost W b (j.finK 1)) := jends_any W b j K HJ.out ⟨1, [], 0, []⟩ none 0
  cases ow
  · have HU2 : Hid (u = { j with at' := j.sn.g, ph := 0 }) := by show _ = _; rw [HU.out]; exact if_neg (by rw [← Hw.out]; decide)
    obtain ⟨Y, hY⟩ : ∃ Y, Y = ((W.setCell ⟨b, 0, none⟩ (.int .i64 j.sn.g)).setCell ⟨b, 6, none⟩ (.int .i64 1)) := ⟨_, rfl⟩
    have HY : Hid ((∃ K, JdAt Y b u K) ∧ Kept (One b) w Y) := by rw [hY, HU2.out]; exact ⟨⟨_, (HJ.out.s0 j.sn.g).s6 0⟩, (((kept_oneN KW.out).setCell (p := ⟨b, 0, none⟩) (fun _ => rfl) _).setCell (p := ⟨b, 6, none⟩) (fun _ => rfl) _)⟩
    clear HU2 HU EN Hw
    go_enter Tryz.func33, Tryz.ntmps33
    go_upto_region 1 with fail
    rw [← hW, ← HAe.out]
    clear hW
    go_wp2
    rw [← hY]
    go_end0
    exact ⟨rfl, HY.out⟩
  · have HU2 : Hid (u = j.finK 1) := by show _ = _; rw [HU.out]; exact if_pos Hw.out.symm
    clear HU Hw
    go_enter Tryz.func33, Tryz.ntmps33
    go_upto_region 1 with fail
    rw [← hW, ← HAe.out]
    clear hW
    go_wp2_with fail
    go_fit EN
    rintro _ w1 ⟨rfl, h1, k1⟩
    have HY : Hid ((∃ K, JdAt w1 b u K) ∧ Kept (One b) w w1) := ⟨by rw [HU2.out]; exact h1, (kept_oneN KW.out).trans k1⟩
    clear h1 k1 HU2 EN
    go_wp2
    go_end0
    exact ⟨rfl, HY.out⟩
set_option maxRecDepth 100000 in
set_option maxHeartbeats 1000000 in
theorem jtake7 (w : World) (b : Nat) (j : Jb) (K : Jk) (h : JdAt w b j K) (hp : j.ph = 7) (r : Rr) (ko : Option Addr) (kc : Nat) :
    Calls Tryz.prog 33 #[.pointer (some ⟨b, 0, none⟩), rrV r ko kc] w (JdPost w b (j.answer r)) := by
  obtain ⟨W, hW⟩ : ∃ W, W = w.alloc (.cells #[.int .i64 r.kd, .string (bs r.v), .int .i64 r.n, .slice ko r.ks.length kc] 50) := ⟨_, rfl⟩
  obtain ⟨A, HAe⟩ : ∃ A, Hid (A = w.heap.size) := ⟨_, rfl⟩
  have KW : Hid (Kept Nil w W) := by rw [hW]; exact (Kept.refl _ _).alloc _
  have HA : Hid (W.heap[A]? = some (.cells #[.int .i64 r.kd, .string (bs r.v), .int .i64 r.n, .slice ko r.ks.length kc] 50 (0, 0))) := by rw [hW, HAe.out]; exact blk_new _ _
  have HJ : Hid (JdAt W b j K) := h.kept KW.out
  have hlb : b < W.heap.size := lt_of_block HJ.out
  have hlA : A < W.heap.size := lt_of_block HA.out
  have hbA : b ≠ A := by rw [HAe.out]; have := lt_of_block h; omega
  have hAb : A ≠ b := fun e => hbA e.symm
  have a0 : W.cell? ⟨A, 0, none⟩ = some (.int .i64 r.kd) := blk_at HA.out 0 rfl
  have a1 : W.cell? ⟨A, 1, none⟩ = some (.string (bs r.v)) := blk_at HA.out 1 rfl
  have a2 : W.cell? ⟨A, 2, none⟩ = some (.int .i64 r.n) := blk_at HA.out 2 rfl
  have a3 : W.cell? ⟨A, 3, none⟩ = some (.slice ko r.ks.length kc) := blk_at HA.out 3 rfl
  have q6 : W.cell? ⟨b, 6, none⟩ = some (.int .i64 8) := by
    have e : W.cell? ⟨b, 6, none⟩ = some (.int .i64 ((j.ph : Int) + 1)) := blk_at HJ.out 6 rfl
    rw [hp] at e
    exact e
  have f6 : W.frozen? ⟨b, 6, none⟩ = false := blk_free HJ.out 6
  obtain ⟨u, Hu⟩ : ∃ u, Hid (u = j.answer r) := ⟨_, rfl⟩
  rw [← Hu.out]
  have HU : Hid (u = j) := by show _ = _; rw [Hu.out]; unfold Jb.answer; rw [hp]; rfl
  clear h Hu hp
  unfold rrV
  have HU2 : Hid (u = j) := HU
  obtain ⟨Y, hY⟩ : ∃ Y, Y = W := ⟨_, rfl⟩
  have HY : Hid ((∃ K, JdAt Y b u K) ∧ Kept (One b) w Y) := by rw [hY, HU2.out]; exact ⟨⟨_, HJ.out⟩, (kept_oneN KW.out)⟩
  clear HU2 HU
  go_enter Tryz.func33, Tryz.ntmps33
  go_upto_region 1 with fail
  rw [← hW, ← HAe.out]
  clear hW
  go_wp2
  rw [← hY]
  go_end0
  exact ⟨rfl, HY.out⟩
end Go.Proofs.YtflnjlbafchnaaaGreatDoor

/-
  Cells: CellOf, from the first number on.
-/
namespace Go.Proofs.YtflnjlbafchnaaaGreatDoor
open Go.RowKit

set_option maxRecDepth 1000000 in
set_option maxHeartbeats 40000000 in
theorem oTail11 (w X : World) (R C k : Nat) (s : Nat) (l : List UInt8) (fv1 fv3 fv4 fv7 fv8 fv9 fv10 fv11 fv12 fv13 fv14 fv15 fv16 fv17 fv18 fv19 fv20 fv21 fv22 fv23 fv24 fv25 fv26 fv27 fv28 fv29 fv30 fv31 fv32 fv33 fv34 fv35 fv36 fv37 fv38 fv39 fv40 fv41 fv42 fv43 fv44 fv45 fv46 fv47 fv48 fv49 fv50 fv51 fv52 fv53 fv54 fv55 fv56 fv57 fv58 fv59 fv60 fv61 fv62 fv63 fv64 fv65 fv66 fv67 fv68 fv69 fv70 fv71 fv72 fv73 fv74 fv75 fv76 fv77 fv78 fv79 fv80 fv81 fv82 fv83 fv84 fv85 fv86 fv87 fv88 fv89 fv90 fv91 fv92 fv93 fv94 fv95 fv96 fv97 fv98 fv99 fv100 : Value)
    (HA : Hid (Cc2 w X R C s 0 0 0 [])) (HD : Hid (ceD l = hdD s (l.drop k))) (hk : k ≤ l.length) (hl : (l.length : Int) ≤ 4611686018427387904) (hs : s ≤ 2) :
    Code.wp Tryz.prog oT11 (bodyPost Tryz.prog Tryz.f131 (CoPost w l)) ⟨#[.string (bs l), fv1, .pointer (some ⟨R, 0, none⟩), fv3, fv4, .int .i64 k, .pointer (some ⟨C, 0, none⟩), fv7, fv8, fv9, fv10, fv11, fv12, fv13, fv14, fv15, fv16, fv17, fv18, fv19, fv20, fv21, fv22, fv23, fv24, fv25, fv26, fv27, fv28, fv29, fv30, fv31, fv32, fv33, fv34, fv35, fv36, fv37, fv38, fv39, fv40, fv41, fv42, fv43, fv44, fv45, fv46, fv47, fv48, fv49, fv50, fv51, fv52, fv53, fv54, fv55, fv56, fv57, fv58, fv59, fv60, fv61, fv62, fv63, fv64, fv65, fv66, fv67, fv68, fv69, fv70, fv71, fv72, fv73, fv74, fv75, fv76, fv77, fv78, fv79, fv80, fv81, fv82, fv83, fv84, fv85, fv86, fv87, fv88, fv89, fv90, fv91, fv92, fv93, fv94, fv95, fv96, fv97, fv98, fv99, fv100], []⟩ X := by
  conv => arg 2; whnf
  dsimp only
  have hRC : R ≠ C := HA.out.ne
  have hCR : C ≠ R := fun e => hRC e.symm
  have m0 : X.cell? ⟨R, 0, none⟩ = some (.int .i64 0) := blk_at HA.out.r 0 rfl
  have m1 : X.cell? ⟨R, 1, none⟩ = some (.int .i64 0) := blk_at HA.out.r 1 rfl
  have m2 : X.cell? ⟨R, 2, none⟩ = some (.int .i64 0) := blk_at HA.out.r 2 rfl
  have m3 : X.cell? ⟨R, 3, none⟩ = some (.int .i64 0) := blk_at HA.out.r 3 rfl
  have m4 : X.cell? ⟨R, 4, none⟩ = some (.string ⟨#[]⟩) := blk_at HA.out.r 4 rfl
  have o0 := blk_free HA.out.r 0
  have o1 := blk_free HA.out.r 1
  have o2 := blk_free HA.out.r 2
  have o3 := blk_free HA.out.r 3
  have o4 := blk_free HA.out.r 4
  have c0 : X.cell? ⟨C, 0, none⟩ = some (.int .i64 s) := blk_at HA.out.c 0 rfl
  have c1 : X.cell? ⟨C, 1, none⟩ = some (.int .i64 0) := blk_at HA.out.c 1 rfl
  have c2 : X.cell? ⟨C, 2, none⟩ = some (.int .i64 0) := blk_at HA.out.c 2 rfl
  have c3 : X.cell? ⟨C, 3, none⟩ = some (.int .i64 0) := blk_at HA.out.c 3 rfl
  have c4 : X.cell? ⟨C, 4, none⟩ = some (.string (bs [])) := blk_at HA.out.c 4 rfl
  have NM := refNumeral_any l k 999999 hk hl (by omega) X
  go_wp2_with fail
  go_fit NM
  rintro ee w1 ⟨z, k2, rfl, hz, hw1⟩
  rw [hw1]
  clear hw1 NM
  have f1 := blk_free HA.out.c 1
  obtain ⟨X1, hX1⟩ : ∃ Y, Y = X.setCell ⟨C, 1, none⟩ (.int .i64 z) := ⟨_, rfl⟩
  have HB : Hid (Cc2 w X1 R C s z 0 0 []) := by rw [hX1]; exact HA.out.s1 z
  have HZ : Hid ((∃ v : Nat, (nmD 999999 (l.drop k)).1 = some v ∧ z = v ∧ k2 ≤ l.length ∧ l.drop k2 = (nmD 999999 (l.drop k)).2) ∨ ((nmD 999999 (l.drop k)).1 = none ∧ z = -1)) := hz
  clear hz
  go_upto_region 12 with fail
  rw [← hX1]
  clear hX1 m0 o0 c0 m1 o1 c1 m2 o2 c2 m3 o3 c3 m4 o4 c4 f1
  have m0 : X1.cell? ⟨R, 0, none⟩ = some (.int .i64 0) := blk_at HB.out.r 0 rfl
  have m1 : X1.cell? ⟨R, 1, none⟩ = some (.int .i64 0) := blk_at HB.out.r 1 rfl
  have m2 : X1.cell? ⟨R, 2, none⟩ = some (.int .i64 0) := blk_at HB.out.r 2 rfl
  have m3 : X1.cell? ⟨R, 3, none⟩ = some (.int .i64 0) := blk_at HB.out.r 3 rfl
  have m4 : X1.cell? ⟨R, 4, none⟩ = some (.string ⟨#[]⟩) := blk_at HB.out.r 4 rfl
  have o0 := blk_free HB.out.r 0
  have o1 := blk_free HB.out.r 1
  have o2 := blk_free HB.out.r 2
  have o3 := blk_free HB.out.r 3
  have o4 := blk_free HB.out.r 4
  have c0 : X1.cell? ⟨C, 0, none⟩ = some (.int .i64 s) := blk_at HB.out.c 0 rfl
  have c1 : X1.cell? ⟨C, 1, none⟩ = some (.int .i64 z) := blk_at HB.out.c 1 rfl
  have c2 : X1.cell? ⟨C, 2, none⟩ = some (.int .i64 0) := blk_at HB.out.c 2 rfl
  have c3 : X1.cell? ⟨C, 3, none⟩ = some (.int .i64 0) := blk_at HB.out.c 3 rfl
  have c4 : X1.cell? ⟨C, 4, none⟩ = some (.string (bs [])) := blk_at HB.out.c 4 rfl
  rcases HZ.out with ⟨h, hv1, hv2, hv3, hv4⟩ | ⟨hv1, hv2⟩
  · subst hv2
    have HD2 : Hid (ceD l = if s = 0 then tlD s h 0 (l.drop k2) else match (nmD 4 (l.drop k2)).1 with
        | none => none
        | some g => if g < 1 then none else tlD s h g (nmD 4 (l.drop k2)).2) := by
      show _ = _
      rw [HD.out]
      unfold hdD
      rw [hv1]
      simp only
      rw [← hv4]
      rfl
    clear hv1 hv4 HD HZ
    have h0d : decide ((h : Int) < 0) = false := decide_eq_false (by omega)
    have h0n : ¬ (h : Int) < 0 := by omega
    go_upto_if 39 with fail
    go_cut [3, 5] from 26 to 50 (fun _ u wc => Hid (∃ (k3 g : Nat), u = .int .i64 k3 ∧ k3 ≤ l.length ∧ ceD l = tlD s h g (l.drop k3) ∧ Cc2 w wc R C s h g 0 []))
    case first =>
      by_cases s00 : s = 0
      · have HD3 : ceD l = tlD s h 0 (l.drop k2) := HD2.out.trans (if_pos s00)
        have HF : Hid (∃ (k3 g : Nat), (.int .i64 k2 : Value) = .int .i64 k3 ∧ k3 ≤ l.length ∧ ceD l = tlD s h g (l.drop k3) ∧ Cc2 w X1 R C s h g 0 []) := ⟨k2, 0, rfl, hv3, HD3, HB.out⟩
        have s0d : decide ((0 : Int) < (s : Int)) = false := decide_eq_false (by omega)
        have s0n : ¬ (0 : Int) < (s : Int) := by omega
        clear HD2 HD3
        go_wp2
        go_meet
        exact HF.out
      · have s0i : (0 : Int) < (s : Int) := by omega
        have s0d : decide ((0 : Int) < (s : Int)) = true := decide_eq_true s0i
        have NM2 := refNumeral_any l k2 4 hv3 hl (by omega) X1
        go_wp2_with fail
        go_fit NM2
        rintro ee w2 ⟨z2, k3, rfl, hz2, hw2⟩
        rw [hw2]
        clear hw2 NM2
        have f2 := blk_free HB.out.c 2
        obtain ⟨X2, hX2⟩ : ∃ Y, Y = X1.setCell ⟨C, 2, none⟩ (.int .i64 z2) := ⟨_, rfl⟩
        have HE : Hid (Cc2 w X2 R C s h z2 0 []) := by rw [hX2]; exact HB.out.s2 z2
        have HZ2 : Hid ((∃ v : Nat, (nmD 4 (l.drop k2)).1 = some v ∧ z2 = v ∧ k3 ≤ l.length ∧ l.drop k3 = (nmD 4 (l.drop k2)).2) ∨ ((nmD 4 (l.drop k2)).1 = none ∧ z2 = -1)) := hz2
        clear hz2
        go_upto_region 16 with fail
        rw [← hX2]
        clear hX2 m0 o0 c0 m1 o1 c1 m2 o2 c2 m3 o3 c3 m4 o4 c4 f2
        have m0 : X2.cell? ⟨R, 0, none⟩ = some (.int .i64 0) := blk_at HE.out.r 0 rfl
        have m1 : X2.cell? ⟨R, 1, none⟩ = some (.int .i64 0) := blk_at HE.out.r 1 rfl
        have m2 : X2.cell? ⟨R, 2, none⟩ = some (.int .i64 0) := blk_at HE.out.r 2 rfl
        have m3 : X2.cell? ⟨R, 3, none⟩ = some (.int .i64 0) := blk_at HE.out.r 3 rfl
        have m4 : X2.cell? ⟨R, 4, none⟩ = some (.string ⟨#[]⟩) := blk_at HE.out.r 4 rfl
        have o0 := blk_free HE.out.r 0
        have o1 := blk_free HE.out.r 1
        have o2 := blk_free HE.out.r 2
        have o3 := blk_free HE.out.r 3
        have o4 := blk_free HE.out.r 4
        have c0 : X2.cell? ⟨C, 0, none⟩ = some (.int .i64 s) := blk_at HE.out.c 0 rfl
        have c1 : X2.cell? ⟨C, 1, none⟩ = some (.int .i64 h) := blk_at HE.out.c 1 rfl
        have c2 : X2.cell? ⟨C, 2, none⟩ = some (.int .i64 z2) := blk_at HE.out.c 2 rfl
        have c3 : X2.cell? ⟨C, 3, none⟩ = some (.int .i64 0) := blk_at HE.out.c 3 rfl
        have c4 : X2.cell? ⟨C, 4, none⟩ = some (.string (bs [])) := blk_at HE.out.c 4 rfl
        by_cases g1 : z2 < 1
        · have HN : Hid (ceD l = none) := by
            have e := HD2.out
            rw [if_neg s00] at e
            rcases HZ2.out with ⟨g, a1, a2, a3, a4⟩ | ⟨a1, a2⟩
            · rw [a1] at e
              simp only at e
              rw [if_pos (by omega)] at e
              exact e
            · rw [a1] at e
              exact e
          have g1d : decide (z2 < 1) = true := decide_eq_true g1
          clear HD2 HZ2
          obtain ⟨Y, hY⟩ : ∃ Y, Y = (((((X2.setCell ⟨R, 0, none⟩ (.int .i64 0)).setCell ⟨R, 1, none⟩ (.int .i64 0)).setCell ⟨R, 2, none⟩ (.int .i64 0)).setCell ⟨R, 3, none⟩ (.int .i64 0)).setCell ⟨R, 4, none⟩ (.string ⟨#[]⟩)) := ⟨_, rfl⟩
          have HY : Hid (CcAt Y R 0 0 0 0 [] ∧ Kept Nil w Y) := by rw [hY]; exact HE.out.ret 0 0 0 0 []
          go_wp2
          rw [← hY]
          have j0 := blk_at HY.out.1 0 rfl
          have j1 := blk_at HY.out.1 1 rfl
          have j2 := blk_at HY.out.1 2 rfl
          have j3 := blk_at HY.out.1 3 rfl
          have j4 := blk_at HY.out.1 4 rfl
          exact bodyPost_ret (v := .tuple #[ccV ⟨[], 0, 0, 0, 0⟩, .bool false]) (by simp [results, Tryz.results131, go_sem, j0, j1, j2, j3, j4, ccV]) rfl (.inr ⟨HN.out, rfl, HY.out.2⟩)
        · obtain ⟨g, a1, a2, a3, a4⟩ := HZ2.out.resolve_right (fun a => g1 (by rw [a.2]; decide))
          have HD3 : ceD l = tlD s h g (l.drop k3) := by
            have e := HD2.out
            rw [if_neg s00, a1] at e
            simp only at e
            rw [if_neg (by omega), ← a4] at e
            exact e
          subst a2
          have HF : Hid (∃ (k4 g' : Nat), (.int .i64 k3 : Value) = .int .i64 k4 ∧ k4 ≤ l.length ∧ ceD l = tlD s h g' (l.drop k4) ∧ Cc2 w X2 R C s h g' 0 []) := ⟨k3, g, rfl, a3, HD3, HE.out⟩
          have g1d : decide ((g : Int) < 1) = false := decide_eq_false g1
          clear HD2 HZ2 a1 a4 HD3
          go_wp2
          go_meet
          exact HF.out
    case rest =>
      obtain ⟨k3, g, e5, hk3, hd3, hB3⟩ := hcut.out
      subst e5
      rename World => w9
      have HB9 : Hid (Cc2 w w9 R C s h g 0 []) := hB3
      have HD9 : Hid (ceD l = tlD s h g (l.drop k3)) := hd3
      clear hcut hB3 hd3
      apply_assumption
      exact oTail18 w w9 R C k3 s h g l _ _ _ _ _ _ _ _ _ _ _ _ _ _ _ _ _ _ _ _ _ _ _ _ _ _ _ _ _ _ _ _ _ _ _ _ _ _ _ _ _ _ _ _ _ _ _ _ _ _ _ _ _ _ _ _ _ _ _ _ _ _ _ _ _ _ _ _ _ _ _ _ _ _ _ _ _ _ _ _ _ _ _ _ _ _ _ _ _ _ _ _ _ _ _ _ _ HB9 HD9 hk3 hl hs
  · have HN : Hid (ceD l = none) := by
      show _ = _
      rw [HD.out]
      unfold hdD
      rw [hv1]
    subst hv2
    clear HD HZ hv1
    obtain ⟨Y, hY⟩ : ∃ Y, Y = (((((X1.setCell ⟨R, 0, none⟩ (.int .i64 0)).setCell ⟨R, 1, none⟩ (.int .i64 0)).setCell ⟨R, 2, none⟩ (.int .i64 0)).setCell ⟨R, 3, none⟩ (.int .i64 0)).setCell ⟨R, 4, none⟩ (.string ⟨#[]⟩)) := ⟨_, rfl⟩
    have HY : Hid (CcAt Y R 0 0 0 0 [] ∧ Kept Nil w Y) := by rw [hY]; exact HB.out.ret 0 0 0 0 []
    go_wp2
    rw [← hY]
    have j0 := blk_at HY.out.1 0 rfl
    have j1 := blk_at HY.out.1 1 rfl
    have j2 := blk_at HY.out.1 2 rfl
    have j3 := blk_at HY.out.1 3 rfl
    have j4 := blk_at HY.out.1 4 rfl
    exact bodyPost_ret (v := .tuple #[ccV ⟨[], 0, 0, 0, 0⟩, .bool false]) (by simp [results, Tryz.results131, go_sem, j0, j1, j2, j3, j4, ccV]) rfl (.inr ⟨HN.out, rfl, HY.out.2⟩)
end Go.Proofs.YtflnjlbafchnaaaGreatDoor
