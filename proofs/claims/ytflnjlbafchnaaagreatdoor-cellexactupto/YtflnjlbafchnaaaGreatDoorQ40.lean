/-
  Joined: WCxC.
-/
import Derived.Test.YtflnjlbafchnaaaGreatDoorQ39
import Derived.Deep.DeepCutAuto
import Derived.BigRegion
/-
  Cells: Command, whole (the document's).
-/
namespace Go.Proofs.YtflnjlbafchnaaaGreatDoor
open Go.RowKit

set_option maxRecDepth 100000 in
set_option maxHeartbeats 4000000 in
theorem jcmd_any (w : World) (b : Nat) (j : Jb) (K : Jk) (h : JdAt w b j K) (O0 : j.Ok) :
    Calls Tryz.prog 27 #[.pointer (some ⟨b, 0, none⟩)] w (CNPost w j.next) := by
  have O : Hid j.Ok := O0
  obtain ⟨kk, Hk⟩ : ∃ k, Hid (k = cKey j.k) := ⟨_, rfl⟩
  have hcat : (⟨#[99]⟩ : ByteArray) ++ bs j.k = bs kk := by rw [Hk.out]; exact bs_append [99] j.k
  have hksz : (bs j.k).size ≤ 15 := by rw [bs_size]; exact O.out.k2
  obtain ⟨W0, hW0⟩ : ∃ W, W = w.alloc (.cells #[.int .i64 0, .string ⟨#[]⟩, .string ⟨#[]⟩, .int .i64 0] 31) := ⟨_, rfl⟩
  obtain ⟨R, HRe⟩ : ∃ R, Hid (R = w.heap.size) := ⟨_, rfl⟩
  have K0 : Hid (Kept Nil w W0) := by rw [hW0]; exact (Kept.refl _ _).alloc _
  have HJ0 : Hid (JdAt W0 b j K) := h.kept K0.out
  have HR0 : Hid (CdAt W0 R 0 [] [] 0) := by rw [hW0, HRe.out]; exact blk_new _ _
  have q3 : W0.cell? ⟨b, 3, none⟩ = some (.string (bs j.k)) := blk_at HJ0.out 3 rfl
  obtain ⟨W1, hW1⟩ : ∃ W, W = W0.alloc (.cells #[.int .i64 2, .string (bs kk), .string ⟨#[]⟩, .int .i64 0] 31) := ⟨_, rfl⟩
  obtain ⟨G, HGe⟩ : ∃ R, Hid (R = W0.heap.size) := ⟨_, rfl⟩
  have K1 : Hid (Kept Nil W0 W1) := by rw [hW1]; exact (Kept.refl _ _).alloc _
  have HJ1 : Hid (JdAt W1 b j K) := HJ0.out.kept K1.out
  have HR1 : Hid (CdAt W1 R 0 [] [] 0) := HR0.out.kept K1.out
  have HG1 : Hid (CdAt W1 G 2 kk [] 0) := by rw [hW1, HGe.out]; exact blk_new _ _
  have HN : Hid (w.heap.size ≤ R ∧ R ≠ G ∧ b ≠ R ∧ b < W1.heap.size ∧ R < W1.heap.size ∧ w.heap.size ≤ W1.heap.size) := by
    have l1 := lt_of_block h
    have l2 := lt_of_block HR0.out
    have l3 := lt_of_block HJ1.out
    have l4 := lt_of_block HR1.out
    have l5 := HRe.out
    have l6 := HGe.out
    exact ⟨by omega, by omega, by omega, l3, l4, (K0.out.trans K1.out).size⟩
  clear h
  go_enter Tryz.func27, Tryz.ntmps27
  go_upto_region 1 with fail
  rw [← hW0, ← HRe.out]
  clear hW0 HRe
  go_upto_region 2 with fail
  rw [← hW1, ← HGe.out]
  clear hW1 HGe HJ0 HR0 q3
  have q3 : W1.cell? ⟨b, 3, none⟩ = some (.string (bs j.k)) := blk_at HJ1.out 3 rfl
  have q18 : W1.cell? ⟨b, 18, none⟩ = some (.int .i64 j.sp) := blk_at HJ1.out 18 rfl
  have q17 : W1.cell? ⟨b, 17, none⟩ = some (.int .i64 j.sv) := blk_at HJ1.out 17 rfl
  have hlb : b < W1.heap.size := HN.out.2.2.2.1
  have hks2 : ¬ 9223372036854775807 < 1 + (bs j.k).size := by omega
  go_cut [6] from 14 to 24 (fun v wc => ∃ S, v = .pointer (some ⟨S, 0, none⟩) ∧ Hid (CmIn w wc b R G S j K kk))
  case first =>
    go_region
    all_goals
      go_wp2_with fail
      go_meet
      refine ⟨W1.heap.size, rfl, ?_⟩
      have kx : Kept Nil W1 (W1.alloc (.cells #[.int .i64 4, .string (bs kk), .string ⟨#[]⟩, .int .i64 j.sv] 31)).drew := ((Kept.refl _ _).alloc _).drew
      obtain ⟨n1, n2, n3, n4, n5, n6⟩ := HN.out
      exact ⟨(K0.out.trans K1.out).trans kx, HJ1.out.kept kx, HR1.out.kept kx, HG1.out.kept kx, blk_new W1 _, n1, n6, n2, by omega, n3, by omega⟩
  case rest =>
    obtain ⟨S, rfl, HI⟩ := hcut
    have hp := O.out.ph
    clear HJ1 HR1 HG1 HN q3 q18 q17 K0 K1 hcat hksz hks2 hlb
    apply_assumption
    have hc : j.ph = 0 ∨ j.ph = 1 ∨ j.ph = 2 ∨ j.ph = 3 ∨ j.ph = 4 ∨ j.ph = 5 ∨ j.ph = 6 ∨ j.ph = 7 := by omega
    rcases hc with hp | hp | hp | hp | hp | hp | hp | hp
    · exact jnT0 w _ b R G S j K kk HI Hk hp O _ _ _ _ _ _ _ _ _ _ _ _ _ _ _ _ _ _ _ _ _ _ _ _ _ _ _ _ _ _ _ _ _ _ _ _ _ _ _ _ _ _ _ _ _ _ _ _ _ _ _ _ _ _ _ _ _ _ _ _ _ _ _ _ _ _ _ _ _ _ _ _ _ _ _ _ _ _ _ _ _ _ _ _ _ _ _ _ _ _ _ _ _ _ _ _ _ _ _ _ _ _ _ _ _ _ _ _ _ _ _ _ _ _ _ _ _ _ _ _ _ _ _ _ _ _ _
    · exact jnT1 w _ b R G S j K kk HI Hk hp O _ _ _ _ _ _ _ _ _ _ _ _ _ _ _ _ _ _ _ _ _ _ _ _ _ _ _ _ _ _ _ _ _ _ _ _ _ _ _ _ _ _ _ _ _ _ _ _ _ _ _ _ _ _ _ _ _ _ _ _ _ _ _ _ _ _ _ _ _ _ _ _ _ _ _ _ _ _ _ _ _ _ _ _ _ _ _ _ _ _ _ _ _ _ _ _ _ _ _ _ _ _ _ _ _ _ _ _ _ _ _ _ _ _ _ _ _ _ _ _ _ _ _ _ _ _ _
    · exact jnT2 w _ b R G S j K kk HI Hk hp O _ _ _ _ _ _ _ _ _ _ _ _ _ _ _ _ _ _ _ _ _ _ _ _ _ _ _ _ _ _ _ _ _ _ _ _ _ _ _ _ _ _ _ _ _ _ _ _ _ _ _ _ _ _ _ _ _ _ _ _ _ _ _ _ _ _ _ _ _ _ _ _ _ _ _ _ _ _ _ _ _ _ _ _ _ _ _ _ _ _ _ _ _ _ _ _ _ _ _ _ _ _ _ _ _ _ _ _ _ _ _ _ _ _ _ _ _ _ _ _ _ _ _ _ _ _ _
    · exact jnT3 w _ b R G S j K kk HI Hk hp O _ _ _ _ _ _ _ _ _ _ _ _ _ _ _ _ _ _ _ _ _ _ _ _ _ _ _ _ _ _ _ _ _ _ _ _ _ _ _ _ _ _ _ _ _ _ _ _ _ _ _ _ _ _ _ _ _ _ _ _ _ _ _ _ _ _ _ _ _ _ _ _ _ _ _ _ _ _ _ _ _ _ _ _ _ _ _ _ _ _ _ _ _ _ _ _ _ _ _ _ _ _ _ _ _ _ _ _ _ _ _ _ _ _ _ _ _ _ _ _ _ _ _ _ _ _ _
    · exact jnT4 w _ b R G S j K kk HI Hk hp O _ _ _ _ _ _ _ _ _ _ _ _ _ _ _ _ _ _ _ _ _ _ _ _ _ _ _ _ _ _ _ _ _ _ _ _ _ _ _ _ _ _ _ _ _ _ _ _ _ _ _ _ _ _ _ _ _ _ _ _ _ _ _ _ _ _ _ _ _ _ _ _ _ _ _ _ _ _ _ _ _ _ _ _ _ _ _ _ _ _ _ _ _ _ _ _ _ _ _ _ _ _ _ _ _ _ _ _ _ _ _ _ _ _ _ _ _ _ _ _ _ _ _ _ _ _ _
    · exact jnT5 w _ b R G S j K kk HI Hk hp O _ _ _ _ _ _ _ _ _ _ _ _ _ _ _ _ _ _ _ _ _ _ _ _ _ _ _ _ _ _ _ _ _ _ _ _ _ _ _ _ _ _ _ _ _ _ _ _ _ _ _ _ _ _ _ _ _ _ _ _ _ _ _ _ _ _ _ _ _ _ _ _ _ _ _ _ _ _ _ _ _ _ _ _ _ _ _ _ _ _ _ _ _ _ _ _ _ _ _ _ _ _ _ _ _ _ _ _ _ _ _ _ _ _ _ _ _ _ _ _ _ _ _ _ _ _ _
    · exact jnT6 w _ b R G S j K kk HI Hk hp O _ _ _ _ _ _ _ _ _ _ _ _ _ _ _ _ _ _ _ _ _ _ _ _ _ _ _ _ _ _ _ _ _ _ _ _ _ _ _ _ _ _ _ _ _ _ _ _ _ _ _ _ _ _ _ _ _ _ _ _ _ _ _ _ _ _ _ _ _ _ _ _ _ _ _ _ _ _ _ _ _ _ _ _ _ _ _ _ _ _ _ _ _ _ _ _ _ _ _ _ _ _ _ _ _ _ _ _ _ _ _ _ _ _ _ _ _ _ _ _ _ _ _ _ _ _ _
    · exact jnT7 w _ b R G S j K kk HI Hk hp O _ _ _ _ _ _ _ _ _ _ _ _ _ _ _ _ _ _ _ _ _ _ _ _ _ _ _ _ _ _ _ _ _ _ _ _ _ _ _ _ _ _ _ _ _ _ _ _ _ _ _ _ _ _ _ _ _ _ _ _ _ _ _ _ _ _ _ _ _ _ _ _ _ _ _ _ _ _ _ _ _ _ _ _ _ _ _ _ _ _ _ _ _ _ _ _ _ _ _ _ _ _ _ _ _ _ _ _ _ _ _ _ _ _ _ _ _ _ _ _ _ _ _ _ _ _ _
end Go.Proofs.YtflnjlbafchnaaaGreatDoor
