/-
  Joined: WSsJ, WSsK, WSsN, WSsO, WSsQ.
-/
import Derived.Test.YtpfgnhockfofhaaGreatH39
import Derived.Test.YtpfgnhockfofhaaGreatH40
import Derived.Test.YtpfgnhockfofhaaGreatH41
import Derived.Test.YtpfgnhockfofhaaGreatH42
import Derived.Test.YtpfgnhockfofhaaGreatH43
import Derived.Test.YtpfgnhockfofhaaGreatH44
import Derived.Test.YtpfgnhockfofhaaGreatH38
import Derived.Test.YtpfgnhockfofhaaGreatRows
import Derived.ProofKit
import Derived.OpenShut
import Derived.ShutString
import Derived.ChangeOld
import Derived.SizedLaws
import Derived.ChangeSlices
import Derived.JoinedCond
import Derived.Lib.SmallJoins
import Derived.Carry
import Derived.Deep.Slices
import Derived.Deep.Strs
/-
  The document's shards: a step is done.
-/
namespace Go.Proofs.YtpfgnhockfofhaaGreat
open Go.RowKit

theorem doY_any (K : List (List UInt8)) (M : Nat) (Gs : Nat → Nat → Prop) (b hb ch cw : Nat) (hs : Nat → Nat) (aw : Option Addr) (S : Sd) (s : Sp) (w : World) (x : SyX Gs w b hb ch hs aw cw S) (inv : Inv K M S) (hM : M ≤ 1900000) :
    Calls Tryz.prog 7 #[.pointer (some ⟨b, 0, none⟩), .agg (stC s)] w fun e w' => e = .returned (.agg (anC (doS s S).1)) ∧ SyPost Gs w b hb ch hs (doS s S).2 w' := by
  obtain ⟨kd, hh, ot, nn, ky, up, vl⟩ := s
  unfold stC doS
  dsimp only
  by_cases h6 : 6 ≤ kd
  · rw [if_pos h6]
    exact dy_carry K M Gs b hb ch cw hs aw S _ kd hh ot nn ky up vl w x inv hM h6 rfl
  · rw [if_neg h6]
    cases hh0 : isHo S.n hh with
    | false =>
      rw [if_pos rfl]
      exact dy_nohost K M Gs b hb ch cw hs aw S _ kd hh ot nn ky up vl w x inv h6 hh0 rfl
    | true =>
      rw [if_neg (by decide)]
      cases hm : mayS ⟨kd, hh, ot, nn, ky, up, vl⟩ with
      | false =>
        rw [if_pos rfl]
        exact dy_may K M Gs b hb ch cw hs aw S _ kd hh ot nn ky up vl w x inv h6 hh0 hm rfl
      | true =>
        rw [if_neg (by decide)]
        by_cases k1 : kd = 1
        · subst k1
          rw [if_pos ⟨by decide, by decide⟩]
          exact dy_answer1 K M Gs b hb ch cw hs aw S _ hh ot nn ky up vl w x inv hM hh0 hm _ _ rfl rfl rfl
        · by_cases k2 : kd = 2
          · subst k2
            rw [if_pos ⟨by decide, by decide⟩]
            exact dy_answer2 K M Gs b hb ch cw hs aw S _ hh ot nn ky up vl w x inv hM hh0 hm _ _ rfl rfl rfl
          · by_cases k3 : kd = 3
            · subst k3
              rw [if_pos ⟨by decide, by decide⟩]
              exact dy_answer3 K M Gs b hb ch cw hs aw S _ hh ot nn ky up vl w x inv hM hh0 hm _ _ rfl rfl rfl
            · rw [if_neg (by omega)]
              by_cases k4 : kd = 4
              · subst k4
                rw [if_pos rfl]
                cases ho : isHo S.n ot with
                | false =>
                  rw [if_pos (.inl rfl)]
                  rcases host_no ho with h1 | ⟨h1, h2⟩
                  · exact dy_move_low K M Gs b hb ch cw hs aw S _ hh ot nn ky up vl w x inv hh0 hm h1 rfl
                  · exact dy_move_high K M Gs b hb ch cw hs aw S _ hh ot nn ky up vl w x inv hh0 hm h1 h2 rfl
                | true =>
                  by_cases hne : ot = hh
                  · rw [if_pos (.inr hne)]
                    exact dy_move_same K M Gs b hb ch cw hs aw S _ hh ot nn ky up vl w x inv hh0 hm (isHo_iff.1 ho).1 (isHo_iff.1 ho).2 hne rfl
                  · rw [if_neg (by rintro (e | e); cases e; exact hne e)]
                    exact dy_move K M Gs b hb ch cw hs aw S _ hh ot nn ky up vl w x inv hM hh0 hm ho hne _ _ rfl rfl rfl
              · rw [if_neg k4]
                by_cases k5 : kd = 5
                · subst k5
                  rw [if_pos rfl]
                  exact dy_send K M Gs b hb ch cw hs aw S _ hh ot nn ky up vl w x inv hM hh0 hm _ rfl rfl
                · rw [if_neg k5]
                  exact dy_other K M Gs b hb ch cw hs aw S _ kd hh ot nn ky up vl w x inv h6 k1 k2 k3 k4 k5 hh0 hm rfl
end Go.Proofs.YtpfgnhockfofhaaGreat

/-
  The document's shards: Heal.
-/
namespace Go.Proofs.YtpfgnhockfofhaaGreat
open Go.RowKit

theorem carry_none {S : Sd} (h : S.wy.length = 0) : carryS 6 0 S = S := by
  unfold carryS
  rw [List.getElem?_eq_none (by omega)]
theorem carries_stop {c : Nat} {S : Sd} (h : (carriesS c S).wy.length = 0) : ∀ d, carriesS (c + d) S = carriesS c S
  | 0 => rfl
  | d + 1 => by
    show carryS 6 0 (carriesS (c + d) S) = _
    rw [carries_stop h d]
    exact carry_none h
set_option maxRecDepth 100000 in
set_option maxHeartbeats 16000000 in
theorem healY_any (K : List (List UInt8)) (M m : Nat) (t : Int) (Gs : Nat → Nat → Prop) (b hb ch cw : Nat) (hs : Nat → Nat) (aw : Option Addr) (S : Sd) (w : World) (x : SyX Gs w b hb ch hs aw cw S) (inv : Inv K M S) (hm : m = (min t 100).toNat) (hM : M + 2009 * m ≤ 1900000) :
    Calls Tryz.prog 11 #[.pointer (some ⟨b, 0, none⟩), .int .i64 t] w fun e w' => e = .returned (.tuple #[]) ∧ SyPost Gs w b hb ch hs (healS m S) w' := by
  obtain ⟨i2, hi2, hx0, hx1, hx2⟩ := info_parts Tryz.infoOwnPk
  have hm100 : m ≤ 100 := by omega
  have HMQ : Hid (m = (min t 100).toNat) := hm
  have HIn : Hid (∀ i, Inv K (M + 2009 * i) (healS i S)) := fun i => inv.heal i
  have hn9 := inv.n1.2
  have HX : Hid (SyX Gs w b hb ch hs aw cw S) := x
  have HPS : Hid (SyPost Gs w b hb ch hs (healS 0 S) w) := SyPost.refl x
  obtain ⟨n, HN⟩ : ∃ n, Hid (n = S.n) := ⟨_, rfl⟩
  rw [← HN.out] at hn9
  have HNi : Hid (∀ i, (healS i S).n = n) := fun i => by rw [heal_n, HN.out]
  clear x inv hm
  go_enter Tryz.func11, Tryz.ntmps11
  go_wp2
  go_loopw [4] (fun u wr => ∃ i : Nat, i ≤ m ∧ u = .int .i64 i ∧ Hid (SyPost Gs w b hb ch hs (healS i S) wr)) (fun u _ => m - (intOf u).toNat)
  case atStart => exact ⟨0, Nat.zero_le _, rfl, HPS.out⟩
  case round =>
    obtain ⟨i, hi, rfl, HP⟩ := hrel
    by_cases hlt : i < m
    · have hlq : (i : Int) < t := by have := HMQ.out; omega
      have hl1 : (i : Int) < 100 := by omega
      rename World => wo
      obtain ⟨⟨G1, aw1, cw1, x1, h1⟩, k1⟩ := HP.out
      have HJ1 : Hid (∀ S' w', SyPost G1 wo b hb ch hs S' w' → SyPost Gs w b hb ch hs S' w') := fun _ _ y => SyPost.trans h1 k1 y
      have HX1 : Hid (SyX G1 wo b hb ch hs aw1 cw1 (healS i S)) := x1
      have HI1 : Hid (Inv K (M + 2009 * i) (healS i S)) := HIn.out i
      obtain ⟨S1, HS1⟩ : ∃ S1, Hid (S1 = healS i S) := ⟨_, rfl⟩
      have HN1 : Hid (S1.n = n) := by rw [HS1.out]; exact HNi.out i
      rw [← HS1.out] at HX1 HI1
      clear x1 h1 k1
      go_wp2
      go_loopw [5] (fun v wr => ∃ j : Nat, j ≤ n ∧ v = .int .i64 j ∧ Hid (SyPost G1 wo b hb ch hs (sendsS j S1) wr)) (fun v _ => n - (intOf v).toNat)
      case atStart => exact ⟨0, Nat.zero_le _, rfl, SyPost.refl HX1.out⟩
      case round =>
        obtain ⟨j, hj, rfl, HPj⟩ := hrel
        obtain ⟨⟨G2, aw2, cw2, x2, h2⟩, k2⟩ := HPj.out
        have c0 : wr.cell? ⟨b, 0, none⟩ = some (.slice (some ⟨hb, 0, none⟩) n ch) := by rw [← HN1.out, ← sends_n j S1]; exact blk_at x2.blk 0 rfl
        have hb2 : b < wr.heap.size := lt_of_block x2.blk
        by_cases hjn : j < n
        · have hji : (j : Int) < (n : Int) := by omega
          have at2 := x2.at (i := j) (by rw [sends_n, HN1.out]; exact hjn)
          have h2l : hb < wr.heap.size := World.block_lt_of_cell? wr _ at2
          have HI2 : Hid (Inv K (M + 2009 * i + j) (sendsS j S1)) := HI1.out.sends j (by rw [HN1.out]; exact hj)
          obtain ⟨S3, HS3⟩ : ∃ S3, Hid (S3 = sendsS j S1) := ⟨_, rfl⟩
          rw [← HS3.out] at x2 HI2
          have hwl := HI2.out.wl
          have hjs : j < S3.n := by rw [HS3.out, sends_n, HN1.out]; exact hjn
          obtain ⟨rb, ay, cy, ai, ci, gk, ck, y⟩ := x2.ho j hjs
          have HNU : Hid (∀ k, k < 10 → ((S3.ho j).os k).wt.length ≤ 16) := fun k hk => ((HI2.out.ho j hjs).nu k hk).2.1
          have hpl := pksTo_len (j + 1 : Nat) (S3.ho j).os HNU.out 10 (Nat.le_refl _)
          have HLL : Hid (S3.wy.length + (pksTo (j + 1 : Nat) (S3.ho j).os 10).length ≤ maxLen ∧ (S3.wy.length + (pksTo (j + 1 : Nat) (S3.ho j).os 10).length) * 48 ≤ 140737488355328) := by constructor <;> (try unfold maxLen) <;> omega
          obtain ⟨ps, HPs⟩ : ∃ ps, Hid (ps = pksTo (j + 1 : Nat) (S3.ho j).os 10) := ⟨_, rfl⟩
          have HSE : Hid (sendsS (j + 1) S1 = { S3 with wy := S3.wy ++ ps }) := by show _ = _; rw [HPs.out, HS3.out]; rfl
          have PA := packetsY_any (G2 j) rb (j + 1 : Nat) (S3.ho j).os ay cy wr y.rl HNU.out
          rw [← HPs.out] at HLL PA
          have e0 : wr.cell? ⟨hs j, 0, none⟩ = some (.pointer (some ⟨rb, 0, none⟩)) := blk_at y.ho 0 rfl
          have hhr : hs j < wr.heap.size := lt_of_block y.ho
          have HX2 : Hid (SyX G2 wr b hb ch hs aw2 cw2 S3) := x2
          have HJ2 : Hid (∀ S' w', SyPost G2 wr b hb ch hs S' w' → SyPost G1 wo b hb ch hs S' w') := fun _ _ y => SyPost.trans h2 k2 y
          clear x2 h2 k2 y hpl
          go_wp2_with fail
          go_fit PA
          rintro e w8 ⟨a2, c2, rfl, o2, k2⟩
          have K8 : Hid (Kept Nil wr w8) := k2
          have SR8 := o2.src
          have HX8 : Hid (SyX G2 w8 b hb ch hs aw2 cw2 S3) := HX2.out.kept K8.out
          have s1 : w8.cell? ⟨b, 1, none⟩ = some (.slice aw2 S3.wy.length cw2) := blk_at HX8.out.blk 1 rfl
          have hb8 : b < w8.heap.size := lt_of_block HX8.out.blk
          clear PA k2 o2 e0 hhr at2 h2l c0
          go_wp2_with (at_builtin; go_must (refine wpList_append_row _ rfl _ _ 44 44 rfl 86 i2 (.agg #[.int .i64 0, .int .i64 0, .int .i64 0, .bool false, .string ⟨#[]⟩]) 5 48 Tryz.underlying44 hi2 hx0 hx1 hx2 rfl (.slice aw2 S3.wy.length cw2) S3.wy.length (pkCells S3.wy) rfl HX8.out.wy (.slice a2 ps.length c2) ps.length (pkCells ps) rfl SR8 HLL.out.1 HLL.out.2 ?_); intro a6 c6 w6 r6 g6 t6; have HFF : Hid (SyPost G2 wr b hb ch hs { S3 with wy := S3.wy ++ ps } (w6.setCell ⟨b, 1, none⟩ (.slice a6 (S3.wy.length + ps.length) c6))) := HX2.out.more K8.out r6 g6 t6; have s6 : w6.heap[b]? = some (.cells #[.slice (some ⟨hb, 0, none⟩) S3.n ch, .slice aw2 S3.wy.length cw2] 56 (0, 0)) := (by rw [g6.block b hb8 (fun e => by obtain ⟨_, e2⟩ := HX8.out.wy.tp e.symm HX8.out.blk; cases e2)]; exact HX8.out.blk); have e6 : w6.cell? ⟨b, 1, none⟩ = some (.slice aw2 S3.wy.length cw2) := blk_at s6 1 rfl; have f6 : w6.frozen? ⟨b, 1, none⟩ = false := blk_free s6 _; clear r6 g6 t6 s6 SR8)
          go_roundw
          case rel => exact ⟨j + 1, by omega, by congr 1, by rw [HSE.out]; exact HJ2.out _ _ HFF.out⟩
          case measure => simp [intOf]; omega
        · obtain rfl : j = n := by omega
          rename World => wp
          obtain ⟨S2, HS2⟩ : ∃ S2, Hid (S2 = sendsS j S1) := ⟨_, rfl⟩
          have HI2 : Hid (Inv K (M + 2009 * i + j) S2) := by rw [HS2.out]; exact HI1.out.sends j (by rw [HN1.out]; exact Nat.le_refl _)
          rw [← HS2.out] at x2
          have HX3 : Hid (SyX G2 wp b hb ch hs aw2 cw2 S2) := x2
          have HJ3 : Hid (∀ S' w', SyPost G2 wp b hb ch hs S' w' → SyPost Gs w b hb ch hs S' w') := fun _ _ y => HJ1.out _ _ (SyPost.trans h2 k2 y)
          clear x2 h2 k2
          go_wp2
          go_loopw [7] (fun v wr => ∃ c : Nat, c ≤ 2000 ∧ v = .int .i64 c ∧ Hid (SyPost G2 wp b hb ch hs (carriesS c S2) wr)) (fun v _ => 2000 - (intOf v).toNat)
          case atStart => exact ⟨0, Nat.zero_le _, rfl, SyPost.refl HX3.out⟩
          case round =>
            obtain ⟨c, hc, rfl, HPc⟩ := hrel
            obtain ⟨⟨G4, aw4, cw4, x4, h4⟩, k4⟩ := HPc.out
            have s4 : wr.cell? ⟨b, 1, none⟩ = some (.slice aw4 (carriesS c S2).wy.length cw4) := blk_at x4.blk 1 rfl
            have hb4 : b < wr.heap.size := lt_of_block x4.blk
            obtain ⟨l4, HL4⟩ : ∃ l4, Hid (l4 = (carriesS c S2).wy.length) := ⟨_, rfl⟩
            rw [← HL4.out] at s4
            have HPE : Hid (carriesS c S2 = carriesS 2000 S2 → SyPost Gs w b hb ch hs (healS (i + 1) S) wr) := fun e => by
              have h9 := HJ3.out _ _ HPc.out
              rw [heal_next, ← HN.out, ← HS1.out, ← HS2.out, ← e]
              exact h9
            by_cases hcn : c < 2000
            · have hci : (c : Int) < 2000 := by omega
              by_cases hl0 : l4 = 0
              · have HE : Hid (carriesS c S2 = carriesS 2000 S2) := by
                  have h9 := carries_stop (by rw [← HL4.out]; exact hl0) (2000 - c)
                  rw [show c + (2000 - c) = 2000 by omega] at h9
                  exact h9.symm
                have HPf := HPE.out HE.out
                have HPF : Hid (SyPost Gs w b hb ch hs (healS (i + 1) S) wr) := HPf
                have hl0i : ¬ (l4 : Int) > 0 := by omega
                clear x4 h4 k4 HPf
                go_wp2
                go_roundw
                case rel => exact ⟨i + 1, by omega, by congr 1, HPF.out⟩
                case measure => simp [intOf]; omega
              · have hl0i : (l4 : Int) > 0 := by omega
                have CA : Calls Tryz.prog 21 #[.pointer (some ⟨b, 0, none⟩), .agg #[.int .i64 6, .int .i64 0, .int .i64 0, .int .i64 0, .string ⟨#[]⟩, .string ⟨#[]⟩, .string ⟨#[]⟩]] wr fun e w' => e = .returned (.tuple #[]) ∧ SyPost G4 wr b hb ch hs (carryS 6 0 (carriesS c S2)) w' := move_any K (M + 2009 * i + j + c) G4 b hb ch cw4 hs aw4 (carriesS c S2) 6 0 0 0 [] [] [] wr x4 (HI2.out.carries c) (by omega) (by omega)
                go_wp2_with fail
                go_fit CA
                rintro e w5 ⟨rfl, y5⟩
                have HP5 : Hid (SyPost G2 wp b hb ch hs (carriesS (c + 1) S2) w5) := SyPost.trans h4 k4 y5
                clear CA y5 x4 h4 k4 s4 hb4
                go_wp2
                go_roundw
                case rel => exact ⟨c + 1, by omega, by congr 1, HP5.out⟩
                case measure => simp [intOf]; omega
            · obtain rfl : c = 2000 := by omega
              have HPF : Hid (SyPost Gs w b hb ch hs (healS (i + 1) S) wr) := HPE.out rfl
              clear x4 h4 k4
              go_wp2
              go_roundw
              case rel => exact ⟨i + 1, by omega, by congr 1, HPF.out⟩
              case measure => simp [intOf]; omega
    · obtain rfl : i = m := by omega
      by_cases hlq : (i : Int) < t
      · have hl1 : ¬ (i : Int) < 100 := by have := HMQ.out; omega
        go_wp2
        go_end0
        exact ⟨rfl, HP.out⟩
      · go_wp2
        go_end0
        exact ⟨rfl, HP.out⟩
end Go.Proofs.YtpfgnhockfofhaaGreat

/-
  The law: shards on both sides, apart in memory.
-/
namespace Go.Proofs.YtpfgnhockfofhaaGreat
open Go.RowKit

/-- Both sides' shards, all of it made since w0. -/
def Two (w0 w : World) (b d : Nat) (S T : Sd) : Prop := ∃ G1 G2 : Nat → Prop, ShM G1 w b S ∧ SyM G2 w d T ∧ (∀ g, G1 g → ¬ G2 g) ∧ (∀ g, G1 g → w0.heap.size ≤ g ∧ g < w.heap.size) ∧ ∀ g, G2 g → w0.heap.size ≤ g ∧ g < w.heap.size
/-- Only what was made since w0 is touched. -/
def Since (w0 : World) : Nat → Obj → Prop := fun q _ => w0.heap.size ≤ q
theorem Two.kept {w0 w w' : World} {b d : Nat} {S T : Sd} (h : Two w0 w b d S T) (k : Kept Nil w w') : Two w0 w' b d S T := by
  obtain ⟨G1, G2, x, y, hd, h1, h2⟩ := h
  exact ⟨G1, G2, x.keptX k (fun _ _ _ e => e), y.keptX k (fun _ _ _ e => e), hd, fun g hg => ⟨(h1 g hg).1, Nat.lt_of_lt_of_le (h1 g hg).2 k.size⟩, fun g hg => ⟨(h2 g hg).1, Nat.lt_of_lt_of_le (h2 g hg).2 k.size⟩⟩
theorem Two.left {w0 w w' : World} {b d : Nat} {S' T : Sd} {G1 G2 : Nat → Prop} (hw : w0.heap.size ≤ w.heap.size) (y : SyM G2 w d T) (hd : ∀ g, G1 g → ¬ G2 g) (h1 : ∀ g, G1 g → w0.heap.size ≤ g ∧ g < w.heap.size) (h2 : ∀ g, G2 g → w0.heap.size ≤ g ∧ g < w.heap.size) (x' : ShM (GN G1 w) w' b S') (k : Kept (TG G1) w w') : Two w0 w' b d S' T ∧ Kept (Since w0) w w' := by
  refine ⟨⟨fun g => GN G1 w g ∧ g < w'.heap.size, G2, x'.lt, y.keptX k (fun q _ hq e => hd q e hq), fun g hg e => ?_, fun g hg => ⟨?_, hg.2⟩, fun g hg => ⟨(h2 g hg).1, Nat.lt_of_lt_of_le (h2 g hg).2 k.size⟩⟩, k.mono (fun q _ e => (h1 q e).1)⟩
  · rcases hg.1 with hg | hg
    · exact hd g hg e
    · have := (h2 g e).2; omega
  · rcases hg.1 with hg | hg
    · exact (h1 g hg).1
    · omega
theorem Two.right {w0 w w' : World} {b d : Nat} {S T' : Sd} {G1 G2 : Nat → Prop} (hw : w0.heap.size ≤ w.heap.size) (x : ShM G1 w b S) (hd : ∀ g, G1 g → ¬ G2 g) (h1 : ∀ g, G1 g → w0.heap.size ≤ g ∧ g < w.heap.size) (h2 : ∀ g, G2 g → w0.heap.size ≤ g ∧ g < w.heap.size) (y' : SyM (GN G2 w) w' d T') (k : Kept (TG G2) w w') : Two w0 w' b d S T' ∧ Kept (Since w0) w w' := by
  refine ⟨⟨G1, fun g => GN G2 w g ∧ g < w'.heap.size, x.keptX k (fun q _ hq e => hd q hq e), y'.lt, fun g hg e => ?_, fun g hg => ⟨(h1 g hg).1, Nat.lt_of_lt_of_le (h1 g hg).2 k.size⟩, fun g hg => ⟨?_, hg.2⟩⟩, k.mono (fun q _ e => (h2 q e).1)⟩
  · rcases e.1 with e | e
    · exact hd g hg e
    · have := (h1 g hg).2; omega
  · rcases hg.1 with hg | hg
    · exact (h2 g hg).1
    · omega
theorem two_do (K : List (List UInt8)) (M b d : Nat) (w0 w : World) (S T : Sd) (s : Sp) (hw : w0.heap.size ≤ w.heap.size) (h : Two w0 w b d S T) (inv : Inv K M S) (hM : M ≤ 1900000) (hle : s.ky.length ≤ 1000000000000 ∧ s.up.length ≤ 1000000000000 ∧ s.vl.length ≤ 1000000000000) :
    Calls Tryz.prog 5 #[.pointer (some ⟨b, 0, none⟩), .agg (stC s)] w fun e w' => e = .returned (.agg (anC (doS s S).1)) ∧ Two w0 w' b d (doS s S).2 T ∧ Kept (Since w0) w w' := by
  obtain ⟨G1, G2, ⟨Gs, hb, ch, hs, aw, cw, x, hG⟩, y, hd, h1, h2⟩ := h
  refine (do_any K M Gs b hb ch cw hs aw S s w x inv hM hle).mono ?_
  rintro e w' ⟨he, hp⟩
  obtain ⟨x', k⟩ := hp.m hG
  exact ⟨he, Two.left hw y hd h1 h2 x' k⟩
theorem two_heal (K : List (List UInt8)) (M m b d : Nat) (t : Int) (w0 w : World) (S T : Sd) (hw : w0.heap.size ≤ w.heap.size) (h : Two w0 w b d S T) (inv : Inv K M S) (hm : m = (min t 100).toNat) (hM : M + 2009 * m ≤ 1900000) :
    Calls Tryz.prog 10 #[.pointer (some ⟨b, 0, none⟩), .int .i64 t] w fun e w' => e = .returned (.tuple #[]) ∧ Two w0 w' b d (healS m S) T ∧ Kept (Since w0) w w' := by
  obtain ⟨G1, G2, ⟨Gs, hb, ch, hs, aw, cw, x, hG⟩, y, hd, h1, h2⟩ := h
  refine (heal_any K M m t Gs b hb ch cw hs aw S w x inv hm hM).mono ?_
  rintro e w' ⟨he, hp⟩
  obtain ⟨x', k⟩ := hp.m hG
  exact ⟨he, Two.left hw y hd h1 h2 x' k⟩
theorem two_healY (K : List (List UInt8)) (M m b d : Nat) (t : Int) (w0 w : World) (S T : Sd) (hw : w0.heap.size ≤ w.heap.size) (h : Two w0 w b d S T) (inv : Inv K M T) (hm : m = (min t 100).toNat) (hM : M + 2009 * m ≤ 1900000) :
    Calls Tryz.prog 11 #[.pointer (some ⟨d, 0, none⟩), .int .i64 t] w fun e w' => e = .returned (.tuple #[]) ∧ Two w0 w' b d S (healS m T) ∧ Kept (Since w0) w w' := by
  obtain ⟨G1, G2, x, ⟨Gs, hb, ch, hs, aw, cw, y, hG⟩, hd, h1, h2⟩ := h
  refine (healY_any K M m t Gs d hb ch cw hs aw T w y inv hm hM).mono ?_
  rintro e w' ⟨he, hp⟩
  obtain ⟨y', k⟩ := hp.m hG
  exact ⟨he, Two.right hw x hd h1 h2 y' k⟩
theorem two_all (K : List (List UInt8)) (M b d : Nat) (w0 w : World) (S : Sd) (h : Two w0 w b d S S) (inv : Inv K M S) (hM : M ≤ 1900000) :
    Calls Tryz.prog 9 #[.pointer (some ⟨b, 0, none⟩), .pointer (some ⟨d, 0, none⟩)] w fun e w' => e = .returned (.bool true) ∧ Kept Nil w w' := by
  obtain ⟨G1, G2, ⟨Gs, hb, ch, hs, aw, cw, x, hG⟩, ⟨Gy, hd, cd, hy, ay, cy, y, hGy⟩, _⟩ := h
  exact shardsAll_any K M Gs Gy b hb ch cw d hd cd cy hs hy aw ay S w x y inv hM
end Go.Proofs.YtpfgnhockfofhaaGreat

/-
  The law: the state behind a script's first steps.
-/
namespace Go.Proofs.YtpfgnhockfofhaaGreat
open Go.RowKit

def runS (l : List Sp) (S : Sd) : Sd := l.foldl (fun a s => (doS s a).2) S
theorem runS_next {l : List Sp} {k : Nat} (h : k < l.length) (S : Sd) : runS (l.take (k + 1)) S = (doS l[k] (runS (l.take k) S)).2 := by
  unfold runS
  rw [List.take_succ_eq_append_getElem h, List.foldl_append]
  rfl
theorem Inv.run : ∀ (l : List Sp) {K : List (List UInt8)} {M : Nat} {S : Sd}, Inv K M S → Inv (l.foldl (fun a s => s.ky :: a) K) (M + l.length) (runS l S)
  | [], _, _, _, x => x
  | s :: t, K, M, S, x => by
    have y := Inv.run t (x.step s)
    rw [show M + 1 + t.length = M + (s :: t).length by simp; omega] at y
    exact y
theorem Inv.runAt {l : List Sp} {n : Nat} (h : 1 ≤ n ∧ n ≤ 9) (k : Nat) (hk : k ≤ l.length) : Inv ((l.take k).foldl (fun a s => s.ky :: a) []) k (runS (l.take k) (sd0 n)) := by
  have y := Inv.run (l.take k) (Inv.start h)
  rw [List.length_take, Nat.min_eq_left hk, Nat.zero_add] at y
  exact y
/-- A row of steps as it lies. -/
def SpRow (B : Nat) (w : World) (ao : Option Addr) (l : List Sp) : Prop := ∀ j, (hj : j < l.length) → ∃ a, ao = some a ∧ a.block < B ∧ ∀ (r : Nat) v, (stC l[j]).toList[r]? = some v → w.cell? ((a.add (j * 7)).add r) = some v
theorem SpRow.since {B : Nat} {w0 w w' : World} {ao : Option Addr} {l : List Sp} (h : SpRow B w ao l) (hB : B ≤ w0.heap.size) (k : Kept (Since w0) w w') : SpRow B w' ao l := fun j hj => by
  obtain ⟨a, e, hg, hc⟩ := h j hj
  refine ⟨a, e, hg, fun r v hv => cell_kept k (fun _ e => ?_) (hc r v hv)⟩
  rw [add_block, add_block] at e
  have e : w0.heap.size ≤ a.block := e
  omega
/-- A whole variable is read from wherever it lies. -/
theorem wpList_loadA {P : Program} {ops : Array Oper} {rest : List Oper} {op : Oper} {a : Act} {w : World} {Q : Exit → Act → World → Prop} (hgd : op.guard = none) (ty : TypeId) (x : Operand) (ho : op.op = .load ty x)
    (ad : Addr) (hx : a.eval x = .pointer (some ad)) (cs : List Value) (d : TypeDesc) (hc : ∀ (j : Nat) v, cs[j]? = some v → w.cell? (ad.add j) = some v)
    (hu : P.underlying ty = some d) (hd : d.isRow = true) (hi : (P.info? ty).map (·.size) = some cs.length)
    (h : wpList P ops Q rest (a.put op.dst (.agg cs.toArray)) w) : wpList P ops Q (op :: rest) a w :=
  wpList_plain hgd fun _ hK => by
    have hl : (loadCells ad cs.length).run P w = .ok cs.toArray w := run_loadCells_list (P := P) w ad cs hc
    have hlv : (loadVar ty ad).run P w = .ok (.agg cs.toArray) w := by
      cases hq : P.info? ty with
      | none => simp [hq] at hi
      | some i =>
        have hs : i.size = cs.length := by simpa [hq] using hi
        have hagg : (isAgg ty).run P w = .ok true w := by
          unfold isAgg
          rw [Sem.run_bind, run_underlying hu w]
          cases d <;> simp_all
        simp [loadVar, Sem.run_bind, hagg, sizeOf, typeInfo, hq, hs, hl]
    unfold Oper.wp execOp
    simp only [ho, hx, Instr.loadAt, Instr.sureAddr, Sem.run_bind, Sem.run_pure, Result.andThen_ok, hlv]
    exact hK _ _ h
end Go.Proofs.YtpfgnhockfofhaaGreat

/-
  The steps of a script that are handed in: what the form says of them.
-/
namespace Go.Proofs.YtpfgnhockfofhaaGreat
open Go.ChangeShapes Go.WideShapes Go.ChangeAt Go.RowKit
open Go.ChangeMaps (open_string shut_string)

theorem Tryz.ownE : ownKnob Tryz.prog.godebug = none := by kernel_rfl
theorem Tryz.laidOutE : laidOutB Tryz.prog = true := by kernel_rfl
theorem Tryz.cellsIntE : Tryz.prog.cellsOf 3 = 1 := by kernel_rfl
theorem Tryz.cellsStrE : Tryz.prog.cellsOf 9 = 1 := by kernel_rfl
theorem Tryz.cellsShE : Tryz.prog.cellsOf 34 = 7 := by kernel_rfl
theorem listS {α : Type} {cs : List α} (h : cs.length = 7) : ∃ a0 a1 a2 a3 a4 a5 a6, cs = [a0, a1, a2, a3, a4, a5, a6] := by
  match cs, h with
  | [a0, a1, a2, a3, a4, a5, a6], _ => exact ⟨a0, a1, a2, a3, a4, a5, a6, rfl⟩
instance : Inhabited Sp := ⟨⟨0, 0, 0, 0, [], [], []⟩⟩

/-! how much a datum holds -/
theorem bulk_pos {H : Type} (d : DataW H) : 0 < Rows.uptoBulk d := by
  cases d with
  | lit l => cases l <;> simp [Rows.uptoBulk]
  | _ => simp [Rows.uptoBulk]
theorem bulk_all {H : Type} : ∀ l : List (DataW H), l.length ≤ Rows.uptoBulkAll l
  | [] => Nat.zero_le _
  | d :: l => by
    have h1 := bulk_pos d
    have h2 := bulk_all l
    simp only [Rows.uptoBulkAll, List.length_cons]
    omega
theorem bulk_mem {H : Type} {d : DataW H} : ∀ {l : List (DataW H)}, d ∈ l → Rows.uptoBulk d ≤ Rows.uptoBulkAll l
  | [], h => by cases h
  | c :: l, h => by
    simp only [Rows.uptoBulkAll]
    rcases List.mem_cons.1 h with rfl | h
    · omega
    · have := bulk_mem h
      omega
section
variable {H : Type} {enc : TypeId × Value → H} {W : World} {fuel : Nat} {v : Value} {y : DataW H × List MemPlace}
set_option maxRecDepth 100000 in
theorem stepsIn (hf : DataW.trod enc Tryz.prog W 0 (fun _ => true) true fuel 22 [v] = some y) (hb : Rows.uptoBulk y.1 ≤ 1048576) :
    ∃ (ao : Option Addr) (ss : List Sp) (cap : Nat), v = .slice ao ss.length cap ∧ SpRow W.heap.size W ao ss ∧ ss.length ≤ 1048576 ∧ ∀ s ∈ ss, s.ky.length ≤ 1048576 ∧ s.up.length ≤ 1048576 ∧ s.vl.length ≤ 1048576 := by
  rcases Go.Deep.open_slice Tryz.underlying22 hf with ⟨h1, _⟩ | ⟨a, len, cap, m, n, D, Pl, h1, _, hl, hm, hmm, hy, hx⟩
  · simp at h1
    subst h1
    exact ⟨none, [], 0, rfl, fun j hj => by simp at hj, by simp, fun s hs => by cases hs⟩
  · simp at h1
    subst h1
    simp only [if_true] at hmm
    have hb2 : Rows.uptoBulkAll ((List.range len).map D) ≤ 1048576 := by
      rw [hy] at hb
      simp only [Rows.uptoBulk] at hb
      omega
    have hbD : ∀ j, j < len → Rows.uptoBulk (D j) ≤ 1048576 := fun j hj => Nat.le_trans (bulk_mem (List.mem_map_of_mem (List.mem_range.2 hj))) hb2
    have hbl : len ≤ 1048576 := by
      have := bulk_all ((List.range len).map D)
      simp at this
      omega
    obtain ⟨f, hF⟩ := Go.Deep.choose_lt (α := Sp) (n := len) (p := fun j s => a.block < W.heap.size ∧ (∀ (r : Nat) u, (stC s).toList[r]? = some u → W.cell? ((a.add (j * 7)).add r) = some u) ∧ s.ky.length ≤ 1048576 ∧ s.up.length ≤ 1048576 ∧ s.vl.length ≤ 1048576) (fun j hj => by
      obtain ⟨cs, h1, h2⟩ := hx j (by omega)
      have hbj := hbD j hj
      rw [Tryz.cellsShE] at h1
      obtain ⟨_, hlen, hc⟩ := World.cells?_some h1
      obtain ⟨c0, c1, c2, c3, c4, c5, c6, rfl⟩ := listS hlen
      obtain ⟨ys, n', _, hD, _, hyl, hg⟩ := DataW.trod_struct Tryz.underlying34 h2
      obtain ⟨y0, y1, y2, y3, y4, y5, y6, rfl⟩ := listS hyl
      have g0 := hg 0 _ rfl
      have g1 := hg 1 _ rfl
      have g2 := hg 2 _ rfl
      have g3 := hg 3 _ rfl
      have g4 := hg 4 _ rfl
      have g5 := hg 5 _ rfl
      have g6 := hg 6 _ rfl
      simp [Tryz.cellsIntE, Tryz.cellsStrE] at g0 g1 g2 g3 g4 g5 g6
      obtain ⟨z0, e0, _, _⟩ := DataW.trod_int Tryz.underlying3 g0
      obtain ⟨z1, e1, _, _⟩ := DataW.trod_int Tryz.underlying3 g1
      obtain ⟨z2, e2, _, _⟩ := DataW.trod_int Tryz.underlying3 g2
      obtain ⟨z3, e3, _, _⟩ := DataW.trod_int Tryz.underlying3 g3
      obtain ⟨z4, e4, d4, _⟩ := DataW.trod_string Tryz.underlying9 g4
      obtain ⟨z5, e5, d5, _⟩ := DataW.trod_string Tryz.underlying9 g5
      obtain ⟨z6, e6, d6, _⟩ := DataW.trod_string Tryz.underlying9 g6
      simp at e0 e1 e2 e3 e4 e5 e6
      subst e0 e1 e2 e3 e4 e5 e6
      have ey : D j = .agg [y0.1, y1.1, y2.1, y3.1, y4.1, y5.1, y6.1] := congrArg Prod.fst hD
      rw [ey] at hbj
      simp only [Rows.uptoBulk, Rows.uptoBulkAll] at hbj
      have l4 : z4.data.toList.length ≤ 1048576 := by
        have hd := congrArg Prod.fst d4
        simp only at hd
        rw [hd] at hbj
        simp only [Rows.uptoBulk] at hbj
        omega
      have l5 : z5.data.toList.length ≤ 1048576 := by
        have hd := congrArg Prod.fst d5
        simp only at hd
        rw [hd] at hbj
        simp only [Rows.uptoBulk] at hbj
        omega
      have l6 : z6.data.toList.length ≤ 1048576 := by
        have hd := congrArg Prod.fst d6
        simp only at hd
        rw [hd] at hbj
        simp only [Rows.uptoBulk] at hbj
        omega
      have q0 := hc 0 (by omega)
      have e : ((a.add (j * 7)).add 0).block = a.block := by rw [add_block, add_block]
      have hb := World.block_lt_of_cell? W _ q0
      refine ⟨⟨z0, z1, z2, z3, z4.data.toList, z5.data.toList, z6.data.toList⟩, by omega, fun r u hu => ?_, l4, l5, l6⟩
      simp only [stC, bs_self] at hu
      match r, hu with
      | 0, hu => rw [← Option.some.inj hu]; exact hc 0 (by omega)
      | 1, hu => rw [← Option.some.inj hu]; exact hc 1 (by omega)
      | 2, hu => rw [← Option.some.inj hu]; exact hc 2 (by omega)
      | 3, hu => rw [← Option.some.inj hu]; exact hc 3 (by omega)
      | 4, hu => rw [← Option.some.inj hu]; exact hc 4 (by omega)
      | 5, hu => rw [← Option.some.inj hu]; exact hc 5 (by omega)
      | 6, hu => rw [← Option.some.inj hu]; exact hc 6 (by omega)
      | r + 7, hu => simp at hu)
    have hlen : ((List.range len).map f).length = len := by simp
    refine ⟨some a, (List.range len).map f, cap, by rw [hlen], ?_, by rw [hlen]; exact hbl, ?_⟩
    · intro j hj
      rw [hlen] at hj
      obtain ⟨h0, h1, _⟩ := hF j hj
      simp only [List.getElem_map, List.getElem_range]
      exact ⟨a, rfl, h0, h1⟩
    · intro s hs
      obtain ⟨j, hj, rfl⟩ := List.mem_map.1 hs
      exact (hF j (List.mem_range.1 hj)).2.2
end
end Go.Proofs.YtpfgnhockfofhaaGreat
