/-
  The document's Begin.
-/
import Derived.Test.YtijklginabipgaaWExact3
import Derived.Test.YtijklginabipgaaWCfg4
namespace Go.Proofs.Ytijklginabipgaa
open Go.RowKit

set_option maxRecDepth 100000 in
set_option maxHeartbeats 4000000 in
theorem refBegin_any (B B' c1 c2 c3 co : Nat) (a1 a2 a3 oo : Option Addr) (v n l : List Int) (ops : List (Int × Int)) (w : World) (h : CfRows B w a1 a2 a3 v n l) (hB : B ≤ w.heap.size) (ho : OpRow B' w oo ops) (h1 : v.length ≤ 1048576) (h2 : n.length ≤ 1048576) (h3 : l.length ≤ 1048576) (hol : ops.length ≤ 1048576) :
    Calls Try.prog 12 #[.agg #[.slice a1 v.length c1, .slice a2 n.length c2, .slice a3 l.length c3], .slice oo ops.length co] w (RBegPost w (begZ v n l ops)) := by
  have HR : Hid (CfRows B w a1 a2 a3 v n l) := h
  have HOP : Hid (OpRow B' w oo ops) := ho
  obtain ⟨r, HRR⟩ : ∃ r, Hid (r = begZ v n l ops) := ⟨_, rfl⟩
  rw [← HRR.out]
  clear h ho
  obtain ⟨W, hW⟩ : ∃ W, W = (w.alloc (.cells #[.slice a1 v.length c1, .slice a2 n.length c2, .slice a3 l.length c3] 24)).alloc (.cells #[.slice none 0 0, .slice none 0 0, .slice none 0 0] 24) := ⟨_, rfl⟩
  have KW : Hid (Kept Nil w W) := by rw [hW]; exact ((Kept.refl _ _).alloc _).alloc _
  have HC : Hid (W.heap[w.heap.size]? = some (.cells #[.slice a1 v.length c1, .slice a2 n.length c2, .slice a3 l.length c3] 24 (0, 0))) := by rw [hW]; exact blk_past (blk_new _ _) _
  have HN : Hid (W.heap[w.heap.size + 1]? = some (.cells #[.slice none 0 0, .slice none 0 0, .slice none 0 0] 24 (0, 0))) := by
    have := blk_new (w.alloc (.cells #[.slice a1 v.length c1, .slice a2 n.length c2, .slice a3 l.length c3] 24)) (.cells #[.slice none 0 0, .slice none 0 0, .slice none 0 0] 24)
    rw [show (w.alloc (.cells #[.slice a1 v.length c1, .slice a2 n.length c2, .slice a3 l.length c3] 24)).heap.size = w.heap.size + 1 by simp] at this
    rw [hW]
    exact this
  have V := refIsConfig_any B c1 c2 c3 a1 a2 a3 v n l W (HR.out.nil KW.out) (by omega) (by omega) (by omega)
  obtain ⟨ok, HOK⟩ : ∃ ok, Hid (ok = isCfg v n l) := ⟨_, rfl⟩
  rw [← HOK.out] at V
  go_enter Try.func12, Try.ntmps12
  go_wp2_with fail
  rw [← hW]
  clear hW
  go_fit V
  rintro e w1 ⟨rfl, k1⟩
  have K1 : Hid (Kept Nil W w1) := k1
  have KK1 : Hid (Kept Nil w w1) := KW.out.trans k1
  clear k1 V
  have q0 : w1.cell? ⟨w.heap.size, 0, none⟩ = some (.slice a1 v.length c1) := blk_at (K1.out.block _ _ HC.out (fun x => x.elim)) 0 rfl
  have q1 : w1.cell? ⟨w.heap.size, 1, none⟩ = some (.slice a2 n.length c2) := blk_at (K1.out.block _ _ HC.out (fun x => x.elim)) 1 rfl
  have q2 : w1.cell? ⟨w.heap.size, 2, none⟩ = some (.slice a3 l.length c3) := blk_at (K1.out.block _ _ HC.out (fun x => x.elim)) 2 rfl
  cases ok with
  | false =>
    have HE : Hid (r = .error 8) := HRR.out.trans (begZ_bad HOK.out.symm)
    have g0 : w1.cell? ⟨w.heap.size + 1, 0, none⟩ = some (.slice none 0 0) := blk_at (K1.out.block _ _ HN.out (fun x => x.elim)) 0 rfl
    have f0 : w1.frozen? ⟨w.heap.size + 1, 0, none⟩ = false := blk_free (K1.out.block _ _ HN.out (fun x => x.elim)) 0
    have g1 : w1.cell? ⟨w.heap.size + 1, 1, none⟩ = some (.slice none 0 0) := blk_at (K1.out.block _ _ HN.out (fun x => x.elim)) 1 rfl
    have f1 : w1.frozen? ⟨w.heap.size + 1, 1, none⟩ = false := blk_free (K1.out.block _ _ HN.out (fun x => x.elim)) 1
    have g2 : w1.cell? ⟨w.heap.size + 1, 2, none⟩ = some (.slice none 0 0) := blk_at (K1.out.block _ _ HN.out (fun x => x.elim)) 2 rfl
    have f2 : w1.frozen? ⟨w.heap.size + 1, 2, none⟩ = false := blk_free (K1.out.block _ _ HN.out (fun x => x.elim)) 2
    go_wp2
    refine bodyPost_ret (v := .tuple #[.agg #[.slice none 0 0, .slice none 0 0, .slice none 0 0], .int .i64 8]) (by simp [results, Try.results12, go_sem, g0, g1, g2]) rfl ?_
    exact .inl ⟨8, HE.out, rfl, ((KK1.out.setNew (Nat.le_succ _) _).setNew (Nat.le_succ _) _).setNew (Nat.le_succ _) _⟩
  | true =>
    have hcf := (isCfg_iff _ _ _).1 HOK.out.symm
    have hv9 := up_len hcf.2.1
    have hl9 := up_len hcf.2.2.2.1
    by_cases hj : 0 < n.length
    · have HE : Hid (r = .error 9) := HRR.out.trans (begZ_joint HOK.out.symm hj)
      have j0 : decide (0 < n.length) = true := decide_eq_true hj
      clear hcf
      have g0 : w1.cell? ⟨w.heap.size + 1, 0, none⟩ = some (.slice none 0 0) := blk_at (K1.out.block _ _ HN.out (fun x => x.elim)) 0 rfl
      have f0 : w1.frozen? ⟨w.heap.size + 1, 0, none⟩ = false := blk_free (K1.out.block _ _ HN.out (fun x => x.elim)) 0
      have g1 : w1.cell? ⟨w.heap.size + 1, 1, none⟩ = some (.slice none 0 0) := blk_at (K1.out.block _ _ HN.out (fun x => x.elim)) 1 rfl
      have f1 : w1.frozen? ⟨w.heap.size + 1, 1, none⟩ = false := blk_free (K1.out.block _ _ HN.out (fun x => x.elim)) 1
      have g2 : w1.cell? ⟨w.heap.size + 1, 2, none⟩ = some (.slice none 0 0) := blk_at (K1.out.block _ _ HN.out (fun x => x.elim)) 2 rfl
      have f2 : w1.frozen? ⟨w.heap.size + 1, 2, none⟩ = false := blk_free (K1.out.block _ _ HN.out (fun x => x.elim)) 2
      go_wp2
      refine bodyPost_ret (v := .tuple #[.agg #[.slice none 0 0, .slice none 0 0, .slice none 0 0], .int .i64 9]) (by simp [results, Try.results12, go_sem, g0, g1, g2]) rfl ?_
      exact .inl ⟨9, HE.out, rfl, ((KK1.out.setNew (Nat.le_succ _) _).setNew (Nat.le_succ _) _).setNew (Nat.le_succ _) _⟩
    · have j0 : decide (0 < n.length) = false := decide_eq_false hj
      have HNN : Hid (n = []) := List.length_eq_zero_iff.1 (by omega)
      by_cases hb : ops.length = 0 ∨ 6 < ops.length
      · have HE : Hid (r = .error 4) := HRR.out.trans (begZ_bound HOK.out.symm hj hb)
        have HB : Hid (ops.length = 0 ∨ 6 < ops.length) := hb
        clear hcf hb
        have g0 : w1.cell? ⟨w.heap.size + 1, 0, none⟩ = some (.slice none 0 0) := blk_at (K1.out.block _ _ HN.out (fun x => x.elim)) 0 rfl
        have f0 : w1.frozen? ⟨w.heap.size + 1, 0, none⟩ = false := blk_free (K1.out.block _ _ HN.out (fun x => x.elim)) 0
        have g1 : w1.cell? ⟨w.heap.size + 1, 1, none⟩ = some (.slice none 0 0) := blk_at (K1.out.block _ _ HN.out (fun x => x.elim)) 1 rfl
        have f1 : w1.frozen? ⟨w.heap.size + 1, 1, none⟩ = false := blk_free (K1.out.block _ _ HN.out (fun x => x.elim)) 1
        have g2 : w1.cell? ⟨w.heap.size + 1, 2, none⟩ = some (.slice none 0 0) := blk_at (K1.out.block _ _ HN.out (fun x => x.elim)) 2 rfl
        have f2 : w1.frozen? ⟨w.heap.size + 1, 2, none⟩ = false := blk_free (K1.out.block _ _ HN.out (fun x => x.elim)) 2
        rcases HB.out with hb | hb
        · have hb0 : decide ((ops.length : Int) < 1) = true := decide_eq_true (by omega)
          have hb2 : (ops.length : Int) < 1 := by omega
          clear hb
          go_wp2
          refine bodyPost_ret (v := .tuple #[.agg #[.slice none 0 0, .slice none 0 0, .slice none 0 0], .int .i64 4]) (by simp [results, Try.results12, go_sem, g0, g1, g2]) rfl ?_
          exact .inl ⟨4, HE.out, rfl, ((KK1.out.setNew (Nat.le_succ _) _).setNew (Nat.le_succ _) _).setNew (Nat.le_succ _) _⟩
        · have hb0 : decide ((ops.length : Int) < 1) = false := decide_eq_false (by omega)
          have hb1 : decide ((6 : Int) < ops.length) = true := decide_eq_true (by omega)
          have hb2 : (1 : Int) ≤ ops.length := by omega
          have hb3 : (6 : Int) < ops.length := by omega
          clear hb
          go_wp2
          refine bodyPost_ret (v := .tuple #[.agg #[.slice none 0 0, .slice none 0 0, .slice none 0 0], .int .i64 4]) (by simp [results, Try.results12, go_sem, g0, g1, g2]) rfl ?_
          exact .inl ⟨4, HE.out, rfl, ((KK1.out.setNew (Nat.le_succ _) _).setNew (Nat.le_succ _) _).setNew (Nat.le_succ _) _⟩
      · have HE : Hid (r = begEnd v (doAll v ops v l)) := HRR.out.trans (begZ_on HOK.out.symm hj hb)
        have HD0 : Hid (Dr v v l) := dr_start (by have := HOK.out.symm; rw [HNN.out] at this; exact this)
        have hb0 : decide ((ops.length : Int) < 1) = false := decide_eq_false (by omega)
        have hb1 : decide ((6 : Int) < ops.length) = false := decide_eq_false (by omega)
        have hb2 : (1 : Int) ≤ ops.length := by omega
        have hb3 : (ops.length : Int) ≤ 6 := by omega
        have HU : Hid (Up v ∧ Up l) := ⟨hcf.2.1, hcf.2.2.2.1⟩
        have BV := refBut_any B c1 a1 v 0 w1 (HR.out.nil KK1.out).r1 (by omega)
        rw [delZ_not HU.out.1.no0] at BV
        clear hcf hb
        go_wp2_with fail
        go_fit BV
        rintro e w2 ⟨b2, e2, rfl, o2, k2⟩
        have O2 : Hid (OwnInts w1.heap.size w2 b2 e2 v) := o2
        have K2 : Hid (Kept Nil W w2) := K1.out.trans k2
        clear o2 k2 BV q0 q1 q2
        have q0 : w2.cell? ⟨w.heap.size, 0, none⟩ = some (.slice a1 v.length c1) := blk_at (K2.out.block _ _ HC.out (fun x => x.elim)) 0 rfl
        have q1 : w2.cell? ⟨w.heap.size, 1, none⟩ = some (.slice a2 n.length c2) := blk_at (K2.out.block _ _ HC.out (fun x => x.elim)) 1 rfl
        have q2 : w2.cell? ⟨w.heap.size, 2, none⟩ = some (.slice a3 l.length c3) := blk_at (K2.out.block _ _ HC.out (fun x => x.elim)) 2 rfl
        have BL := refBut_any B c3 a3 l 0 w2 (HR.out.nil (KW.out.trans K2.out)).r3 (by omega)
        rw [delZ_not HU.out.2.no0] at BL
        go_wp2_with fail
        go_fit BL
        rintro e w3 ⟨b3, e3, rfl, o3, k3⟩
        have O3 : Hid (OwnInts w2.heap.size w3 b3 e3 l) := o3
        have O23 : Hid (OwnInts w1.heap.size w3 b2 e2 v) := O2.out.kept k3
        have K3 : Hid (Kept Nil W w3) := K2.out.trans k3
        clear o3 k3 BL q0 q1 q2 O2
        go_wp2
        go_loopw [7, 8, 9] (fun s7 s8 s9 wr => ∃ k : Nat, ∃ nx le : List Int, ∃ x2 y2 x3 y3, k ≤ ops.length ∧ s9 = .int .i64 k ∧ s7 = .slice x2 nx.length y2 ∧ s8 = .slice x3 le.length y3 ∧ Hid (OwnInts W.heap.size wr x2 y2 nx) ∧ Hid (OwnInts W.heap.size wr x3 y3 le) ∧ Hid (Dr v nx le) ∧ Hid (doAll v (ops.take k) v l = some (nx, le)) ∧ Hid (Kept Nil W wr)) (fun _ _ i _ => ops.length - (intOf i).toNat)
        case atStart => exact ⟨0, v, l, b2, e2, b3, e3, Nat.zero_le _, rfl, rfl, rfl, own_mono O23.out K1.out.size, own_mono O3.out K2.out.size, HD0.out, rfl, K3.out⟩
        case round =>
          obtain ⟨k, nx, le, x2, y2, x3, y3, hk, rfl, rfl, rfl, HO2, HO3, HDr, HAk, HKr⟩ := hrel
          have HR2 : Hid (IntRow wr.heap.size wr x2 nx) := HO2.out.row
          have HR3 : Hid (IntRow wr.heap.size wr x3 le) := HO3.out.row
          have HSZ : Hid (W.heap.size ≤ wr.heap.size) := HKr.out.size
          clear O23 O3 K3 HD0
          have hlen := HDr.out.len
          have q0 : wr.cell? ⟨w.heap.size, 0, none⟩ = some (.slice a1 v.length c1) := blk_at (HKr.out.block _ _ HC.out (fun x => x.elim)) 0 rfl
          have q1 : wr.cell? ⟨w.heap.size, 1, none⟩ = some (.slice a2 n.length c2) := blk_at (HKr.out.block _ _ HC.out (fun x => x.elim)) 1 rfl
          have q2 : wr.cell? ⟨w.heap.size, 2, none⟩ = some (.slice a3 l.length c3) := blk_at (HKr.out.block _ _ HC.out (fun x => x.elim)) 2 rfl
          by_cases hlt : k < ops.length
          · obtain ⟨a, rfl, _, u0, u1⟩ := (HOP.out.nil (KW.out.trans HKr.out)) k hlt
            have HAT : Hid (doAll v (ops.take (k + 1)) v l = doZ v nx le ops[k].1 ops[k].2) := doAll_at hlt HAk.out
            have HST : Hid (doZ v nx le ops[k].1 ops[k].2 = none → doAll v ops v l = none) := fun hz => doAll_stop hlt HAk.out hz
            have hki : (k : Int) < ops.length := by omega
            generalize ops[k].1 = kd at *
            generalize ops[k].2 = nd at *
            have Q1 := refHas_any _ y2 x2 nx nd wr HR2.out (by omega)
            have Q2 := refHas_any _ y3 x3 le nd wr HR3.out (by omega)
            have Q3 := refHas_any _ c1 a1 v nd wr (HR.out.nil (KW.out.trans HKr.out)).r1 (by omega)
            obtain ⟨b1, HB1⟩ : ∃ b1, Hid (hasZ nx nd = b1) := ⟨_, rfl⟩
            obtain ⟨b2', HB2⟩ : ∃ b2, Hid (hasZ le nd = b2) := ⟨_, rfl⟩
            obtain ⟨b3', HB3⟩ : ∃ b3, Hid (hasZ v nd = b3) := ⟨_, rfl⟩
            rw [HB1.out] at Q1
            rw [HB2.out] at Q2
            rw [HB3.out] at Q3
            go_wp2_with fail
            go_fit Q1
            rintro e wr ⟨rfl, rfl⟩
            go_wp2_with fail
            go_fit Q2
            rintro e wr ⟨rfl, rfl⟩
            go_wp2_with fail
            go_fit Q3
            rintro e wr ⟨rfl, rfl⟩
            clear Q1 Q2 Q3
            cases hnd : isNd nd with
            | false =>
              have hz : doZ v nx le kd nd = none := by unfold doZ; rw [if_pos hnd]
              by_cases hlo : nd < 1
              · have j1 : decide (nd < 1) = true := decide_eq_true hlo
                clear hlo
                have HE8 : Hid (r = .error 8) := by show r = _; rw [HE.out, HST.out (hz)]; rfl
                have HE := HE8
                clear HST HAT HAk
                have g0 : wr.cell? ⟨w.heap.size + 1, 0, none⟩ = some (.slice none 0 0) := blk_at (HKr.out.block _ _ HN.out (fun x => x.elim)) 0 rfl
                have f0 : wr.frozen? ⟨w.heap.size + 1, 0, none⟩ = false := blk_free (HKr.out.block _ _ HN.out (fun x => x.elim)) 0
                have g1 : wr.cell? ⟨w.heap.size + 1, 1, none⟩ = some (.slice none 0 0) := blk_at (HKr.out.block _ _ HN.out (fun x => x.elim)) 1 rfl
                have f1 : wr.frozen? ⟨w.heap.size + 1, 1, none⟩ = false := blk_free (HKr.out.block _ _ HN.out (fun x => x.elim)) 1
                have g2 : wr.cell? ⟨w.heap.size + 1, 2, none⟩ = some (.slice none 0 0) := blk_at (HKr.out.block _ _ HN.out (fun x => x.elim)) 2 rfl
                have f2 : wr.frozen? ⟨w.heap.size + 1, 2, none⟩ = false := blk_free (HKr.out.block _ _ HN.out (fun x => x.elim)) 2
                go_wp2
                refine bodyPost_ret (v := .tuple #[.agg #[.slice none 0 0, .slice none 0 0, .slice none 0 0], .int .i64 8]) (by simp [results, Try.results12, go_sem, g0, g1, g2]) rfl ?_
                exact .inl ⟨8, HE.out, rfl, (((KW.out.trans HKr.out).setNew (Nat.le_succ _) _).setNew (Nat.le_succ _) _).setNew (Nat.le_succ _) _⟩
              · have j1 : decide (nd < 1) = false := decide_eq_false hlo
                have j2 : decide ((9 : Int) < nd) = true := decide_eq_true (by simp [isNd] at hnd; omega)
                clear hlo
                have HE8 : Hid (r = .error 8) := by show r = _; rw [HE.out, HST.out (hz)]; rfl
                have HE := HE8
                clear HST HAT HAk
                have g0 : wr.cell? ⟨w.heap.size + 1, 0, none⟩ = some (.slice none 0 0) := blk_at (HKr.out.block _ _ HN.out (fun x => x.elim)) 0 rfl
                have f0 : wr.frozen? ⟨w.heap.size + 1, 0, none⟩ = false := blk_free (HKr.out.block _ _ HN.out (fun x => x.elim)) 0
                have g1 : wr.cell? ⟨w.heap.size + 1, 1, none⟩ = some (.slice none 0 0) := blk_at (HKr.out.block _ _ HN.out (fun x => x.elim)) 1 rfl
                have f1 : wr.frozen? ⟨w.heap.size + 1, 1, none⟩ = false := blk_free (HKr.out.block _ _ HN.out (fun x => x.elim)) 1
                have g2 : wr.cell? ⟨w.heap.size + 1, 2, none⟩ = some (.slice none 0 0) := blk_at (HKr.out.block _ _ HN.out (fun x => x.elim)) 2 rfl
                have f2 : wr.frozen? ⟨w.heap.size + 1, 2, none⟩ = false := blk_free (HKr.out.block _ _ HN.out (fun x => x.elim)) 2
                go_wp2
                refine bodyPost_ret (v := .tuple #[.agg #[.slice none 0 0, .slice none 0 0, .slice none 0 0], .int .i64 8]) (by simp [results, Try.results12, go_sem, g0, g1, g2]) rfl ?_
                exact .inl ⟨8, HE.out, rfl, (((KW.out.trans HKr.out).setNew (Nat.le_succ _) _).setNew (Nat.le_succ _) _).setNew (Nat.le_succ _) _⟩
            | true =>
              have hb := (isNd_iff nd).1 hnd
              have j1 : decide (nd < 1) = false := decide_eq_false (by omega)
              have j2 : decide ((9 : Int) < nd) = false := decide_eq_false (by omega)
              have HND : Hid (isNd nd = true) := hnd
              clear hb
              by_cases hk1 : kd = 1
              · subst hk1
                cases b1 with
                | false =>
                  have HZ : Hid (doZ v nx le 1 nd = some (insZ nd nx, delZ nd le)) := by show doZ v nx le 1 nd = _; unfold doZ; rw [if_neg (by rw [hnd]; decide), if_pos ⟨rfl, HB1.out⟩]
                  have HD2 : Hid (Dr v (insZ nd nx) (delZ nd le)) := doZ_keeps HDr.out HZ.out
                  have HA2 : Hid (doAll v (ops.take (k + 1)) v l = some (insZ nd nx, delZ nd le)) := HAT.out.trans HZ.out
                  clear HST HAT HAk
                  have QQ := refWith_any wr.heap.size y2 x2 nx nd wr HR2.out (by omega)
                  rw [nineF_ins HDr.out.nn (hasZ_not.1 HB1.out) ((isNd_iff nd).1 HND.out)] at QQ
                  go_wp2_with fail
                  go_fit QQ
                  rintro e wa ⟨zwa, dwa, rfl, owa, kwa⟩
                  have Owa : Hid (OwnInts wr.heap.size wa zwa dwa (insZ nd nx)) := owa
                  have Kwa : Hid (Kept Nil wr wa) := kwa
                  clear owa kwa QQ
                  have QQ := refBut_any wa.heap.size y3 x3 le nd wa (HR3.out.nil Kwa.out).full (by omega)
                  go_wp2_with fail
                  go_fit QQ
                  rintro e wb ⟨zwb, dwb, rfl, owb, kwb⟩
                  have Owb : Hid (OwnInts wa.heap.size wb zwb dwb (delZ nd le)) := owb
                  have Kwb : Hid (Kept Nil wa wb) := kwb
                  clear owb kwb QQ
                  go_wp2
                  go_roundw
                  case rel => exact ⟨k + 1, insZ nd nx, delZ nd le, zwa, dwa, zwb, dwb, by omega, by go_num, rfl, rfl, own_mono (Owa.out.kept Kwb.out) HSZ.out, own_mono Owb.out (Nat.le_trans HSZ.out Kwa.out.size), HD2.out, HA2.out, HKr.out.trans (Kwa.out.trans Kwb.out)⟩
                  case measure => simp [intOf]; omega
                | true =>
                  have HE8 : Hid (r = .error 8) := by show r = _; rw [HE.out, HST.out (by unfold doZ; rw [if_neg (by rw [hnd]; decide), if_neg (by rw [HB1.out]; simp), if_neg (by simp), if_neg (by simp)])]; rfl
                  have HE := HE8
                  clear HST HAT HAk
                  have g0 : wr.cell? ⟨w.heap.size + 1, 0, none⟩ = some (.slice none 0 0) := blk_at (HKr.out.block _ _ HN.out (fun x => x.elim)) 0 rfl
                  have f0 : wr.frozen? ⟨w.heap.size + 1, 0, none⟩ = false := blk_free (HKr.out.block _ _ HN.out (fun x => x.elim)) 0
                  have g1 : wr.cell? ⟨w.heap.size + 1, 1, none⟩ = some (.slice none 0 0) := blk_at (HKr.out.block _ _ HN.out (fun x => x.elim)) 1 rfl
                  have f1 : wr.frozen? ⟨w.heap.size + 1, 1, none⟩ = false := blk_free (HKr.out.block _ _ HN.out (fun x => x.elim)) 1
                  have g2 : wr.cell? ⟨w.heap.size + 1, 2, none⟩ = some (.slice none 0 0) := blk_at (HKr.out.block _ _ HN.out (fun x => x.elim)) 2 rfl
                  have f2 : wr.frozen? ⟨w.heap.size + 1, 2, none⟩ = false := blk_free (HKr.out.block _ _ HN.out (fun x => x.elim)) 2
                  go_wp2
                  refine bodyPost_ret (v := .tuple #[.agg #[.slice none 0 0, .slice none 0 0, .slice none 0 0], .int .i64 8]) (by simp [results, Try.results12, go_sem, g0, g1, g2]) rfl ?_
                  exact .inl ⟨8, HE.out, rfl, (((KW.out.trans HKr.out).setNew (Nat.le_succ _) _).setNew (Nat.le_succ _) _).setNew (Nat.le_succ _) _⟩
              · by_cases hk2 : kd = 2
                · subst hk2
                  cases b1 with
                  | true =>
                    have HE8 : Hid (r = .error 8) := by show r = _; rw [HE.out, HST.out (by unfold doZ; rw [if_neg (by rw [hnd]; decide), if_neg (by simp), if_neg (by rw [HB1.out]; simp), if_neg (by simp)])]; rfl
                    have HE := HE8
                    clear HST HAT HAk
                    have g0 : wr.cell? ⟨w.heap.size + 1, 0, none⟩ = some (.slice none 0 0) := blk_at (HKr.out.block _ _ HN.out (fun x => x.elim)) 0 rfl
                    have f0 : wr.frozen? ⟨w.heap.size + 1, 0, none⟩ = false := blk_free (HKr.out.block _ _ HN.out (fun x => x.elim)) 0
                    have g1 : wr.cell? ⟨w.heap.size + 1, 1, none⟩ = some (.slice none 0 0) := blk_at (HKr.out.block _ _ HN.out (fun x => x.elim)) 1 rfl
                    have f1 : wr.frozen? ⟨w.heap.size + 1, 1, none⟩ = false := blk_free (HKr.out.block _ _ HN.out (fun x => x.elim)) 1
                    have g2 : wr.cell? ⟨w.heap.size + 1, 2, none⟩ = some (.slice none 0 0) := blk_at (HKr.out.block _ _ HN.out (fun x => x.elim)) 2 rfl
                    have f2 : wr.frozen? ⟨w.heap.size + 1, 2, none⟩ = false := blk_free (HKr.out.block _ _ HN.out (fun x => x.elim)) 2
                    go_wp2
                    refine bodyPost_ret (v := .tuple #[.agg #[.slice none 0 0, .slice none 0 0, .slice none 0 0], .int .i64 8]) (by simp [results, Try.results12, go_sem, g0, g1, g2]) rfl ?_
                    exact .inl ⟨8, HE.out, rfl, (((KW.out.trans HKr.out).setNew (Nat.le_succ _) _).setNew (Nat.le_succ _) _).setNew (Nat.le_succ _) _⟩
                  | false =>
                    cases b2' with
                    | true =>
                      have HE8 : Hid (r = .error 8) := by show r = _; rw [HE.out, HST.out (by unfold doZ; rw [if_neg (by rw [hnd]; decide), if_neg (by simp), if_neg (by rw [HB2.out]; simp), if_neg (by simp)])]; rfl
                      have HE := HE8
                      clear HST HAT HAk
                      have g0 : wr.cell? ⟨w.heap.size + 1, 0, none⟩ = some (.slice none 0 0) := blk_at (HKr.out.block _ _ HN.out (fun x => x.elim)) 0 rfl
                      have f0 : wr.frozen? ⟨w.heap.size + 1, 0, none⟩ = false := blk_free (HKr.out.block _ _ HN.out (fun x => x.elim)) 0
                      have g1 : wr.cell? ⟨w.heap.size + 1, 1, none⟩ = some (.slice none 0 0) := blk_at (HKr.out.block _ _ HN.out (fun x => x.elim)) 1 rfl
                      have f1 : wr.frozen? ⟨w.heap.size + 1, 1, none⟩ = false := blk_free (HKr.out.block _ _ HN.out (fun x => x.elim)) 1
                      have g2 : wr.cell? ⟨w.heap.size + 1, 2, none⟩ = some (.slice none 0 0) := blk_at (HKr.out.block _ _ HN.out (fun x => x.elim)) 2 rfl
                      have f2 : wr.frozen? ⟨w.heap.size + 1, 2, none⟩ = false := blk_free (HKr.out.block _ _ HN.out (fun x => x.elim)) 2
                      go_wp2
                      refine bodyPost_ret (v := .tuple #[.agg #[.slice none 0 0, .slice none 0 0, .slice none 0 0], .int .i64 8]) (by simp [results, Try.results12, go_sem, g0, g1, g2]) rfl ?_
                      exact .inl ⟨8, HE.out, rfl, (((KW.out.trans HKr.out).setNew (Nat.le_succ _) _).setNew (Nat.le_succ _) _).setNew (Nat.le_succ _) _⟩
                    | false =>
                      cases b3' with
                      | true =>
                        have HE8 : Hid (r = .error 8) := by show r = _; rw [HE.out, HST.out (by unfold doZ; rw [if_neg (by rw [hnd]; decide), if_neg (by simp), if_neg (by rw [HB3.out]; simp), if_neg (by simp)])]; rfl
                        have HE := HE8
                        clear HST HAT HAk
                        have g0 : wr.cell? ⟨w.heap.size + 1, 0, none⟩ = some (.slice none 0 0) := blk_at (HKr.out.block _ _ HN.out (fun x => x.elim)) 0 rfl
                        have f0 : wr.frozen? ⟨w.heap.size + 1, 0, none⟩ = false := blk_free (HKr.out.block _ _ HN.out (fun x => x.elim)) 0
                        have g1 : wr.cell? ⟨w.heap.size + 1, 1, none⟩ = some (.slice none 0 0) := blk_at (HKr.out.block _ _ HN.out (fun x => x.elim)) 1 rfl
                        have f1 : wr.frozen? ⟨w.heap.size + 1, 1, none⟩ = false := blk_free (HKr.out.block _ _ HN.out (fun x => x.elim)) 1
                        have g2 : wr.cell? ⟨w.heap.size + 1, 2, none⟩ = some (.slice none 0 0) := blk_at (HKr.out.block _ _ HN.out (fun x => x.elim)) 2 rfl
                        have f2 : wr.frozen? ⟨w.heap.size + 1, 2, none⟩ = false := blk_free (HKr.out.block _ _ HN.out (fun x => x.elim)) 2
                        go_wp2
                        refine bodyPost_ret (v := .tuple #[.agg #[.slice none 0 0, .slice none 0 0, .slice none 0 0], .int .i64 8]) (by simp [results, Try.results12, go_sem, g0, g1, g2]) rfl ?_
                        exact .inl ⟨8, HE.out, rfl, (((KW.out.trans HKr.out).setNew (Nat.le_succ _) _).setNew (Nat.le_succ _) _).setNew (Nat.le_succ _) _⟩
                      | false =>
                        have HZ : Hid (doZ v nx le 2 nd = some (nx, insZ nd le)) := by show doZ v nx le 2 nd = _; unfold doZ; rw [if_neg (by rw [hnd]; decide), if_neg (by simp), if_pos ⟨rfl, HB1.out, HB2.out, HB3.out⟩]
                        have HD2 : Hid (Dr v (nx) (insZ nd le)) := doZ_keeps HDr.out HZ.out
                        have HA2 : Hid (doAll v (ops.take (k + 1)) v l = some (nx, insZ nd le)) := HAT.out.trans HZ.out
                        clear HST HAT HAk
                        have QQ := refWith_any wr.heap.size y3 x3 le nd wr HR3.out (by omega)
                        rw [nineF_ins HDr.out.ll (hasZ_not.1 HB2.out) ((isNd_iff nd).1 HND.out)] at QQ
                        go_wp2_with fail
                        go_fit QQ
                        rintro e wa ⟨zwa, dwa, rfl, owa, kwa⟩
                        have Owa : Hid (OwnInts wr.heap.size wa zwa dwa (insZ nd le)) := owa
                        have Kwa : Hid (Kept Nil wr wa) := kwa
                        clear owa kwa QQ
                        go_wp2
                        go_roundw
                        case rel => exact ⟨k + 1, nx, insZ nd le, x2, y2, zwa, dwa, by omega, by go_num, rfl, rfl, HO2.out.kept Kwa.out, own_mono Owa.out HSZ.out, HD2.out, HA2.out, HKr.out.trans Kwa.out⟩
                        case measure => simp [intOf]; omega
                · by_cases hk3 : kd = 3
                  · subst hk3
                    cases b1 with
                    | true =>
                      have HZ : Hid (doZ v nx le 3 nd = some (delZ nd nx, delZ nd le)) := by show doZ v nx le 3 nd = _; unfold doZ; rw [if_neg (by rw [hnd]; decide), if_neg (by simp), if_neg (by simp), if_pos ⟨rfl, .inl HB1.out⟩]
                      have HD2 : Hid (Dr v (delZ nd nx) (delZ nd le)) := doZ_keeps HDr.out HZ.out
                      have HA2 : Hid (doAll v (ops.take (k + 1)) v l = some (delZ nd nx, delZ nd le)) := HAT.out.trans HZ.out
                      clear HST HAT HAk
                      have QQ := refBut_any wr.heap.size y2 x2 nx nd wr HR2.out (by omega)
                      go_wp2_with fail
                      go_fit QQ
                      rintro e wa ⟨zwa, dwa, rfl, owa, kwa⟩
                      have Owa : Hid (OwnInts wr.heap.size wa zwa dwa (delZ nd nx)) := owa
                      have Kwa : Hid (Kept Nil wr wa) := kwa
                      clear owa kwa QQ
                      have QQ := refBut_any wa.heap.size y3 x3 le nd wa (HR3.out.nil Kwa.out).full (by omega)
                      go_wp2_with fail
                      go_fit QQ
                      rintro e wb ⟨zwb, dwb, rfl, owb, kwb⟩
                      have Owb : Hid (OwnInts wa.heap.size wb zwb dwb (delZ nd le)) := owb
                      have Kwb : Hid (Kept Nil wa wb) := kwb
                      clear owb kwb QQ
                      go_wp2
                      go_roundw
                      case rel => exact ⟨k + 1, delZ nd nx, delZ nd le, zwa, dwa, zwb, dwb, by omega, by go_num, rfl, rfl, own_mono (Owa.out.kept Kwb.out) HSZ.out, own_mono Owb.out (Nat.le_trans HSZ.out Kwa.out.size), HD2.out, HA2.out, HKr.out.trans (Kwa.out.trans Kwb.out)⟩
                      case measure => simp [intOf]; omega
                    | false =>
                      cases b2' with
                      | true =>
                        have HZ : Hid (doZ v nx le 3 nd = some (delZ nd nx, delZ nd le)) := by show doZ v nx le 3 nd = _; unfold doZ; rw [if_neg (by rw [hnd]; decide), if_neg (by simp), if_neg (by simp), if_pos ⟨rfl, .inr HB2.out⟩]
                        have HD2 : Hid (Dr v (delZ nd nx) (delZ nd le)) := doZ_keeps HDr.out HZ.out
                        have HA2 : Hid (doAll v (ops.take (k + 1)) v l = some (delZ nd nx, delZ nd le)) := HAT.out.trans HZ.out
                        clear HST HAT HAk
                        have QQ := refBut_any wr.heap.size y2 x2 nx nd wr HR2.out (by omega)
                        go_wp2_with fail
                        go_fit QQ
                        rintro e wa ⟨zwa, dwa, rfl, owa, kwa⟩
                        have Owa : Hid (OwnInts wr.heap.size wa zwa dwa (delZ nd nx)) := owa
                        have Kwa : Hid (Kept Nil wr wa) := kwa
                        clear owa kwa QQ
                        have QQ := refBut_any wa.heap.size y3 x3 le nd wa (HR3.out.nil Kwa.out).full (by omega)
                        go_wp2_with fail
                        go_fit QQ
                        rintro e wb ⟨zwb, dwb, rfl, owb, kwb⟩
                        have Owb : Hid (OwnInts wa.heap.size wb zwb dwb (delZ nd le)) := owb
                        have Kwb : Hid (Kept Nil wa wb) := kwb
                        clear owb kwb QQ
                        go_wp2
                        go_roundw
                        case rel => exact ⟨k + 1, delZ nd nx, delZ nd le, zwa, dwa, zwb, dwb, by omega, by go_num, rfl, rfl, own_mono (Owa.out.kept Kwb.out) HSZ.out, own_mono Owb.out (Nat.le_trans HSZ.out Kwa.out.size), HD2.out, HA2.out, HKr.out.trans (Kwa.out.trans Kwb.out)⟩
                        case measure => simp [intOf]; omega
                      | false =>
                        have HE8 : Hid (r = .error 8) := by show r = _; rw [HE.out, HST.out (by unfold doZ; rw [if_neg (by rw [hnd]; decide), if_neg (by simp), if_neg (by simp), if_neg (by rw [HB1.out, HB2.out]; simp)])]; rfl
                        have HE := HE8
                        clear HST HAT HAk
                        have g0 : wr.cell? ⟨w.heap.size + 1, 0, none⟩ = some (.slice none 0 0) := blk_at (HKr.out.block _ _ HN.out (fun x => x.elim)) 0 rfl
                        have f0 : wr.frozen? ⟨w.heap.size + 1, 0, none⟩ = false := blk_free (HKr.out.block _ _ HN.out (fun x => x.elim)) 0
                        have g1 : wr.cell? ⟨w.heap.size + 1, 1, none⟩ = some (.slice none 0 0) := blk_at (HKr.out.block _ _ HN.out (fun x => x.elim)) 1 rfl
                        have f1 : wr.frozen? ⟨w.heap.size + 1, 1, none⟩ = false := blk_free (HKr.out.block _ _ HN.out (fun x => x.elim)) 1
                        have g2 : wr.cell? ⟨w.heap.size + 1, 2, none⟩ = some (.slice none 0 0) := blk_at (HKr.out.block _ _ HN.out (fun x => x.elim)) 2 rfl
                        have f2 : wr.frozen? ⟨w.heap.size + 1, 2, none⟩ = false := blk_free (HKr.out.block _ _ HN.out (fun x => x.elim)) 2
                        go_wp2
                        refine bodyPost_ret (v := .tuple #[.agg #[.slice none 0 0, .slice none 0 0, .slice none 0 0], .int .i64 8]) (by simp [results, Try.results12, go_sem, g0, g1, g2]) rfl ?_
                        exact .inl ⟨8, HE.out, rfl, (((KW.out.trans HKr.out).setNew (Nat.le_succ _) _).setNew (Nat.le_succ _) _).setNew (Nat.le_succ _) _⟩
                  · have i1 : (kd == 1) = false := by simpa using hk1
                    have i2 : (kd == 2) = false := by simpa using hk2
                    have i3 : (kd == 3) = false := by simpa using hk3
                    have HE8 : Hid (r = .error 8) := by show r = _; rw [HE.out, HST.out (by unfold doZ; rw [if_neg (by rw [hnd]; decide), if_neg (fun h => hk1 h.1), if_neg (fun h => hk2 h.1), if_neg (fun h => hk3 h.1)])]; rfl
                    have HE := HE8
                    clear HST HAT HAk
                    have g0 : wr.cell? ⟨w.heap.size + 1, 0, none⟩ = some (.slice none 0 0) := blk_at (HKr.out.block _ _ HN.out (fun x => x.elim)) 0 rfl
                    have f0 : wr.frozen? ⟨w.heap.size + 1, 0, none⟩ = false := blk_free (HKr.out.block _ _ HN.out (fun x => x.elim)) 0
                    have g1 : wr.cell? ⟨w.heap.size + 1, 1, none⟩ = some (.slice none 0 0) := blk_at (HKr.out.block _ _ HN.out (fun x => x.elim)) 1 rfl
                    have f1 : wr.frozen? ⟨w.heap.size + 1, 1, none⟩ = false := blk_free (HKr.out.block _ _ HN.out (fun x => x.elim)) 1
                    have g2 : wr.cell? ⟨w.heap.size + 1, 2, none⟩ = some (.slice none 0 0) := blk_at (HKr.out.block _ _ HN.out (fun x => x.elim)) 2 rfl
                    have f2 : wr.frozen? ⟨w.heap.size + 1, 2, none⟩ = false := blk_free (HKr.out.block _ _ HN.out (fun x => x.elim)) 2
                    go_wp2
                    refine bodyPost_ret (v := .tuple #[.agg #[.slice none 0 0, .slice none 0 0, .slice none 0 0], .int .i64 8]) (by simp [results, Try.results12, go_sem, g0, g1, g2]) rfl ?_
                    exact .inl ⟨8, HE.out, rfl, (((KW.out.trans HKr.out).setNew (Nat.le_succ _) _).setNew (Nat.le_succ _) _).setNew (Nat.le_succ _) _⟩
          · obtain rfl : k = ops.length := by omega
            have HA : Hid (doAll v ops v l = some (nx, le)) := by have := HAk.out; rwa [List.take_length] at this
            have SI := refSameInts_any _ _ y2 c1 x2 a1 nx v wr HR2.out (HR.out.nil (KW.out.trans HKr.out)).r1 (by omega) (by omega)
            obtain ⟨sm, HSM⟩ : ∃ sm, Hid (sm = decide (nx = v)) := ⟨_, rfl⟩
            rw [← HSM.out] at SI
            go_wp2_with fail
            go_fit SI
            rintro e w5 ⟨rfl, k5⟩
            have K5 : Hid (Kept Nil W w5) := HKr.out.trans k5
            have R5 : Hid (OwnInts W.heap.size w5 x2 y2 nx ∧ OwnInts W.heap.size w5 x3 y3 le) := ⟨HO2.out.kept k5, HO3.out.kept k5⟩
            have HLT : Hid (w.heap.size + 1 < W.heap.size) := lt_of_block HN.out
            clear k5 SI q0 q1 q2
            have q0 : w5.cell? ⟨w.heap.size, 0, none⟩ = some (.slice a1 v.length c1) := blk_at (K5.out.block _ _ HC.out (fun x => x.elim)) 0 rfl
            have q1 : w5.cell? ⟨w.heap.size, 1, none⟩ = some (.slice a2 n.length c2) := blk_at (K5.out.block _ _ HC.out (fun x => x.elim)) 1 rfl
            have q2 : w5.cell? ⟨w.heap.size, 2, none⟩ = some (.slice a3 l.length c3) := blk_at (K5.out.block _ _ HC.out (fun x => x.elim)) 2 rfl
            have g0 : w5.cell? ⟨w.heap.size + 1, 0, none⟩ = some (.slice none 0 0) := blk_at (K5.out.block _ _ HN.out (fun x => x.elim)) 0 rfl
            have f0 : w5.frozen? ⟨w.heap.size + 1, 0, none⟩ = false := blk_free (K5.out.block _ _ HN.out (fun x => x.elim)) 0
            have g1 : w5.cell? ⟨w.heap.size + 1, 1, none⟩ = some (.slice none 0 0) := blk_at (K5.out.block _ _ HN.out (fun x => x.elim)) 1 rfl
            have f1 : w5.frozen? ⟨w.heap.size + 1, 1, none⟩ = false := blk_free (K5.out.block _ _ HN.out (fun x => x.elim)) 1
            have g2 : w5.cell? ⟨w.heap.size + 1, 2, none⟩ = some (.slice none 0 0) := blk_at (K5.out.block _ _ HN.out (fun x => x.elim)) 2 rfl
            have f2 : w5.frozen? ⟨w.heap.size + 1, 2, none⟩ = false := blk_free (K5.out.block _ _ HN.out (fun x => x.elim)) 2
            by_cases h0 : nx.length = 0
            · have HE : Hid (r = .error 8) := by show r = _; rw [HE.out, HA.out]; exact if_pos h0
              have h0' : ((nx.length : Int) == 0) = true := by rw [h0]; rfl
              clear h0
              go_wp2
              refine bodyPost_ret (v := .tuple #[.agg #[.slice none 0 0, .slice none 0 0, .slice none 0 0], .int .i64 8]) (by simp [results, Try.results12, go_sem, g0, g1, g2]) rfl ?_
              exact .inl ⟨8, HE.out, rfl, (((KW.out.trans K5.out).setNew (Nat.le_succ _) _).setNew (Nat.le_succ _) _).setNew (Nat.le_succ _) _⟩
            · have h0' : ((nx.length : Int) == 0) = false := beq_eq_false_iff_ne.2 (by omega)
              have HE2 : Hid (r = .ok (v, if v = nx then [] else nx, le)) := by show r = _; rw [HE.out, HA.out]; exact if_neg h0
              have hown : ∀ {ao c zs} (u0 u1 u2 : Value), OwnInts W.heap.size w5 ao c zs → IntRow (((w5.setCell ⟨w.heap.size + 1, 0, none⟩ u0).setCell ⟨w.heap.size + 1, 1, none⟩ u1).setCell ⟨w.heap.size + 1, 2, none⟩ u2).heap.size (((w5.setCell ⟨w.heap.size + 1, 0, none⟩ u0).setCell ⟨w.heap.size + 1, 1, none⟩ u1).setCell ⟨w.heap.size + 1, 2, none⟩ u2) ao zs := fun {ao c zs} u0 u1 u2 ho => by
                have hne : (Value.slice ao zs.length c).ownBlock ≠ some (w.heap.size + 1) := fun e => by have := (World.ownsRow.lt ho _ e).1; have := HLT.out; omega
                exact (own_setNe (own_setNe (own_setNe ho hne _) hne _) hne _ : OwnInts _ _ _ _ _).row
              have hraw : ∀ (u0 u1 u2 : Value), IntRow (((w5.setCell ⟨w.heap.size + 1, 0, none⟩ u0).setCell ⟨w.heap.size + 1, 1, none⟩ u1).setCell ⟨w.heap.size + 1, 2, none⟩ u2).heap.size (((w5.setCell ⟨w.heap.size + 1, 0, none⟩ u0).setCell ⟨w.heap.size + 1, 1, none⟩ u1).setCell ⟨w.heap.size + 1, 2, none⟩ u2) a1 v := fun u0 u1 u2 => by
                have hkk : Kept (One (w.heap.size + 1)) w5 (((w5.setCell ⟨w.heap.size + 1, 0, none⟩ u0).setCell ⟨w.heap.size + 1, 1, none⟩ u1).setCell ⟨w.heap.size + 1, 2, none⟩ u2) := (((Kept.refl _ _).setCell (fun _ => rfl) _).setCell (fun _ => rfl) _).setCell (fun _ => rfl) _
                exact (((HR.out.nil (KW.out.trans K5.out)).r1.kept hkk) (fun k o hk hx => by have : k = w.heap.size + 1 := hx; omega)).full
              have HOWN : Hid _ := @hown
              have HRAW : Hid _ := hraw
              clear hown hraw h0
              cases sm with
              | true =>
                have hvn : nx = v := of_decide_eq_true HSM.out.symm
                have HVN : Hid (nx = v) := hvn
                clear hvn
                have HE3 : Hid (r = .ok (nx, [], le)) := by show r = _; rw [HE2.out, if_pos HVN.out.symm, HVN.out]
                go_wp2
                refine bodyPost_ret (v := .tuple #[.agg #[.slice x2 nx.length y2, .slice none 0 0, .slice x3 le.length y3], .int .i64 0]) (by simp [results, Try.results12, go_sem, g0, g1, g2]) rfl ?_
                exact .inr ⟨nx, [], le, HE3.out, x2, none, x3, y2, 0, y3, rfl, ⟨HOWN.out _ _ _ R5.out.1, intRow_nil _ _ _, HOWN.out _ _ _ R5.out.2⟩, (((KW.out.trans K5.out).setNew (Nat.le_succ _) _).setNew (Nat.le_succ _) _).setNew (Nat.le_succ _) _⟩
              | false =>
                have hnv : ¬ nx = v := of_decide_eq_false HSM.out.symm
                have HE3 : Hid (r = .ok (v, nx, le)) := by show r = _; rw [HE2.out, if_neg (fun e => hnv e.symm)]
                clear hnv
                go_wp2
                refine bodyPost_ret (v := .tuple #[.agg #[.slice a1 v.length c1, .slice x2 nx.length y2, .slice x3 le.length y3], .int .i64 0]) (by simp [results, Try.results12, go_sem, g0, g1, g2]) rfl ?_
                exact .inr ⟨v, nx, le, HE3.out, a1, x2, x3, c1, y2, y3, rfl, ⟨HRAW.out _ _ _, HOWN.out _ _ _ R5.out.1, HOWN.out _ _ _ R5.out.2⟩, (((KW.out.trans K5.out).setNew (Nat.le_succ _) _).setNew (Nat.le_succ _) _).setNew (Nat.le_succ _) _⟩

end Go.Proofs.Ytijklginabipgaa
