/-
  Tables: may a table be: by the document's answer.
-/
import Derived.Test.YtijklginabipgaaWTab3
import Derived.Test.YtijklginabipgaaWTab5
namespace Go.Proofs.Ytijklginabipgaa
open Go.RowKit

set_option maxRecDepth 100000 in
set_option maxHeartbeats 8000000 in
theorem refIsTable_any (B cp cs : Nat) (tm : Int) (ao so : Option Addr) (ps : List Pr) (ss : List Ss) (w : World) (h : PairRow B w ao ps) (h2 : SessRow B w so ss) (hl : (ps.length : Int) ≤ 9223372036854775807) (hl2 : (ss.length : Int) ≤ 9223372036854775807) :
    Calls Try.prog 98 #[.agg #[.slice ao ps.length cp, .slice so ss.length cs, .int .i64 tm]] w fun e w' => e = .returned (.bool (tabOk tm ps ss)) ∧ Kept Nil w w' := by
  have HR : Hid (SessRow B w so ss) := h2
  have ht := bs_toList
  have hsz := bs_size
  have VA := refIsPairs_any B cp ao ps _ (h.alloc (.cells #[.slice ao ps.length cp, .slice so ss.length cs, .int .i64 tm] 65)) hl
  have HB0 : Hid ((w.alloc (.cells #[.slice ao ps.length cp, .slice so ss.length cs, .int .i64 tm] 65)).heap[w.heap.size]? = some (.cells #[.slice ao ps.length cp, .slice so ss.length cs, .int .i64 tm] 65)) := blk_new w _
  have HK0 : Hid (Kept Nil w (w.alloc (.cells #[.slice ao ps.length cp, .slice so ss.length cs, .int .i64 tm] 65))) := (Kept.refl _ _).alloc _
  have HO : Hid (tabOk tm ps ss = (isNum tm && pairsOk ps && decide (ss.length ≤ 8) && sRise tm none ss)) := rfl
  rw [HO.out]
  generalize pairsOk ps = b2 at *
  clear h h2 HO
  go_enter Try.func98, Try.ntmps98
  go_wp2_with fail
  refine VA.mono ?_
  rintro e w2 ⟨rfl, k2⟩
  have HB2 : Hid (w2.heap[w.heap.size]? = some (.cells #[.slice ao ps.length cp, .slice so ss.length cs, .int .i64 tm] 65)) := k2.block _ _ HB0.out (fun x => x.elim)
  have HK2 : Hid (Kept Nil w w2) := HK0.out.trans k2
  have q1 := blk_at HB2.out 1 rfl
  have q2 := blk_at HB2.out 2 rfl
  clear k2 HB0 HK0 VA
  cases b2 with
  | false =>
    go_wp2
    go_ret
    rw [Bool.and_false, Bool.false_and, Bool.false_and]
    exact ⟨rfl, HK2.out⟩
  | true =>
  rcases (show 8 < ss.length ∨ tm < 0 ∨ 1099511627775 < tm ∨ (ss.length ≤ 8 ∧ 0 ≤ tm ∧ tm ≤ 1099511627775) by omega) with g | g | g | ⟨g1, g2, g3⟩
  · have HD : Hid (decide (ss.length ≤ 8) = false) := decide_eq_false (by omega)
    have g' : ¬ (ss.length : Int) ≤ 8 := by omega
    clear g
    go_wp2
    all_goals go_ret
    all_goals rw [HD.out, Bool.and_false, Bool.false_and]
    all_goals exact ⟨rfl, HK2.out⟩
  · have HD : Hid (isNum tm = false) := by show isNum tm = false; unfold isNum; rw [decide_eq_false (by omega)]; rfl
    by_cases h8 : ss.length ≤ 8
    · have h8' : (ss.length : Int) ≤ 8 := by omega
      clear h8
      go_wp2
      all_goals go_ret
      all_goals rw [HD.out, Bool.false_and, Bool.false_and, Bool.false_and]
      all_goals exact ⟨rfl, HK2.out⟩
    · have h8' : ¬ (ss.length : Int) ≤ 8 := by omega
      clear h8
      go_wp2
      all_goals go_ret
      all_goals rw [HD.out, Bool.false_and, Bool.false_and, Bool.false_and]
      all_goals exact ⟨rfl, HK2.out⟩
  · have HD : Hid (isNum tm = false) := by show isNum tm = false; unfold isNum; rw [decide_eq_false (show ¬ tm ≤ 1099511627775 by omega)]; simp
    have g0 : 0 ≤ tm := by omega
    by_cases h8 : ss.length ≤ 8
    · have h8' : (ss.length : Int) ≤ 8 := by omega
      clear h8
      go_wp2
      all_goals go_ret
      all_goals rw [HD.out, Bool.false_and, Bool.false_and, Bool.false_and]
      all_goals exact ⟨rfl, HK2.out⟩
    · have h8' : ¬ (ss.length : Int) ≤ 8 := by omega
      clear h8
      go_wp2
      all_goals go_ret
      all_goals rw [HD.out, Bool.false_and, Bool.false_and, Bool.false_and]
      all_goals exact ⟨rfl, HK2.out⟩
  · have HD : Hid (isNum tm = true) := by show isNum tm = true; unfold isNum; rw [decide_eq_true g2, decide_eq_true g3]; rfl
    have HD8 : Hid (decide (ss.length ≤ 8) = true) := decide_eq_true g1
    have h8' : (ss.length : Int) ≤ 8 := by omega
    clear g1
    go_wp2
    go_loopw [4] (fun i wr => ∃ k : Nat, k ≤ ss.length ∧ i = .int .i64 k ∧ Hid (sRise tm none ss = sRise tm (spv ss k) (ss.drop k)) ∧ Hid (Kept Nil w wr) ∧ Hid (wr.heap[w.heap.size]? = some (.cells #[.slice ao ps.length cp, .slice so ss.length cs, .int .i64 tm] 65))) (fun i _ => ss.length - (intOf i).toNat)
    case atStart => exact ⟨0, Nat.zero_le _, rfl, rfl, HK2.out, HB2.out⟩
    case round =>
      obtain ⟨k, hk, rfl, HI, HK, HB⟩ := hrel
      clear HB2 HK2 q1 q2
      have q1 := blk_at HB.out 1 rfl
      by_cases hlt : k < ss.length
      · obtain ⟨a, ao2, c2, rfl, _, hc0, hc1, hc2, hc3, hc4, hc5, hc6, hst, hm1, hm2⟩ := (HR.out.nil HK.out) k hlt
        have HA : Hid (sRise tm none ss = (ssOk tm ss[k] && (match spv ss k with | none => true | some q => decide (q < ss[k].cl)) && sRise tm (spv ss (k + 1)) (ss.drop (k + 1)))) := HI.out.trans (sRise_at hlt)
        have HRS := refIsResult_any B c2 ss[k].kd ss[k].ver ss[k].val ao2 ss[k].ks _ (hst.alloc (.cells #[.int .i64 ss[k].cl, .int .i64 ss[k].ls, .int .i64 ss[k].kd, .string (bs ss[k].val), .int .i64 ss[k].ver, .slice ao2 ss[k].ks.length c2, .int .i64 ss[k].sn] 133)) hm1 hm2
        have HRS : Calls Try.prog 155 _ _ fun e w' => e = .returned (.bool (ssRs ss[k])) ∧ Kept Nil _ w' := HRS
        have u0 : (wr.alloc (.cells #[.int .i64 ss[k].cl, .int .i64 ss[k].ls, .int .i64 ss[k].kd, .string (bs ss[k].val), .int .i64 ss[k].ver, .slice ao2 ss[k].ks.length c2, .int .i64 ss[k].sn] 133)).cell? ⟨wr.heap.size, 0, none⟩ = some (.int .i64 ss[k].cl) := blk_at (blk_new wr _) 0 rfl
        have u1 : (wr.alloc (.cells #[.int .i64 ss[k].cl, .int .i64 ss[k].ls, .int .i64 ss[k].kd, .string (bs ss[k].val), .int .i64 ss[k].ver, .slice ao2 ss[k].ks.length c2, .int .i64 ss[k].sn] 133)).cell? ⟨wr.heap.size, 1, none⟩ = some (.int .i64 ss[k].ls) := blk_at (blk_new wr _) 1 rfl
        have u6 : (wr.alloc (.cells #[.int .i64 ss[k].cl, .int .i64 ss[k].ls, .int .i64 ss[k].kd, .string (bs ss[k].val), .int .i64 ss[k].ver, .slice ao2 ss[k].ks.length c2, .int .i64 ss[k].sn] 133)).cell? ⟨wr.heap.size, 6, none⟩ = some (.int .i64 ss[k].sn) := blk_at (blk_new wr _) 6 rfl
        have t1 : (wr.alloc (.cells #[.int .i64 ss[k].cl, .int .i64 ss[k].ls, .int .i64 ss[k].kd, .string (bs ss[k].val), .int .i64 ss[k].ver, .slice ao2 ss[k].ks.length c2, .int .i64 ss[k].sn] 133)).cell? ⟨w.heap.size, 1, none⟩ = some (.slice (some a) ss.length cs) := blk_at (blk_past HB.out _) 1 rfl
        have t2 : (wr.alloc (.cells #[.int .i64 ss[k].cl, .int .i64 ss[k].ls, .int .i64 ss[k].kd, .string (bs ss[k].val), .int .i64 ss[k].ver, .slice ao2 ss[k].ks.length c2, .int .i64 ss[k].sn] 133)).cell? ⟨w.heap.size, 2, none⟩ = some (.int .i64 tm) := blk_at (blk_past HB.out _) 2 rfl
        have HK1 : Hid (Kept Nil w (wr.alloc (.cells #[.int .i64 ss[k].cl, .int .i64 ss[k].ls, .int .i64 ss[k].kd, .string (bs ss[k].val), .int .i64 ss[k].ver, .slice ao2 ss[k].ks.length c2, .int .i64 ss[k].sn] 133))) := HK.out.alloc _
        have HB3 : Hid ((wr.alloc (.cells #[.int .i64 ss[k].cl, .int .i64 ss[k].ls, .int .i64 ss[k].kd, .string (bs ss[k].val), .int .i64 ss[k].ver, .slice ao2 ss[k].ks.length c2, .int .i64 ss[k].sn] 133)).heap[w.heap.size]? = some (.cells #[.slice ao ps.length cp, .slice (some a) ss.length cs, .int .i64 tm] 65)) := blk_past HB.out _
        have hki : (k : Int) < ss.length := by omega
        clear HI hst hm1 hm2 HB
        cases hrs : ssRs ss[k] with
        | false =>
          have HF : Hid (sRise tm none ss = false) := by show sRise tm none ss = _; rw [HA.out]; unfold ssOk; rw [hrs]; simp
          rw [hrs] at HRS
          generalize ss[k].cl = cl at *
          generalize ss[k].ls = ls at *
          generalize ss[k].kd = kd at *
          generalize ss[k].val = val at *
          generalize ss[k].ver = ver at *
          generalize ss[k].ks.length = kl at *
          generalize ss[k].sn = sn at *
          clear HA hrs
          go_wp2_with fail
          refine HRS.mono ?_
          rintro e w3 ⟨rfl, k3⟩
          have K3 : Hid (Kept Nil w w3) := HK1.out.trans k3
          have r0 : w3.cell? ⟨wr.heap.size, 0, none⟩ = some (.int .i64 cl) := cell_kept k3 (fun _ x => x) u0
          have r1 : w3.cell? ⟨wr.heap.size, 1, none⟩ = some (.int .i64 ls) := cell_kept k3 (fun _ x => x) u1
          have r6 : w3.cell? ⟨wr.heap.size, 6, none⟩ = some (.int .i64 sn) := cell_kept k3 (fun _ x => x) u6
          have t1' : w3.cell? ⟨w.heap.size, 1, none⟩ = some (.slice (some a) ss.length cs) := cell_kept k3 (fun _ x => x) t1
          have t2' : w3.cell? ⟨w.heap.size, 2, none⟩ = some (.int .i64 tm) := cell_kept k3 (fun _ x => x) t2
          have HB4 : Hid (w3.heap[w.heap.size]? = some (.cells #[.slice ao ps.length cp, .slice (some a) ss.length cs, .int .i64 tm] 65)) := k3.block _ _ HB3.out (fun x => x.elim)
          clear k3
          go_wp2
          go_quiet (fail)
          go_wp2
          go_ret
          rw [HD.out, HD8.out, HF.out]
          exact ⟨rfl, K3.out.drewN _⟩
        | true =>
          rw [hrs] at HRS
          by_cases d1 : 1 ≤ ss[k].cl
          · skip
            by_cases d2 : ss[k].cl ≤ 1099511627775
            · skip
              by_cases d3 : 0 ≤ ss[k].ls
              · skip
                by_cases d4 : ss[k].ls ≤ 1099511627775
                · skip
                  by_cases d5 : 0 ≤ ss[k].sn
                  · skip
                    by_cases d6 : ss[k].sn ≤ tm
                    · skip
                      have hok : ssOk tm ss[k] = true := by unfold ssOk isCnt isNum; rw [hrs, decide_eq_true d1, decide_eq_true d2, decide_eq_true d3, decide_eq_true d4, decide_eq_true d5, decide_eq_true d6, decide_eq_true (show ss[k].sn ≤ 1099511627775 by omega)]; rfl
                      by_cases k0 : k = 0
                      · have b7 : decide (0 < k) = false := decide_eq_false (by omega)
                        have hpv : spv ss k = none := by simp [spv, k0]
                        have HF : Hid (sRise tm none ss = sRise tm (spv ss (k + 1)) (ss.drop (k + 1))) := by show sRise tm none ss = _; rw [HA.out, hpv, hok]; rfl
                        generalize ss[k].cl = cl at *
                        generalize ss[k].ls = ls at *
                        generalize ss[k].kd = kd at *
                        generalize ss[k].val = val at *
                        generalize ss[k].ver = ver at *
                        generalize ss[k].ks.length = kl at *
                        generalize ss[k].sn = sn at *
                        have b0 : decide (cl < 1) = false := decide_eq_false (by omega)
                        have b1 : decide (1099511627775 < cl) = false := decide_eq_false (by omega)
                        have b2 : decide (ls < 0) = false := decide_eq_false (by omega)
                        have b3 : decide (1099511627775 < ls) = false := decide_eq_false (by omega)
                        have b4 : decide (sn < 0) = false := decide_eq_false (by omega)
                        have b5 : decide (tm < sn) = false := decide_eq_false (by omega)
                        clear HA hrs hok k0 hpv
                        go_wp2_with fail
                        refine HRS.mono ?_
                        rintro e w3 ⟨rfl, k3⟩
                        have K3 : Hid (Kept Nil w w3) := HK1.out.trans k3
                        have r0 : w3.cell? ⟨wr.heap.size, 0, none⟩ = some (.int .i64 cl) := cell_kept k3 (fun _ x => x) u0
                        have r1 : w3.cell? ⟨wr.heap.size, 1, none⟩ = some (.int .i64 ls) := cell_kept k3 (fun _ x => x) u1
                        have r6 : w3.cell? ⟨wr.heap.size, 6, none⟩ = some (.int .i64 sn) := cell_kept k3 (fun _ x => x) u6
                        have t1' : w3.cell? ⟨w.heap.size, 1, none⟩ = some (.slice (some a) ss.length cs) := cell_kept k3 (fun _ x => x) t1
                        have t2' : w3.cell? ⟨w.heap.size, 2, none⟩ = some (.int .i64 tm) := cell_kept k3 (fun _ x => x) t2
                        have HB4 : Hid (w3.heap[w.heap.size]? = some (.cells #[.slice ao ps.length cp, .slice (some a) ss.length cs, .int .i64 tm] 65)) := k3.block _ _ HB3.out (fun x => x.elim)
                        clear k3
                        go_wp2
                        go_quiet (fail)
                        go_wp2
                        go_roundw
                        case rel => exact ⟨k + 1, by omega, by go_num, HF, K3.out.drewN _, HB4.out⟩
                        case measure => simp [intOf]; omega
                      · obtain ⟨a', _, _, ha', _, hprev, _⟩ := (HR.out.nil HK1.out) (k - 1) (by omega)
                        simp only [Option.some.injEq] at ha'
                        subst ha'
                        have hpv : spv ss k = some ss[k - 1].cl := by simp [spv, k0, show k - 1 < ss.length by omega]
                        rw [hpv] at HA
                        simp only at HA
                        have hkp : (0 : Int) < (k : Int) := by omega
                        have b7 : decide (0 < k) = true := decide_eq_true (by omega)
                        by_cases hls : ss[k - 1].cl < ss[k].cl
                        · have HF : Hid (sRise tm none ss = sRise tm (spv ss (k + 1)) (ss.drop (k + 1))) := by show sRise tm none ss = _; rw [HA.out, decide_eq_true hls, hok]; rfl
                          generalize ss[k].cl = cl at *
                          generalize ss[k].ls = ls at *
                          generalize ss[k].kd = kd at *
                          generalize ss[k].val = val at *
                          generalize ss[k].ver = ver at *
                          generalize ss[k].ks.length = kl at *
                          generalize ss[k].sn = sn at *
                          generalize ss[k - 1].cl = y at *
                          have b0 : decide (cl < 1) = false := decide_eq_false (by omega)
                          have b1 : decide (1099511627775 < cl) = false := decide_eq_false (by omega)
                          have b2 : decide (ls < 0) = false := decide_eq_false (by omega)
                          have b3 : decide (1099511627775 < ls) = false := decide_eq_false (by omega)
                          have b4 : decide (sn < 0) = false := decide_eq_false (by omega)
                          have b5 : decide (tm < sn) = false := decide_eq_false (by omega)
                          have b8 : decide (cl ≤ y) = false := decide_eq_false (by omega)
                          clear HA hrs hok k0 hpv hls
                          go_wp2_with fail
                          refine HRS.mono ?_
                          rintro e w3 ⟨rfl, k3⟩
                          have K3 : Hid (Kept Nil w w3) := HK1.out.trans k3
                          have r0 : w3.cell? ⟨wr.heap.size, 0, none⟩ = some (.int .i64 cl) := cell_kept k3 (fun _ x => x) u0
                          have r1 : w3.cell? ⟨wr.heap.size, 1, none⟩ = some (.int .i64 ls) := cell_kept k3 (fun _ x => x) u1
                          have r6 : w3.cell? ⟨wr.heap.size, 6, none⟩ = some (.int .i64 sn) := cell_kept k3 (fun _ x => x) u6
                          have t1' : w3.cell? ⟨w.heap.size, 1, none⟩ = some (.slice (some a) ss.length cs) := cell_kept k3 (fun _ x => x) t1
                          have t2' : w3.cell? ⟨w.heap.size, 2, none⟩ = some (.int .i64 tm) := cell_kept k3 (fun _ x => x) t2
                          have HB4 : Hid (w3.heap[w.heap.size]? = some (.cells #[.slice ao ps.length cp, .slice (some a) ss.length cs, .int .i64 tm] 65)) := k3.block _ _ HB3.out (fun x => x.elim)
                          have hprev2 : w3.cell? (a.add ((k - 1) * 7)) = some (.int .i64 y) := cell_kept k3 (fun _ x => x) hprev
                          clear k3
                          go_wp2
                          go_quiet (fail)
                          go_wp2
                          go_roundw
                          case rel => exact ⟨k + 1, by omega, by go_num, HF, K3.out.drewN _, HB4.out⟩
                          case measure => simp [intOf]; omega
                        · have HF : Hid (sRise tm none ss = false) := by show sRise tm none ss = _; rw [HA.out, decide_eq_false hls]; simp
                          generalize ss[k].cl = cl at *
                          generalize ss[k].ls = ls at *
                          generalize ss[k].kd = kd at *
                          generalize ss[k].val = val at *
                          generalize ss[k].ver = ver at *
                          generalize ss[k].ks.length = kl at *
                          generalize ss[k].sn = sn at *
                          generalize ss[k - 1].cl = y at *
                          have b0 : decide (cl < 1) = false := decide_eq_false (by omega)
                          have b1 : decide (1099511627775 < cl) = false := decide_eq_false (by omega)
                          have b2 : decide (ls < 0) = false := decide_eq_false (by omega)
                          have b3 : decide (1099511627775 < ls) = false := decide_eq_false (by omega)
                          have b4 : decide (sn < 0) = false := decide_eq_false (by omega)
                          have b5 : decide (tm < sn) = false := decide_eq_false (by omega)
                          have b8 : decide (cl ≤ y) = true := decide_eq_true (by omega)
                          clear HA hrs hok k0 hpv hls
                          go_wp2_with fail
                          refine HRS.mono ?_
                          rintro e w3 ⟨rfl, k3⟩
                          have K3 : Hid (Kept Nil w w3) := HK1.out.trans k3
                          have r0 : w3.cell? ⟨wr.heap.size, 0, none⟩ = some (.int .i64 cl) := cell_kept k3 (fun _ x => x) u0
                          have r1 : w3.cell? ⟨wr.heap.size, 1, none⟩ = some (.int .i64 ls) := cell_kept k3 (fun _ x => x) u1
                          have r6 : w3.cell? ⟨wr.heap.size, 6, none⟩ = some (.int .i64 sn) := cell_kept k3 (fun _ x => x) u6
                          have t1' : w3.cell? ⟨w.heap.size, 1, none⟩ = some (.slice (some a) ss.length cs) := cell_kept k3 (fun _ x => x) t1
                          have t2' : w3.cell? ⟨w.heap.size, 2, none⟩ = some (.int .i64 tm) := cell_kept k3 (fun _ x => x) t2
                          have HB4 : Hid (w3.heap[w.heap.size]? = some (.cells #[.slice ao ps.length cp, .slice (some a) ss.length cs, .int .i64 tm] 65)) := k3.block _ _ HB3.out (fun x => x.elim)
                          have hprev2 : w3.cell? (a.add ((k - 1) * 7)) = some (.int .i64 y) := cell_kept k3 (fun _ x => x) hprev
                          clear k3
                          go_wp2
                          go_quiet (fail)
                          go_wp2
                          go_ret
                          rw [HD.out, HD8.out, HF.out]
                          exact ⟨rfl, K3.out.drewN _⟩
                    · have HF : Hid (sRise tm none ss = false) := by show sRise tm none ss = _; rw [HA.out]; unfold ssOk; rw [decide_eq_false d6]; simp
                      generalize ss[k].cl = cl at *
                      generalize ss[k].ls = ls at *
                      generalize ss[k].kd = kd at *
                      generalize ss[k].val = val at *
                      generalize ss[k].ver = ver at *
                      generalize ss[k].ks.length = kl at *
                      generalize ss[k].sn = sn at *
                      have b0 : decide (cl < 1) = false := decide_eq_false (by omega)
                      have b1 : decide (1099511627775 < cl) = false := decide_eq_false (by omega)
                      have b2 : decide (ls < 0) = false := decide_eq_false (by omega)
                      have b3 : decide (1099511627775 < ls) = false := decide_eq_false (by omega)
                      have b4 : decide (sn < 0) = false := decide_eq_false (by omega)
                      have b5 : decide (tm < sn) = true := decide_eq_true (by omega)
                      clear HA hrs
                      go_wp2_with fail
                      refine HRS.mono ?_
                      rintro e w3 ⟨rfl, k3⟩
                      have K3 : Hid (Kept Nil w w3) := HK1.out.trans k3
                      have r0 : w3.cell? ⟨wr.heap.size, 0, none⟩ = some (.int .i64 cl) := cell_kept k3 (fun _ x => x) u0
                      have r1 : w3.cell? ⟨wr.heap.size, 1, none⟩ = some (.int .i64 ls) := cell_kept k3 (fun _ x => x) u1
                      have r6 : w3.cell? ⟨wr.heap.size, 6, none⟩ = some (.int .i64 sn) := cell_kept k3 (fun _ x => x) u6
                      have t1' : w3.cell? ⟨w.heap.size, 1, none⟩ = some (.slice (some a) ss.length cs) := cell_kept k3 (fun _ x => x) t1
                      have t2' : w3.cell? ⟨w.heap.size, 2, none⟩ = some (.int .i64 tm) := cell_kept k3 (fun _ x => x) t2
                      have HB4 : Hid (w3.heap[w.heap.size]? = some (.cells #[.slice ao ps.length cp, .slice (some a) ss.length cs, .int .i64 tm] 65)) := k3.block _ _ HB3.out (fun x => x.elim)
                      clear k3
                      go_wp2
                      go_quiet (fail)
                      go_wp2
                      go_ret
                      rw [HD.out, HD8.out, HF.out]
                      exact ⟨rfl, K3.out.drewN _⟩
                  · have HF : Hid (sRise tm none ss = false) := by show sRise tm none ss = _; rw [HA.out]; unfold ssOk; unfold isNum; rw [decide_eq_false d5]; simp
                    generalize ss[k].cl = cl at *
                    generalize ss[k].ls = ls at *
                    generalize ss[k].kd = kd at *
                    generalize ss[k].val = val at *
                    generalize ss[k].ver = ver at *
                    generalize ss[k].ks.length = kl at *
                    generalize ss[k].sn = sn at *
                    have b0 : decide (cl < 1) = false := decide_eq_false (by omega)
                    have b1 : decide (1099511627775 < cl) = false := decide_eq_false (by omega)
                    have b2 : decide (ls < 0) = false := decide_eq_false (by omega)
                    have b3 : decide (1099511627775 < ls) = false := decide_eq_false (by omega)
                    have b4 : decide (sn < 0) = true := decide_eq_true (by omega)
                    clear HA hrs
                    go_wp2_with fail
                    refine HRS.mono ?_
                    rintro e w3 ⟨rfl, k3⟩
                    have K3 : Hid (Kept Nil w w3) := HK1.out.trans k3
                    have r0 : w3.cell? ⟨wr.heap.size, 0, none⟩ = some (.int .i64 cl) := cell_kept k3 (fun _ x => x) u0
                    have r1 : w3.cell? ⟨wr.heap.size, 1, none⟩ = some (.int .i64 ls) := cell_kept k3 (fun _ x => x) u1
                    have r6 : w3.cell? ⟨wr.heap.size, 6, none⟩ = some (.int .i64 sn) := cell_kept k3 (fun _ x => x) u6
                    have t1' : w3.cell? ⟨w.heap.size, 1, none⟩ = some (.slice (some a) ss.length cs) := cell_kept k3 (fun _ x => x) t1
                    have t2' : w3.cell? ⟨w.heap.size, 2, none⟩ = some (.int .i64 tm) := cell_kept k3 (fun _ x => x) t2
                    have HB4 : Hid (w3.heap[w.heap.size]? = some (.cells #[.slice ao ps.length cp, .slice (some a) ss.length cs, .int .i64 tm] 65)) := k3.block _ _ HB3.out (fun x => x.elim)
                    clear k3
                    go_wp2
                    go_quiet (fail)
                    go_wp2
                    go_ret
                    rw [HD.out, HD8.out, HF.out]
                    exact ⟨rfl, K3.out.drewN _⟩
                · have HF : Hid (sRise tm none ss = false) := by show sRise tm none ss = _; rw [HA.out]; unfold ssOk; unfold isNum; rw [decide_eq_false d4]; simp
                  generalize ss[k].cl = cl at *
                  generalize ss[k].ls = ls at *
                  generalize ss[k].kd = kd at *
                  generalize ss[k].val = val at *
                  generalize ss[k].ver = ver at *
                  generalize ss[k].ks.length = kl at *
                  generalize ss[k].sn = sn at *
                  have b0 : decide (cl < 1) = false := decide_eq_false (by omega)
                  have b1 : decide (1099511627775 < cl) = false := decide_eq_false (by omega)
                  have b2 : decide (ls < 0) = false := decide_eq_false (by omega)
                  have b3 : decide (1099511627775 < ls) = true := decide_eq_true (by omega)
                  clear HA hrs
                  go_wp2_with fail
                  refine HRS.mono ?_
                  rintro e w3 ⟨rfl, k3⟩
                  have K3 : Hid (Kept Nil w w3) := HK1.out.trans k3
                  have r0 : w3.cell? ⟨wr.heap.size, 0, none⟩ = some (.int .i64 cl) := cell_kept k3 (fun _ x => x) u0
                  have r1 : w3.cell? ⟨wr.heap.size, 1, none⟩ = some (.int .i64 ls) := cell_kept k3 (fun _ x => x) u1
                  have r6 : w3.cell? ⟨wr.heap.size, 6, none⟩ = some (.int .i64 sn) := cell_kept k3 (fun _ x => x) u6
                  have t1' : w3.cell? ⟨w.heap.size, 1, none⟩ = some (.slice (some a) ss.length cs) := cell_kept k3 (fun _ x => x) t1
                  have t2' : w3.cell? ⟨w.heap.size, 2, none⟩ = some (.int .i64 tm) := cell_kept k3 (fun _ x => x) t2
                  have HB4 : Hid (w3.heap[w.heap.size]? = some (.cells #[.slice ao ps.length cp, .slice (some a) ss.length cs, .int .i64 tm] 65)) := k3.block _ _ HB3.out (fun x => x.elim)
                  clear k3
                  go_wp2
                  go_quiet (fail)
                  go_wp2
                  go_ret
                  rw [HD.out, HD8.out, HF.out]
                  exact ⟨rfl, K3.out.drewN _⟩
              · have HF : Hid (sRise tm none ss = false) := by show sRise tm none ss = _; rw [HA.out]; unfold ssOk; unfold isNum; rw [decide_eq_false d3]; simp
                generalize ss[k].cl = cl at *
                generalize ss[k].ls = ls at *
                generalize ss[k].kd = kd at *
                generalize ss[k].val = val at *
                generalize ss[k].ver = ver at *
                generalize ss[k].ks.length = kl at *
                generalize ss[k].sn = sn at *
                have b0 : decide (cl < 1) = false := decide_eq_false (by omega)
                have b1 : decide (1099511627775 < cl) = false := decide_eq_false (by omega)
                have b2 : decide (ls < 0) = true := decide_eq_true (by omega)
                clear HA hrs
                go_wp2_with fail
                refine HRS.mono ?_
                rintro e w3 ⟨rfl, k3⟩
                have K3 : Hid (Kept Nil w w3) := HK1.out.trans k3
                have r0 : w3.cell? ⟨wr.heap.size, 0, none⟩ = some (.int .i64 cl) := cell_kept k3 (fun _ x => x) u0
                have r1 : w3.cell? ⟨wr.heap.size, 1, none⟩ = some (.int .i64 ls) := cell_kept k3 (fun _ x => x) u1
                have r6 : w3.cell? ⟨wr.heap.size, 6, none⟩ = some (.int .i64 sn) := cell_kept k3 (fun _ x => x) u6
                have t1' : w3.cell? ⟨w.heap.size, 1, none⟩ = some (.slice (some a) ss.length cs) := cell_kept k3 (fun _ x => x) t1
                have t2' : w3.cell? ⟨w.heap.size, 2, none⟩ = some (.int .i64 tm) := cell_kept k3 (fun _ x => x) t2
                have HB4 : Hid (w3.heap[w.heap.size]? = some (.cells #[.slice ao ps.length cp, .slice (some a) ss.length cs, .int .i64 tm] 65)) := k3.block _ _ HB3.out (fun x => x.elim)
                clear k3
                go_wp2
                go_quiet (fail)
                go_wp2
                go_ret
                rw [HD.out, HD8.out, HF.out]
                exact ⟨rfl, K3.out.drewN _⟩
            · have HF : Hid (sRise tm none ss = false) := by show sRise tm none ss = _; rw [HA.out]; unfold ssOk; unfold isCnt; rw [decide_eq_false d2]; simp
              generalize ss[k].cl = cl at *
              generalize ss[k].ls = ls at *
              generalize ss[k].kd = kd at *
              generalize ss[k].val = val at *
              generalize ss[k].ver = ver at *
              generalize ss[k].ks.length = kl at *
              generalize ss[k].sn = sn at *
              have b0 : decide (cl < 1) = false := decide_eq_false (by omega)
              have b1 : decide (1099511627775 < cl) = true := decide_eq_true (by omega)
              clear HA hrs
              go_wp2_with fail
              refine HRS.mono ?_
              rintro e w3 ⟨rfl, k3⟩
              have K3 : Hid (Kept Nil w w3) := HK1.out.trans k3
              have r0 : w3.cell? ⟨wr.heap.size, 0, none⟩ = some (.int .i64 cl) := cell_kept k3 (fun _ x => x) u0
              have r1 : w3.cell? ⟨wr.heap.size, 1, none⟩ = some (.int .i64 ls) := cell_kept k3 (fun _ x => x) u1
              have r6 : w3.cell? ⟨wr.heap.size, 6, none⟩ = some (.int .i64 sn) := cell_kept k3 (fun _ x => x) u6
              have t1' : w3.cell? ⟨w.heap.size, 1, none⟩ = some (.slice (some a) ss.length cs) := cell_kept k3 (fun _ x => x) t1
              have t2' : w3.cell? ⟨w.heap.size, 2, none⟩ = some (.int .i64 tm) := cell_kept k3 (fun _ x => x) t2
              have HB4 : Hid (w3.heap[w.heap.size]? = some (.cells #[.slice ao ps.length cp, .slice (some a) ss.length cs, .int .i64 tm] 65)) := k3.block _ _ HB3.out (fun x => x.elim)
              clear k3
              go_wp2
              go_quiet (fail)
              go_wp2
              go_ret
              rw [HD.out, HD8.out, HF.out]
              exact ⟨rfl, K3.out.drewN _⟩
          · have HF : Hid (sRise tm none ss = false) := by show sRise tm none ss = _; rw [HA.out]; unfold ssOk; unfold isCnt; rw [decide_eq_false d1]; simp
            generalize ss[k].cl = cl at *
            generalize ss[k].ls = ls at *
            generalize ss[k].kd = kd at *
            generalize ss[k].val = val at *
            generalize ss[k].ver = ver at *
            generalize ss[k].ks.length = kl at *
            generalize ss[k].sn = sn at *
            have b0 : decide (cl < 1) = true := decide_eq_true (by omega)
            clear HA hrs
            go_wp2_with fail
            refine HRS.mono ?_
            rintro e w3 ⟨rfl, k3⟩
            have K3 : Hid (Kept Nil w w3) := HK1.out.trans k3
            have r0 : w3.cell? ⟨wr.heap.size, 0, none⟩ = some (.int .i64 cl) := cell_kept k3 (fun _ x => x) u0
            have r1 : w3.cell? ⟨wr.heap.size, 1, none⟩ = some (.int .i64 ls) := cell_kept k3 (fun _ x => x) u1
            have r6 : w3.cell? ⟨wr.heap.size, 6, none⟩ = some (.int .i64 sn) := cell_kept k3 (fun _ x => x) u6
            have t1' : w3.cell? ⟨w.heap.size, 1, none⟩ = some (.slice (some a) ss.length cs) := cell_kept k3 (fun _ x => x) t1
            have t2' : w3.cell? ⟨w.heap.size, 2, none⟩ = some (.int .i64 tm) := cell_kept k3 (fun _ x => x) t2
            have HB4 : Hid (w3.heap[w.heap.size]? = some (.cells #[.slice ao ps.length cp, .slice (some a) ss.length cs, .int .i64 tm] 65)) := k3.block _ _ HB3.out (fun x => x.elim)
            clear k3
            go_wp2
            go_quiet (fail)
            go_wp2
            go_ret
            rw [HD.out, HD8.out, HF.out]
            exact ⟨rfl, K3.out.drewN _⟩
      · have HF : Hid (sRise tm none ss = true) := HI.out.trans (sRise_end hlt)
        go_wp2
        go_ret
        rw [HD.out, HD8.out, HF.out]
        exact ⟨rfl, HK.out⟩

end Go.Proofs.Ytijklginabipgaa
