/-
  KvExact: the walk.
-/
import Derived.Test.YtnmkccdcgmajgaaWKvW
import Derived.Test.YtnmkccdcgmajgaaWKvC
import Derived.Deep.DeepCutAuto
namespace Go.Proofs.Ytnmkccdcgmajgaa
open Go.RowKit

set_option maxRecDepth 100000 in
set_option maxHeartbeats 4000000 in
theorem kvExact_any (B c cc : Nat) (ao co : Option Addr) (ps : List Pr) (cs : List Cm) (w : World) (h : PairRow B w ao ps) (hn : ao = none → ps = [] ∧ c = 0) (hl : ps.length ≤ 3518437208780) (hc : CmRow B w co cs) (hcl : (cs.length : Int) ≤ 9000000000000000000) (hB : B ≤ w.heap.size) :
    Calls Try.prog 5 #[.slice ao ps.length c, .slice co cs.length cc] w fun e w' => e = .returned (.bool true) ∧ Kept Nil w w' := by
  obtain ⟨i0, hi, hz0, hz1, hz2⟩ := info_parts Try.infoPr
  have A0 := apply_any 0 0 none [] [107] [118] 1 0 w (fun j hj => absurd hj (by simp)) (fun _ => ⟨rfl, rfl⟩) (by simp) (by simp [maxLen]) (by simp [maxLen])
  rw [first_ap.1, first_ap.2] at A0
  have HP0 : Hid (PairRow w.heap.size w ao ps ∧ (ao = none → ps = [] ∧ c = 0) ∧ ps.length ≤ 3518437208780) := ⟨h.wide hB, hn, hl⟩
  have HC0 : Hid (CmRow w.heap.size w co cs) := hc.wide hB
  have HBw : Hid (0 ≤ w.heap.size) := Nat.zero_le _
  clear h hn hl hc hB
  go_enter Try.func5, Try.ntmps5
  go_wp2_with fail
  go_fit A0
  rintro _ w1 ⟨ao1, c1, ko, kc, rfl, _, _, k1⟩
  have K1 : Hid (Kept Nil w w1) := k1
  clear k1 A0
  unfold rrV
  dsimp only [List.length_cons, List.length_nil]
  obtain ⟨w2, HW2⟩ : ∃ w2, Hid (w2 = w1.alloc (.cells #[.int .i64 1, .string (bs []), .int .i64 1, .slice ko 0 kc] 55)) := ⟨_, rfl⟩
  have K2 : Hid (Kept Nil w w2) := by rw [HW2.out]; exact K1.out.alloc _
  go_wp2_with fail
  rw [← HW2.out]
  clear HW2 K1
  go_loopg [7, 8] (cs.length + 1) (fun g s7 s8 wr => ∃ k : Nat, ∃ qs : List Pr, ∃ ap cp, k ≤ cs.length + 1 ∧ g = cs.length + 1 - k ∧ s7 = .slice ap qs.length cp ∧ s8 = .int .i64 k ∧ Hid (PairRow wr.heap.size wr ap qs) ∧ Hid (ap = none → qs = [] ∧ cp = 0) ∧ Hid (qs.length ≤ 3518437208780) ∧ Hid (Kept Nil w wr))
  case atStart => exact ⟨0, ps, ao, c, Nat.zero_le _, rfl, rfl, rfl, (HP0.out.1.nil K2.out).wide K2.out.size, HP0.out.2.1, HP0.out.2.2, K2.out⟩
  case round =>
    obtain ⟨k, qs, ap, cp, hk, rfl, rfl, rfl, HQ, HQn, HQl, HK⟩ := hrel
    clear HP0 K2
    rename World => wr
    by_cases hlt : k ≤ cs.length
    · have hki : (k : Int) ≤ cs.length := by omega
      obtain ⟨cb, HCB⟩ : ∃ cb, Hid (cb = wr.heap.size) := ⟨_, rfl⟩
      go_upto_region 9 with fail
      rw [← HCB.out]
      go_cut [48] (fun s wc => s = .bool (decide (k < cs.length)) ∧ wc = wr.alloc (.cells #[.int .i64 6, .string ⟨#[]⟩, .string ⟨#[]⟩, .int .i64 0] 59))
      case first =>
        go_wp2
        go_meet
        exact ⟨by simp, rfl⟩
      case rest =>
        obtain ⟨rfl, rfl⟩ := hcut
        go_upto_if 48 with fail
        go_cut [] (fun wc => ∃ kd m : Int, ∃ ck val : List UInt8, Hid (wc.heap[cb]? = some (.cells #[.int .i64 kd, .string (bs ck), .string (bs val), .int .i64 m] 59 (0, 0))) ∧ Hid (ck.length ≤ maxLen ∧ val.length ≤ maxLen) ∧ Hid (Kept Nil wr wc))
        case first =>
          obtain ⟨X, hX⟩ : ∃ X, X = wr.alloc (.cells #[.int .i64 6, .string ⟨#[]⟩, .string ⟨#[]⟩, .int .i64 0] 59) := ⟨_, rfl⟩
          have HX : Hid (X.heap[cb]? = some (.cells #[.int .i64 6, .string ⟨#[]⟩, .string ⟨#[]⟩, .int .i64 0] 59 (0, 0))) := by rw [hX, HCB.out]; exact blk_new _ _
          have KX : Hid (Kept Nil wr X) := by rw [hX]; exact (Kept.refl _ _).alloc _
          have HCB2 : Hid (wr.heap.size ≤ cb) := by show _ ≤ _; rw [HCB.out]; exact Nat.le_refl _
          rw [← hX]
          clear hX
          by_cases hlc : k < cs.length
          · rw [decide_eq_true hlc]
            obtain ⟨a, rfl, _, hc0, hc1, hc2, hc3, l1, l2⟩ := (HC0.out.nil (HK.out.trans KX.out)) k hlc
            have hkc : (k : Int) < cs.length := by omega
            have x0 : X.cell? ⟨cb, 0, none⟩ = some (.int .i64 6) := blk_at HX.out 0 rfl
            have x1 : X.cell? ⟨cb, 1, none⟩ = some (.string ⟨#[]⟩) := blk_at HX.out 1 rfl
            have x2 : X.cell? ⟨cb, 2, none⟩ = some (.string ⟨#[]⟩) := blk_at HX.out 2 rfl
            have x3 : X.cell? ⟨cb, 3, none⟩ = some (.int .i64 0) := blk_at HX.out 3 rfl
            have f0 : X.frozen? ⟨cb, 0, none⟩ = false := blk_free HX.out 0
            have f1 : X.frozen? ⟨cb, 1, none⟩ = false := blk_free HX.out 1
            have f2 : X.frozen? ⟨cb, 2, none⟩ = false := blk_free HX.out 2
            have f3 : X.frozen? ⟨cb, 3, none⟩ = false := blk_free HX.out 3
            have HLL : Hid (cs[k].k.length ≤ maxLen ∧ cs[k].v.length ≤ maxLen) := ⟨l1, l2⟩
            clear l1 l2
            generalize cs[k].kd = kd at *
            generalize cs[k].k = ck at *
            generalize cs[k].v = val at *
            generalize cs[k].m = m at *
            go_wp2
            go_meet
            exact ⟨kd, m, ck, val, blk_set (blk_set (blk_set (blk_set HX.out 0 _) 1 _) 2 _) 3 _, HLL.out, (((KX.out.setNew (p := ⟨cb, 0, none⟩) HCB2.out _).setNew (p := ⟨cb, 1, none⟩) HCB2.out _).setNew (p := ⟨cb, 2, none⟩) HCB2.out _).setNew (p := ⟨cb, 3, none⟩) HCB2.out _⟩
          · rw [decide_eq_false hlc]
            go_wp2
            go_meet
            exact ⟨6, 0, [], [], HX.out, ⟨by simp, by simp⟩, KX.out⟩
        case rest =>
          obtain ⟨kd, m, ck, val, HCb, HCL, KC⟩ := hcut
          rename World => wb
          clear HCB
          have HQb : Hid (PairRow wr.heap.size wb ap qs) := HQ.out.nil KC.out
          have HFq : Hid (Fit (qs ++ [(⟨[], [], 99⟩ : Pr)])) := fun p hp => by
            rcases List.mem_append.1 hp with hp | hp
            · exact HQ.out.fit p hp
            · have : p = ⟨[], [], 99⟩ := by simpa using hp
              rw [this]
              exact ⟨by simp, by simp⟩
          go_upto_region 11 with fail
          go_cut [10] (fun s wc => ∃ xg xc, s = .slice (some ⟨xg, 0, none⟩) (qs.length + 1) xc ∧ Hid (OwnP wb.heap.size wc (some ⟨xg, 0, none⟩) xc (qs ++ [(⟨[], [], 99⟩ : Pr)])) ∧ Hid (Kept Nil wb wc))
          case first =>
            have HS : Hid (Src Try.prog 3 51 (.slice ap qs.length cp) qs.length (kvCells qs) wb) := HQb.out.src
            have HO : Hid (wb.ownsRow wb.heap.size 61 3 (.slice none 0 0) 0 []) := World.ownsRow_nil _ _ _ _
            have HLL : Hid (0 + qs.length ≤ maxLen ∧ (0 + qs.length) * 40 ≤ 140737488355328) := by have := HQl.out; constructor <;> (try unfold maxLen) <;> omega
            have HL2 : Hid (qs.length + 1 ≤ maxLen ∧ (qs.length + 1) * 40 ≤ 140737488355328) := by have := HQl.out; constructor <;> (try unfold maxLen) <;> omega
            go_wp2_with (first | (at_builtin; refine wpList_append_src _ rfl _ _ 51 51 rfl wb.heap.size 61 i0 (.agg #[.string ⟨#[]⟩, .string ⟨#[]⟩, .int .i64 0]) 3 40 Try.underlying51 hi hz0 hz1 hz2 rfl _ _ _ rfl HO.out (.slice ap qs.length cp) qs.length (kvCells qs) rfl HS.out HLL.out.1 HLL.out.2 (Nat.le_refl _) ?_; intro a1 c1 w3 ho' hg'; have HO1 : Hid (w3.ownsRow wb.heap.size 61 3 (.slice a1 qs.length c1) qs.length (kvCells qs)) := (by have := ho'; rw [Nat.zero_add, List.nil_append] at this; exact this); have K3 : Hid (Kept Nil wb w3) := (Kept.refl _ _).grown hg' (fun q hq => own_row HO.out q hq); rw [Nat.zero_add]; clear ho' hg') | (at_builtin; go_must (refine wpList_append_src _ rfl _ _ 51 51 rfl wb.heap.size 61 i0 (.agg #[.string ⟨#[]⟩, .string ⟨#[]⟩, .int .i64 0]) 3 40 Try.underlying51 hi hz0 hz1 hz2 rfl _ _ _ rfl (World.ownsRow.alloc HO1.out _) (.slice (some ⟨w3.heap.size, 0, none⟩) 1 1) 1 [.string (bs []), .string (bs []), .int .i64 99] rfl (src_kv ⟨[], [], 99⟩) HL2.out.1 HL2.out.2 (le_alloc K3.out.size _) ?_); intro a2 c2 w4 ho' hg'; have HO2 : Hid (OwnP wb.heap.size w4 a2 c2 (qs ++ [(⟨[], [], 99⟩ : Pr)])) := OwnP.push (x := ⟨[], [], 99⟩) ho'; have K4 : Hid (Kept Nil wb w4) := (K3.out.alloc _).grown hg' (fun q hq => own_row HO1.out q hq); clear ho' hg'))
            obtain ⟨xg, e0, _⟩ := HO2.out.cells (by rw [List.length_append]; simp)
            subst e0
            go_meet
            exact ⟨xg, c2, rfl, HO2.out, K4.out⟩
          case rest =>
            obtain ⟨xg, xc, rfl, HXo, KXo⟩ := hcut
            rename World => wx
            have HXr : Hid (PairRow wx.heap.size wx (some ⟨xg, 0, none⟩) qs) := by
              have := (HXo.out.row HFq.out).take' qs.length
              rw [List.take_left] at this
              exact this
            obtain ⟨hx9, hxc⟩ : wx.cell? ⟨xg, qs.length * 3 + 2, none⟩ = some (.int .i64 99) ∧ qs.length + 1 ≤ xc := by
              obtain ⟨g, e0, _, _, hcs⟩ := HXo.out.cells (by rw [List.length_append]; simp)
              obtain ⟨_, _, _, _, _, hlc, _, _, _⟩ := HXo.out.block (by simp)
              cases e0
              have := (hcs qs.length (by rw [List.length_append]; simp)).2.2.1
              rw [List.getElem_append_right (Nat.le_refl _)] at this
              rw [List.length_append] at hlc
              exact ⟨by simpa using this, by simpa using hlc⟩
            have HX9 : Hid (wx.cell? ⟨xg, qs.length * 3 + 2, none⟩ = some (.int .i64 99)) := hx9
            have hxi : (qs.length : Int) ≤ (xc : Int) := by omega
            clear hx9
            have HCx : Hid (wx.heap[cb]? = some (.cells #[.int .i64 kd, .string (bs ck), .string (bs val), .int .i64 m] 59 (0, 0))) := KXo.out.block _ _ HCb.out (fun x => x.elim)
            have d0 : wx.cell? ⟨cb, 0, none⟩ = some (.int .i64 kd) := blk_at HCx.out 0 rfl
            have d1 : wx.cell? ⟨cb, 1, none⟩ = some (.string (bs ck)) := blk_at HCx.out 1 rfl
            have d2 : wx.cell? ⟨cb, 2, none⟩ = some (.string (bs val)) := blk_at HCx.out 2 rfl
            have d3 : wx.cell? ⟨cb, 3, none⟩ = some (.int .i64 m) := blk_at HCx.out 3 rfl
            have hcl2 : cb < wx.heap.size := lt_of_block HCx.out
            obtain ⟨PS, HPS⟩ : ∃ PS, Hid (PS = apP kd ck val m qs) := ⟨_, rfl⟩
            obtain ⟨RR, HRR⟩ : ∃ RR, Hid (RR = apR kd ck val m qs) := ⟨_, rfl⟩
            have XA1 := apply_any wx.heap.size xc (some ⟨xg, 0, none⟩) qs ck val kd m wx.drew (HXr.out.nil (Kept.refl _ _).drew) (fun e => by cases e) (by have := HQl.out; omega) HCL.out.1 HCL.out.2
            have XA2 := apply_any wx.heap.size xc (some ⟨xg, 0, none⟩) qs ck val kd m (wx.drew.alloc (.cells #[.int .i64 0, .string ⟨#[]⟩, .int .i64 0, .slice none 0 0] 55)) (HXr.out.nil ((Kept.refl _ _).drew.alloc _)) (fun e => by cases e) (by have := HQl.out; omega) HCL.out.1 HCL.out.2
            rw [← HPS.out, ← HRR.out] at XA1 XA2
            obtain ⟨rk, rv, rn, rks⟩ := RR
            go_upto_region 12 with fail
            go_cut [11, 12] (fun s11 s12 wc => ∃ a1 c1 ko kc rb, s11 = .slice a1 PS.length c1 ∧ s12 = .pointer (some ⟨rb, 0, none⟩) ∧ Hid (wc.heap[rb]? = some (.cells #[.int .i64 rk, .string (bs rv), .int .i64 rn, .slice ko rks.length kc] 55 (0, 0))) ∧ Hid (OwnP wx.heap.size wc a1 c1 PS) ∧ Hid (OwnK wx.heap.size wc ko kc rks) ∧ Hid (wx.heap.size ≤ rb) ∧ Hid (Kept Nil wx wc))
            case first =>
              go_region_with (go_at_call 40; first | (go_fit XA1; rintro _ w3 ⟨a1, c1, ko, kc, rfl, o1, ok1, k1⟩; have HO3 : Hid (OwnP wx.heap.size w3 a1 c1 PS) := o1; have HK3 : Hid (OwnK wx.heap.size w3 ko kc rks) := ok1; have K3 : Hid (Kept Nil wx w3) := (Kept.refl _ _).drew.trans k1; clear o1 ok1 k1; unfold rrV; dsimp only) | (go_fit XA2; rintro _ w3 ⟨a1, c1, ko, kc, rfl, o1, ok1, k1⟩; have HO3 : Hid (OwnP wx.heap.size w3 a1 c1 PS) := own_mono o1 (by simp); have HK3 : Hid (OwnK wx.heap.size w3 ko kc rks) := own_mono ok1 (by simp); have K3 : Hid (Kept Nil wx w3) := ((Kept.refl _ _).drew.alloc _).trans k1; have HN3 : Hid (w3.heap[wx.heap.size]? = some (.cells #[.int .i64 0, .string ⟨#[]⟩, .int .i64 0, .slice none 0 0] 55 (0, 0))) := k1.block _ _ (blk_new wx.drew _) (fun x => x.elim); have r0 : w3.cell? ⟨wx.heap.size, 0, none⟩ = some (.int .i64 0) := blk_at HN3.out 0 rfl; have r1 : w3.cell? ⟨wx.heap.size, 1, none⟩ = some (.string ⟨#[]⟩) := blk_at HN3.out 1 rfl; have r2 : w3.cell? ⟨wx.heap.size, 2, none⟩ = some (.int .i64 0) := blk_at HN3.out 2 rfl; have r3 : w3.cell? ⟨wx.heap.size, 3, none⟩ = some (.slice none 0 0) := blk_at HN3.out 3 rfl; have z0 : w3.frozen? ⟨wx.heap.size, 0, none⟩ = false := blk_free HN3.out 0; have z1 : w3.frozen? ⟨wx.heap.size, 1, none⟩ = false := blk_free HN3.out 1; have z2 : w3.frozen? ⟨wx.heap.size, 2, none⟩ = false := blk_free HN3.out 2; have z3 : w3.frozen? ⟨wx.heap.size, 3, none⟩ = false := blk_free HN3.out 3; clear o1 ok1 k1; unfold rrV; dsimp only))
              all_goals
                go_wp2_with fail
                go_meet
                first
                  | (have R4 := res_set HN3.out HO3.out HK3.out K3.out (Nat.le_refl _) (.int .i64 rk) (.string (bs rv)) (.int .i64 rn) (.slice ko rks.length kc); exact ⟨a1, c1, ko, kc, wx.heap.size, rfl, rfl, R4.1, R4.2.1, R4.2.2.1, Nat.le_refl _, R4.2.2.2⟩)
                  | exact ⟨a1, c1, ko, kc, w3.heap.size, rfl, rfl, blk_new _ _, HO3.out.kept ((Kept.refl _ _).alloc _), HK3.out.kept ((Kept.refl _ _).alloc _), K3.out.size, K3.out.alloc _⟩
            case rest =>
              obtain ⟨a1, c1, ko, kc, rb, rfl, rfl, HRb, HOa, HKa, HRB, K4⟩ := hcut
              rename World => w4
              clear XA1 XA2 d0 d1 d2 d3
              have HC4 : Hid (w4.heap[cb]? = some (.cells #[.int .i64 kd, .string (bs ck), .string (bs val), .int .i64 m] 59 (0, 0))) := K4.out.block _ _ HCx.out (fun x => x.elim)
              have d0 : w4.cell? ⟨cb, 0, none⟩ = some (.int .i64 kd) := blk_at HC4.out 0 rfl
              have d1 : w4.cell? ⟨cb, 1, none⟩ = some (.string (bs ck)) := blk_at HC4.out 1 rfl
              have d2 : w4.cell? ⟨cb, 2, none⟩ = some (.string (bs val)) := blk_at HC4.out 2 rfl
              have d3 : w4.cell? ⟨cb, 3, none⟩ = some (.int .i64 m) := blk_at HC4.out 3 rfl
              have RA := refApply_any wr.heap.size cp ap qs ck val kd m w4 (HQb.out.nil (KXo.out.trans K4.out)) (by have := HQl.out; omega) HCL.out.1 HCL.out.2
              rw [← HPS.out, ← HRR.out] at RA
              have HPL : Hid (PS.length ≤ 3518437208780) := by rw [HPS.out]; exact apP_len (by omega) HQl.out
              have HPF : Hid (Fit PS) := by rw [HPS.out]; exact apP_fit HQ.out.fit HCL.out.1
              have HRK : Hid (rks.length ≤ 32 ∧ ∀ x ∈ rks, x.length ≤ maxLen) := by
                have := apR_ks (kd := kd) (m := m) (ck := ck) (val := val) HQ.out.fit
                rw [← HRR.out] at this
                exact this
              go_upto_region 13 with fail
              go_cut [13, 14] (fun s13 s14 wc => ∃ bo bc so sc sb, s13 = .slice bo PS.length bc ∧ s14 = .pointer (some ⟨sb, 0, none⟩) ∧ Hid (wc.heap[sb]? = some (.cells #[.int .i64 rk, .string (bs rv), .int .i64 rn, .slice so rks.length sc] 55 (0, 0))) ∧ Hid ((PS = qs ∧ bo = ap ∧ bc = cp) ∨ OwnP w4.heap.size wc bo bc PS) ∧ Hid (OwnK w4.heap.size wc so sc rks) ∧ Hid (Kept Nil w4 wc))
              case first =>
                go_wp2_with fail
                go_fit RA
                rintro _ w5 ⟨bo, bc, so, sc, rfl, h2, h3, k5⟩
                have HD5 : Hid ((PS = qs ∧ bo = ap ∧ bc = cp) ∨ OwnP w4.heap.size w5 bo bc PS) := h2
                have HS5 : Hid (OwnK w4.heap.size w5 so sc rks) := h3
                have K5 : Hid (Kept Nil w4 w5) := k5
                clear h2 h3 k5 RA
                unfold rrV
                dsimp only
                go_wp2_with fail
                go_meet
                exact ⟨bo, bc, so, sc, w5.heap.size, rfl, rfl, blk_new _ _, HD5.out.imp id fun hh => hh.kept ((Kept.refl _ _).alloc _), HS5.out.kept ((Kept.refl _ _).alloc _), K5.out.alloc _⟩
              case rest =>
                obtain ⟨bo, bc, so, sc, sb, rfl, rfl, HSb, HDb, HKb, K6⟩ := hcut
                rename World => w6
                clear RA d0 d1 d2 d3 HC4 HCx HCb HCL HRR HC0
                have KX6 : Hid (Kept Nil wx w6) := K4.out.trans K6.out
                have HRb6 : Hid (w6.heap[rb]? = some (.cells #[.int .i64 rk, .string (bs rv), .int .i64 rn, .slice ko rks.length kc] 55 (0, 0))) := K6.out.block _ _ HRb.out (fun x => x.elim)
                have HOa6 : Hid (OwnP wx.heap.size w6 a1 c1 PS) := HOa.out.kept K6.out
                have HKa6 : Hid (OwnK wx.heap.size w6 ko kc rks) := HKa.out.kept K6.out
                have HA4 : Hid (∀ g, (Value.slice a1 PS.length c1).ownBlock = some g → g < w4.heap.size) := fun g e => (World.ownsRow.lt HOa.out g e).2
                have HBr : Hid (PairRow w6.heap.size w6 bo PS) := by
                  rcases HDb.out with ⟨e1, e2, _⟩ | hh
                  · rw [e1, e2]; exact (HQb.out.nil (KXo.out.trans KX6.out)).wide (Nat.le_trans KC.out.size (Nat.le_trans KXo.out.size KX6.out.size))
                  · exact hh.row HPF.out
                have SP := samePairs_any w6.heap.size c1 bc a1 bo PS w6 (HOa6.out.row HPF.out) HBr.out (by have := HPL.out; omega)
                go_wp2_with fail
                go_fit SP
                rintro _ w7 ⟨rfl, k7⟩
                have K7 : Hid (Kept Nil w6 w7) := k7
                clear k7 SP
                have SR := sameResult_any w7.heap.size kc sc rk rn rv ko so rks w7 ((HKa6.out.kept K7.out).row HRK.out.2) ((HKb.out.kept K7.out).row HRK.out.2) (by have := HRK.out.1; omega)
                have HRb7 : Hid (w7.heap[rb]? = some (.cells #[.int .i64 rk, .string (bs rv), .int .i64 rn, .slice ko rks.length kc] 55 (0, 0))) := K7.out.block _ _ HRb6.out (fun x => x.elim)
                have HSb7 : Hid (w7.heap[sb]? = some (.cells #[.int .i64 rk, .string (bs rv), .int .i64 rn, .slice so rks.length sc] 55 (0, 0))) := K7.out.block _ _ HSb.out (fun x => x.elim)
                have r0 : w7.cell? ⟨rb, 0, none⟩ = some (.int .i64 rk) := blk_at HRb7.out 0 rfl
                have r1 : w7.cell? ⟨rb, 1, none⟩ = some (.string (bs rv)) := blk_at HRb7.out 1 rfl
                have r2 : w7.cell? ⟨rb, 2, none⟩ = some (.int .i64 rn) := blk_at HRb7.out 2 rfl
                have r3 : w7.cell? ⟨rb, 3, none⟩ = some (.slice ko rks.length kc) := blk_at HRb7.out 3 rfl
                have s0 : w7.cell? ⟨sb, 0, none⟩ = some (.int .i64 rk) := blk_at HSb7.out 0 rfl
                have s1 : w7.cell? ⟨sb, 1, none⟩ = some (.string (bs rv)) := blk_at HSb7.out 1 rfl
                have s2 : w7.cell? ⟨sb, 2, none⟩ = some (.int .i64 rn) := blk_at HSb7.out 2 rfl
                have s3 : w7.cell? ⟨sb, 3, none⟩ = some (.slice so rks.length sc) := blk_at HSb7.out 3 rfl
                go_wp2_with fail
                go_fit SR
                rintro _ w8 ⟨rfl, k8⟩
                have K8 : Hid (Kept Nil w6 w8) := K7.out.trans k8
                clear k8 SR r0 r1 r2 r3 s0 s1 s2 s3 HRb7 HSb7 K7
                have KX8 : Hid (Kept Nil wx w8) := KX6.out.trans K8.out
                have SP := samePairs_any w8.heap.size xc cp (some ⟨xg, 0, none⟩) ap qs w8 ((HXr.out.nil KX8.out).wide KX8.out.size) ((HQb.out.nil (KXo.out.trans KX8.out)).wide (Nat.le_trans KC.out.size (Nat.le_trans KXo.out.size KX8.out.size))) (by have := HQl.out; omega)
                go_wp2_with fail
                go_fit SP
                rintro _ w9 ⟨rfl, k9⟩
                have K9 : Hid (Kept Nil w6 w9) := K8.out.trans k9
                clear k9 SP K8 KX8
                have KX9 : Hid (Kept Nil wx w9) := KX6.out.trans K9.out
                have x9 : w9.cell? ⟨xg, qs.length * 3 + 2, none⟩ = some (.int .i64 99) := cell_kept KX9.out (fun _ x => x) HX9.out
                have OP := overPairs_any wx.heap.size c1 a1 PS w9 (HOa6.out.kept K9.out) KX9.out.size (by have := HPL.out; omega)
                go_wp2_with fail
                go_fit OP
                rintro _ w10 ⟨rfl, g10⟩
                have HO9 : Hid (OwnP wx.heap.size w9 a1 c1 PS) := HOa6.out.kept K9.out
                have HRb9 : Hid (w9.heap[rb]? = some (.cells #[.int .i64 rk, .string (bs rv), .int .i64 rn, .slice ko rks.length kc] 55 (0, 0))) := K9.out.block _ _ HRb6.out (fun x => x.elim)
                have KX10 : Hid (Kept Nil wx w10) := KX9.out.grown g10 (fun q hq => own_row HO9.out q hq)
                have HRb10 : Hid (w10.heap[rb]? = some (.cells #[.int .i64 rk, .string (bs rv), .int .i64 rn, .slice ko rks.length kc] 55 (0, 0))) := grown_blk g10 HRb9.out (HO9.out.neRes HRb9.out)
                have HK10 : Hid (OwnK wx.heap.size w10 ko kc rks) := (HKa6.out.kept K9.out).farP HO9.out g10
                have HD10 : Hid ((PS = qs ∧ bo = ap ∧ bc = cp) ∨ OwnP w4.heap.size w10 bo bc PS) := HDb.out.imp id fun hh => (hh.kept K9.out).far g10 (by
                  cases e : (Value.slice a1 PS.length c1).ownBlock with
                  | none => exact .inr rfl
                  | some g => exact .inl (fun e2 => by
                      have h1 := HA4.out g e
                      have h2 := own_row (hh.kept K9.out) g e2.symm
                      omega))
                clear g10 OP x9 HO9 HRb9
                have r3 : w10.cell? ⟨rb, 3, none⟩ = some (.slice ko rks.length kc) := blk_at HRb10.out 3 rfl
                have OT := overTexts_any wx.heap.size kc ko rks w10 HK10.out KX10.out.size (by have := HRK.out.1; omega)
                go_wp2_with fail
                go_fit OT
                rintro _ w11 ⟨rfl, g11⟩
                have KX11 : Hid (Kept Nil wx w11) := KX10.out.grown g11 (fun q hq => own_row HK10.out q hq)
                have HD11 : Hid ((PS = qs ∧ bo = ap ∧ bc = cp) ∨ OwnP w4.heap.size w11 bo bc PS) := HD10.out.imp id fun hh => hh.farK HK10.out g11
                clear g11 OT r3
                have SP := samePairs_any w11.heap.size xc cp (some ⟨xg, 0, none⟩) ap qs w11 ((HXr.out.nil KX11.out).wide KX11.out.size) ((HQb.out.nil (KXo.out.trans KX11.out)).wide (Nat.le_trans KC.out.size (Nat.le_trans KXo.out.size KX11.out.size))) (by have := HQl.out; omega)
                go_wp2_with fail
                go_fit SP
                rintro _ w12 ⟨rfl, k12⟩
                have KX12 : Hid (Kept Nil wx w12) := KX11.out.trans k12
                have HD12 : Hid ((PS = qs ∧ bo = ap ∧ bc = cp) ∨ OwnP w4.heap.size w12 bo bc PS) := HD11.out.imp id fun hh => hh.kept k12
                clear k12 SP
                have KR : Hid (Kept Nil wr w12) := KC.out.trans (KXo.out.trans KX12.out)
                have HB12 : Hid (PairRow w12.heap.size w12 bo PS ∧ (bo = none → PS = [] ∧ bc = 0)) := by
                  rcases HD12.out with ⟨e1, e2, e3⟩ | hh
                  · rw [e1, e2, e3]; exact ⟨(HQ.out.nil KR.out).wide KR.out.size, HQn.out⟩
                  · exact ⟨hh.row HPF.out, fun e => by rw [e] at hh; exact ownP_nil hh⟩
                have x9 : w12.cell? ⟨xg, qs.length * 3 + 2, none⟩ = some (.int .i64 99) := cell_kept KX12.out (fun _ x => x) HX9.out
                go_wp2
                go_roundg (cs.length + 1 - (k + 1))
                case measure => omega
                case rel => exact ⟨k + 1, PS, bo, bc, by omega, rfl, rfl, by go_num, HB12.out.1, HB12.out.2, HPL.out, HK.out.trans KR.out⟩
    · obtain rfl : k = cs.length + 1 := by omega
      go_wp2
      go_ret
      exact ⟨rfl, HK.out⟩

end Go.Proofs.Ytnmkccdcgmajgaa
