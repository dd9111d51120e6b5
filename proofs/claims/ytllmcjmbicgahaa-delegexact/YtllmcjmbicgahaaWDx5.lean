/-
  DelegExact: the law's walk.
-/
import Derived.Test.YtllmcjmbicgahaaWDx3
import Derived.Deep.DeepCutAuto
namespace Go.Proofs.Ytllmcjmbicgahaa
open Go.RowKit

theorem known_set : setB [⟨[], 1⟩] [98] [100] 2 = [⟨[], 1⟩, ⟨[98], 2⟩, ⟨[100], 1⟩] := by rfl
theorem BdRow.one {B ga : Nat} {w w' : World} {ao : Option Addr} {ps : List Bd} (h : BdRow B w ao ps) (hk : Kept (One ga) w w') (hb : B ≤ ga) : BdRow B w' ao ps := h.kept hk (fun k _ hk e => by unfold One at e; omega)
set_option maxRecDepth 100000 in
set_option maxHeartbeats 20000000 in
theorem delegExact_any (w : World) (B c : Nat) (ao : Option Addr) (ps : List Bd) (fr up key : List UInt8) (ho : Int) (h : BdRow B w ao ps) (hB : B ≤ w.heap.size) (hl : (ps.length : Int) ≤ 5864062014800) (hf : fr.length ≤ maxLen) (hu : up.length ≤ maxLen) :
    Calls Try.prog 3 #[.slice ao ps.length c, .string (bs fr), .string (bs up), .int .i64 ho, .string (bs key)] w fun e w' => e = .returned (.bool true) ∧ Kept Nil w w' := by
  have HR : Hid (BdRow B w ao ps) := h
  obtain ⟨i0, hi, hz0, hz1, hz2⟩ := info_parts Try.infoBd
  have NW := new_any 1 w
  clear h
  go_enter Try.func3, Try.ntmps3
  go_wp2_with fail
  go_fit NW
  rintro e w1 ⟨rfl, o1, k1⟩
  have HO1 : Hid (OwnB w.heap.size w1 (some ⟨w.heap.size, 0, none⟩) 1 [⟨[], 1⟩]) := o1
  have K1 : Hid (Kept Nil w w1) := k1
  clear o1 k1 NW
  have ST1 := set_any w1.heap.size 1 ⟨w.heap.size, 0, none⟩ [⟨[], 1⟩] [98] [100] 2 w1 (HO1.out.row (fun x hx => by rw [List.mem_singleton] at hx; subst hx; exact Nat.zero_le _)) (List.pairwise_singleton _ _) (by decide) (by decide) (by decide) (by decide) (by decide) (by decide)
  rw [known_set, show ([(⟨[], 1⟩ : Bd)].length) = 1 from rfl, show ([(⟨[], 1⟩ : Bd), ⟨[98], 2⟩, ⟨[100], 1⟩].length) = 3 from rfl] at ST1
  go_wp2_with fail
  go_fit ST1
  rintro e w2 ⟨g2, c2, rfl, o2, k2⟩
  have r0 : w2.cell? ⟨g2, 2, none⟩ = some (.string ⟨#[98]⟩) := (OwnB.cell2 (j := 1) o2 (by decide)).1
  have r1 : w2.cell? ⟨g2, 3, none⟩ = some (.int .i64 2) := (OwnB.cell2 (j := 1) o2 (by decide)).2.1
  have K2 : Hid (Kept Nil w w2) := K1.out.trans k2
  clear o2 k2 ST1
  have ID := isDeleg_any B c ao ps w2 (HR.out.nil K2.out) (by omega)
  go_wp2_with fail
  go_fit ID
  rintro e w3 ⟨rfl, k3⟩
  have K3 : Hid (Kept Nil w w3) := K2.out.trans k3
  clear k3 ID r0 r1
  have VA := valid_any B c ao ps w3 (HR.out.nil K3.out) (by omega)
  go_wp2_with fail
  go_fit VA
  rintro e w4 ⟨rfl, k4⟩
  have K4 : Hid (Kept Nil w w4) := K3.out.trans k4
  clear k4 VA
  cases hv : validB ps with
  | false =>
    go_wp2
    go_ret
    exact ⟨rfl, K4.out⟩
  | true =>
    have HS : Hid (Sh ps) := (valid_sh.1 hv).1
    clear hv
    have hpos : 0 < ps.length := HS.out.pos
    obtain ⟨a, rfl, _⟩ := HR.out 0 hpos
    have HRw : Hid (BdRow w.heap.size w (some a) ps) := HR.out.up hB
    have HSR : Hid (Src Try.prog 2 22 (.slice (some a) ps.length c) ps.length (bdCells ps) w4) := (HRw.out.nil K4.out).src
    have HLL : Hid (0 + ps.length ≤ maxLen ∧ (0 + ps.length) * 24 ≤ 140737488355328) := by constructor <;> (try unfold maxLen) <;> omega
    have HL1 : Hid (ps.length + 1 ≤ maxLen ∧ (ps.length + 1) * 24 ≤ 140737488355328) := by constructor <;> (try unfold maxLen) <;> omega
    go_upto_region 10 with (at_builtin; first | (refine wpList_append_src w4 rfl _ _ 22 22 rfl w.heap.size 26 i0 (.agg #[.string ⟨#[]⟩, .int .i64 0]) 2 24 Try.underlying22 hi hz0 hz1 hz2 rfl (.slice none 0 0) 0 [] rfl (World.ownsRow_nil _ _ _ _) (.slice (some a) ps.length c) ps.length (bdCells ps) rfl HSR.out HLL.out.1 HLL.out.2 K4.out.size ?_; intro a5 c5 w5 ho5 hg5; have HO5 : Hid (w5.ownsRow w.heap.size 26 2 (.slice a5 ps.length c5) ps.length (bdCells ps)) := (by rw [Nat.zero_add, List.nil_append] at ho5; exact ho5); have K5 : Hid (Kept Nil w w5) := K4.out.grown hg5 (fun k hk => by simp [Value.ownBlock] at hk); have SR5 := oneB_src w5 ⟨[], 99⟩; clear ho5 hg5) | (go_must (refine wpList_append_src _ rfl _ _ 22 22 rfl w.heap.size 26 i0 (.agg #[.string ⟨#[]⟩, .int .i64 0]) 2 24 Try.underlying22 hi hz0 hz1 hz2 rfl (.slice a5 ps.length c5) ps.length (bdCells ps) rfl (World.ownsRow.alloc HO5.out _) (.slice (some ⟨w5.heap.size, 0, none⟩) 1 1) 1 [.string (bs []), .int .i64 99] rfl SR5 HL1.out.1 HL1.out.2 (le_alloc K5.out.size _) ?_); intro a6 c6 w6 ho6 hg6; have HX6 : Hid (OwnB w.heap.size w6 a6 c6 (ps ++ [(⟨[], 99⟩ : Bd)])) := OwnB.push ho6; have K6 : Hid (Kept Nil w w6) := (K5.out.alloc _).grown hg6 (fun k hk => own_row HO5.out k hk); clear ho6 hg6))
    have hxl : (ps ++ [(⟨[], 99⟩ : Bd)]).length = ps.length + 1 := by rw [List.length_append]; rfl
    have hfit := HR.out.fit
    have HX : Hid (∃ gx, a6 = some ⟨gx, 0, none⟩ ∧ ps.length + 1 ≤ c6 ∧ c6 ≤ 9223372036854775807 ∧ BdRow w6.heap.size w6 (some ⟨gx, 0, none⟩) (ps ++ [(⟨[], 99⟩ : Bd)])) := by
      obtain ⟨gx, e, _, _, h1, h2, _⟩ := HX6.out.cells (by omega)
      refine ⟨gx, e, by omega, h2, ?_⟩
      rw [← e]
      exact HX6.out.row (fun x hx => by
        rcases List.mem_append.1 hx with hx | hx
        · exact hfit x hx
        · rw [List.mem_singleton] at hx; subst hx; exact Nat.zero_le _)
    obtain ⟨gx, e6, hc6, hc6m, HXr⟩ := HX.out
    cases e6
    have HXr : Hid (BdRow w6.heap.size w6 (some ⟨gx, 0, none⟩) (ps ++ [(⟨[], 99⟩ : Bd)])) := HXr
    have HIn : Hid (BdRow w6.heap.size w6 (some ⟨gx, 0, none⟩) ps) := by
      have := HXr.out.take ps.length
      rw [List.take_left' rfl] at this
      exact this
    have HRl : Hid (BdRow w6.heap.size w6 (some a) ps) := (HRw.out.up K6.out.size).nil K6.out
    clear HX HX6 HSR hxl hfit
    have hpc : (ps.length : Int) ≤ (c6 : Int) := by omega
    have ST := set_any w6.heap.size c6 ⟨gx, 0, none⟩ ps fr up ho w6 HIn.out HS.out.srt hpos (by omega) (by unfold maxLen; omega) (by omega) hf hu
    obtain ⟨rs, HRS⟩ : ∃ rs, Hid (rs = setB ps fr up ho) := ⟨_, rfl⟩
    rw [← HRS.out] at ST
    go_wp2_with fail
    go_fit ST
    rintro e w7 ⟨ga, ca, rfl, o7, k7⟩
    have HA7 : Hid (OwnB w6.heap.size w7 (some ⟨ga, 0, none⟩) ca rs) := o7
    have K67 : Hid (Kept Nil w6 w7) := k7
    clear o7 k7 ST
    have DE := delegate_any w6.heap.size c a ps fr up ho w7 (HRl.out.nil K67.out) (by omega)
    rw [deleg_is HS.out, ← HRS.out] at DE
    go_wp2_with fail
    go_fit DE
    rintro e w8 ⟨ab, cb, rfl, o8, k8⟩
    have HB8 : Hid (OwnB w7.heap.size w8 ab cb rs) := o8
    have K78 : Hid (Kept Nil w7 w8) := k8
    clear o8 k8 DE
    have t1 := bs_toList fr
    have t2 := bs_toList up
    have HFr : Hid (FitB rs) := by
      show FitB rs
      rw [HRS.out]
      intro x hx
      unfold setB at hx
      cases hsm : someR fr up with
      | false => rw [hsm, if_neg (by decide)] at hx; exact HR.out.fit x hx
      | true =>
        rw [hsm, if_pos rfl] at hx
        have hx := (cmpF_sub _ _).subset hx
        unfold setL at hx
        rcases List.mem_append.1 hx with hx | hx
        · rcases List.mem_append.1 hx with hx | hx
          · exact HR.out.fit x (List.mem_of_mem_take hx)
          · rw [List.mem_singleton] at hx; subst hx; exact hf
        · by_cases e : up = []
          · rw [if_pos e] at hx; cases hx
          · rw [if_neg e] at hx
            rcases List.mem_cons.1 hx with rfl | hx
            · exact hu
            · exact HR.out.fit x (List.mem_of_mem_drop hx)
    have hrl : rs.length ≤ ps.length + 2 := by rw [HRS.out]; exact setB_len _ _ _ _
    obtain ⟨sm, HSM⟩ : ∃ b, Hid (b = someR fr up) := ⟨_, rfl⟩
    go_upto_region 13 with fail
    go_cut [67] (fun s wc => s = .bool (!sm) ∧ Hid (wc = w8))
    case first =>
      by_cases hue : up = []
      · have HF : Hid (sm = true) := by show _ = _; rw [HSM.out, hue]; rfl
        have a2 : up.isEmpty = true := by rw [hue]; rfl
        clear hue
        go_wp2
        go_meet
        exact ⟨by rw [HF.out]; rfl, rfl⟩
      · have a2 : up.isEmpty = false := by cases hx : up with | nil => exact absurd hx hue | cons x t => rfl
        have HF : Hid (sm = Op.bytesLess fr up) := by show _ = _; rw [HSM.out]; unfold someR; rw [a2]; rfl
        go_wp2
        go_meet
        exact ⟨by rw [HF.out], rfl⟩
    case rest =>
      obtain ⟨rfl, hwc⟩ := hcut
      rw [hwc.out]
      clear hwc
      go_upto_if 67 with fail
      go_cut [16] (fun s wc => ∃ ad cd, s = .slice ad rs.length cd ∧ Hid (BdRow w8.heap.size w8 ad rs) ∧ Hid (wc = w8))
      case first =>
        cases sm with
        | true =>
          go_wp2
          go_meet
          exact ⟨ab, cb, rfl, HB8.out.row HFr.out, rfl⟩
        | false =>
          have HEr : Hid (rs = ps) := by show _ = _; rw [HRS.out]; unfold setB; rw [← HSM.out]; rfl
          go_wp2
          go_meet
          exact ⟨some a, c, by rw [HEr.out], by rw [HEr.out]; exact ((HRl.out.nil K67.out).nil K78.out).up (Nat.le_trans K67.out.size K78.out.size), rfl⟩
      case rest =>
        obtain ⟨ad, cd, rfl, HD8, hwc⟩ := hcut
        rw [hwc.out]
        clear hwc
        have HA8 : Hid (OwnB w6.heap.size w8 (some ⟨ga, 0, none⟩) ca rs) := HA7.out.kept K78.out
        have SB := sameB_yes w8.heap.size w8.heap.size ca cd (some ⟨ga, 0, none⟩) ad rs w8 (HA8.out.row HFr.out) HD8.out (by omega)
        go_wp2_with fail
        go_fit SB
        rintro e w9 ⟨rfl, k9⟩
        have K69 : Hid (Kept Nil w6 w9) := (K67.out.trans K78.out).trans k9
        have HA9 : Hid (OwnB w6.heap.size w9 (some ⟨ga, 0, none⟩) ca rs) := HA8.out.kept k9
        clear k9 SB
        have AT := at_any w6.heap.size c6 ⟨gx, 0, none⟩ ps key w9 (HIn.out.nil K69.out) HS.out.srt (by omega)
        obtain ⟨z, HZ⟩ : ∃ z, Hid (z = hoAt key ps) := ⟨_, rfl⟩
        rw [← HZ.out] at AT
        go_wp2_with fail
        go_fit AT
        rintro e w10 ⟨rfl, k10⟩
        have K610 : Hid (Kept Nil w6 w10) := K69.out.trans k10
        have HA10 : Hid (OwnB w6.heap.size w10 (some ⟨ga, 0, none⟩) ca rs) := HA9.out.kept k10
        clear k10 AT
        have HOS := hostOf_any w6.heap.size c a ps key w10 (HRl.out.nil K610.out) (by omega)
        rw [hoF_is HS.out.srt, ← hoAt_is, ← HZ.out] at HOS
        have hzz : (z == z) = true := by simp
        go_wp2_with fail
        go_fit HOS
        rintro e _ ⟨rfl, hw9⟩
        rw [hw9]
        clear hw9 HOS
        have HH := has_any w6.heap.size c6 ⟨gx, 0, none⟩ ps fr up ho w10 (HIn.out.nil K610.out) HS.out.srt (by omega)
        obtain ⟨q, HQ⟩ : ∃ q, Hid (q = hasB ps fr up ho) := ⟨_, rfl⟩
        rw [← HQ.out] at HH
        go_wp2_with fail
        go_fit HH
        rintro e w11 ⟨rfl, k11⟩
        have K611 : Hid (Kept Nil w6 w11) := K610.out.trans k11
        have HA11 : Hid (OwnB w6.heap.size w11 (some ⟨ga, 0, none⟩) ca rs) := HA10.out.kept k11
        clear k11 HH
        have HAL := hasAll_any w6.heap.size c a ps fr up ho w11 (HRl.out.nil K611.out) (by omega)
        rw [← has_is HS.out, ← HQ.out] at HAL
        have hqq : (q == q) = true := by simp
        go_wp2_with fail
        go_fit HAL
        rintro e w12 ⟨rfl, k12⟩
        have K612 : Hid (Kept Nil w6 w12) := K611.out.trans k12
        have HA12 : Hid (OwnB w6.heap.size w12 (some ⟨ga, 0, none⟩) ca rs) := HA11.out.kept k12
        clear k12 HAL
        have hgb : w6.heap.size ≤ ga := own_row HA12.out ga rfl
        go_upto_block 0 with fail
        go_cut [] (fun wc => ∃ zs : List Bd, Hid (zs.length = rs.length) ∧ Hid (OwnB w6.heap.size wc (some ⟨ga, 0, none⟩) ca zs) ∧ Hid (Kept (One ga) w12 wc))
        case first =>
          go_wp2_with fail
          go_loopw [20] (fun u wr => ∃ k : Nat, ∃ zs : List Bd, k ≤ rs.length ∧ u = .int .i64 k ∧ Hid (zs.length = rs.length) ∧ Hid (OwnB w6.heap.size wr (some ⟨ga, 0, none⟩) ca zs) ∧ Hid (Kept (One ga) w12 wr)) (fun u _ => rs.length - (intOf u).toNat)
          case atStart => exact ⟨0, rs, Nat.zero_le _, rfl, rfl, HA12.out, Kept.refl _ _⟩
          case round =>
            obtain ⟨k, zs, hk, rfl, HLz, HOz, HKz⟩ := hrel
            by_cases hlt : k < rs.length
            · have hki : (k : Int) < rs.length := by omega
              have hkz : k < zs.length := by rw [HLz.out]; exact hlt
              obtain ⟨c0, c1, z0, z1⟩ := HOz.out.cell2 hkz
              go_wp2
              go_roundw
              case rel => exact ⟨k + 1, zs.set k ⟨[], -7⟩, by omega, by go_num, (by show (zs.set k _).length = _; rw [List.length_set]; exact HLz.out), HOz.out.set2 hkz ⟨[], -7⟩, kept_oneB (kept_oneB HKz.out _) _⟩
              case measure => simp [intOf]; omega
            · obtain rfl : k = rs.length := by omega
              have hirr : ¬ (rs.length : Int) < rs.length := by omega
              go_wp2
              go_meet
              exact ⟨zs, HLz.out, HOz.out, HKz.out⟩
        case rest =>
          obtain ⟨zs, HLz, HOz, HKz⟩ := hcut
          rename World => w13
          have HOo : Hid (w13.ownsRow w6.heap.size 26 2 (.slice (some ⟨ga, 0, none⟩) rs.length ca) rs.length (bdCells zs)) := by have o := HOz.out; unfold OwnB at o; rw [HLz.out] at o; exact o
          have SR := oneB_src w13 ⟨[], -7⟩
          have HL2 : Hid (rs.length + 1 ≤ maxLen ∧ (rs.length + 1) * 24 ≤ 140737488355328) := by constructor <;> (try unfold maxLen) <;> omega
          have h6s : w6.heap.size ≤ w13.heap.size := Nat.le_trans K612.out.size HKz.out.size
          go_upto_region 23 with (at_builtin; go_must (refine wpList_append_src _ rfl _ _ 22 22 rfl w6.heap.size 26 i0 (.agg #[.string ⟨#[]⟩, .int .i64 0]) 2 24 Try.underlying22 hi hz0 hz1 hz2 rfl (.slice (some ⟨ga, 0, none⟩) rs.length ca) rs.length (bdCells zs) rfl (World.ownsRow.alloc HOo.out _) (.slice (some ⟨w13.heap.size, 0, none⟩) 1 1) 1 [.string (bs []), .int .i64 (-7)] rfl SR HL2.out.1 HL2.out.2 (le_alloc h6s _) ?_); intro a14 c14 w14 ho14 hg14; have K14 : Hid (Kept (One ga) w12 w14) := HKz.out.trans (((Kept.refl _ _).alloc _).trans ⟨hg14.os, hg14.tape, hg14.output, hg14.size, fun q ob hq hx => by rw [hg14.block q (lt_of_block hq) (fun e => hx (by simp [Value.ownBlock] at e; exact e))]; exact hq⟩); clear ho14 hg14)
          have HIn14 : Hid (BdRow w6.heap.size w14 (some ⟨gx, 0, none⟩) ps) := (HIn.out.nil K612.out).one K14.out hgb
          have HRl14 : Hid (BdRow w6.heap.size w14 (some a) ps) := (HRl.out.nil K612.out).one K14.out hgb
          have HX14 : Hid (BdRow w6.heap.size w14 (some ⟨gx, 0, none⟩) (ps ++ [(⟨[], 99⟩ : Bd)])) := (HXr.out.nil K612.out).one K14.out hgb
          have SB2 := sameB_yes w6.heap.size w6.heap.size c6 c (some ⟨gx, 0, none⟩) (some a) ps w14 HIn14.out HRl14.out (by omega)
          have KE : Hid (Kept Nil w w14) := (K6.out.trans K612.out).newB K14.out (Nat.le_trans K6.out.size hgb)
          go_wp2_with fail
          go_fit SB2
          rintro e w15 ⟨rfl, k15⟩
          have KE2 : Hid (Kept Nil w w15) := KE.out.trans k15
          have c99 : w15.cell? ⟨gx, ps.length * 2 + 1, none⟩ = some (.int .i64 99) := by
            obtain ⟨_, d1, _⟩ := (HX14.out.nil k15).at2 (j := ps.length) (by rw [List.length_append]; show ps.length < ps.length + 1; omega)
            rw [List.getElem_append_right (Nat.le_refl _)] at d1
            simp only [Nat.sub_self, List.getElem_cons_zero] at d1
            rw [addr_addE] at d1
            exact d1
          clear k15 SB2
          have hxi : (ps.length : Int) < (ps.length : Int) + 1 := by omega
          go_wp2
          go_ret
          exact ⟨rfl, KE2.out⟩
end Go.Proofs.Ytllmcjmbicgahaa
