/-
  The document's Act.
-/
import Derived.Test.YtnmkccdcgmajgaaWAct6
import Derived.Deep.DeepCutAuto
import Derived.Deep.CutRange
import Derived.Deep.CutBlock
import Derived.Deep.DeepFit
import Derived.Deep.QuietTactic
import Derived.BigQuiet
import Derived.Laws.Concat
namespace Go.Proofs.Ytnmkccdcgmajgaa
open Go.RowKit

theorem was_len {nm : List UInt8} {L : Nat} : ∀ (l : List Fi), (∀ f ∈ l, f.2.length ≤ L) → ∀ u : List UInt8, u.length ≤ L → (l.foldl (fun u f => if isF nm f = true then f.2 else u) u).length ≤ L
  | [], _, _, hu => hu
  | f :: t, hf, u, hu => by
    rw [List.foldl_cons]
    refine was_len t (fun x hx => hf x (by simp [hx])) _ ?_
    split
    · exact hf f (by simp)
    · exact hu

set_option maxRecDepth 100000 in
set_option maxHeartbeats 16000000 in
theorem refAct_any (B c : Nat) (ao : Option Addr) (fs : List Fi) (what : Int) (nm tn dt : List UInt8) (sz : Int) (w : World) (h : FiRow B w ao fs) (hl : (fs.length : Int) ≤ 1099511627775) (hdl : ∀ f ∈ fs, f.2.length ≤ 1099511627776) (hdt : dt.length ≤ 1099511627776) :
    Calls Try.prog 53 #[.slice ao fs.length c, .agg #[.int .i64 what, .string (bs nm), .string (bs tn), .string (bs dt), .int .i64 sz]] w fun e w' => ∃ ao' c', e = .returned (.slice ao' (refZ fs what nm tn dt sz).length c') ∧ OwnFs w.heap.size w' ao' c' (refZ fs what nm tn dt sz) ∧ Kept Nil w w' := by
  obtain ⟨i0, hi, hz0, hz1, hz2⟩ := info_parts Try.infoFi
  have HR : Hid (FiRow B w ao fs) := h
  obtain ⟨W, hW⟩ : ∃ W, W = w.alloc (.cells #[.int .i64 what, .string (bs nm), .string (bs tn), .string (bs dt), .int .i64 sz] 86) := ⟨_, rfl⟩
  have KW : Hid (Kept Nil w W) := by rw [hW]; exact (Kept.refl _ _).alloc _
  have HB : Hid (W.heap[w.heap.size]? = some (.cells #[.int .i64 what, .string (bs nm), .string (bs tn), .string (bs dt), .int .i64 sz] 86 (0, 0))) := by rw [hW]; exact blk_new _ _
  have HWW : Hid (w.heap.size ≤ W.heap.size) := KW.out.size
  obtain ⟨rz, HRZ⟩ : ∃ x : List Fi, Hid (x = refZ fs what nm tn dt sz) := ⟨_, rfl⟩
  rw [← HRZ.out]
  have HWAS : Hid ((wasF nm fs).length ≤ 1099511627776) := was_len fs hdl [] (by simp)
  clear h hdl
  go_enter Try.func53, Try.ntmps53
  go_wp2
  rw [← hW]
  clear hW
  obtain ⟨pa, HPA⟩ : ∃ p, Hid (p = w.heap.size) := ⟨_, rfl⟩
  rw [← HPA.out] at HB ⊢
  go_loopw [6, 7, 8] (fun u v i wr => ∃ k : Nat, ∃ x : List UInt8, ∃ b : Bool, k ≤ fs.length ∧ u = .string (bs x) ∧ v = .bool b ∧ i = .int .i64 k ∧ Hid (x = wasF nm (fs.take k)) ∧ Hid (b = thereF nm (fs.take k)) ∧ Hid (Kept Nil W wr)) (fun _ _ i _ => fs.length - (intOf i).toNat)
  case atStart => exact ⟨0, [], false, Nat.zero_le _, rfl, rfl, rfl, rfl, rfl, Kept.refl _ _⟩
  case round =>
    obtain ⟨k, x, b, hk, rfl, rfl, rfl, HX, HT, HK⟩ := hrel
    have HBr : Hid (wr.heap[pa]? = some (.cells #[.int .i64 what, .string (bs nm), .string (bs tn), .string (bs dt), .int .i64 sz] 86 (0, 0))) := HK.out.block _ _ HB.out (fun x => x.elim)
    have q0 : wr.cell? ⟨pa, 0, none⟩ = some (.int .i64 what) := blk_at HBr.out 0 rfl
    have q1 : wr.cell? ⟨pa, 1, none⟩ = some (.string (bs nm)) := blk_at HBr.out 1 rfl
    have q2 : wr.cell? ⟨pa, 2, none⟩ = some (.string (bs tn)) := blk_at HBr.out 2 rfl
    have q3 : wr.cell? ⟨pa, 3, none⟩ = some (.string (bs dt)) := blk_at HBr.out 3 rfl
    have q4 : wr.cell? ⟨pa, 4, none⟩ = some (.int .i64 sz) := blk_at HBr.out 4 rfl
    by_cases hlt : k < fs.length
    · obtain ⟨a, rfl, _, c0, c1⟩ := (HR.out.nil (KW.out.trans HK.out)) k hlt
      have hki : (k : Int) < fs.length := by omega
      have HS1 : Hid (wasF nm (fs.take (k + 1)) = if isF nm fs[k] = true then fs[k].2 else wasF nm (fs.take k)) := by show _ = _; rw [List.take_succ_eq_append_getElem hlt, wasF_snoc]
      have HS2 : Hid (thereF nm (fs.take (k + 1)) = (thereF nm (fs.take k) || isF nm fs[k])) := by show _ = _; rw [List.take_succ_eq_append_getElem hlt, thereF_snoc]
      obtain ⟨y, HY⟩ : ∃ y : Fi, Hid (y = fs[k]) := ⟨fs[k], (rfl : fs[k] = fs[k])⟩
      rw [← HY.out] at c0 c1 HS1 HS2
      cases hp : isF nm y with
      | true =>
        have hq : ((bs y.1).toList == (bs nm).toList) = true := by rw [bs_beq]; exact hp
        have HP : Hid (isF nm y = true) := hp
        clear hp
        go_wp2
        go_quiet (fail)
        go_wp2
        go_roundw
        case rel => exact ⟨k + 1, y.2, true, by omega, rfl, rfl, by go_num, (by show _ = _; rw [HS1.out, if_pos HP.out]), (by show _ = _; rw [HS2.out, HP.out]; simp), HK.out.drewN _⟩
        case measure => simp [intOf]; omega
      | false =>
        have hq : ((bs y.1).toList == (bs nm).toList) = false := by rw [bs_beq]; exact hp
        have HP : Hid (isF nm y = false) := hp
        clear hp
        go_wp2
        go_quiet (fail)
        go_wp2
        go_roundw
        case rel => exact ⟨k + 1, x, b, by omega, rfl, rfl, by go_num, (by show _ = _; rw [HS1.out, HP.out, if_neg (by simp)]; exact HX.out), (by show _ = _; rw [HS2.out, HP.out, ← HT.out]; simp), HK.out.drewN _⟩
        case measure => simp [intOf]; omega
    · obtain rfl : k = fs.length := by omega
      rw [List.take_length] at HX HT
      have hxl : x.length ≤ 1099511627776 := by rw [HX.out]; exact HWAS.out
      obtain ⟨d, HD⟩ : ∃ d : List UInt8, Hid (d = datF what x dt sz) := ⟨_, rfl⟩
      rename World => w1
      go_upto_block 2 with fail
      go_cut [9] (fun u wx => u = .string (bs d) ∧ Hid (Kept Nil W wx))
      case first =>
        by_cases h1 : what = 1
        · subst h1
          go_wp2
          go_meet
          case rel => exact ⟨by rw [HD.out]; rfl, HK.out⟩
        have e1 : (what == 1) = false := beq_eq_false_iff_ne.2 h1
        by_cases h2 : what = 2
        · subst h2
          have hsum : ∀ w' : World, (Op.stringOp .add (bs x) (bs dt)).run Try.prog w' = .ok (.string (bs (x ++ dt))) w' := fun w' => by rw [run_string_add_sum w' (bs x) (bs dt) (by rw [bs_size, bs_size]; omega), bs_append]
          go_wp2
          go_meet
          case rel => exact ⟨by rw [HD.out]; rfl, HK.out⟩
        have e2 : (what == 2) = false := beq_eq_false_iff_ne.2 h2
        by_cases h6 : what = 6
        · subst h6
          have hds : (bs x).size = x.length := bs_size _
          have HDT : Hid (d = x.take sz.toNat) := HD.out
          by_cases hz : sz < 0
          · by_cases hx0 : 0 < x.length
            · have hxi : (0 : Int) < (x.length : Int) := by omega
              go_wp2
              go_meet
              case rel => exact ⟨by rw [HDT.out, show sz.toNat = 0 by omega]; first | rfl | simp [bs], HK.out⟩
            · have hxi : ¬ (0 : Int) < (x.length : Int) := by omega
              go_wp2
              go_meet
              case rel => exact ⟨by rw [HDT.out, List.take_of_length_le (by omega)], HK.out⟩
          · obtain ⟨m, rfl⟩ : ∃ m : Nat, sz = m := ⟨sz.toNat, by omega⟩
            have hm0 : ¬ ((m : Int) < 0) := by omega
            by_cases hmx : m < x.length
            · have hmi : (m : Int) < (x.length : Int) := by omega
              have hmle : (m : Int) ≤ ((bs x).size : Int) := by omega
              have HBT : Hid ((bs x).extract 0 m = bs (x.take m)) := bs_take x m
              go_wp2
              go_meet
              case rel => exact ⟨by rw [HDT.out, Int.toNat_natCast, ← HBT.out], HK.out⟩
            · have hmi : ¬ (m : Int) < (x.length : Int) := by omega
              go_wp2
              go_meet
              case rel => exact ⟨by rw [HDT.out, List.take_of_length_le (by omega)], HK.out⟩
        have e6 : (what == 6) = false := beq_eq_false_iff_ne.2 h6
        have HDD : Hid (d = x) := by show d = x; rw [HD.out]; unfold datF; rw [if_neg h1, if_neg h2, if_neg h6]
        go_wp2
        go_meet
        case rel => exact ⟨by rw [HDD.out], HK.out⟩
      case rest =>
        obtain ⟨rfl, KC⟩ := hcut
        rename World => w2
        clear q0 q1 q2 q3 q4 HBr HK
        obtain ⟨v1, e1⟩ : ∃ b : Bool, (what == 1) = b := ⟨_, rfl⟩
        obtain ⟨v2, e2⟩ : ∃ b : Bool, (what == 2) = b := ⟨_, rfl⟩
        obtain ⟨v4, e4⟩ : ∃ b : Bool, (what == 4) = b := ⟨_, rfl⟩
        obtain ⟨v7, e7⟩ : ∃ b : Bool, (what == 7) = b := ⟨_, rfl⟩
        have HE : Hid ((what == 1) = v1 ∧ (what == 2) = v2 ∧ (what == 4) = v4 ∧ (what == 7) = v7) := ⟨e1, e2, e4, e7⟩
        go_wp2
        go_loopw [5, 11] (fun u i wr => ∃ k : Nat, ∃ gs : List Fi, ∃ ao' c', k ≤ fs.length ∧ u = .slice ao' gs.length c' ∧ i = .int .i64 k ∧ gs.length ≤ k ∧ Hid (gs = outF what nm tn d b (fs.take k)) ∧ Hid (OwnFs W.heap.size wr ao' c' gs) ∧ Hid (Kept Nil W wr)) (fun _ i _ => fs.length - (intOf i).toNat)
        case atStart => exact ⟨0, [], none, 0, Nat.zero_le _, rfl, rfl, Nat.le_refl _, rfl, World.ownsRow_nil _ _ _ _, KC.out⟩
        case round =>
          obtain ⟨k, gs, ao', c', hk, rfl, rfl, hgk, HG, HO, HK2⟩ := hrel
          have HLL : Hid (gs.length + 1 ≤ maxLen ∧ (gs.length + 1) * 32 ≤ 140737488355328) := by constructor <;> (try unfold maxLen) <;> omega
          have HB2 : Hid (wr.heap[pa]? = some (.cells #[.int .i64 what, .string (bs nm), .string (bs tn), .string (bs dt), .int .i64 sz] 86 (0, 0))) := HK2.out.block _ _ HB.out (fun x => x.elim)
          by_cases hlt : k < fs.length
          · obtain ⟨a, rfl, _, c0, c1⟩ := (HR.out.nil (KW.out.trans HK2.out)) k hlt
            have hki : (k : Int) < fs.length := by omega
            have HS : Hid (outF what nm tn d b (fs.take (k + 1)) = gs ++ if keepF what nm tn b fs[k] = true then [updF nm d fs[k]] else []) := by show _ = _; rw [List.take_succ_eq_append_getElem hlt, outF_snoc, ← HG.out]
            obtain ⟨y, HY⟩ : ∃ y : Fi, Hid (y = fs[k]) := ⟨fs[k], (rfl : fs[k] = fs[k])⟩
            rw [← HY.out] at c0 c1 HS
            obtain ⟨pb, HP⟩ : ∃ p : Bool, Hid (p = isF nm y) := ⟨_, rfl⟩
            obtain ⟨pt, HP2⟩ : ∃ p : Bool, Hid (p = isF tn y) := ⟨_, rfl⟩
            obtain ⟨z, HZ⟩ : ∃ z : List UInt8, Hid (updF nm d y = (y.1, z)) := by
              cases hp : isF nm y
              · exact ⟨y.2, (by unfold updF; rw [hp]; rfl : updF nm d y = (y.1, y.2))⟩
              · exact ⟨d, (by unfold updF; rw [hp]; rfl : updF nm d y = (y.1, d))⟩
            obtain ⟨V, hV⟩ : ∃ V, V = wr.alloc (.cells #[.string (bs y.1), .string (bs y.2)] 88) := ⟨_, rfl⟩
            have KV : Hid (Kept Nil W V) := by rw [hV]; exact HK2.out.alloc _
            have HOV : Hid (OwnFs W.heap.size V ao' c' gs) := by rw [hV]; exact HO.out.kept ((Kept.refl _ _).alloc _)
            have BV : Hid (V.heap[wr.heap.size]? = some (.cells #[.string (bs y.1), .string (bs y.2)] 88 (0, 0))) := by rw [hV]; exact blk_new _ _
            have HBV : Hid (V.heap[pa]? = some (.cells #[.int .i64 what, .string (bs nm), .string (bs tn), .string (bs dt), .int .i64 sz] 86 (0, 0))) := by rw [hV]; exact blk_past HB2.out _
            have HNB : Hid (∀ o, Blk ao' wr.heap.size o → False) := fun o hb => by have := blk_lt HO.out hb; omega
            have HWL : Hid (W.heap.size ≤ wr.heap.size) := HK2.out.size
            go_upto_region 26 with fail
            rw [← hV]
            clear hV c0 c1
            generalize wr.heap.size = pf at *
            have q1 : V.cell? ⟨pa, 1, none⟩ = some (.string (bs nm)) := blk_at HBV.out 1 rfl
            have f0 : V.cell? ⟨pf, 0, none⟩ = some (.string (bs y.1)) := blk_at BV.out 0 rfl
            have f1 : V.cell? ⟨pf, 1, none⟩ = some (.string (bs y.2)) := blk_at BV.out 1 rfl
            have g1 : V.frozen? ⟨pf, 1, none⟩ = false := blk_free BV.out 1
            have hq : ((bs y.1).toList == (bs nm).toList) = pb := by rw [bs_beq, HP.out]; rfl
            go_upto_if 74 with fail
            go_cut [] from 60 to 114 (fun wx => Hid (OwnFs W.heap.size wx ao' c' gs) ∧ Hid (Kept Nil W wx) ∧ Hid (wx.heap[pf]? = some (.cells #[.string (bs y.1), .string (bs z)] 88 (0, 0))))
            case first =>
              cases pb with
              | false =>
                have HZ2 : Hid (z = y.2) := by show z = y.2; have := HZ.out; unfold updF at this; rw [← HP.out] at this; simpa using (congrArg (·.2) this).symm
                go_wp2
                go_meet
                case rel => exact ⟨HOV.out, KV.out, by show _ = _; rw [HZ2.out]; exact BV.out⟩
              | true =>
                have HZ2 : Hid (z = d) := by show z = d; have := HZ.out; unfold updF at this; rw [← HP.out] at this; simpa using (congrArg (·.2) this).symm
                go_wp2
                go_meet
                case rel => exact ⟨OwnFs.aside HOV.out HNB.out _, KV.out.setNew HWL.out _, by show _ = _; rw [HZ2.out]; exact blk_set BV.out 1 _⟩
            case rest =>
              obtain ⟨HO3, HK3, BF3⟩ := hcut
              rename World => w3
              clear HOV KV BV HBV q1 f0 f1 g1
              have HB3 : Hid (w3.heap[pa]? = some (.cells #[.int .i64 what, .string (bs nm), .string (bs tn), .string (bs dt), .int .i64 sz] 86 (0, 0))) := HK3.out.block _ _ HB.out (fun x => x.elim)
              have q0 : w3.cell? ⟨pa, 0, none⟩ = some (.int .i64 what) := blk_at HB3.out 0 rfl
              have q1 : w3.cell? ⟨pa, 1, none⟩ = some (.string (bs nm)) := blk_at HB3.out 1 rfl
              have q2 : w3.cell? ⟨pa, 2, none⟩ = some (.string (bs tn)) := blk_at HB3.out 2 rfl
              have f0 : w3.cell? ⟨pf, 0, none⟩ = some (.string (bs y.1)) := blk_at BF3.out 0 rfl
              have f1 : w3.cell? ⟨pf, 1, none⟩ = some (.string (bs z)) := blk_at BF3.out 1 rfl
              have hq2 : ((bs y.1).toList == (bs tn).toList) = pt := by rw [bs_beq, HP2.out]; rfl
              obtain ⟨kp, HKP⟩ : ∃ p : Bool, Hid (p = keepF what nm tn b y) := ⟨_, rfl⟩
              have HKE : Hid (kp = (!(pb && (v7 || v4)) && !(b && v4 && pt))) := by show kp = _; rw [HKP.out, HP.out, HP2.out, ← HE.out.2.2.1, ← HE.out.2.2.2]; rfl
              go_upto_region 28 with fail
              go_cut [13] from 60 to 114 (fun g wx => g = .bool (pb && (v7 || v4)) ∧ wx = w3)
              case first =>
                cases pb <;> cases v7 <;> cases v4
                all_goals
                  go_wp2
                  go_meet
                  case rel => exact ⟨rfl, rfl⟩
              case rest =>
                obtain ⟨rfl, hww⟩ := hcut
                rw [hww]
                clear hww
                obtain ⟨g1, HG1⟩ : ∃ p : Bool, Hid (p = (pb && (v7 || v4))) := ⟨_, rfl⟩
                rw [← HG1.out]
                go_upto_region 29 with fail
                go_cut [14] from 60 to 114 (fun g wx => g = .bool (b && v4 && pt) ∧ wx = w3)
                case first =>
                  cases b <;> cases v4 <;> cases pt
                  all_goals
                    go_wp2
                    go_meet
                    case rel => exact ⟨rfl, rfl⟩
                case rest =>
                  obtain ⟨rfl, hww⟩ := hcut
                  rw [hww]
                  clear hww
                  obtain ⟨g2, HG2⟩ : ∃ p : Bool, Hid (p = (b && v4 && pt)) := ⟨_, rfl⟩
                  rw [← HG2.out]
                  rw [← HG1.out, ← HG2.out] at HKE
                  cases g1 with
                  | true =>
                    have HKF : Hid (kp = false) := by show kp = false; rw [HKE.out]; rfl
                    go_wp2
                    go_roundw
                    case rel => exact ⟨k + 1, gs, ao', c', by omega, rfl, by go_num, by omega, (by show _ = _; rw [HS.out, ← HKP.out, HKF.out, if_neg (by simp)]; simp), HO3.out, HK3.out⟩
                    case measure => simp [intOf]; omega
                  | false =>
                    cases g2 with
                    | true =>
                      have HKF : Hid (kp = false) := by show kp = false; rw [HKE.out]; rfl
                      go_wp2
                      go_roundw
                      case rel => exact ⟨k + 1, gs, ao', c', by omega, rfl, by go_num, by omega, (by show _ = _; rw [HS.out, ← HKP.out, HKF.out, if_neg (by simp)]; simp), HO3.out, HK3.out⟩
                      case measure => simp [intOf]; omega
                    | false =>
                      have HKF : Hid (kp = true) := by show kp = true; rw [HKE.out]; rfl
                      go_wp2_with (at_builtin; go_must (refine wpList_append_src _ rfl _ _ 83 83 rfl W.heap.size 88 i0 (.agg #[.string ⟨#[]⟩, .string ⟨#[]⟩]) 2 32 Try.underlying83 hi hz0 hz1 hz2 rfl _ _ _ rfl (World.ownsRow.alloc HO3.out _) (.slice (some ⟨w3.heap.size, 0, none⟩) 1 1) 1 [.string (bs y.1), .string (bs z)] rfl (src_fi _ _) HLL.out.1 HLL.out.2 (le_alloc HK3.out.size _) ?_); intro a3 c3 wz ho' hg'; have HOz : Hid (OwnFs W.heap.size wz a3 c3 (gs ++ [(y.1, z)])) := OwnFs.push ho'; have HKz : Hid (Kept Nil W wz) := (HK3.out.alloc _).grown hg' (own_row HO3.out); clear ho' hg')
                      go_roundw
                      case rel => exact ⟨k + 1, gs ++ [(y.1, z)], a3, c3, by omega, by simp, by go_num, by simp; omega, (by show _ = _; rw [HS.out, ← HKP.out, HKF.out, if_pos rfl, HZ.out]), HOz.out, HKz.out⟩
                      case measure => simp [intOf]; omega
          · obtain rfl : k = fs.length := by omega
            rw [List.take_length] at HG
            rename World => w3
            have q0 : w3.cell? ⟨pa, 0, none⟩ = some (.int .i64 what) := blk_at HB2.out 0 rfl
            have q1 : w3.cell? ⟨pa, 1, none⟩ = some (.string (bs nm)) := blk_at HB2.out 1 rfl
            have q2 : w3.cell? ⟨pa, 2, none⟩ = some (.string (bs tn)) := blk_at HB2.out 2 rfl
            have hvv : Hid ((v1 || v2) = true ↔ (what = 1 ∨ what = 2)) := by show _ ↔ _; rw [← HE.out.1, ← HE.out.2.1]; simp
            have hv4 : Hid (v4 = true ↔ what = 4) := by show _ ↔ _; rw [← HE.out.2.2.1]; simp
            obtain ⟨x1, HX1⟩ : ∃ l : List Fi, Hid (l = gs ++ if b = false ∧ (what = 1 ∨ what = 2) then [(nm, d)] else []) := ⟨_, rfl⟩
            have HRF : Hid (rz = x1 ++ if b = true ∧ what = 4 then [(tn, x)] else []) := by show rz = _; rw [HRZ.out, HX1.out, HG.out]; unfold refZ; rw [← HT.out, ← HX.out, ← HD.out]
            have hx1 : x1.length ≤ gs.length + 1 := by rw [HX1.out]; split <;> simp
            go_upto_region 32 with fail
            go_cut [126] (fun g wx => g = .bool (!b && (v1 || v2)) ∧ wx = w3)
            case first =>
              cases b <;> cases v1 <;> cases v2
              all_goals
                go_wp2
                go_meet
                case rel => exact ⟨rfl, rfl⟩
            case rest =>
              obtain ⟨rfl, hww⟩ := hcut
              rw [hww]
              clear hww
              go_upto_if 126 with fail
              go_cut [5] (fun u wx => ∃ a4 c4, u = .slice a4 x1.length c4 ∧ Hid (OwnFs W.heap.size wx a4 c4 x1) ∧ Hid (Kept Nil W wx))
              case first =>
                cases hg : (!b && (v1 || v2)) with
                | true =>
                  have HX1' : Hid (x1 = gs ++ [(nm, d)]) := by
                    show x1 = _
                    rw [HX1.out, if_pos]
                    cases b
                    · exact ⟨rfl, hvv.out.1 (by simpa using hg)⟩
                    · simp at hg
                  clear hg
                  go_wp2_with (at_builtin; go_must (refine wpList_append_src _ rfl _ _ 83 83 rfl W.heap.size 88 i0 (.agg #[.string ⟨#[]⟩, .string ⟨#[]⟩]) 2 32 Try.underlying83 hi hz0 hz1 hz2 rfl _ _ _ rfl (World.ownsRow.alloc HO.out _) (.slice (some ⟨w3.heap.size, 0, none⟩) 1 1) 1 [.string (bs nm), .string (bs d)] rfl (src_fi _ _) HLL.out.1 HLL.out.2 (le_alloc HK2.out.size _) ?_); intro a3 c3 wz ho' hg'; have HOz : Hid (OwnFs W.heap.size wz a3 c3 (gs ++ [(nm, d)])) := OwnFs.push ho'; have HKz : Hid (Kept Nil W wz) := (HK2.out.alloc _).grown hg' (own_row HO.out); clear ho' hg')
                  go_meet
                  case rel => exact ⟨a3, c3, by rw [HX1'.out]; simp, by show OwnFs _ _ _ _ _; rw [HX1'.out]; exact HOz.out, HKz.out⟩
                | false =>
                  have HX1' : Hid (x1 = gs) := by
                    show x1 = _
                    rw [HX1.out, if_neg, List.append_nil]
                    rintro ⟨rfl, h⟩
                    rw [hvv.out.2 h] at hg
                    simp at hg
                  clear hg
                  go_wp2
                  go_meet
                  case rel => exact ⟨ao', c', by rw [HX1'.out], by show OwnFs _ _ _ _ _; rw [HX1'.out]; exact HO.out, HK2.out⟩
              case rest =>
                obtain ⟨a4, c4, rfl, HO4, HK4⟩ := hcut
                rename World => w4
                clear q0 q1 q2
                have HB4 : Hid (w4.heap[pa]? = some (.cells #[.int .i64 what, .string (bs nm), .string (bs tn), .string (bs dt), .int .i64 sz] 86 (0, 0))) := HK4.out.block _ _ HB.out (fun x => x.elim)
                have q0 : w4.cell? ⟨pa, 0, none⟩ = some (.int .i64 what) := blk_at HB4.out 0 rfl
                have q2 : w4.cell? ⟨pa, 2, none⟩ = some (.string (bs tn)) := blk_at HB4.out 2 rfl
                have HLL : Hid (x1.length + 1 ≤ maxLen ∧ (x1.length + 1) * 32 ≤ 140737488355328) := by constructor <;> (try unfold maxLen) <;> omega
                cases b with
                | false =>
                  have HRF' : Hid (rz = x1) := by show rz = _; rw [HRF.out, if_neg (by simp), List.append_nil]
                  go_wp2
                  go_ret
                  exact ⟨a4, c4, by rw [HRF'.out]; rfl, by rw [HRF'.out]; exact HO4.out.mono HWW.out, KW.out.trans HK4.out⟩
                | true =>
                  cases v4 with
                  | false =>
                    have HRF' : Hid (rz = x1) := by show rz = _; rw [HRF.out, if_neg (fun h => by have := hv4.out.2 h.2; cases this), List.append_nil]
                    go_wp2
                    go_ret
                    exact ⟨a4, c4, by rw [HRF'.out]; rfl, by rw [HRF'.out]; exact HO4.out.mono HWW.out, KW.out.trans HK4.out⟩
                  | true =>
                    have HRF' : Hid (rz = x1 ++ [(tn, x)]) := by show rz = _; rw [HRF.out, if_pos ⟨rfl, hv4.out.1 rfl⟩]
                    go_wp2_with (at_builtin; go_must (refine wpList_append_src _ rfl _ _ 83 83 rfl W.heap.size 88 i0 (.agg #[.string ⟨#[]⟩, .string ⟨#[]⟩]) 2 32 Try.underlying83 hi hz0 hz1 hz2 rfl _ _ _ rfl (World.ownsRow.alloc HO4.out _) (.slice (some ⟨w4.heap.size, 0, none⟩) 1 1) 1 [.string (bs tn), .string (bs x)] rfl (src_fi _ _) HLL.out.1 HLL.out.2 (le_alloc HK4.out.size _) ?_); intro a3 c3 wz ho' hg'; have HOz : Hid (OwnFs W.heap.size wz a3 c3 (x1 ++ [(tn, x)])) := OwnFs.push ho'; have HKz : Hid (Kept Nil W wz) := (HK4.out.alloc _).grown hg' (own_row HO4.out); clear ho' hg')
                    go_ret
                    exact ⟨a3, c3, by rw [HRF'.out]; simp, by rw [HRF'.out]; exact HOz.out.mono HWW.out, KW.out.trans HKz.out⟩

end Go.Proofs.Ytnmkccdcgmajgaa
