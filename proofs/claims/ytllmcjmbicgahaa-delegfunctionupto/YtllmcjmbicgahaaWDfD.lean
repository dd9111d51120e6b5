/-
  DelegFunction: each bound's keys are its host's, and to give them to it again changes nothing.
-/
import Derived.Test.YtllmcjmbicgahaaWDfE
import Derived.Deep.DeepCutAuto
import Derived.Deep.DeepFit
import Derived.Deep.RegionHeld3
namespace Go.Proofs.Ytllmcjmbicgahaa
open Go.RowKit

set_option maxRecDepth 1000000 in
set_option maxHeartbeats 40000000 in
theorem dfT28 (w w5 : World) (B gd cd : Nat) (ds : List Bd) (HD : Hid (OwnB B w5 (some ⟨gd, 0, none⟩) cd ds)) (HK : Hid (Kept Nil w w5)) (hB : B ≤ w5.heap.size) (HS : Hid (Sh ds)) (HF : Hid (FitB ds)) (hl : (ds.length : Int) ≤ 5864062014800) (fv0 fv1 fv2 fv3 fv4 fv5 fv6 fv8 fv9 fv10 fv11 fv12 fv13 fv14 fv15 fv16 fv17 fv18 fv19 fv20 fv21 fv22 fv23 fv24 fv25 fv26 fv27 fv28 fv29 fv30 fv31 fv32 fv33 fv34 fv35 fv36 fv37 fv38 fv39 fv40 fv41 fv42 fv43 fv44 fv45 fv46 fv47 fv48 fv49 fv50 fv51 fv52 fv53 fv54 fv55 fv56 fv57 fv58 fv59 fv60 fv61 fv62 fv63 fv64 fv65 fv66 fv67 fv68 fv69 fv70 fv71 fv72 fv73 fv74 fv75 fv76 fv77 fv78 fv79 fv80 fv81 fv82 fv83 fv84 fv85 fv86 fv87 fv88 fv89 fv90 fv91 fv92 fv93 fv94 fv95 fv96 fv97 fv98 fv99 fv100 fv101 fv102 fv103 fv104 fv105 fv106 fv107 fv108 fv109 fv110 fv111 fv112 fv113 fv114 fv115 fv116 fv117 fv118 fv119 fv120 fv121 fv122 fv123 fv124 fv125 fv126 fv127 fv128 fv129 fv130 fv131 fv132 fv133 fv134 fv135 fv136 fv137 fv138 fv139 fv140 fv141 fv142 fv143 fv144 fv145 fv146 fv147 fv148 fv149 fv150 fv151 fv152 fv153 fv154 fv155 fv156 fv157 fv158 fv159 fv160 fv161 fv162 fv163 fv164 fv165 fv166 fv167 fv168 fv169 fv170 fv171 fv172 fv173 fv174 fv175 fv176 fv177 fv178 fv179 fv180 fv181 fv182 fv183 fv184 fv185 fv186 fv187 fv188 fv189 fv190 fv191 fv192 fv193 fv194 fv195 fv196 fv197 fv198 fv199 fv200 fv201 fv202 fv203 fv204 fv205 fv206 fv207 fv208 fv209 fv210 fv211 fv212 fv213 fv214 fv215 fv216 fv217 fv218 fv219 fv220 fv221 fv222 fv223 fv224 fv225 fv226 : Value) :
    Code.wp Try.prog dT28 (bodyPost Try.prog Try.f4 (fun e w' => e = .returned (.bool true) ∧ Kept Nil w w')) ⟨#[fv0, fv1, fv2, fv3, fv4, fv5, fv6, .slice (some ⟨gd, 0, none⟩) ds.length cd, fv8, fv9, fv10, fv11, fv12, fv13, fv14, fv15, fv16, fv17, fv18, fv19, fv20, fv21, fv22, fv23, fv24, fv25, fv26, fv27, fv28, fv29, fv30, fv31, fv32, fv33, fv34, fv35, fv36, fv37, fv38, fv39, fv40, fv41, fv42, fv43, fv44, fv45, fv46, fv47, fv48, fv49, fv50, fv51, fv52, fv53, fv54, fv55, fv56, fv57, fv58, fv59, fv60, fv61, fv62, fv63, fv64, fv65, fv66, fv67, fv68, fv69, fv70, fv71, fv72, fv73, fv74, fv75, fv76, fv77, fv78, fv79, fv80, fv81, fv82, fv83, fv84, fv85, fv86, fv87, fv88, fv89, fv90, fv91, fv92, fv93, fv94, fv95, fv96, fv97, fv98, fv99, fv100, fv101, fv102, fv103, fv104, fv105, fv106, fv107, fv108, fv109, fv110, fv111, fv112, fv113, fv114, fv115, fv116, fv117, fv118, fv119, fv120, fv121, fv122, fv123, fv124, fv125, fv126, fv127, fv128, fv129, fv130, fv131, fv132, fv133, fv134, fv135, fv136, fv137, fv138, fv139, fv140, fv141, fv142, fv143, fv144, fv145, fv146, fv147, fv148, fv149, fv150, fv151, fv152, fv153, fv154, fv155, fv156, fv157, fv158, fv159, fv160, fv161, fv162, fv163, fv164, fv165, fv166, fv167, fv168, fv169, fv170, fv171, fv172, fv173, fv174, fv175, fv176, fv177, fv178, fv179, fv180, fv181, fv182, fv183, fv184, fv185, fv186, fv187, fv188, fv189, fv190, fv191, fv192, fv193, fv194, fv195, fv196, fv197, fv198, fv199, fv200, fv201, fv202, fv203, fv204, fv205, fv206, fv207, fv208, fv209, fv210, fv211, fv212, fv213, fv214, fv215, fv216, fv217, fv218, fv219, fv220, fv221, fv222, fv223, fv224, fv225, fv226], []⟩ w5 := by
  conv => arg 2; whnf
  dsimp only
  have hpos : 0 < ds.length := HS.out.pos
  have hlc : ds.length ≤ cd := by obtain ⟨_, _, _, _, _, h9, _⟩ := HD.out.block (by simp); exact h9
  have hcm2 : cd ≤ 9223372036854775807 := by obtain ⟨_, _, _, _, _, _, h9, _⟩ := HD.out.block (by simp); exact h9
  go_wp2
  go_loopw [13, 14] (fun v u wr => ∃ k ga ca : Nat, k ≤ ds.length ∧ u = .int .i64 k ∧ v = .slice (some ⟨ga, 0, none⟩) ds.length ca ∧ Hid (OwnB B wr (some ⟨ga, 0, none⟩) ca ds) ∧ Hid (Kept Nil w5 wr)) (fun _ u _ => ds.length - (intOf u).toNat)
  case atStart => exact ⟨0, gd, cd, Nat.zero_le _, rfl, rfl, HD.out, Kept.refl _ _⟩
  case round =>
    obtain ⟨k, ga, ca, hk, rfl, rfl, HA, HKr⟩ := hrel
    by_cases hlt : k < ds.length
    · have hki : (k : Int) < ds.length := by omega
      have HDr : Hid (OwnB B wr (some ⟨gd, 0, none⟩) cd ds) := HD.out.kept HKr.out
      obtain ⟨c0, c1, _⟩ := HDr.out.cell2 hlt
      obtain ⟨y, HY⟩ : ∃ y : Bd, Hid (y = ds[k]) := ⟨ds[k], (rfl : ds[k] = ds[k])⟩
      rw [← HY.out] at c0 c1
      obtain ⟨up, HU⟩ : ∃ up, Hid (up = uptoB ds k) := ⟨_, rfl⟩
      go_upto_if 173 with fail
      go_cut [15] from 163 to 206 (fun x wc => x = .string (bs up) ∧ wc = wr)
      case first =>
        by_cases h1 : k + 1 < ds.length
        · have h1i : ((k : Int) + 1) < ds.length := by omega
          have h1b : decide (((k : Int) + 1) < ds.length) = true := decide_eq_true h1i
          obtain ⟨e0, e1, _⟩ := HDr.out.cell2 h1
          have HUe : Hid (up = ds[k + 1].f) := by show _ = _; rw [HU.out]; unfold uptoB; rw [List.getElem?_eq_getElem h1]
          obtain ⟨z, HZ⟩ : ∃ z : Bd, Hid (z = ds[k + 1]) := ⟨ds[k + 1], (rfl : ds[k + 1] = ds[k + 1])⟩
          rw [← HZ.out] at e0 e1 HUe
          go_wp2
          go_meet
          exact ⟨by rw [HUe.out], rfl⟩
        · have h1i : ¬ ((k : Int) + 1) < ds.length := by omega
          have h1b : decide (((k : Int) + 1) < ds.length) = false := decide_eq_false h1i
          have HUe : Hid (up = []) := by show _ = _; rw [HU.out]; unfold uptoB; rw [List.getElem?_eq_none (by omega)]
          go_wp2
          go_meet
          exact ⟨by rw [HUe.out]; rfl, rfl⟩
      case rest =>
        obtain ⟨rfl, hwc⟩ := hcut
        rw [hwc]
        clear hwc
        have KD : Hid (Kept Nil wr wr.drew) := (Kept.refl _ _).drew
        have HH := has_any wr.heap.size cd ⟨gd, 0, none⟩ ds y.f up y.h wr.drew ((HDr.out.row HF.out).nil KD.out) HS.out.srt (by omega)
        rw [show hasB ds y.f up y.h = true from by rw [HY.out, HU.out]; exact has_own HS.out hlt] at HH
        go_upto_region 35 with fail
        go_region_held3 (fun w' => w'.cell? ⟨gd, k * 2, none⟩ = some (.string (bs y.f)) ∧ w'.cell? ⟨gd, k * 2 + 1, none⟩ = some (.int .i64 y.h)) (first | assumption | go_keep) (first | (go_at_call 15; go_fit HH; rintro e wa ⟨rfl, ka⟩; have Ka : Hid (Kept Nil wr wa) := KD.out.trans ka; have q0 := cell_kept Ka.out (fun _ x => x) c0; have q1 := cell_kept Ka.out (fun _ x => x) c1))
        have KDa : Hid (Kept Nil wr wa.drew) := Ka.out.drew
        have HST := set_any wa.heap.size ca ⟨ga, 0, none⟩ ds y.f up y.h wa.drew (((HA.out.kept Ka.out).row HF.out).nil (Kept.refl _ _).drew) HS.out.srt hpos (by obtain ⟨_, _, _, _, _, h9, _⟩ := HA.out.block (by simp); exact h9) (by obtain ⟨_, _, _, _, _, _, h9, _⟩ := HA.out.block (by simp); exact h9) hl (by rw [HY.out]; exact HF.out _ (List.getElem_mem hlt)) (by
          rw [HU.out]
          unfold uptoB
          by_cases h1 : k + 1 < ds.length
          · rw [List.getElem?_eq_getElem h1]; exact HF.out _ (List.getElem_mem h1)
          · rw [List.getElem?_eq_none (by omega)]; exact Nat.zero_le _)
        rw [show setB ds y.f up y.h = ds from by rw [HY.out, HU.out]; exact set_own HS.out hlt] at HST
        clear HH
        have r0 := cell_kept Ka.out (fun _ x => x) c0
        have r1 := cell_kept Ka.out (fun _ x => x) c1
        go_upto_region 37 with fail
        go_region_held3 (fun w' => w'.cell? ⟨gd, k * 2, none⟩ = some (.string (bs y.f)) ∧ w'.cell? ⟨gd, k * 2 + 1, none⟩ = some (.int .i64 y.h)) (first | assumption | go_keep) (first | (go_at_call 7; go_fit HST; rintro e wb ⟨gb, cb, rfl, ob, kb⟩; have Kb : Hid (Kept Nil wr wb) := KDa.out.trans kb; have HOb : Hid (OwnB B wb (some ⟨gb, 0, none⟩) cb ds) := ob.mono (Nat.le_trans hB (Nat.le_trans HKr.out.size Ka.out.size)); have t0 := cell_kept Kb.out (fun _ x => x) c0; have t1 := cell_kept Kb.out (fun _ x => x) c1; clear ob kb))
        go_wp2
        go_roundw
        case rel => exact ⟨k + 1, gb, cb, by omega, by go_num, rfl, HOb.out, HKr.out.trans Kb.out⟩
        case measure => simp [intOf]; omega
    · obtain rfl : k = ds.length := by omega
      have hirr : ¬ (ds.length : Int) < ds.length := by omega
      have HD5 : Hid (OwnB B wr (some ⟨gd, 0, none⟩) cd ds) := HD.out.kept HKr.out
      have HK5 : Hid (Kept Nil w wr) := HK.out.trans HKr.out
      go_upto_if 211 with fail
      go_cut [] (fun wc => wc = wr)
      case first =>
        go_wp2
        go_meet
        exact rfl
      case rest =>
        rw [hcut]
        apply_assumption
        exact dfT40 w wr B gd cd ga ca ds HD5 HA HK5 (by omega) _ _ _ _ _ _ _ _ _ _ _ _ _ _ _ _ _ _ _ _ _ _ _ _ _ _ _ _ _ _ _ _ _ _ _ _ _ _ _ _ _ _ _ _ _ _ _ _ _ _ _ _ _ _ _ _ _ _ _ _ _ _ _ _ _ _ _ _ _ _ _ _ _ _ _ _ _ _ _ _ _ _ _ _ _ _ _ _ _ _ _ _ _ _ _ _ _ _ _ _ _ _ _ _ _ _ _ _ _ _ _ _ _ _ _ _ _ _ _ _ _ _ _ _ _ _ _ _ _ _ _ _ _ _ _ _ _ _ _ _ _ _ _ _ _ _ _ _ _ _ _ _ _ _ _ _ _ _ _ _ _ _ _ _ _ _ _ _ _ _ _ _ _ _ _ _ _ _ _ _ _ _ _ _ _ _ _ _ _ _ _ _ _ _ _ _ _ _ _ _ _ _ _ _ _ _ _ _ _ _ _ _ _ _ _ _ _ _ _ _ _ _ _ _ _

end Go.Proofs.Ytllmcjmbicgahaa
