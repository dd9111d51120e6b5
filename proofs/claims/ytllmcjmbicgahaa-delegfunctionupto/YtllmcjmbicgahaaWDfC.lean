/-
  DelegFunction: each key has the host to which a range with it was given last.
-/
import Derived.Test.YtllmcjmbicgahaaWDfD
import Derived.Deep.DeepCutAuto
import Derived.Deep.DeepFit
import Derived.Deep.RegionHeld3
namespace Go.Proofs.Ytllmcjmbicgahaa
open Go.RowKit

theorem OwnG.cell3 {B c j : Nat} {w : World} {ao : Option Addr} {ps : List Pr} (h : OwnG B w ao c ps) (hj : j < ps.length) : ∃ g, ao = some ⟨g, 0, none⟩ ∧ w.cell? ⟨g, j * 3, none⟩ = some (.string (bs ps[j].k)) ∧ w.cell? ⟨g, j * 3 + 1, none⟩ = some (.string (bs ps[j].v)) ∧ w.cell? ⟨g, j * 3 + 2, none⟩ = some (.int .i64 ps[j].n) := by
  obtain ⟨g, e, _, _, hc⟩ := h.cells (by omega)
  obtain ⟨a, b, c, _⟩ := hc j hj
  exact ⟨g, e, a, b, c⟩
set_option maxRecDepth 1000000 in
set_option maxHeartbeats 40000000 in
theorem dfT17 (w w5 : World) (B gd cd cL cK : Nat) (aL aK : Option Addr) (gs : List Pr) (ks : List (List UInt8)) (ds : List Bd) (HG : Hid (OwnG B w5 aL cL gs)) (HKs : Hid (OwnTd B w5 aK cK ks)) (HD : Hid (OwnB B w5 (some ⟨gd, 0, none⟩) cd ds)) (HK : Hid (Kept Nil w w5)) (hB : B ≤ w5.heap.size) (HS : Hid (Sh ds)) (HF : Hid (FitB ds)) (HW : Hid (∀ key, hoAt key ds = wantG gs key)) (hl : (ds.length : Int) ≤ 5864062014800) (hlg : (gs.length : Int) ≤ 4611686018427387903) (hlk : (ks.length : Int) ≤ 4611686018427387903) (fv0 fv1 fv2 fv3 fv4 fv8 fv9 fv10 fv11 fv12 fv13 fv14 fv15 fv16 fv17 fv18 fv19 fv20 fv21 fv22 fv23 fv24 fv25 fv26 fv27 fv28 fv29 fv30 fv31 fv32 fv33 fv34 fv35 fv36 fv37 fv38 fv39 fv40 fv41 fv42 fv43 fv44 fv45 fv46 fv47 fv48 fv49 fv50 fv51 fv52 fv53 fv54 fv55 fv56 fv57 fv58 fv59 fv60 fv61 fv62 fv63 fv64 fv65 fv66 fv67 fv68 fv69 fv70 fv71 fv72 fv73 fv74 fv75 fv76 fv77 fv78 fv79 fv80 fv81 fv82 fv83 fv84 fv85 fv86 fv87 fv88 fv89 fv90 fv91 fv92 fv93 fv94 fv95 fv96 fv97 fv98 fv99 fv100 fv101 fv102 fv103 fv104 fv105 fv106 fv107 fv108 fv109 fv110 fv111 fv112 fv113 fv114 fv115 fv116 fv117 fv118 fv119 fv120 fv121 fv122 fv123 fv124 fv125 fv126 fv127 fv128 fv129 fv130 fv131 fv132 fv133 fv134 fv135 fv136 fv137 fv138 fv139 fv140 fv141 fv142 fv143 fv144 fv145 fv146 fv147 fv148 fv149 fv150 fv151 fv152 fv153 fv154 fv155 fv156 fv157 fv158 fv159 fv160 fv161 fv162 fv163 fv164 fv165 fv166 fv167 fv168 fv169 fv170 fv171 fv172 fv173 fv174 fv175 fv176 fv177 fv178 fv179 fv180 fv181 fv182 fv183 fv184 fv185 fv186 fv187 fv188 fv189 fv190 fv191 fv192 fv193 fv194 fv195 fv196 fv197 fv198 fv199 fv200 fv201 fv202 fv203 fv204 fv205 fv206 fv207 fv208 fv209 fv210 fv211 fv212 fv213 fv214 fv215 fv216 fv217 fv218 fv219 fv220 fv221 fv222 fv223 fv224 fv225 fv226 : Value) :
    Code.wp Try.prog dT17 (bodyPost Try.prog Try.f4 (fun e w' => e = .returned (.bool true) ∧ Kept Nil w w')) ⟨#[fv0, fv1, fv2, fv3, fv4, .slice aL gs.length cL, .slice aK ks.length cK, .slice (some ⟨gd, 0, none⟩) ds.length cd, fv8, fv9, fv10, fv11, fv12, fv13, fv14, fv15, fv16, fv17, fv18, fv19, fv20, fv21, fv22, fv23, fv24, fv25, fv26, fv27, fv28, fv29, fv30, fv31, fv32, fv33, fv34, fv35, fv36, fv37, fv38, fv39, fv40, fv41, fv42, fv43, fv44, fv45, fv46, fv47, fv48, fv49, fv50, fv51, fv52, fv53, fv54, fv55, fv56, fv57, fv58, fv59, fv60, fv61, fv62, fv63, fv64, fv65, fv66, fv67, fv68, fv69, fv70, fv71, fv72, fv73, fv74, fv75, fv76, fv77, fv78, fv79, fv80, fv81, fv82, fv83, fv84, fv85, fv86, fv87, fv88, fv89, fv90, fv91, fv92, fv93, fv94, fv95, fv96, fv97, fv98, fv99, fv100, fv101, fv102, fv103, fv104, fv105, fv106, fv107, fv108, fv109, fv110, fv111, fv112, fv113, fv114, fv115, fv116, fv117, fv118, fv119, fv120, fv121, fv122, fv123, fv124, fv125, fv126, fv127, fv128, fv129, fv130, fv131, fv132, fv133, fv134, fv135, fv136, fv137, fv138, fv139, fv140, fv141, fv142, fv143, fv144, fv145, fv146, fv147, fv148, fv149, fv150, fv151, fv152, fv153, fv154, fv155, fv156, fv157, fv158, fv159, fv160, fv161, fv162, fv163, fv164, fv165, fv166, fv167, fv168, fv169, fv170, fv171, fv172, fv173, fv174, fv175, fv176, fv177, fv178, fv179, fv180, fv181, fv182, fv183, fv184, fv185, fv186, fv187, fv188, fv189, fv190, fv191, fv192, fv193, fv194, fv195, fv196, fv197, fv198, fv199, fv200, fv201, fv202, fv203, fv204, fv205, fv206, fv207, fv208, fv209, fv210, fv211, fv212, fv213, fv214, fv215, fv216, fv217, fv218, fv219, fv220, fv221, fv222, fv223, fv224, fv225, fv226], []⟩ w5 := by
  conv => arg 2; whnf
  dsimp only
  go_upto_block 2 with fail
  go_cut [] (fun wc => Hid (Kept Nil w5 wc))
  case first =>
    go_wp2_with fail
    go_loopw [10] (fun u wr => ∃ k : Nat, k ≤ ks.length ∧ u = .int .i64 k ∧ Hid (Kept Nil w5 wr)) (fun u _ => ks.length - (intOf u).toNat)
    case atStart => exact ⟨0, Nat.zero_le _, rfl, Kept.refl _ _⟩
    case round =>
      obtain ⟨k, hk, rfl, HKr⟩ := hrel
      by_cases hlt : k < ks.length
      · have hki : (k : Int) < ks.length := by omega
        obtain ⟨wo, hwo⟩ : ∃ x : World, x = wr := ⟨_, rfl⟩
        obtain ⟨gK, eK, hgk, c0⟩ := (HKs.out.kept HKr.out).cell hlt
        cases eK
        obtain ⟨key, HY⟩ : ∃ y : List UInt8, Hid (y = ks[k]) := ⟨ks[k], (rfl : ks[k] = ks[k])⟩
        rw [← HY.out] at c0
        rw [← hwo] at HKr c0 ⊢
        clear hwo hgk
        have t1 := bs_toList key
        go_wp2
        go_loopw [11, 12] (fun v u wr => ∃ i : Nat, i ≤ gs.length ∧ u = .int .i64 i ∧ v = .int .i64 (wantG (gs.take i) key) ∧ Hid (Kept Nil wo wr)) (fun _ u _ => gs.length - (intOf u).toNat)
        case atStart => exact ⟨0, Nat.zero_le _, rfl, rfl, Kept.refl _ _⟩
        case round =>
          obtain ⟨i, hi, rfl, rfl, HKi⟩ := hrel
          have c0r : wr.cell? ⟨gK, k, none⟩ = some (.string (bs key)) := cell_kept HKi.out (fun _ x => x) c0
          by_cases hil : i < gs.length
          · have hii : (i : Int) < gs.length := by omega
            obtain ⟨gL, eL, d0, d1, d2⟩ := (HG.out.kept (HKr.out.trans HKi.out)).cell3 hil
            cases eL
            obtain ⟨y, HYg⟩ : ∃ y : Pr, Hid (y = gs[i]) := ⟨gs[i], (rfl : gs[i] = gs[i])⟩
            rw [← HYg.out] at d0 d1 d2
            have HN : Hid (wantG (gs.take (i + 1)) key = if inR key y.k y.v = true then y.n else wantG (gs.take i) key) := by show _ = _; rw [HYg.out]; exact wantG_next hil key
            obtain ⟨wv, HWV⟩ : ∃ z, Hid (z = wantG (gs.take i) key) := ⟨_, rfl⟩
            rw [← HWV.out] at HN ⊢
            have t2 := bs_toList y.k
            have t3 := bs_toList y.v
            obtain ⟨b, HBe⟩ : ∃ b, Hid (b = inR key y.k y.v) := ⟨_, rfl⟩
            rw [← HBe.out] at HN
            go_upto_region 24 with fail
            go_cut [148] from 113 to 153 (fun x wc => x = .bool b ∧ Hid (Kept Nil wr wc))
            case first =>
              cases h1 : lessB key y.k with
              | true =>
                have a1 : Op.bytesLess key y.k = true := h1
                have HF1 : Hid (b = false) := by show _ = _; rw [HBe.out]; unfold inR; rw [h1]; rfl
                clear h1
                go_quiet (fail)
                go_wp2
                go_meet
                exact ⟨by rw [HF1.out], (Kept.refl _ _).drewN _⟩
              | false =>
                have a1 : Op.bytesLess key y.k = false := h1
                by_cases h2 : y.v = []
                · have HF1 : Hid (b = true) := by show _ = _; rw [HBe.out]; unfold inR; rw [h1, h2]; rfl
                  have a2 : y.v.isEmpty = true := by rw [h2]; rfl
                  clear h1 h2
                  go_quiet (fail)
                  go_wp2
                  go_meet
                  exact ⟨by rw [HF1.out], (Kept.refl _ _).drewN _⟩
                · have a2 : y.v.isEmpty = false := by cases hx : y.v with | nil => exact absurd hx h2 | cons x t => rfl
                  have HF1 : Hid (b = Op.bytesLess key y.v) := by show _ = _; rw [HBe.out]; unfold inR; rw [h1, a2]; rfl
                  clear h1
                  go_quiet (fail)
                  go_wp2
                  go_meet
                  exact ⟨by rw [HF1.out], (Kept.refl _ _).drewN _⟩
            case rest =>
              obtain ⟨rfl, KC⟩ := hcut
              rename World => wc
              have e2 : wc.cell? ⟨gL, i * 3 + 2, none⟩ = some (.int .i64 y.n) := cell_kept KC.out (fun _ x => x) d2
              have K2 : Hid (Kept Nil wo wc) := HKi.out.trans KC.out
              cases b with
              | true =>
                go_wp2
                go_roundw
                case rel => exact ⟨i + 1, by omega, by go_num, by rw [HN.out]; rfl, K2.out⟩
                case measure => simp [intOf]; omega
              | false =>
                go_wp2
                go_roundw
                case rel => exact ⟨i + 1, by omega, by go_num, by rw [HN.out]; rfl, K2.out⟩
                case measure => simp [intOf]; omega
          · obtain rfl : i = gs.length := by omega
            have hirr : ¬ (gs.length : Int) < gs.length := by omega
            have HDr : Hid (BdRow wr.heap.size wr (some ⟨gd, 0, none⟩) ds) := (HD.out.kept (HKr.out.trans HKi.out)).row HF.out
            have AT := at_any wr.heap.size cd ⟨gd, 0, none⟩ ds key wr HDr.out HS.out.srt (by omega)
            have HWe : Hid (wantG (gs.take gs.length) key = hoAt key ds) := by show _ = _; rw [List.take_length, HW.out]
            rw [HWe.out]
            obtain ⟨z, HZ⟩ : ∃ z, Hid (z = hoAt key ds) := ⟨_, rfl⟩
            rw [← HZ.out] at AT ⊢
            have hz : (z == z) = true := by simp
            go_wp2_with fail
            go_fit AT
            rintro e w6 ⟨rfl, k6⟩
            have K6 : Hid (Kept Nil w5 w6) := (HKr.out.trans HKi.out).trans k6
            clear k6 AT
            go_wp2
            go_roundw
            case rel => exact ⟨k + 1, by omega, by go_num, K6.out⟩
            case measure => simp [intOf]; omega
      · obtain rfl : k = ks.length := by omega
        have hirr : ¬ (ks.length : Int) < ks.length := by omega
        go_wp2
        go_meet
        exact HKr.out
  case rest =>
    rename World => wr
    have HKr := hcut
    clear hcut
    have HD5 : Hid (OwnB B wr (some ⟨gd, 0, none⟩) cd ds) := HD.out.kept HKr.out
    have HK5 : Hid (Kept Nil w wr) := HK.out.trans HKr.out
    have hB5 : B ≤ wr.heap.size := Nat.le_trans hB HKr.out.size
    apply_assumption
    exact dfT28 w wr B gd cd ds HD5 HK5 hB5 HS HF hl _ _ _ _ _ _ _ _ _ _ _ _ _ _ _ _ _ _ _ _ _ _ _ _ _ _ _ _ _ _ _ _ _ _ _ _ _ _ _ _ _ _ _ _ _ _ _ _ _ _ _ _ _ _ _ _ _ _ _ _ _ _ _ _ _ _ _ _ _ _ _ _ _ _ _ _ _ _ _ _ _ _ _ _ _ _ _ _ _ _ _ _ _ _ _ _ _ _ _ _ _ _ _ _ _ _ _ _ _ _ _ _ _ _ _ _ _ _ _ _ _ _ _ _ _ _ _ _ _ _ _ _ _ _ _ _ _ _ _ _ _ _ _ _ _ _ _ _ _ _ _ _ _ _ _ _ _ _ _ _ _ _ _ _ _ _ _ _ _ _ _ _ _ _ _ _ _ _ _ _ _ _ _ _ _ _ _ _ _ _ _ _ _ _ _ _ _ _ _ _ _ _ _ _ _ _ _ _ _ _ _ _ _ _ _ _ _ _ _ _ _ _ _ _ _ _

end Go.Proofs.Ytllmcjmbicgahaa
