/-
  DelegFunction: the bounds that came of giving each host its own again are the same.
-/
import Derived.Test.YtllmcjmbicgahaaWDfA
import Derived.Deep.DeepCutAuto
import Derived.Deep.DeepFit
import Derived.Deep.RegionHeld3
namespace Go.Proofs.Ytllmcjmbicgahaa
open Go.RowKit

set_option maxRecDepth 1000000 in
set_option maxHeartbeats 40000000 in
theorem dfT40 (w w5 : World) (B gd cd ga ca : Nat) (ds : List Bd) (HD : Hid (OwnB B w5 (some ⟨gd, 0, none⟩) cd ds)) (HA : Hid (OwnB B w5 (some ⟨ga, 0, none⟩) ca ds)) (HK : Hid (Kept Nil w w5)) (hl : (ds.length : Int) ≤ 4611686018427387903) (fv0 fv1 fv2 fv3 fv4 fv5 fv6 fv8 fv9 fv10 fv11 fv12 fv14 fv15 fv16 fv17 fv18 fv19 fv20 fv21 fv22 fv23 fv24 fv25 fv26 fv27 fv28 fv29 fv30 fv31 fv32 fv33 fv34 fv35 fv36 fv37 fv38 fv39 fv40 fv41 fv42 fv43 fv44 fv45 fv46 fv47 fv48 fv49 fv50 fv51 fv52 fv53 fv54 fv55 fv56 fv57 fv58 fv59 fv60 fv61 fv62 fv63 fv64 fv65 fv66 fv67 fv68 fv69 fv70 fv71 fv72 fv73 fv74 fv75 fv76 fv77 fv78 fv79 fv80 fv81 fv82 fv83 fv84 fv85 fv86 fv87 fv88 fv89 fv90 fv91 fv92 fv93 fv94 fv95 fv96 fv97 fv98 fv99 fv100 fv101 fv102 fv103 fv104 fv105 fv106 fv107 fv108 fv109 fv110 fv111 fv112 fv113 fv114 fv115 fv116 fv117 fv118 fv119 fv120 fv121 fv122 fv123 fv124 fv125 fv126 fv127 fv128 fv129 fv130 fv131 fv132 fv133 fv134 fv135 fv136 fv137 fv138 fv139 fv140 fv141 fv142 fv143 fv144 fv145 fv146 fv147 fv148 fv149 fv150 fv151 fv152 fv153 fv154 fv155 fv156 fv157 fv158 fv159 fv160 fv161 fv162 fv163 fv164 fv165 fv166 fv167 fv168 fv169 fv170 fv171 fv172 fv173 fv174 fv175 fv176 fv177 fv178 fv179 fv180 fv181 fv182 fv183 fv184 fv185 fv186 fv187 fv188 fv189 fv190 fv191 fv192 fv193 fv194 fv195 fv196 fv197 fv198 fv199 fv200 fv201 fv202 fv203 fv204 fv205 fv206 fv207 fv208 fv209 fv210 fv211 fv212 fv213 fv214 fv215 fv216 fv217 fv218 fv219 fv220 fv221 fv222 fv223 fv224 fv225 fv226 : Value) :
    Code.wp Try.prog dT40 (bodyPost Try.prog Try.f4 (fun e w' => e = .returned (.bool true) ∧ Kept Nil w w')) ⟨#[fv0, fv1, fv2, fv3, fv4, fv5, fv6, .slice (some ⟨gd, 0, none⟩) ds.length cd, fv8, fv9, fv10, fv11, fv12, .slice (some ⟨ga, 0, none⟩) ds.length ca, fv14, fv15, fv16, fv17, fv18, fv19, fv20, fv21, fv22, fv23, fv24, fv25, fv26, fv27, fv28, fv29, fv30, fv31, fv32, fv33, fv34, fv35, fv36, fv37, fv38, fv39, fv40, fv41, fv42, fv43, fv44, fv45, fv46, fv47, fv48, fv49, fv50, fv51, fv52, fv53, fv54, fv55, fv56, fv57, fv58, fv59, fv60, fv61, fv62, fv63, fv64, fv65, fv66, fv67, fv68, fv69, fv70, fv71, fv72, fv73, fv74, fv75, fv76, fv77, fv78, fv79, fv80, fv81, fv82, fv83, fv84, fv85, fv86, fv87, fv88, fv89, fv90, fv91, fv92, fv93, fv94, fv95, fv96, fv97, fv98, fv99, fv100, fv101, fv102, fv103, fv104, fv105, fv106, fv107, fv108, fv109, fv110, fv111, fv112, fv113, fv114, fv115, fv116, fv117, fv118, fv119, fv120, fv121, fv122, fv123, fv124, fv125, fv126, fv127, fv128, fv129, fv130, fv131, fv132, fv133, fv134, fv135, fv136, fv137, fv138, fv139, fv140, fv141, fv142, fv143, fv144, fv145, fv146, fv147, fv148, fv149, fv150, fv151, fv152, fv153, fv154, fv155, fv156, fv157, fv158, fv159, fv160, fv161, fv162, fv163, fv164, fv165, fv166, fv167, fv168, fv169, fv170, fv171, fv172, fv173, fv174, fv175, fv176, fv177, fv178, fv179, fv180, fv181, fv182, fv183, fv184, fv185, fv186, fv187, fv188, fv189, fv190, fv191, fv192, fv193, fv194, fv195, fv196, fv197, fv198, fv199, fv200, fv201, fv202, fv203, fv204, fv205, fv206, fv207, fv208, fv209, fv210, fv211, fv212, fv213, fv214, fv215, fv216, fv217, fv218, fv219, fv220, fv221, fv222, fv223, fv224, fv225, fv226], []⟩ w5 := by
  conv => arg 2; whnf
  dsimp only
  go_wp2
  go_loopw [16] (fun u wr => ∃ k : Nat, k ≤ ds.length ∧ u = .int .i64 k ∧ Hid (Kept Nil w5 wr)) (fun u _ => ds.length - (intOf u).toNat)
  case atStart => exact ⟨0, Nat.zero_le _, rfl, Kept.refl _ _⟩
  case round =>
    obtain ⟨k, hk, rfl, HKr⟩ := hrel
    by_cases hlt : k < ds.length
    · have hki : (k : Int) < ds.length := by omega
      obtain ⟨c0, c1, _⟩ := (HD.out.kept HKr.out).cell2 hlt
      obtain ⟨d0, d1, _⟩ := (HA.out.kept HKr.out).cell2 hlt
      obtain ⟨y, HY⟩ : ∃ y : Bd, Hid (y = ds[k]) := ⟨ds[k], (rfl : ds[k] = ds[k])⟩
      rw [← HY.out] at c0 c1 d0 d1
      go_upto_region 43 with fail
      go_quiet (fail)
      go_wp2
      go_roundw
      case rel => exact ⟨k + 1, by omega, by go_num, HKr.out.drewN _⟩
      case measure => simp [intOf]; omega
    · obtain rfl : k = ds.length := by omega
      have hirr : ¬ (ds.length : Int) < ds.length := by omega
      go_wp2
      go_ret
      exact ⟨rfl, HK.out.trans HKr.out⟩

end Go.Proofs.Ytllmcjmbicgahaa
