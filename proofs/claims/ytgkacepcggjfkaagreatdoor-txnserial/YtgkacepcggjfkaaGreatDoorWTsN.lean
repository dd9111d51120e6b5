/-
  TxnSerial: a round from the last look on.
-/
import Derived.Test.YtgkacepcggjfkaaGreatDoorWTsA
import Derived.BigQuiet
import Derived.BigRegion
import Derived.StillTailTactics
import Derived.Deep.DeepCutAuto
import Derived.Deep.DeepFit
import Derived.Deep.RegionHeld3
namespace Go.Proofs.YtgkacepcggjfkaaGreatDoor
open Go.RowKit

set_option maxRecDepth 1000000 in
set_option maxHeartbeats 40000000 in
theorem tsTail47 (w w1 X : World) (n0 sb pc c : Nat) (es : List Eb) (T : Nat → Tx) (ps : List Pr) (pa : Option Addr) (sa : Addr) (fv0 fv1 fv2 fv3 fv4 fv5 fv6 fv7 fv8 fv9 fv10 fv11 fv12 fv13 fv14 fv17 fv18 fv19 fv20 fv21 fv22 fv23 fv24 fv25 fv26 fv27 fv28 fv29 fv30 fv31 fv32 fv33 fv34 fv35 fv36 fv37 fv38 fv39 fv40 fv41 fv42 fv43 fv44 fv45 fv46 fv47 fv48 fv49 fv50 fv51 fv52 fv53 fv54 fv55 fv56 fv57 fv58 fv59 fv60 fv61 fv62 fv63 fv64 fv65 fv66 fv67 fv68 fv69 fv70 fv71 fv72 fv73 fv74 fv75 fv76 fv77 fv78 fv79 fv80 fv81 fv82 fv83 fv84 fv85 fv86 fv87 fv88 fv89 fv90 fv91 fv92 fv93 fv94 fv95 fv96 fv97 fv98 fv99 fv100 fv101 fv102 fv103 fv104 fv105 fv106 fv107 fv108 fv109 fv110 fv111 fv112 fv113 fv114 fv115 fv116 fv117 fv118 fv119 fv120 fv121 fv122 fv123 fv124 fv125 fv126 fv127 fv128 fv129 fv130 fv131 fv132 fv133 fv134 fv135 fv136 fv137 fv138 fv139 fv140 fv141 fv142 fv143 fv144 fv145 fv146 fv147 fv148 fv149 fv150 fv151 fv152 fv153 fv154 fv155 fv156 fv157 fv158 fv159 fv160 fv161 fv162 fv163 fv164 fv165 fv166 fv167 fv168 fv169 fv170 fv171 fv172 fv173 fv174 fv175 fv176 fv177 fv178 fv179 fv180 fv181 fv182 fv183 fv184 fv185 fv186 fv187 fv188 fv189 fv190 fv191 fv192 fv193 fv194 fv195 fv196 fv197 fv198 fv199 fv200 fv201 fv202 fv203 fv204 fv205 fv206 fv207 fv208 fv209 fv210 fv211 fv212 fv213 fv214 fv215 fv216 fv217 fv218 fv219 fv220 fv221 fv222 fv223 fv224 fv225 fv226 fv227 fv228 fv229 fv230 fv231 fv232 fv233 fv234 fv235 fv236 fv237 fv238 fv239 fv240 fv241 fv242 fv243 fv244 fv245 fv246 fv247 fv248 fv249 fv250 fv251 fv252 fv253 fv254 fv255 : Value) (K1 : Act → World → Prop) (Q9 : Exit → Act → World → Prop)
    (hK : ∀ (u6 u27 u231 u232 u233 u234 u235 u236 u237 u238 u239 u240 u241 u242 u243 u244 u245 : Value)  (wc : World), Hid (Kept Nil X wc) → K1 ⟨#[fv0, fv1, fv2, fv3, fv4, fv5, u6, fv7, fv8, fv9, fv10, fv11, fv12, fv13, fv14, .slice pa ps.length pc, .slice (some sa) 4 4, fv17, fv18, fv19, fv20, fv21, fv22, fv23, fv24, fv25, fv26, u27, fv28, fv29, fv30, fv31, fv32, fv33, fv34, fv35, fv36, fv37, fv38, fv39, fv40, fv41, fv42, fv43, fv44, fv45, fv46, fv47, fv48, fv49, fv50, fv51, fv52, fv53, fv54, fv55, fv56, fv57, fv58, fv59, fv60, fv61, fv62, fv63, fv64, fv65, fv66, fv67, fv68, fv69, fv70, fv71, fv72, fv73, fv74, fv75, fv76, fv77, fv78, fv79, fv80, fv81, fv82, fv83, fv84, fv85, fv86, fv87, fv88, fv89, fv90, fv91, fv92, fv93, fv94, fv95, fv96, fv97, fv98, fv99, fv100, fv101, fv102, fv103, fv104, fv105, fv106, fv107, fv108, fv109, fv110, fv111, fv112, fv113, fv114, fv115, fv116, fv117, fv118, fv119, fv120, fv121, fv122, fv123, fv124, fv125, fv126, fv127, fv128, fv129, fv130, fv131, fv132, fv133, fv134, fv135, fv136, fv137, fv138, fv139, fv140, fv141, fv142, fv143, fv144, fv145, fv146, fv147, fv148, fv149, fv150, fv151, fv152, fv153, fv154, fv155, fv156, fv157, fv158, fv159, fv160, fv161, fv162, fv163, fv164, fv165, fv166, fv167, fv168, fv169, fv170, fv171, fv172, fv173, fv174, fv175, fv176, fv177, fv178, fv179, fv180, fv181, fv182, fv183, fv184, fv185, fv186, fv187, fv188, fv189, fv190, fv191, fv192, fv193, fv194, fv195, fv196, fv197, fv198, fv199, fv200, fv201, fv202, fv203, fv204, fv205, fv206, fv207, fv208, fv209, fv210, fv211, fv212, fv213, fv214, fv215, fv216, fv217, fv218, fv219, fv220, fv221, fv222, fv223, fv224, fv225, fv226, fv227, fv228, fv229, fv230, u231, u232, u233, u234, u235, u236, u237, u238, u239, u240, u241, u242, u243, u244, u245, fv246, fv247, fv248, fv249, fv250, fv251, fv252, fv253, fv254, fv255], []⟩ wc)
    (HM : Hid (MS w w1 n0 sb es X T ps pa pc c (numsL (St.of ps)))) (HSA : Hid (sa = ⟨sb, 0, none⟩)) (HL : Hid (LD w)) :
    Code.wp Tryz.prog sT47 (Exit.inBlock 3 (Exit.then K1 Q9)) ⟨#[fv0, fv1, fv2, fv3, fv4, fv5, fv6, fv7, fv8, fv9, fv10, fv11, fv12, fv13, fv14, .slice pa ps.length pc, .slice (some sa) 4 4, fv17, fv18, fv19, fv20, fv21, fv22, fv23, fv24, fv25, fv26, fv27, fv28, fv29, fv30, fv31, fv32, fv33, fv34, fv35, fv36, fv37, fv38, fv39, fv40, fv41, fv42, fv43, fv44, fv45, fv46, fv47, fv48, fv49, fv50, fv51, fv52, fv53, fv54, fv55, fv56, fv57, fv58, fv59, fv60, fv61, fv62, fv63, fv64, fv65, fv66, fv67, fv68, fv69, fv70, fv71, fv72, fv73, fv74, fv75, fv76, fv77, fv78, fv79, fv80, fv81, fv82, fv83, fv84, fv85, fv86, fv87, fv88, fv89, fv90, fv91, fv92, fv93, fv94, fv95, fv96, fv97, fv98, fv99, fv100, fv101, fv102, fv103, fv104, fv105, fv106, fv107, fv108, fv109, fv110, fv111, fv112, fv113, fv114, fv115, fv116, fv117, fv118, fv119, fv120, fv121, fv122, fv123, fv124, fv125, fv126, fv127, fv128, fv129, fv130, fv131, fv132, fv133, fv134, fv135, fv136, fv137, fv138, fv139, fv140, fv141, fv142, fv143, fv144, fv145, fv146, fv147, fv148, fv149, fv150, fv151, fv152, fv153, fv154, fv155, fv156, fv157, fv158, fv159, fv160, fv161, fv162, fv163, fv164, fv165, fv166, fv167, fv168, fv169, fv170, fv171, fv172, fv173, fv174, fv175, fv176, fv177, fv178, fv179, fv180, fv181, fv182, fv183, fv184, fv185, fv186, fv187, fv188, fv189, fv190, fv191, fv192, fv193, fv194, fv195, fv196, fv197, fv198, fv199, fv200, fv201, fv202, fv203, fv204, fv205, fv206, fv207, fv208, fv209, fv210, fv211, fv212, fv213, fv214, fv215, fv216, fv217, fv218, fv219, fv220, fv221, fv222, fv223, fv224, fv225, fv226, fv227, fv228, fv229, fv230, fv231, fv232, fv233, fv234, fv235, fv236, fv237, fv238, fv239, fv240, fv241, fv242, fv243, fv244, fv245, fv246, fv247, fv248, fv249, fv250, fv251, fv252, fv253, fv254, fv255], []⟩ X := by
  have HKK : Hid (∀ (u6 u27 u231 u232 u233 u234 u235 u236 u237 u238 u239 u240 u241 u242 u243 u244 u245 : Value)  (wc : World), Hid (Kept Nil X wc) → K1 ⟨#[fv0, fv1, fv2, fv3, fv4, fv5, u6, fv7, fv8, fv9, fv10, fv11, fv12, fv13, fv14, .slice pa ps.length pc, .slice (some sa) 4 4, fv17, fv18, fv19, fv20, fv21, fv22, fv23, fv24, fv25, fv26, u27, fv28, fv29, fv30, fv31, fv32, fv33, fv34, fv35, fv36, fv37, fv38, fv39, fv40, fv41, fv42, fv43, fv44, fv45, fv46, fv47, fv48, fv49, fv50, fv51, fv52, fv53, fv54, fv55, fv56, fv57, fv58, fv59, fv60, fv61, fv62, fv63, fv64, fv65, fv66, fv67, fv68, fv69, fv70, fv71, fv72, fv73, fv74, fv75, fv76, fv77, fv78, fv79, fv80, fv81, fv82, fv83, fv84, fv85, fv86, fv87, fv88, fv89, fv90, fv91, fv92, fv93, fv94, fv95, fv96, fv97, fv98, fv99, fv100, fv101, fv102, fv103, fv104, fv105, fv106, fv107, fv108, fv109, fv110, fv111, fv112, fv113, fv114, fv115, fv116, fv117, fv118, fv119, fv120, fv121, fv122, fv123, fv124, fv125, fv126, fv127, fv128, fv129, fv130, fv131, fv132, fv133, fv134, fv135, fv136, fv137, fv138, fv139, fv140, fv141, fv142, fv143, fv144, fv145, fv146, fv147, fv148, fv149, fv150, fv151, fv152, fv153, fv154, fv155, fv156, fv157, fv158, fv159, fv160, fv161, fv162, fv163, fv164, fv165, fv166, fv167, fv168, fv169, fv170, fv171, fv172, fv173, fv174, fv175, fv176, fv177, fv178, fv179, fv180, fv181, fv182, fv183, fv184, fv185, fv186, fv187, fv188, fv189, fv190, fv191, fv192, fv193, fv194, fv195, fv196, fv197, fv198, fv199, fv200, fv201, fv202, fv203, fv204, fv205, fv206, fv207, fv208, fv209, fv210, fv211, fv212, fv213, fv214, fv215, fv216, fv217, fv218, fv219, fv220, fv221, fv222, fv223, fv224, fv225, fv226, fv227, fv228, fv229, fv230, u231, u232, u233, u234, u235, u236, u237, u238, u239, u240, u241, u242, u243, u244, u245, fv246, fv247, fv248, fv249, fv250, fv251, fv252, fv253, fv254, fv255], []⟩ wc) := hK
  clear hK
  conv => arg 2; whnf
  dsimp only
  go_wp2_with fail
  go_loopw [27] (fun u wr => ∃ n : Nat, n ≤ 4 ∧ u = .int .i64 n ∧ Hid (Kept Nil X wr)) (fun u _ => 4 - (intOf u).toNat)
  case atStart => exact ⟨0, by omega, rfl, Kept.refl _ _⟩
  case round =>
    obtain ⟨n, hn, rfl, HK⟩ := hrel
    by_cases hlt : n < 4
    · have hni : (n : Int) < 4 := by omega
      have hext := keys_ext hlt
      obtain ⟨z, HZ⟩ : ∃ z : Int, Hid (z = ((St.of ps).num (keys4[n]'hlt) : Nat)) := ⟨_, rfl⟩
      obtain ⟨ky, HKY⟩ : ∃ k, Hid (k = keys4[n]'hlt) := ⟨_, rfl⟩
      rw [← HKY.out] at hext HZ
      have HNO : Hid (((numOf ps ky : Nat) : Int) = z) := by
        show _ = _
        rw [HZ.out, num_of HM.out.run.room.ok (by rw [HKY.out]; exact keys_len hlt)]
      have NU : ∀ Y, Kept Nil X Y → Calls Tryz.prog 23 #[.slice pa ps.length pc, .string (bs ky)] Y fun e w' => e = .returned (.int .i64 z) ∧ Kept Nil Y w' := fun Y kY => by
        have hm := HM.out.next kY
        obtain ⟨q1, q2, q3⟩ := hm.pairs
        have := number_any _ pc pa ps ky Y (HL.out.kept hm.kw) q1 q2 q3 (by rw [HKY.out]; have := keys_len hlt; omega)
        rw [HNO.out] at this
        exact this
      have CE : ∀ Y, Kept Nil X Y → Y.cell? (sa.add n) = some (.int .i64 z) := fun Y kY => (HM.out.next kY).cell HSA.out (by rw [nums_at _ hlt, HZ.out, HKY.out])
      have hn0 : (0 : Int) ≤ (n : Int) := by omega
      have hwr : IntKind.i64.wrap ((n : Int) + 1) = (n : Int) + 1 := by rw [IntKind.wrap_i64]; omega
      have hn6 : (0 : Int) ≤ (n : Int) + 1 := by omega
      have hn5 : (n : Int) + 1 ≤ 4 := by omega
      have hn7 : (n : Int) ≤ (n : Int) + 1 := by omega
      have hn8 : ((n : Int) + 1).toNat = n + 1 := by omega
      have KD : Hid (Kept Nil X wr.drew) := HK.out.drew
      have cD := CE wr.drew KD.out
      have NU1 := NU wr.drew KD.out
      go_upto_region 50 with fail
      go_region_held3 (fun w' => w'.cell? (sa.add n) = some (.int .i64 z)) (first | assumption | go_keep) (first | (go_at_call 23; go_must (go_fit NU1; rintro e wa ⟨rfl, ka⟩; have Ka : Hid (Kept Nil X wa) := KD.out.trans ka; have sc := CE wa Ka.out)))
      all_goals
        have hzz : (z != z) = false := by simp
        go_wp2
        go_roundw
        case rel => exact ⟨n + 1, by omega, by go_num, Ka.out⟩
        case measure => simp [intOf]; omega
    · obtain rfl : n = 4 := by omega
      have hirr : ¬ ((4 : Nat) : Int) < 4 := by omega
      go_wp2
      exact HKK.out _ _ _ _ _ _ _ _ _ _ _ _ _ _ _ _ _ wr HK.out
end Go.Proofs.YtgkacepcggjfkaaGreatDoor
