/-
  TxnSerial: a round.
-/
import Derived.Test.YtgkacepcggjfkaaGreatDoorWTsB
import Derived.BigQuiet
import Derived.BigRegion
import Derived.StillTailTactics
import Derived.Deep.DeepCutAuto
import Derived.Deep.DeepFit
import Derived.Deep.RegionHeld3
namespace Go.Proofs.YtgkacepcggjfkaaGreatDoor
open Go.RowKit

set_option maxRecDepth 1000000 in
set_option maxHeartbeats 40000000 in
theorem tsTail24 (w w1 X : World) (n0 sb pc c pk lc j tc sc : Nat) (es : List Eb) (T : Nat → Tx) (ps : List Pr) (pa ta so : Option Addr) (sa la pp : Addr) (ts ss : List Int) (fv0 fv3 fv4 fv5 fv6 fv9 fv10 fv11 fv12 fv13 fv14 fv18 fv19 fv20 fv21 fv22 fv23 fv24 fv25 fv26 fv27 fv28 fv29 fv30 fv31 fv32 fv33 fv34 fv35 fv36 fv37 fv38 fv39 fv40 fv41 fv42 fv43 fv44 fv45 fv46 fv47 fv48 fv49 fv50 fv51 fv52 fv53 fv54 fv55 fv56 fv57 fv58 fv59 fv60 fv61 fv62 fv63 fv64 fv65 fv66 fv67 fv68 fv69 fv70 fv71 fv72 fv73 fv74 fv75 fv76 fv77 fv78 fv79 fv80 fv81 fv82 fv83 fv84 fv85 fv86 fv87 fv88 fv89 fv90 fv91 fv92 fv93 fv94 fv95 fv96 fv97 fv98 fv99 fv100 fv101 fv102 fv103 fv104 fv105 fv106 fv107 fv108 fv109 fv110 fv111 fv112 fv113 fv114 fv115 fv116 fv117 fv118 fv119 fv120 fv121 fv122 fv123 fv124 fv125 fv126 fv127 fv128 fv129 fv130 fv131 fv132 fv133 fv134 fv135 fv136 fv137 fv138 fv139 fv140 fv141 fv142 fv143 fv144 fv145 fv146 fv147 fv148 fv149 fv150 fv151 fv152 fv153 fv154 fv155 fv156 fv157 fv158 fv159 fv160 fv161 fv162 fv163 fv164 fv165 fv166 fv167 fv168 fv169 fv170 fv171 fv172 fv173 fv174 fv175 fv176 fv177 fv178 fv179 fv180 fv181 fv182 fv183 fv184 fv185 fv186 fv187 fv188 fv189 fv190 fv191 fv192 fv193 fv194 fv195 fv196 fv197 fv198 fv199 fv200 fv201 fv202 fv203 fv204 fv205 fv206 fv207 fv208 fv209 fv210 fv211 fv212 fv213 fv214 fv215 fv216 fv217 fv218 fv219 fv220 fv221 fv222 fv223 fv224 fv225 fv226 fv227 fv228 fv229 fv230 fv231 fv232 fv233 fv234 fv235 fv236 fv237 fv238 fv239 fv240 fv241 fv242 fv243 fv244 fv245 fv246 fv247 fv248 fv249 fv250 fv251 fv252 fv253 fv254 fv255 : Value) (K1 : Act → World → Prop) (Q9 : Exit → Act → World → Prop)
    (hK : ∀ (u6 u15 u17 u18 u19 u20 u21 u22 u23 u24 u25 u26 u27 u104 u105 u106 u107 u108 u109 u110 u111 u112 u113 u114 u115 u116 u117 u118 u119 u120 u121 u122 u123 u124 u125 u126 u127 u128 u129 u130 u131 u132 u133 u134 u135 u136 u137 u138 u139 u140 u141 u142 u143 u144 u145 u146 u147 u148 u149 u150 u151 u152 u153 u154 u155 u156 u157 u158 u159 u160 u161 u162 u163 u164 u165 u166 u167 u168 u169 u170 u171 u172 u173 u174 u175 u176 u177 u178 u179 u180 u181 u182 u183 u184 u185 u186 u187 u188 u189 u190 u191 u192 u193 u194 u195 u196 u197 u198 u199 u200 u201 u202 u203 u204 u205 u206 u207 u208 u209 u210 u211 u212 u213 u214 u215 u216 u217 u218 u219 u220 u221 u222 u223 u224 u225 u226 u227 u228 u229 u230 u231 u232 u233 u234 u235 u236 u237 u238 u239 u240 u241 u242 u243 u244 u245 : Value) (ps2 : List Pr) (pa2 : Option Addr) (pc2 : Nat) (T2 : Nat → Tx) (wc : World), Hid (u15 = .slice pa2 ps2.length pc2 ∧ u17 = .int .i64 ((j : Int) + 1) ∧ MS w w1 n0 sb es wc T2 ps2 pa2 pc2 (c + 1) (numsL (St.of ps2)) ∧ J7 (St.of ps2) (T2 7) ∧ (ts.length ≤ j → mu7 (T2 7).ph ≤ mu7 (T 7).ph - 1)) → K1 ⟨#[fv0, .slice ta ts.length tc, .slice so ss.length sc, fv3, fv4, fv5, u6, .slice (some la) es.length lc, .slice (some pp) es.length pk, fv9, fv10, fv11, fv12, fv13, fv14, u15, .slice (some sa) 4 4, u17, u18, u19, u20, u21, u22, u23, u24, u25, u26, u27, fv28, fv29, fv30, fv31, fv32, fv33, fv34, fv35, fv36, fv37, fv38, fv39, fv40, fv41, fv42, fv43, fv44, fv45, fv46, fv47, fv48, fv49, fv50, fv51, fv52, fv53, fv54, fv55, fv56, fv57, fv58, fv59, fv60, fv61, fv62, fv63, fv64, fv65, fv66, fv67, fv68, fv69, fv70, fv71, fv72, fv73, fv74, fv75, fv76, fv77, fv78, fv79, fv80, fv81, fv82, fv83, fv84, fv85, fv86, fv87, fv88, fv89, fv90, fv91, fv92, fv93, fv94, fv95, fv96, fv97, fv98, fv99, fv100, fv101, fv102, fv103, u104, u105, u106, u107, u108, u109, u110, u111, u112, u113, u114, u115, u116, u117, u118, u119, u120, u121, u122, u123, u124, u125, u126, u127, u128, u129, u130, u131, u132, u133, u134, u135, u136, u137, u138, u139, u140, u141, u142, u143, u144, u145, u146, u147, u148, u149, u150, u151, u152, u153, u154, u155, u156, u157, u158, u159, u160, u161, u162, u163, u164, u165, u166, u167, u168, u169, u170, u171, u172, u173, u174, u175, u176, u177, u178, u179, u180, u181, u182, u183, u184, u185, u186, u187, u188, u189, u190, u191, u192, u193, u194, u195, u196, u197, u198, u199, u200, u201, u202, u203, u204, u205, u206, u207, u208, u209, u210, u211, u212, u213, u214, u215, u216, u217, u218, u219, u220, u221, u222, u223, u224, u225, u226, u227, u228, u229, u230, u231, u232, u233, u234, u235, u236, u237, u238, u239, u240, u241, u242, u243, u244, u245, fv246, fv247, fv248, fv249, fv250, fv251, fv252, fv253, fv254, fv255], []⟩ wc)
    (HM : Hid (MS w w1 n0 sb es X T ps pa pc c (numsL (St.of ps)))) (HJ : Hid (J7 (St.of ps) (T 7))) (HSA : Hid (sa = ⟨sb, 0, none⟩)) (HL : Hid (LD w)) (HLR : Hid (LR w1 sb es la pp)) (HKE : Hid (∀ e ∈ es, (∀ p ∈ e.ps, ∃ a : Nat, keys4[a]? = some p.k) ∧ e.ps.length ≤ 4)) (HI7 : Hid (InE es 7)) (HAL : Hid (∀ T : Nat → Tx, (∀ i, (T i).ps = (enAt es i).ps) → Alone T (InE es) 7)) (HND : Hid ((es.map Eb.id).Nodup)) (HRT : Hid (IntRow w.heap.size w ta ts)) (HRS : Hid (IntRow w.heap.size w so ss)) (hl7 : es.length ≤ 7) (hl1 : 1 ≤ es.length) (HLA : Hid (∀ h : es.length - 1 < es.length, es[es.length - 1].id = 7)) (hts : (ts.length : Int) ≤ 16384) (hc : c ≤ 1000000) (hj : (j : Int) < ts.length + 40) :
    Code.wp Tryz.prog sT24 (Exit.then K1 Q9) ⟨#[fv0, .slice ta ts.length tc, .slice so ss.length sc, fv3, fv4, fv5, fv6, .slice (some la) es.length lc, .slice (some pp) es.length pk, fv9, fv10, fv11, fv12, fv13, fv14, .slice pa ps.length pc, .slice (some sa) 4 4, .int .i64 j, fv18, fv19, fv20, fv21, fv22, fv23, fv24, fv25, fv26, fv27, fv28, fv29, fv30, fv31, fv32, fv33, fv34, fv35, fv36, fv37, fv38, fv39, fv40, fv41, fv42, fv43, fv44, fv45, fv46, fv47, fv48, fv49, fv50, fv51, fv52, fv53, fv54, fv55, fv56, fv57, fv58, fv59, fv60, fv61, fv62, fv63, fv64, fv65, fv66, fv67, fv68, fv69, fv70, fv71, fv72, fv73, fv74, fv75, fv76, fv77, fv78, fv79, fv80, fv81, fv82, fv83, fv84, fv85, fv86, fv87, fv88, fv89, fv90, fv91, fv92, fv93, fv94, fv95, fv96, fv97, fv98, fv99, fv100, fv101, fv102, fv103, fv104, fv105, fv106, fv107, fv108, fv109, fv110, fv111, fv112, fv113, fv114, fv115, fv116, fv117, fv118, fv119, fv120, fv121, fv122, fv123, fv124, fv125, fv126, fv127, fv128, fv129, fv130, fv131, fv132, fv133, fv134, fv135, fv136, fv137, fv138, fv139, fv140, fv141, fv142, fv143, fv144, fv145, fv146, fv147, fv148, fv149, fv150, fv151, fv152, fv153, fv154, fv155, fv156, fv157, fv158, fv159, fv160, fv161, fv162, fv163, fv164, fv165, fv166, fv167, fv168, fv169, fv170, fv171, fv172, fv173, fv174, fv175, fv176, fv177, fv178, fv179, fv180, fv181, fv182, fv183, fv184, fv185, fv186, fv187, fv188, fv189, fv190, fv191, fv192, fv193, fv194, fv195, fv196, fv197, fv198, fv199, fv200, fv201, fv202, fv203, fv204, fv205, fv206, fv207, fv208, fv209, fv210, fv211, fv212, fv213, fv214, fv215, fv216, fv217, fv218, fv219, fv220, fv221, fv222, fv223, fv224, fv225, fv226, fv227, fv228, fv229, fv230, fv231, fv232, fv233, fv234, fv235, fv236, fv237, fv238, fv239, fv240, fv241, fv242, fv243, fv244, fv245, fv246, fv247, fv248, fv249, fv250, fv251, fv252, fv253, fv254, fv255], []⟩ X := by
  have HKK : Hid (∀ (u6 u15 u17 u18 u19 u20 u21 u22 u23 u24 u25 u26 u27 u104 u105 u106 u107 u108 u109 u110 u111 u112 u113 u114 u115 u116 u117 u118 u119 u120 u121 u122 u123 u124 u125 u126 u127 u128 u129 u130 u131 u132 u133 u134 u135 u136 u137 u138 u139 u140 u141 u142 u143 u144 u145 u146 u147 u148 u149 u150 u151 u152 u153 u154 u155 u156 u157 u158 u159 u160 u161 u162 u163 u164 u165 u166 u167 u168 u169 u170 u171 u172 u173 u174 u175 u176 u177 u178 u179 u180 u181 u182 u183 u184 u185 u186 u187 u188 u189 u190 u191 u192 u193 u194 u195 u196 u197 u198 u199 u200 u201 u202 u203 u204 u205 u206 u207 u208 u209 u210 u211 u212 u213 u214 u215 u216 u217 u218 u219 u220 u221 u222 u223 u224 u225 u226 u227 u228 u229 u230 u231 u232 u233 u234 u235 u236 u237 u238 u239 u240 u241 u242 u243 u244 u245 : Value) (ps2 : List Pr) (pa2 : Option Addr) (pc2 : Nat) (T2 : Nat → Tx) (wc : World), Hid (u15 = .slice pa2 ps2.length pc2 ∧ u17 = .int .i64 ((j : Int) + 1) ∧ MS w w1 n0 sb es wc T2 ps2 pa2 pc2 (c + 1) (numsL (St.of ps2)) ∧ J7 (St.of ps2) (T2 7) ∧ (ts.length ≤ j → mu7 (T2 7).ph ≤ mu7 (T 7).ph - 1)) → K1 ⟨#[fv0, .slice ta ts.length tc, .slice so ss.length sc, fv3, fv4, fv5, u6, .slice (some la) es.length lc, .slice (some pp) es.length pk, fv9, fv10, fv11, fv12, fv13, fv14, u15, .slice (some sa) 4 4, u17, u18, u19, u20, u21, u22, u23, u24, u25, u26, u27, fv28, fv29, fv30, fv31, fv32, fv33, fv34, fv35, fv36, fv37, fv38, fv39, fv40, fv41, fv42, fv43, fv44, fv45, fv46, fv47, fv48, fv49, fv50, fv51, fv52, fv53, fv54, fv55, fv56, fv57, fv58, fv59, fv60, fv61, fv62, fv63, fv64, fv65, fv66, fv67, fv68, fv69, fv70, fv71, fv72, fv73, fv74, fv75, fv76, fv77, fv78, fv79, fv80, fv81, fv82, fv83, fv84, fv85, fv86, fv87, fv88, fv89, fv90, fv91, fv92, fv93, fv94, fv95, fv96, fv97, fv98, fv99, fv100, fv101, fv102, fv103, u104, u105, u106, u107, u108, u109, u110, u111, u112, u113, u114, u115, u116, u117, u118, u119, u120, u121, u122, u123, u124, u125, u126, u127, u128, u129, u130, u131, u132, u133, u134, u135, u136, u137, u138, u139, u140, u141, u142, u143, u144, u145, u146, u147, u148, u149, u150, u151, u152, u153, u154, u155, u156, u157, u158, u159, u160, u161, u162, u163, u164, u165, u166, u167, u168, u169, u170, u171, u172, u173, u174, u175, u176, u177, u178, u179, u180, u181, u182, u183, u184, u185, u186, u187, u188, u189, u190, u191, u192, u193, u194, u195, u196, u197, u198, u199, u200, u201, u202, u203, u204, u205, u206, u207, u208, u209, u210, u211, u212, u213, u214, u215, u216, u217, u218, u219, u220, u221, u222, u223, u224, u225, u226, u227, u228, u229, u230, u231, u232, u233, u234, u235, u236, u237, u238, u239, u240, u241, u242, u243, u244, u245, fv246, fv247, fv248, fv249, fv250, fv251, fv252, fv253, fv254, fv255], []⟩ wc) := hK
  clear hK
  conv => arg 2; whnf
  dsimp only
  have hl0 : (0 : Int) < (es.length : Int) := by omega
  have HSK : Hid (MS w w1 n0 sb es X T ps pa pc (c + 1) (numsL (St.of ps)) ∧ J7 (St.of ps) (T 7) ∧ (ts.length ≤ j → j < ts.length → mu7 (T 7).ph ≤ mu7 (T 7).ph - 1)) := ⟨HM.out.more, HJ.out, fun h h2 => absurd h (by omega)⟩
  go_upto_if 112 with fail
  go_cut [18] from 109 to 132 (fun u wc => Hid (∃ k : Nat, k < es.length ∧ u = .int .i64 k ∧ Kept Nil X wc ∧ (ts.length ≤ j → k = es.length - 1)))
  case first =>
    by_cases hlt : j < ts.length
    · have hji : (j : Int) < ts.length := by omega
      obtain ⟨a, e1, _, c0⟩ := (HRT.out.nil HM.out.kw) j hlt
      subst e1
      obtain ⟨z, HZ⟩ : ∃ z : Int, Hid (z = ts[j]) := ⟨ts[j], (rfl : ts[j] = ts[j])⟩
      rw [← HZ.out] at c0
      have PK := pickT_any z es.length X hl0 (by omega)
      obtain ⟨k, Hk⟩ : ∃ k : Nat, Hid (k = (z % (es.length : Int)).toNat) := ⟨_, rfl⟩
      have hk0 := Int.emod_nonneg z (show (es.length : Int) ≠ 0 by omega)
      have hk1 := Int.emod_lt_of_pos z hl0
      have HKZ : Hid (z % (es.length : Int) = (k : Int)) := by show _ = _; rw [Hk.out]; omega
      rw [HKZ.out] at PK
      have hkl : k < es.length := by have := HKZ.out; omega
      clear hk0 hk1
      go_wp2_with fail
      go_fit PK
      rintro ee w2 ⟨rfl, hw2⟩
      subst hw2
      clear PK
      have HOK : Hid (∃ k' : Nat, k' < es.length ∧ (.int .i64 (k : Int) : Value) = .int .i64 k' ∧ Kept Nil w2 w2 ∧ (ts.length ≤ j → k' = es.length - 1)) := ⟨k, hkl, rfl, Kept.refl _ _, fun h => absurd h (by omega)⟩
      by_cases hks : k < ss.length
      · have hksi : (k : Int) < ss.length := by omega
        obtain ⟨b, e2, _, d0⟩ := (HRS.out.nil HM.out.kw) k hks
        subst e2
        obtain ⟨y, HY⟩ : ∃ y : Int, Hid (y = ss[k]) := ⟨ss[k], (rfl : ss[k] = ss[k])⟩
        rw [← HY.out] at d0
        have P2 := pickT_any y 200 w2 (by decide) (by decide)
        obtain ⟨v, HV⟩ : ∃ v, Hid (v = y % 200) := ⟨_, rfl⟩
        rw [← HV.out] at P2
        go_wp2_with fail
        go_fit P2
        rintro ee w3 ⟨rfl, hw3⟩
        subst hw3
        clear P2
        by_cases hv : v < (j : Int)
        · have hvb : decide (v < (j : Int)) = true := decide_eq_true hv
          go_wp2
          exact HKK.out _ _ _ _ _ _ _ _ _ _ _ _ _ _ _ _ _ _ _ _ _ _ _ _ _ _ _ _ _ _ _ _ _ _ _ _ _ _ _ _ _ _ _ _ _ _ _ _ _ _ _ _ _ _ _ _ _ _ _ _ _ _ _ _ _ _ _ _ _ _ _ _ _ _ _ _ _ _ _ _ _ _ _ _ _ _ _ _ _ _ _ _ _ _ _ _ _ _ _ _ _ _ _ _ _ _ _ _ _ _ _ _ _ _ _ _ _ _ _ _ _ _ _ _ _ _ _ _ _ _ _ _ _ _ _ _ _ _ _ _ _ _ _ _ _ _ _ _ _ _ _ _ _ _ _ ps pa pc T _ ⟨rfl, rfl, HSK.out.1, HSK.out.2.1, fun h => HSK.out.2.2 h hlt⟩
        · have hvb : decide (v < (j : Int)) = false := decide_eq_false hv
          go_wp2
          go_meet
          exact HOK.out
      · have hksb : decide ((k : Int) < (ss.length : Int)) = false := decide_eq_false (by omega)
        go_wp2
        go_meet
        exact HOK.out
    · have hjb : decide ((j : Int) < (ts.length : Int)) = false := decide_eq_false (by omega)
      have hj2 : ¬ (j : Int) < ts.length := by omega
      obtain ⟨k, Hk⟩ : ∃ k : Nat, Hid (k = es.length - 1) := ⟨_, rfl⟩
      have hkk : (es.length : Int) - 1 = (k : Int) := by rw [Hk.out]; omega
      have HOK : Hid (∃ k' : Nat, k' < es.length ∧ (.int .i64 ((es.length : Int) - 1) : Value) = .int .i64 k' ∧ Kept Nil X X ∧ (ts.length ≤ j → k' = es.length - 1)) := ⟨k, by rw [Hk.out]; omega, by rw [hkk], Kept.refl _ _, fun _ => Hk.out⟩
      clear hkk
      go_wp2
      go_meet
      exact HOK.out
  case rest =>
    obtain ⟨k, hk, e18, kX, hkj⟩ := hcut.out
    subst e18
    rename World => w6
    have HM6 : Hid (MS w w1 n0 sb es w6 T ps pa pc c (numsL (St.of ps))) := HM.out.next kX
    have HKJ : Hid (ts.length ≤ j → k = es.length - 1) := hkj
    clear hcut kX hkj
    apply_assumption
    refine tsTail28 w w1 w6 n0 sb pc c k pk lc es T ps pa sa la pp es[k] _ _ _ _ _ _ _ _ _ _ _ _ _ _ _ _ _ _ _ _ _ _ _ _ _ _ _ _ _ _ _ _ _ _ _ _ _ _ _ _ _ _ _ _ _ _ _ _ _ _ _ _ _ _ _ _ _ _ _ _ _ _ _ _ _ _ _ _ _ _ _ _ _ _ _ _ _ _ _ _ _ _ _ _ _ _ _ _ _ _ _ _ _ _ _ _ _ _ _ _ _ _ _ _ _ _ _ _ _ _ _ _ _ _ _ _ _ _ _ _ _ _ _ _ _ _ _ _ _ _ _ _ _ _ _ _ _ _ _ _ _ _ _ _ _ _ _ _ _ _ _ _ _ _ _ _ _ _ _ _ _ _ _ _ _ _ _ _ _ _ _ _ _ _ _ _ _ _ _ _ _ _ _ _ _ _ _ _ _ _ _ _ _ _ _ _ _ _ _ _ _ _ _ _ _ _ _ _ _ _ _ _ _ _ _ _ _ _ _ _ _ _ _ _ _ _ _ _ _ _ _ _ _ _ _ _ _ _ _ _ _ _ _ _ _ _ _ _ _ _ _ _ _ ?_ HM6 HJ HSA HL HLR HKE HI7 HAL HND hl7 hc hk rfl
    intro u6 u15 u19 u20 u21 u22 u23 u24 u25 u26 u27 u133 u134 u135 u136 u137 u138 u139 u140 u141 u142 u143 u144 u145 u146 u147 u148 u149 u150 u151 u152 u153 u154 u155 u156 u157 u158 u159 u160 u161 u162 u163 u164 u165 u166 u167 u168 u169 u170 u171 u172 u173 u174 u175 u176 u177 u178 u179 u180 u181 u182 u183 u184 u185 u186 u187 u188 u189 u190 u191 u192 u193 u194 u195 u196 u197 u198 u199 u200 u201 u202 u203 u204 u205 u206 u207 u208 u209 u210 u211 u212 u213 u214 u215 u216 u217 u218 u219 u220 u221 u222 u223 u224 u225 u226 u227 u228 u229 u230 u231 u232 u233 u234 u235 u236 u237 u238 u239 u240 u241 u242 u243 u244 u245 ps2 pa2 pc2 T2 wz h1
    obtain ⟨h1a, h1b, h1c⟩ := h1.out
    subst h1a
    apply_assumption
    go_wp2
    exact HKK.out _ _ _ _ _ _ _ _ _ _ _ _ _ _ _ _ _ _ _ _ _ _ _ _ _ _ _ _ _ _ _ _ _ _ _ _ _ _ _ _ _ _ _ _ _ _ _ _ _ _ _ _ _ _ _ _ _ _ _ _ _ _ _ _ _ _ _ _ _ _ _ _ _ _ _ _ _ _ _ _ _ _ _ _ _ _ _ _ _ _ _ _ _ _ _ _ _ _ _ _ _ _ _ _ _ _ _ _ _ _ _ _ _ _ _ _ _ _ _ _ _ _ _ _ _ _ _ _ _ _ _ _ _ _ _ _ _ _ _ _ _ _ _ _ _ _ _ _ _ _ _ _ _ _ _ ps2 pa2 pc2 T2 wz ⟨rfl, rfl, h1b, h1c.j, fun h => h1c.mu (by have e9 := HKJ.out h; subst e9; exact HLA.out hk)⟩
end Go.Proofs.YtgkacepcggjfkaaGreatDoor
