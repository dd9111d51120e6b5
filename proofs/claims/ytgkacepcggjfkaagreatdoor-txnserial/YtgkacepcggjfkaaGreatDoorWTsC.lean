/-
  TxnSerial: a round from the look behind the answer on.
-/
import Derived.Test.YtgkacepcggjfkaaGreatDoorWTsN
import Derived.Test.YtgkacepcggjfkaaGreatDoorWTsD
import Derived.BigQuiet
import Derived.BigRegion
import Derived.StillTailTactics
import Derived.Deep.DeepCutAuto
import Derived.Deep.DeepFit
import Derived.Deep.RegionHeld3
namespace Go.Proofs.YtgkacepcggjfkaaGreatDoor
open Go.RowKit

set_option maxRecDepth 1000000 in
set_option maxHeartbeats 40000000 in
theorem tsTail35 (w w1 X : World) (n0 sb pc c A k pk oc : Nat) (es : List Eb) (T : Nat → Tx) (ps ps0 : List Pr) (pa oa : Option Addr) (sa la pp : Addr) (e : Eb) (t0 t : Tx) (fv0 fv1 fv2 fv3 fv4 fv5 fv6 fv7 fv9 fv10 fv11 fv12 fv13 fv14 fv17 fv20 fv21 fv22 fv23 fv25 fv26 fv27 fv28 fv29 fv30 fv31 fv32 fv33 fv34 fv35 fv36 fv37 fv38 fv39 fv40 fv41 fv42 fv43 fv44 fv45 fv46 fv47 fv48 fv49 fv50 fv51 fv52 fv53 fv54 fv55 fv56 fv57 fv58 fv59 fv60 fv61 fv62 fv63 fv64 fv65 fv66 fv67 fv68 fv69 fv70 fv71 fv72 fv73 fv74 fv75 fv76 fv77 fv78 fv79 fv80 fv81 fv82 fv83 fv84 fv85 fv86 fv87 fv88 fv89 fv90 fv91 fv92 fv93 fv94 fv95 fv96 fv97 fv98 fv99 fv100 fv101 fv102 fv103 fv104 fv105 fv106 fv107 fv108 fv109 fv110 fv111 fv112 fv113 fv114 fv115 fv116 fv117 fv118 fv119 fv120 fv121 fv122 fv123 fv124 fv125 fv126 fv127 fv128 fv129 fv130 fv131 fv132 fv133 fv134 fv135 fv136 fv137 fv138 fv139 fv140 fv141 fv142 fv143 fv144 fv145 fv146 fv147 fv148 fv149 fv150 fv151 fv152 fv153 fv154 fv155 fv156 fv157 fv158 fv159 fv160 fv161 fv162 fv163 fv164 fv165 fv166 fv167 fv168 fv169 fv170 fv171 fv172 fv173 fv174 fv175 fv176 fv177 fv178 fv179 fv180 fv181 fv182 fv183 fv184 fv185 fv186 fv187 fv188 fv189 fv190 fv191 fv192 fv193 fv194 fv195 fv196 fv197 fv198 fv199 fv200 fv201 fv202 fv203 fv204 fv205 fv206 fv207 fv208 fv209 fv210 fv211 fv212 fv213 fv214 fv215 fv216 fv217 fv218 fv219 fv220 fv221 fv222 fv223 fv224 fv225 fv226 fv227 fv228 fv229 fv230 fv231 fv232 fv233 fv234 fv235 fv236 fv237 fv238 fv239 fv240 fv241 fv242 fv243 fv244 fv245 fv246 fv247 fv248 fv249 fv250 fv251 fv252 fv253 fv254 fv255 : Value) (K1 : Act → World → Prop) (Q9 : Exit → Act → World → Prop)
    (hK : ∀ (u6 u25 u26 u27 u166 u167 u168 u169 u170 u171 u172 u173 u174 u175 u176 u177 u178 u179 u180 u181 u182 u183 u184 u185 u186 u187 u188 u189 u190 u191 u192 u193 u194 u195 u196 u197 u198 u199 u200 u201 u202 u203 u204 u205 u206 u207 u208 u209 u210 u211 u212 u213 u214 u215 u216 u217 u218 u219 u220 u221 u222 u223 u224 u225 u226 u227 u228 u229 u230 u231 u232 u233 u234 u235 u236 u237 u238 u239 u240 u241 u242 u243 u244 u245 : Value)  (wc : World), Hid (MS w w1 n0 sb es wc T ps pa pc c (numsL (St.of ps))) → K1 ⟨#[fv0, fv1, fv2, fv3, fv4, fv5, u6, fv7, .slice (some pp) es.length pk, fv9, fv10, fv11, fv12, fv13, fv14, .slice pa ps.length pc, .slice (some sa) 4 4, fv17, .int .i64 k, .int .i64 t0.st, fv20, fv21, fv22, fv23, .pointer (some ⟨A, 0, none⟩), u25, u26, u27, fv28, fv29, fv30, fv31, fv32, fv33, fv34, fv35, fv36, fv37, fv38, fv39, fv40, fv41, fv42, fv43, fv44, fv45, fv46, fv47, fv48, fv49, fv50, fv51, fv52, fv53, fv54, fv55, fv56, fv57, fv58, fv59, fv60, fv61, fv62, fv63, fv64, fv65, fv66, fv67, fv68, fv69, fv70, fv71, fv72, fv73, fv74, fv75, fv76, fv77, fv78, fv79, fv80, fv81, fv82, fv83, fv84, fv85, fv86, fv87, fv88, fv89, fv90, fv91, fv92, fv93, fv94, fv95, fv96, fv97, fv98, fv99, fv100, fv101, fv102, fv103, fv104, fv105, fv106, fv107, fv108, fv109, fv110, fv111, fv112, fv113, fv114, fv115, fv116, fv117, fv118, fv119, fv120, fv121, fv122, fv123, fv124, fv125, fv126, fv127, fv128, fv129, fv130, fv131, fv132, fv133, fv134, fv135, fv136, fv137, fv138, fv139, fv140, fv141, fv142, fv143, fv144, fv145, fv146, fv147, fv148, fv149, fv150, fv151, fv152, fv153, fv154, fv155, fv156, fv157, fv158, fv159, fv160, fv161, fv162, fv163, fv164, fv165, u166, u167, u168, u169, u170, u171, u172, u173, u174, u175, u176, u177, u178, u179, u180, u181, u182, u183, u184, u185, u186, u187, u188, u189, u190, u191, u192, u193, u194, u195, u196, u197, u198, u199, u200, u201, u202, u203, u204, u205, u206, u207, u208, u209, u210, u211, u212, u213, u214, u215, u216, u217, u218, u219, u220, u221, u222, u223, u224, u225, u226, u227, u228, u229, u230, u231, u232, u233, u234, u235, u236, u237, u238, u239, u240, u241, u242, u243, u244, u245, fv246, fv247, fv248, fv249, fv250, fv251, fv252, fv253, fv254, fv255], []⟩ wc)
    (HM : Hid (MS w w1 n0 sb es X T ps pa pc c (numsL (St.of ps0)))) (HSA : Hid (sa = ⟨sb, 0, none⟩)) (HL : Hid (LD w)) (HLR : Hid (LR w1 sb es la pp)) (hk : k < es.length) (HE : Hid (e = es[k])) (HT : Hid (t = T e.id ∧ t.ps = e.ps ∧ t0.ps = e.ps)) (HMK : Hid (Makes (St.of ps0) (St.of ps) t0 t)) (HA : Hid (X.heap[A]? = some (.cells #[.int .i64 t.st, .slice oa t.old.length oc] 39 (0, 0)))) (hAs : A ≠ sb) (HOA : Hid (OwnI w1.heap.size X oa oc t.old)) (HKE : Hid (∀ p ∈ e.ps, ∃ a : Nat, keys4[a]? = some p.k)) (HIN : Hid (InE es e.id)) (HLN : Hid (e.ps.length ≤ 4)) :
    Code.wp Tryz.prog sT35 (Exit.inBlock 3 (Exit.then K1 Q9)) ⟨#[fv0, fv1, fv2, fv3, fv4, fv5, fv6, fv7, .slice (some pp) es.length pk, fv9, fv10, fv11, fv12, fv13, fv14, .slice pa ps.length pc, .slice (some sa) 4 4, fv17, .int .i64 k, .int .i64 t0.st, fv20, fv21, fv22, fv23, .pointer (some ⟨A, 0, none⟩), fv25, fv26, fv27, fv28, fv29, fv30, fv31, fv32, fv33, fv34, fv35, fv36, fv37, fv38, fv39, fv40, fv41, fv42, fv43, fv44, fv45, fv46, fv47, fv48, fv49, fv50, fv51, fv52, fv53, fv54, fv55, fv56, fv57, fv58, fv59, fv60, fv61, fv62, fv63, fv64, fv65, fv66, fv67, fv68, fv69, fv70, fv71, fv72, fv73, fv74, fv75, fv76, fv77, fv78, fv79, fv80, fv81, fv82, fv83, fv84, fv85, fv86, fv87, fv88, fv89, fv90, fv91, fv92, fv93, fv94, fv95, fv96, fv97, fv98, fv99, fv100, fv101, fv102, fv103, fv104, fv105, fv106, fv107, fv108, fv109, fv110, fv111, fv112, fv113, fv114, fv115, fv116, fv117, fv118, fv119, fv120, fv121, fv122, fv123, fv124, fv125, fv126, fv127, fv128, fv129, fv130, fv131, fv132, fv133, fv134, fv135, fv136, fv137, fv138, fv139, fv140, fv141, fv142, fv143, fv144, fv145, fv146, fv147, fv148, fv149, fv150, fv151, fv152, fv153, fv154, fv155, fv156, fv157, fv158, fv159, fv160, fv161, fv162, fv163, fv164, fv165, fv166, fv167, fv168, fv169, fv170, fv171, fv172, fv173, fv174, fv175, fv176, fv177, fv178, fv179, fv180, fv181, fv182, fv183, fv184, fv185, fv186, fv187, fv188, fv189, fv190, fv191, fv192, fv193, fv194, fv195, fv196, fv197, fv198, fv199, fv200, fv201, fv202, fv203, fv204, fv205, fv206, fv207, fv208, fv209, fv210, fv211, fv212, fv213, fv214, fv215, fv216, fv217, fv218, fv219, fv220, fv221, fv222, fv223, fv224, fv225, fv226, fv227, fv228, fv229, fv230, fv231, fv232, fv233, fv234, fv235, fv236, fv237, fv238, fv239, fv240, fv241, fv242, fv243, fv244, fv245, fv246, fv247, fv248, fv249, fv250, fv251, fv252, fv253, fv254, fv255], []⟩ X := by
  have HKK : Hid (∀ (u6 u25 u26 u27 u166 u167 u168 u169 u170 u171 u172 u173 u174 u175 u176 u177 u178 u179 u180 u181 u182 u183 u184 u185 u186 u187 u188 u189 u190 u191 u192 u193 u194 u195 u196 u197 u198 u199 u200 u201 u202 u203 u204 u205 u206 u207 u208 u209 u210 u211 u212 u213 u214 u215 u216 u217 u218 u219 u220 u221 u222 u223 u224 u225 u226 u227 u228 u229 u230 u231 u232 u233 u234 u235 u236 u237 u238 u239 u240 u241 u242 u243 u244 u245 : Value)  (wc : World), Hid (MS w w1 n0 sb es wc T ps pa pc c (numsL (St.of ps))) → K1 ⟨#[fv0, fv1, fv2, fv3, fv4, fv5, u6, fv7, .slice (some pp) es.length pk, fv9, fv10, fv11, fv12, fv13, fv14, .slice pa ps.length pc, .slice (some sa) 4 4, fv17, .int .i64 k, .int .i64 t0.st, fv20, fv21, fv22, fv23, .pointer (some ⟨A, 0, none⟩), u25, u26, u27, fv28, fv29, fv30, fv31, fv32, fv33, fv34, fv35, fv36, fv37, fv38, fv39, fv40, fv41, fv42, fv43, fv44, fv45, fv46, fv47, fv48, fv49, fv50, fv51, fv52, fv53, fv54, fv55, fv56, fv57, fv58, fv59, fv60, fv61, fv62, fv63, fv64, fv65, fv66, fv67, fv68, fv69, fv70, fv71, fv72, fv73, fv74, fv75, fv76, fv77, fv78, fv79, fv80, fv81, fv82, fv83, fv84, fv85, fv86, fv87, fv88, fv89, fv90, fv91, fv92, fv93, fv94, fv95, fv96, fv97, fv98, fv99, fv100, fv101, fv102, fv103, fv104, fv105, fv106, fv107, fv108, fv109, fv110, fv111, fv112, fv113, fv114, fv115, fv116, fv117, fv118, fv119, fv120, fv121, fv122, fv123, fv124, fv125, fv126, fv127, fv128, fv129, fv130, fv131, fv132, fv133, fv134, fv135, fv136, fv137, fv138, fv139, fv140, fv141, fv142, fv143, fv144, fv145, fv146, fv147, fv148, fv149, fv150, fv151, fv152, fv153, fv154, fv155, fv156, fv157, fv158, fv159, fv160, fv161, fv162, fv163, fv164, fv165, u166, u167, u168, u169, u170, u171, u172, u173, u174, u175, u176, u177, u178, u179, u180, u181, u182, u183, u184, u185, u186, u187, u188, u189, u190, u191, u192, u193, u194, u195, u196, u197, u198, u199, u200, u201, u202, u203, u204, u205, u206, u207, u208, u209, u210, u211, u212, u213, u214, u215, u216, u217, u218, u219, u220, u221, u222, u223, u224, u225, u226, u227, u228, u229, u230, u231, u232, u233, u234, u235, u236, u237, u238, u239, u240, u241, u242, u243, u244, u245, fv246, fv247, fv248, fv249, fv250, fv251, fv252, fv253, fv254, fv255], []⟩ wc) := hK
  clear hK
  conv => arg 2; whnf
  dsimp only
  have a0 : X.cell? ⟨A, 0, none⟩ = some (.int .i64 t.st) := blk_at HA.out 0 rfl
  rcases HMK.out with ⟨h1, h2⟩ | ⟨e1, e2, e3, e4, h5, h6⟩
  · have HM2 : Hid (MS w w1 n0 sb es X T ps pa pc c (numsL (St.of ps))) := by
      have e : numsL (St.of ps) = numsL (St.of ps0) := by
        unfold numsL
        exact List.map_congr_left fun k _ => by rw [h1 k]
      rw [e]
      exact HM.out
    by_cases c1 : t0.st = 1
    · have hst : t.st ≠ 2 := fun x => by have := h2.1 x; omega
      have b1 : ((t0.st : Int) == 1) = true := by simp; omega
      have b2 : ((t.st : Int) == 2) = false := by simp; omega
      clear h1 h2 HMK c1 hst
      go_upto_if 172 with fail
      go_cut [6, 25, 26] from 173 to 230 (fun _ _ _ wc => Hid (MS w w1 n0 sb es wc T ps pa pc c (numsL (St.of ps))))
      case first =>
        go_wp2
        go_meet
        exact HM2.out
      case rest =>
        have HM7 := hcut
        rename World => w7
        apply_assumption
        refine tsTail47 w w1 w7 n0 sb pc c es T ps pa sa _ _ _ _ _ _ _ _ _ _ _ _ _ _ _ _ _ _ _ _ _ _ _ _ _ _ _ _ _ _ _ _ _ _ _ _ _ _ _ _ _ _ _ _ _ _ _ _ _ _ _ _ _ _ _ _ _ _ _ _ _ _ _ _ _ _ _ _ _ _ _ _ _ _ _ _ _ _ _ _ _ _ _ _ _ _ _ _ _ _ _ _ _ _ _ _ _ _ _ _ _ _ _ _ _ _ _ _ _ _ _ _ _ _ _ _ _ _ _ _ _ _ _ _ _ _ _ _ _ _ _ _ _ _ _ _ _ _ _ _ _ _ _ _ _ _ _ _ _ _ _ _ _ _ _ _ _ _ _ _ _ _ _ _ _ _ _ _ _ _ _ _ _ _ _ _ _ _ _ _ _ _ _ _ _ _ _ _ _ _ _ _ _ _ _ _ _ _ _ _ _ _ _ _ _ _ _ _ _ _ _ _ _ _ _ _ _ _ _ _ _ _ _ _ _ _ _ _ _ _ _ _ _ _ _ _ _ _ _ _ _ _ _ _ _ _ _ _ _ _ _ _ _ _ _ _ ?_ HM7 HSA HL
        intro u6 u27 u231 u232 u233 u234 u235 u236 u237 u238 u239 u240 u241 u242 u243 u244 u245 wz h1
        exact HKK.out _ _ _ _ _ _ _ _ _ _ _ _ _ _ _ _ _ _ _ _ _ _ _ _ _ _ _ _ _ _ _ _ _ _ _ _ _ _ _ _ _ _ _ _ _ _ _ _ _ _ _ _ _ _ _ _ _ _ _ _ _ _ _ _ _ _ _ _ _ _ _ _ _ _ _ _ _ _ _ _ _ _ _ _ wz (HM7.out.next h1.out)

    · have b1 : ((t0.st : Int) == 1) = false := by simp; omega
      clear h1 h2 HMK c1
      go_upto_if 172 with fail
      go_cut [6, 25, 26] from 173 to 230 (fun _ _ _ wc => Hid (MS w w1 n0 sb es wc T ps pa pc c (numsL (St.of ps))))
      case first =>
        go_wp2
        go_meet
        exact HM2.out
      case rest =>
        have HM7 := hcut
        rename World => w7
        apply_assumption
        refine tsTail47 w w1 w7 n0 sb pc c es T ps pa sa _ _ _ _ _ _ _ _ _ _ _ _ _ _ _ _ _ _ _ _ _ _ _ _ _ _ _ _ _ _ _ _ _ _ _ _ _ _ _ _ _ _ _ _ _ _ _ _ _ _ _ _ _ _ _ _ _ _ _ _ _ _ _ _ _ _ _ _ _ _ _ _ _ _ _ _ _ _ _ _ _ _ _ _ _ _ _ _ _ _ _ _ _ _ _ _ _ _ _ _ _ _ _ _ _ _ _ _ _ _ _ _ _ _ _ _ _ _ _ _ _ _ _ _ _ _ _ _ _ _ _ _ _ _ _ _ _ _ _ _ _ _ _ _ _ _ _ _ _ _ _ _ _ _ _ _ _ _ _ _ _ _ _ _ _ _ _ _ _ _ _ _ _ _ _ _ _ _ _ _ _ _ _ _ _ _ _ _ _ _ _ _ _ _ _ _ _ _ _ _ _ _ _ _ _ _ _ _ _ _ _ _ _ _ _ _ _ _ _ _ _ _ _ _ _ _ _ _ _ _ _ _ _ _ _ _ _ _ _ _ _ _ _ _ _ _ _ _ _ _ _ _ _ _ _ _ ?_ HM7 HSA HL
        intro u6 u27 u231 u232 u233 u234 u235 u236 u237 u238 u239 u240 u241 u242 u243 u244 u245 wz h1
        exact HKK.out _ _ _ _ _ _ _ _ _ _ _ _ _ _ _ _ _ _ _ _ _ _ _ _ _ _ _ _ _ _ _ _ _ _ _ _ _ _ _ _ _ _ _ _ _ _ _ _ _ _ _ _ _ _ _ _ _ _ _ _ _ _ _ _ _ _ _ _ _ _ _ _ _ _ _ _ _ _ _ _ _ _ _ _ wz (HM7.out.next h1.out)

  · have b1 : ((t0.st : Int) == 1) = true := by simp; omega
    have b2 : ((t.st : Int) == 2) = true := by simp; omega
    have HE4 : Hid (t.old.length = e.ps.length) := by show _ = _; rw [e4, HT.out.2.2]
    have H5 : Hid (∀ (j : Nat) (p : Pt), e.ps[j]? = some p → t.old[j]? = some (((St.of ps0).num p.k : Nat) : Int) ∧ (((St.of ps).num p.k : Nat) : Int) = ((St.of ps0).num p.k : Nat) + p.a) := fun j p hp => by
      have := h5 j p (by rw [HT.out.2.2]; exact hp)
      rw [e3]
      exact this
    have H6 : Hid (∀ k, (∀ p ∈ e.ps, p.k ≠ k) → (St.of ps).num k = (St.of ps0).num k) := fun k hh => h6 k (by rw [HT.out.2.2]; exact hh)
    have HIJ : Hid (∀ (i j : Nat) (p q : Pt), e.ps[i]? = some p → e.ps[j]? = some q → p.k = q.k → i = j) := by
      have := (HM.out.run.inv.t e.id HIN.out).inj
      rw [← HT.out.1, HT.out.2.1] at this
      exact this
    obtain ⟨L, HLL⟩ : ∃ L, Hid (L = e.ps.length) := ⟨_, rfl⟩
    have hL4 : L ≤ 4 := by rw [HLL.out]; exact HLN.out
    clear e1 e2 e3 e4 h5 h6 HMK
    go_upto_if 172 with fail
    go_cut [6, 25, 26] from 173 to 230 (fun _ _ _ wc => Hid (MS w w1 n0 sb es wc T ps pa pc c (numsL (St.of ps))))
    case first =>
      have CX : ∀ Y, Kept (One sb) X Y → Y.cell? ⟨A, 1, none⟩ = some (.slice oa t.old.length oc) := fun Y kY => blk_at (kY.block _ _ HA.out (fun x => hAs x)) 1 rfl
      obtain ⟨qa, HQA⟩ : ∃ q, Hid (q = e.qa) := ⟨_, rfl⟩
      have CP : ∀ Y, MS w w1 n0 sb es Y T ps pa pc c (numsL (St.of ps0)) → Y.cell? (pp.add k) = some (.slice qa L e.qc) := fun Y hY => by
        have := (HLR.out Y hY.kept k hk).2.1
        rw [← HE.out, ← HLL.out, ← HQA.out] at this
        exact this
      have x1 := CX X (Kept.refl _ _)
      have x2 := CP X HM.out
      have hb36 : ((t.old.length : Int) != (L : Int)) = false := by rw [HE4.out, HLL.out]; simp
      have hki : (k : Int) < es.length := by omega
      go_upto_region 36 with fail
      go_region
      all_goals
        go_wp2_with fail
        go_loopw [6, 25, 26] (fun _ u _ wr => ∃ n : Nat, n ≤ L ∧ u = .int .i64 n ∧ Hid (MS w w1 n0 sb es wr T ps pa pc c (mixL (St.of ps0) (St.of ps) e.ps n)) ∧ Hid (Kept (One sb) X wr)) (fun _ u _ _ => L - (intOf u).toNat)
        case atStart => exact ⟨0, Nat.zero_le _, rfl, by rw [mix_zero]; exact HM.out.next (Kept.refl _ _).drew, (Kept.refl _ _).drew⟩
        case round =>
          obtain ⟨n, hn, rfl, HR, HK⟩ := hrel
          clear x1 x2
          have y1 := CX wr HK.out
          have y2 : wr.cell? (pp.add k) = some (.slice qa L e.qc) := by
            have := (HLR.out wr HR.out.kept k hk).2.1
            rw [← HE.out, ← HLL.out, ← HQA.out] at this
            exact this
          by_cases hlt : n < L
          · have hni : (n : Int) < L := by omega
            have hnl : n < e.ps.length := by rw [← HLL.out]; exact hlt
            obtain ⟨p, HP⟩ : ∃ p : Pt, Hid (p = e.ps[n]) := ⟨e.ps[n], (rfl : e.ps[n] = e.ps[n])⟩
            have HPS : Hid (e.ps[n]? = some p) := by show _ = _; rw [HP.out]; exact List.getElem?_eq_getElem hnl
            obtain ⟨qx, hqx, y3, y4⟩ : ∃ q, qa = some q ∧ wr.cell? (q.add (n * 2)) = some (.string (bs p.k)) ∧ wr.cell? ⟨(q.add (n * 2)).block, (q.add (n * 2)).off + 1, none⟩ = some (.int .i64 p.a) := by
              have := (HLR.out wr HR.out.kept k hk).2.2
              rw [← HE.out] at this
              obtain ⟨q, h1, _, h2, h3⟩ := this n hnl
              rw [← HP.out] at h2 h3
              exact ⟨q, HQA.out.trans h1, h2, h3⟩
            subst hqx
            obtain ⟨a, ha⟩ : ∃ a : Nat, keys4[a]? = some p.k := HKE.out p (List.mem_of_getElem? HPS.out)
            have ha4 : a < 4 := by
              obtain ⟨h, _⟩ := List.getElem?_eq_some_iff.1 ha
              exact h
            have HAK : Hid (keys4[a]? = some (e.ps[n]'hnl).k) := by show _ = _; rw [← HP.out]; exact ha
            have KA := keyAt_any a p.k ha wr
            obtain ⟨z, HZ⟩ : ∃ z : Int, Hid (z = ((St.of ps0).num p.k : Nat)) := ⟨_, rfl⟩
            obtain ⟨h5a, h5b⟩ := H5.out n p HPS.out
            rw [← HZ.out] at h5a h5b
            have HU : Hid (((St.of ps).num p.k : Int) = z + p.a) := h5b
            have hz0 : 0 ≤ z := by rw [HZ.out]; omega
            have hz1 : z ≤ 999999999 := by
              have := mix_most a z (mix_at (s := St.of ps0) (u := St.of ps) HIJ.out hnl HAK.out |>.trans (by rw [HZ.out, HP.out]))
              exact this.2
            have hz2 : 0 ≤ z + p.a := by rw [← h5b]; omega
            have hz3 : z + p.a ≤ 999999999 := by
              rw [← h5b]
              have : (St.of ps).num p.k ≤ 999999999 := settled_most (hdOf_ok _) _
              omega
            have hwz : IntKind.i64.wrap (z + p.a) = z + p.a := by rw [IntKind.wrap_i64]; omega
            obtain ⟨ox, hox, y5⟩ : ∃ x : Addr, oa = some x ∧ wr.cell? (x.add n) = some (.int .i64 z) := by
              have hlo : n < t.old.length := by rw [HE4.out]; exact hnl
              rcases HOA.out.2 with ⟨h1, h2⟩ | ⟨g, cap, cur, h1, h2, h3, h4⟩
              · rw [h2] at hlo; omega
              · simp only [Value.slice.injEq] at h1
                refine ⟨_, h1.1, ?_⟩
                have hc := World.ownsRow.cells HOA.out (g := g) (by rw [h1.1]; rfl) n (.int .i64 z) (by unfold intC; rw [List.getElem?_map, h5a]; rfl)
                refine cell_kept HK.out (fun o x => ?_) hc
                have e6 : ((⟨g, 0, none⟩ : Addr).add n).block = g := by unfold Addr.add; split <;> rfl
                have e7 : ((⟨g, 0, none⟩ : Addr).add n).block = sb := x
                have := HM.out.sbl
                omega
            have CS : ∀ Y, Kept Nil wr Y → Y.cell? (sa.add a) = some (.int .i64 z) := fun Y kY => (HR.out.next kY).cell HSA.out (by rw [mix_at HIJ.out hnl HAK.out, HZ.out, HP.out])
            have y6 := CS wr (Kept.refl _ _)
            subst hox
            have hol : (n : Int) < (t.old.length : Int) := by rw [HE4.out, ← HLL.out]; exact hni
            have hai : (a : Int) < 4 := by omega
            have ha0 : (0 : Int) ≤ (a : Int) := by omega
            have hzz : (z != z) = false := by simp
            have hng : decide (z + p.a < 0) = false := decide_eq_false (by omega)
            have fz : wr.frozen? (sa.add a) = false := by rw [HSA.out, addr_addE]; exact blk_free HR.out.ser _
            clear h5a h5b ha
            go_upto_region 42 with (go_at_call 22; go_must (go_fit KA; rintro ee wq ⟨rfl, hwq⟩; rw [hwq]))
            go_quiet (fail)
            go_upto_if 209 with fail
            go_cut [6] from 210 to 211 (fun _ wc => Hid (Kept Nil wr wc))
            case first =>
              go_wp2
              go_meet
              exact (Kept.refl _ _).drewN _
            case rest =>
              rename World => W
              have KW : Hid (Kept Nil wr W) := hcut
              have HRW : Hid (MS w w1 n0 sb es W T ps pa pc c (mixL (St.of ps0) (St.of ps) e.ps n)) := HR.out.next KW.out
              have sW : W.cell? (sa.add a) = some (.int .i64 z) ∧ W.cell? (pp.add k) = some (.slice (some qx) L e.qc) ∧ W.cell? ⟨(qx.add (n * 2)).block, (qx.add (n * 2)).off + 1, none⟩ = some (.int .i64 p.a) := ⟨CS W KW.out, cell_kept KW.out (fun _ x => x) y2, cell_kept KW.out (fun _ x => x) y4⟩
              have fW : W.frozen? (sa.add a) = false := by rw [HSA.out, addr_addE]; exact blk_free HRW.out.ser _
              have HV : Hid (MS w w1 n0 sb es (W.setCell (sa.add a) (.int .i64 (z + p.a))).drew T ps pa pc c (mixL (St.of ps0) (St.of ps) e.ps (n + 1)) ∧ Kept (One sb) X (W.setCell (sa.add a) (.int .i64 (z + p.a))).drew) := by
                rw [HSA.out, addr_addE]
                have h1 := (HRW.out.set (a := a) (z + p.a)).next (Kept.refl _ _).drew
                have h2 := mix_next (s := St.of ps0) (u := St.of ps) (a := a) hnl HAK.out (by rw [← HP.out, HU.out, HZ.out])
                rw [← HP.out, ← HZ.out] at h2
                rw [h2] at h1
                (try simp only [Nat.zero_add])
                exact ⟨h1, ((HK.out.trans (KW.out.mono (fun _ _ x => x.elim))).setCell (p := ⟨sb, a, none⟩) (fun _ => rfl) _).drew⟩
              have HV6 : Hid ((W.setCell (sa.add a) (.int .i64 (z + p.a))).drew.cell? (sa.add a) = some (.int .i64 (z + p.a))) := HV.out.1.cell HSA.out (by
                have h2 := mix_next (s := St.of ps0) (u := St.of ps) (a := a) hnl HAK.out (by rw [← HP.out, HU.out, HZ.out])
                rw [← HP.out, ← HZ.out] at h2
                rw [← h2, List.getElem?_set, if_pos rfl, mix_len, if_pos ha4])
              apply_assumption
              refine tsTail44 W es.length pk k n a L e.qc sa pp qx z p.a _ _ _ _ _ _ _ _ _ _ _ _ _ _ _ _ _ _ _ _ _ _ _ _ _ _ _ _ _ _ _ _ _ _ _ _ _ _ _ _ _ _ _ _ _ _ _ _ _ _ _ _ _ _ _ _ _ _ _ _ _ _ _ _ _ _ _ _ _ _ _ _ _ _ _ _ _ _ _ _ _ _ _ _ _ _ _ _ _ _ _ _ _ _ _ _ _ _ _ _ _ _ _ _ _ _ _ _ _ _ _ _ _ _ _ _ _ _ _ _ _ _ _ _ _ _ _ _ _ _ _ _ _ _ _ _ _ _ _ _ _ _ _ _ _ _ _ _ _ _ _ _ _ _ _ _ _ _ _ _ _ _ _ _ _ _ _ _ _ _ _ _ _ _ _ _ _ _ _ _ _ _ _ _ _ _ _ _ _ _ _ _ _ _ _ _ _ _ _ _ _ _ _ _ _ _ _ _ _ _ _ _ _ _ _ _ _ _ _ _ _ _ _ _ _ _ _ _ _ _ _ _ _ _ _ _ _ _ _ _ _ _ _ _ _ _ _ _ _ _ _ _ _ ?_ sW.1 sW.2.1 sW.2.2 fW HV6 hwz hng hki hni hai
              intro u210 u211 u212 u213 u214 u215 u216 u217 u218 u219 u220 u221 u222 u223 u224 u225 u226 u227 u228 u229 u230 V hV
              have HVV : Hid (MS w w1 n0 sb es V T ps pa pc c (mixL (St.of ps0) (St.of ps) e.ps (n + 1)) ∧ Kept (One sb) X V) := by
                have e9 := hV.out
                rw [e9]
                exact HV.out
              clear hV HV HV6 fW sW HRW
              apply_assumption
              go_wp2
              go_roundw
              case rel =>
                first
                  | exact ⟨n + 1, by omega, by go_num, HVV.out.1, HVV.out.2⟩
                  | ((repeat (apply Exists.intro)); refine ⟨?rr, rfl⟩; exact ⟨n + 1, by omega, by go_num, HVV.out.1, HVV.out.2⟩)
              case measure => simp [intOf]; omega
          · obtain rfl : n = L := by omega
            have hirr : ¬ (n : Int) < n := by omega
            have HF : Hid (MS w w1 n0 sb es wr T ps pa pc c (numsL (St.of ps))) := by
              have := HR.out
              rw [HLL.out, mix_full H6.out] at this
              exact this
            go_wp2
            go_meet
            exact HF.out
    case rest =>
      have HM7 := hcut
      rename World => w7
      apply_assumption
      refine tsTail47 w w1 w7 n0 sb pc c es T ps pa sa _ _ _ _ _ _ _ _ _ _ _ _ _ _ _ _ _ _ _ _ _ _ _ _ _ _ _ _ _ _ _ _ _ _ _ _ _ _ _ _ _ _ _ _ _ _ _ _ _ _ _ _ _ _ _ _ _ _ _ _ _ _ _ _ _ _ _ _ _ _ _ _ _ _ _ _ _ _ _ _ _ _ _ _ _ _ _ _ _ _ _ _ _ _ _ _ _ _ _ _ _ _ _ _ _ _ _ _ _ _ _ _ _ _ _ _ _ _ _ _ _ _ _ _ _ _ _ _ _ _ _ _ _ _ _ _ _ _ _ _ _ _ _ _ _ _ _ _ _ _ _ _ _ _ _ _ _ _ _ _ _ _ _ _ _ _ _ _ _ _ _ _ _ _ _ _ _ _ _ _ _ _ _ _ _ _ _ _ _ _ _ _ _ _ _ _ _ _ _ _ _ _ _ _ _ _ _ _ _ _ _ _ _ _ _ _ _ _ _ _ _ _ _ _ _ _ _ _ _ _ _ _ _ _ _ _ _ _ _ _ _ _ _ _ _ _ _ _ _ _ _ _ _ _ _ _ ?_ HM7 HSA HL
      intro u6 u27 u231 u232 u233 u234 u235 u236 u237 u238 u239 u240 u241 u242 u243 u244 u245 wz h1
      exact HKK.out _ _ _ _ _ _ _ _ _ _ _ _ _ _ _ _ _ _ _ _ _ _ _ _ _ _ _ _ _ _ _ _ _ _ _ _ _ _ _ _ _ _ _ _ _ _ _ _ _ _ _ _ _ _ _ _ _ _ _ _ _ _ _ _ _ _ _ _ _ _ _ _ _ _ _ _ _ _ _ _ _ _ _ _ wz (HM7.out.next h1.out)
end Go.Proofs.YtgkacepcggjfkaaGreatDoor
