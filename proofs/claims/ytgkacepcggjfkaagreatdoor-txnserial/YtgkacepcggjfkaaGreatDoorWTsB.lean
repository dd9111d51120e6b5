/-
  TxnSerial: a round from the first look on.
-/
import Derived.Test.YtgkacepcggjfkaaGreatDoorWTsC
import Derived.Test.YtgkacepcggjfkaaGreatDoorWTxB
import Derived.Test.YtgkacepcggjfkaaGreatDoorWTxC
import Derived.Test.YtgkacepcggjfkaaGreatDoorWKv12
import Derived.BigQuiet
import Derived.BigRegion
import Derived.StillTailTactics
import Derived.Deep.DeepCutAuto
import Derived.Deep.DeepFit
import Derived.Deep.RegionHeld3
namespace Go.Proofs.YtgkacepcggjfkaaGreatDoor
open Go.RowKit

set_option maxRecDepth 1000000 in
set_option maxHeartbeats 40000000 in
theorem tsTail28 (w w1 X : World) (n0 sb pc c k pk lc : Nat) (es : List Eb) (T : Nat → Tx) (ps : List Pr) (pa : Option Addr) (sa la pp : Addr) (e : Eb) (fv0 fv1 fv2 fv3 fv4 fv5 fv6 fv9 fv10 fv11 fv12 fv13 fv14 fv17 fv19 fv20 fv21 fv22 fv23 fv24 fv25 fv26 fv27 fv28 fv29 fv30 fv31 fv32 fv33 fv34 fv35 fv36 fv37 fv38 fv39 fv40 fv41 fv42 fv43 fv44 fv45 fv46 fv47 fv48 fv49 fv50 fv51 fv52 fv53 fv54 fv55 fv56 fv57 fv58 fv59 fv60 fv61 fv62 fv63 fv64 fv65 fv66 fv67 fv68 fv69 fv70 fv71 fv72 fv73 fv74 fv75 fv76 fv77 fv78 fv79 fv80 fv81 fv82 fv83 fv84 fv85 fv86 fv87 fv88 fv89 fv90 fv91 fv92 fv93 fv94 fv95 fv96 fv97 fv98 fv99 fv100 fv101 fv102 fv103 fv104 fv105 fv106 fv107 fv108 fv109 fv110 fv111 fv112 fv113 fv114 fv115 fv116 fv117 fv118 fv119 fv120 fv121 fv122 fv123 fv124 fv125 fv126 fv127 fv128 fv129 fv130 fv131 fv132 fv133 fv134 fv135 fv136 fv137 fv138 fv139 fv140 fv141 fv142 fv143 fv144 fv145 fv146 fv147 fv148 fv149 fv150 fv151 fv152 fv153 fv154 fv155 fv156 fv157 fv158 fv159 fv160 fv161 fv162 fv163 fv164 fv165 fv166 fv167 fv168 fv169 fv170 fv171 fv172 fv173 fv174 fv175 fv176 fv177 fv178 fv179 fv180 fv181 fv182 fv183 fv184 fv185 fv186 fv187 fv188 fv189 fv190 fv191 fv192 fv193 fv194 fv195 fv196 fv197 fv198 fv199 fv200 fv201 fv202 fv203 fv204 fv205 fv206 fv207 fv208 fv209 fv210 fv211 fv212 fv213 fv214 fv215 fv216 fv217 fv218 fv219 fv220 fv221 fv222 fv223 fv224 fv225 fv226 fv227 fv228 fv229 fv230 fv231 fv232 fv233 fv234 fv235 fv236 fv237 fv238 fv239 fv240 fv241 fv242 fv243 fv244 fv245 fv246 fv247 fv248 fv249 fv250 fv251 fv252 fv253 fv254 fv255 : Value) (K1 : Act → World → Prop) (Q9 : Exit → Act → World → Prop)
    (hK : ∀ (u6 u15 u19 u20 u21 u22 u23 u24 u25 u26 u27 u133 u134 u135 u136 u137 u138 u139 u140 u141 u142 u143 u144 u145 u146 u147 u148 u149 u150 u151 u152 u153 u154 u155 u156 u157 u158 u159 u160 u161 u162 u163 u164 u165 u166 u167 u168 u169 u170 u171 u172 u173 u174 u175 u176 u177 u178 u179 u180 u181 u182 u183 u184 u185 u186 u187 u188 u189 u190 u191 u192 u193 u194 u195 u196 u197 u198 u199 u200 u201 u202 u203 u204 u205 u206 u207 u208 u209 u210 u211 u212 u213 u214 u215 u216 u217 u218 u219 u220 u221 u222 u223 u224 u225 u226 u227 u228 u229 u230 u231 u232 u233 u234 u235 u236 u237 u238 u239 u240 u241 u242 u243 u244 u245 : Value) (ps2 : List Pr) (pa2 : Option Addr) (pc2 : Nat) (T2 : Nat → Tx) (wc : World), Hid (u15 = .slice pa2 ps2.length pc2 ∧ MS w w1 n0 sb es wc T2 ps2 pa2 pc2 (c + 1) (numsL (St.of ps2)) ∧ Made ps ps2 T T2 e.id) → K1 ⟨#[fv0, fv1, fv2, fv3, fv4, fv5, u6, .slice (some la) es.length lc, .slice (some pp) es.length pk, fv9, fv10, fv11, fv12, fv13, fv14, u15, .slice (some sa) 4 4, fv17, .int .i64 k, u19, u20, u21, u22, u23, u24, u25, u26, u27, fv28, fv29, fv30, fv31, fv32, fv33, fv34, fv35, fv36, fv37, fv38, fv39, fv40, fv41, fv42, fv43, fv44, fv45, fv46, fv47, fv48, fv49, fv50, fv51, fv52, fv53, fv54, fv55, fv56, fv57, fv58, fv59, fv60, fv61, fv62, fv63, fv64, fv65, fv66, fv67, fv68, fv69, fv70, fv71, fv72, fv73, fv74, fv75, fv76, fv77, fv78, fv79, fv80, fv81, fv82, fv83, fv84, fv85, fv86, fv87, fv88, fv89, fv90, fv91, fv92, fv93, fv94, fv95, fv96, fv97, fv98, fv99, fv100, fv101, fv102, fv103, fv104, fv105, fv106, fv107, fv108, fv109, fv110, fv111, fv112, fv113, fv114, fv115, fv116, fv117, fv118, fv119, fv120, fv121, fv122, fv123, fv124, fv125, fv126, fv127, fv128, fv129, fv130, fv131, fv132, u133, u134, u135, u136, u137, u138, u139, u140, u141, u142, u143, u144, u145, u146, u147, u148, u149, u150, u151, u152, u153, u154, u155, u156, u157, u158, u159, u160, u161, u162, u163, u164, u165, u166, u167, u168, u169, u170, u171, u172, u173, u174, u175, u176, u177, u178, u179, u180, u181, u182, u183, u184, u185, u186, u187, u188, u189, u190, u191, u192, u193, u194, u195, u196, u197, u198, u199, u200, u201, u202, u203, u204, u205, u206, u207, u208, u209, u210, u211, u212, u213, u214, u215, u216, u217, u218, u219, u220, u221, u222, u223, u224, u225, u226, u227, u228, u229, u230, u231, u232, u233, u234, u235, u236, u237, u238, u239, u240, u241, u242, u243, u244, u245, fv246, fv247, fv248, fv249, fv250, fv251, fv252, fv253, fv254, fv255], []⟩ wc)
    (HM : Hid (MS w w1 n0 sb es X T ps pa pc c (numsL (St.of ps)))) (HJ : Hid (J7 (St.of ps) (T 7))) (HSA : Hid (sa = ⟨sb, 0, none⟩)) (HL : Hid (LD w)) (HLR : Hid (LR w1 sb es la pp)) (HKE : Hid (∀ e ∈ es, (∀ p ∈ e.ps, ∃ a : Nat, keys4[a]? = some p.k) ∧ e.ps.length ≤ 4)) (HI7 : Hid (InE es 7)) (HAL : Hid (∀ T : Nat → Tx, (∀ i, (T i).ps = (enAt es i).ps) → Alone T (InE es) 7)) (HND : Hid ((es.map Eb.id).Nodup)) (hl7 : es.length ≤ 7) (hc : c ≤ 1000000) (hk : k < es.length) (HE : Hid (e = es[k])) :
    Code.wp Tryz.prog sT28 (Exit.inBlock 3 (Exit.then K1 Q9)) ⟨#[fv0, fv1, fv2, fv3, fv4, fv5, fv6, .slice (some la) es.length lc, .slice (some pp) es.length pk, fv9, fv10, fv11, fv12, fv13, fv14, .slice pa ps.length pc, .slice (some sa) 4 4, fv17, .int .i64 k, fv19, fv20, fv21, fv22, fv23, fv24, fv25, fv26, fv27, fv28, fv29, fv30, fv31, fv32, fv33, fv34, fv35, fv36, fv37, fv38, fv39, fv40, fv41, fv42, fv43, fv44, fv45, fv46, fv47, fv48, fv49, fv50, fv51, fv52, fv53, fv54, fv55, fv56, fv57, fv58, fv59, fv60, fv61, fv62, fv63, fv64, fv65, fv66, fv67, fv68, fv69, fv70, fv71, fv72, fv73, fv74, fv75, fv76, fv77, fv78, fv79, fv80, fv81, fv82, fv83, fv84, fv85, fv86, fv87, fv88, fv89, fv90, fv91, fv92, fv93, fv94, fv95, fv96, fv97, fv98, fv99, fv100, fv101, fv102, fv103, fv104, fv105, fv106, fv107, fv108, fv109, fv110, fv111, fv112, fv113, fv114, fv115, fv116, fv117, fv118, fv119, fv120, fv121, fv122, fv123, fv124, fv125, fv126, fv127, fv128, fv129, fv130, fv131, fv132, fv133, fv134, fv135, fv136, fv137, fv138, fv139, fv140, fv141, fv142, fv143, fv144, fv145, fv146, fv147, fv148, fv149, fv150, fv151, fv152, fv153, fv154, fv155, fv156, fv157, fv158, fv159, fv160, fv161, fv162, fv163, fv164, fv165, fv166, fv167, fv168, fv169, fv170, fv171, fv172, fv173, fv174, fv175, fv176, fv177, fv178, fv179, fv180, fv181, fv182, fv183, fv184, fv185, fv186, fv187, fv188, fv189, fv190, fv191, fv192, fv193, fv194, fv195, fv196, fv197, fv198, fv199, fv200, fv201, fv202, fv203, fv204, fv205, fv206, fv207, fv208, fv209, fv210, fv211, fv212, fv213, fv214, fv215, fv216, fv217, fv218, fv219, fv220, fv221, fv222, fv223, fv224, fv225, fv226, fv227, fv228, fv229, fv230, fv231, fv232, fv233, fv234, fv235, fv236, fv237, fv238, fv239, fv240, fv241, fv242, fv243, fv244, fv245, fv246, fv247, fv248, fv249, fv250, fv251, fv252, fv253, fv254, fv255], []⟩ X := by
  have HKK : Hid (∀ (u6 u15 u19 u20 u21 u22 u23 u24 u25 u26 u27 u133 u134 u135 u136 u137 u138 u139 u140 u141 u142 u143 u144 u145 u146 u147 u148 u149 u150 u151 u152 u153 u154 u155 u156 u157 u158 u159 u160 u161 u162 u163 u164 u165 u166 u167 u168 u169 u170 u171 u172 u173 u174 u175 u176 u177 u178 u179 u180 u181 u182 u183 u184 u185 u186 u187 u188 u189 u190 u191 u192 u193 u194 u195 u196 u197 u198 u199 u200 u201 u202 u203 u204 u205 u206 u207 u208 u209 u210 u211 u212 u213 u214 u215 u216 u217 u218 u219 u220 u221 u222 u223 u224 u225 u226 u227 u228 u229 u230 u231 u232 u233 u234 u235 u236 u237 u238 u239 u240 u241 u242 u243 u244 u245 : Value) (ps2 : List Pr) (pa2 : Option Addr) (pc2 : Nat) (T2 : Nat → Tx) (wc : World), Hid (u15 = .slice pa2 ps2.length pc2 ∧ MS w w1 n0 sb es wc T2 ps2 pa2 pc2 (c + 1) (numsL (St.of ps2)) ∧ Made ps ps2 T T2 e.id) → K1 ⟨#[fv0, fv1, fv2, fv3, fv4, fv5, u6, .slice (some la) es.length lc, .slice (some pp) es.length pk, fv9, fv10, fv11, fv12, fv13, fv14, u15, .slice (some sa) 4 4, fv17, .int .i64 k, u19, u20, u21, u22, u23, u24, u25, u26, u27, fv28, fv29, fv30, fv31, fv32, fv33, fv34, fv35, fv36, fv37, fv38, fv39, fv40, fv41, fv42, fv43, fv44, fv45, fv46, fv47, fv48, fv49, fv50, fv51, fv52, fv53, fv54, fv55, fv56, fv57, fv58, fv59, fv60, fv61, fv62, fv63, fv64, fv65, fv66, fv67, fv68, fv69, fv70, fv71, fv72, fv73, fv74, fv75, fv76, fv77, fv78, fv79, fv80, fv81, fv82, fv83, fv84, fv85, fv86, fv87, fv88, fv89, fv90, fv91, fv92, fv93, fv94, fv95, fv96, fv97, fv98, fv99, fv100, fv101, fv102, fv103, fv104, fv105, fv106, fv107, fv108, fv109, fv110, fv111, fv112, fv113, fv114, fv115, fv116, fv117, fv118, fv119, fv120, fv121, fv122, fv123, fv124, fv125, fv126, fv127, fv128, fv129, fv130, fv131, fv132, u133, u134, u135, u136, u137, u138, u139, u140, u141, u142, u143, u144, u145, u146, u147, u148, u149, u150, u151, u152, u153, u154, u155, u156, u157, u158, u159, u160, u161, u162, u163, u164, u165, u166, u167, u168, u169, u170, u171, u172, u173, u174, u175, u176, u177, u178, u179, u180, u181, u182, u183, u184, u185, u186, u187, u188, u189, u190, u191, u192, u193, u194, u195, u196, u197, u198, u199, u200, u201, u202, u203, u204, u205, u206, u207, u208, u209, u210, u211, u212, u213, u214, u215, u216, u217, u218, u219, u220, u221, u222, u223, u224, u225, u226, u227, u228, u229, u230, u231, u232, u233, u234, u235, u236, u237, u238, u239, u240, u241, u242, u243, u244, u245, fv246, fv247, fv248, fv249, fv250, fv251, fv252, fv253, fv254, fv255], []⟩ wc) := hK
  clear hK
  conv => arg 2; whnf
  dsimp only
  obtain ⟨D, hDb, hD⟩ := HM.out.tm
  obtain ⟨i, Hi⟩ : ∃ i, Hid (i = e.id) := ⟨_, rfl⟩
  have HIN : Hid (InE es i) := ⟨es[k], List.getElem_mem hk, by rw [Hi.out, HE.out]⟩
  have HEA : Hid (enAt es i = e) := by show _ = _; rw [Hi.out, HE.out]; exact enAt_self HND.out hk
  have HDB : Hid (D.b i = e.b) := by show _ = _; rw [hDb]; show (enAt es i).b = _; rw [HEA.out]
  obtain ⟨t, Ht⟩ : ∃ t, Hid (t = T i) := ⟨_, rfl⟩
  have HOK : Hid (t.Ok) := by rw [Ht.out]; exact (HM.out.run.inv.t i HIN.out).ok
  obtain ⟨B, HB⟩ : ∃ b, Hid (b = e.b) := ⟨_, rfl⟩
  have HD : Hid (TM n0 w1.heap.size X (InE es) T D) := hD
  have HTX : Hid (∀ Y, Kept Nil X Y → TxAt Y B t (D.ap i) (D.oo i) (D.cp i) (D.oc i) ∧ OwnT n0 Y (D.ap i) (D.cp i) t.ps ∧ OwnI n0 Y (D.oo i) (D.oc i) t.old ∧ LD Y) := fun Y kY => by
    have h := HD.out.kept kY
    have h1 := h.tx i HIN.out
    rw [HDB.out, ← HB.out, ← Ht.out] at h1
    have h2 := h.ps i HIN.out
    have h3 := h.old i HIN.out
    rw [← Ht.out] at h2 h3
    exact ⟨h1, h2, h3, HL.out.kept (HM.out.kw.trans kY)⟩
  have HCL : Hid (∀ Y, Kept Nil X Y → Y.cell? (la.add k) = some (.pointer (some ⟨B, 0, none⟩))) := fun Y kY => by
    have := (HLR.out Y (HM.out.next kY).kept k hk).1
    rw [← HE.out, ← HB.out] at this
    exact this
  have c0 := HCL.out X (Kept.refl _ _)
  have hki : (k : Int) < es.length := by omega
  have hol : t.old.length ≤ 4 := HOK.out.old
  have LK := look_any X B t _ _ _ _ (HTX.out X (Kept.refl _ _)).1 n0 (HTX.out X (Kept.refl _ _)).2.2.1 (by omega)
  have HDb : Hid (D.b = (dOf es).b) := hDb
  clear hDb hD
  go_wp2_with fail
  go_fit LK
  rintro ee w2 ⟨a2, c2, rfl, _, k2⟩
  have K2 : Hid (Kept Nil X w2) := k2
  have hfd : ∀ Y, (Instr.field 39 (.agg #[.int .i64 t.st, .slice a2 t.old.length c2]) 0).run Tryz.prog Y = .ok (.int .i64 t.st) Y := fun _ => by kernel_rfl
  have c1 := HCL.out w2 k2
  have NX := next_any w2 B t _ _ _ _ (HTX.out w2 k2).1 n0 (HTX.out w2 k2).2.1 HOK.out (HTX.out w2 k2).2.2.2
  clear LK k2 c0
  go_wp2_with fail
  go_fit NX
  rintro ee w3 ⟨rfl, k3⟩
  have K3 : Hid (Kept Nil X w3) := K2.out.trans k3
  clear NX k3 c1 hfd
  obtain ⟨q, Hq⟩ : ∃ q, Hid (q = t.next) := ⟨_, rfl⟩
  rw [← Hq.out]
  obtain ⟨q1, q2⟩ := q
  obtain ⟨kd, ky, vl, mm⟩ := q1
  simp only [cdV]
  have HQ2 : Hid (q2 = decide (t.ph ≤ 9)) := by
    have h1 := next_is t HOK.out.ph
    rw [← Hq.out] at h1
    exact h1
  have HQC : Hid (t.next.1 = ⟨kd, ky, vl, mm⟩) := by show _ = _; rw [← Hq.out]
  clear Hq
  go_upto_if 147 with fail
  obtain ⟨W, hW⟩ : ∃ W, W = w3.alloc (.cells #[.int .i64 kd, .string (bs ky), .string (bs vl), .int .i64 mm] 31) := ⟨_, rfl⟩
  obtain ⟨A, HAe⟩ : ∃ A, Hid (A = w3.heap.size) := ⟨_, rfl⟩
  have HAW : Hid (W.heap[A]? = some (.cells #[.int .i64 kd, .string (bs ky), .string (bs vl), .int .i64 mm] 31 (0, 0))) := by rw [hW, HAe.out]; exact blk_new _ _
  have KW : Hid (Kept Nil X W) := by rw [hW]; exact K3.out.alloc _
  rw [← hW, ← HAe.out]
  clear hW HAe K3 K2
  go_cut [15, 22, 23] from 148 to 160 (fun u _ _ wc => Hid (∃ ps2 pa2 pc2 T2, u = .slice pa2 ps2.length pc2 ∧ MS w w1 n0 sb es wc T2 ps2 pa2 pc2 (c + 1) (numsL (St.of ps)) ∧ Made ps ps2 T T2 i))
  case first =>
    cases q2 with
    | false =>
      have HF : Hid (∃ ps2 pa2 pc2 T2, (.slice pa ps.length pc : Value) = .slice pa2 ps2.length pc2 ∧ MS w w1 n0 sb es W T2 ps2 pa2 pc2 (c + 1) (numsL (St.of ps)) ∧ Made ps ps2 T T2 i) := by
        refine ⟨ps, pa, pc, T, rfl, (HM.out.next KW.out).more, Made.none HJ.out ?_⟩
        have h1 := of_decide_eq_false HQ2.out.symm
        rw [← Ht.out]
        omega
      go_wp2
      go_meet
      exact HF.out
    | true =>
      have HPH : Hid (t.ph ≤ 9) := by
        have h1 := HQ2.out.symm
        show t.ph ≤ 9
        exact of_decide_eq_true h1
      have d0 : W.cell? ⟨A, 0, none⟩ = some (.int .i64 kd) := blk_at HAW.out 0 rfl
      have d1 : W.cell? ⟨A, 1, none⟩ = some (.string (bs ky)) := blk_at HAW.out 1 rfl
      have d2 : W.cell? ⟨A, 2, none⟩ = some (.string (bs vl)) := blk_at HAW.out 2 rfl
      have d3 : W.cell? ⟨A, 3, none⟩ = some (.int .i64 mm) := blk_at HAW.out 3 rfl
      have HKL : Hid (ky.length ≤ maxLen ∧ vl.length ≤ maxLen) := by
        have h1 := next_cmd HOK.out HPH.out (by
          have h2 := HM.out.run.vr i HIN.out
          rw [← Ht.out] at h2
          unfold isNum
          simp only [Bool.and_eq_true, decide_eq_true_eq]
          omega) (by rw [Ht.out]; exact (HM.out.run.inv.t i HIN.out).four)
        rw [HQC.out] at h1
        unfold isCmd at h1
        simp at h1
        refine ⟨?_, ?_⟩ <;> (unfold maxLen; omega)
      have AP := by
        obtain ⟨p1, p2, p3⟩ := (HM.out.next KW.out).pairs
        exact apply_any _ pc pa ps ky vl kd mm W p1 p2 p3 HKL.out.1 HKL.out.2
      obtain ⟨ps2, HP2⟩ : ∃ l, Hid (l = apP kd ky vl mm ps) := ⟨_, rfl⟩
      obtain ⟨r, HR⟩ : ∃ r, Hid (r = apR kd ky vl mm ps) := ⟨_, rfl⟩
      rw [← HP2.out, ← HR.out] at AP
      have HPS : Hid (ps2 = (T i).psOf ps ∧ r = (T i).rOf ps) := by
        rw [← Ht.out]
        unfold Tx.psOf Tx.rOf
        rw [HQC.out]
        exact ⟨HP2.out, HR.out⟩
      have HRV : Hid (r.v.length ≤ 1048576) := by
        have := apR_v kd ky vl mm ps
        rw [← HR.out] at this
        show _ ≤ _
        omega
      clear HP2 HR
      go_wp2_with fail
      go_fit AP
      rintro ee w5 ⟨a5, c5, ko, kc, rfl, o5, _, k5⟩
      simp only [rrV]
      have K5 : Hid (Kept Nil X w5) := KW.out.trans k5
      have O5 : Hid (OwnP w1.heap.size w5 a5 c5 ps2) := o5.mono (Nat.le_trans HD.out.sz KW.out.size)
      clear AP k5 o5 d0 d1 d2 d3
      go_upto_region 33 with fail
      obtain ⟨W6, hW6⟩ : ∃ W6, W6 = w5.alloc (.cells #[.int .i64 r.kd, .string (bs r.v), .int .i64 r.n, .slice ko r.ks.length kc] 50) := ⟨_, rfl⟩
      obtain ⟨A3, HA3e⟩ : ∃ A3, Hid (A3 = w5.heap.size) := ⟨_, rfl⟩
      have HA3 : Hid (W6.heap[A3]? = some (.cells #[.int .i64 r.kd, .string (bs r.v), .int .i64 r.n, .slice ko r.ks.length kc] 50 (0, 0))) := by rw [hW6, HA3e.out]; exact blk_new _ _
      have K6 : Hid (Kept Nil X W6) := by rw [hW6]; exact K5.out.alloc _
      have O6 : Hid (OwnP w1.heap.size W6.drew a5 c5 ps2) := by rw [hW6]; exact O5.out.kept ((Kept.refl _ _).alloc _).drew
      have KD : Hid (Kept Nil X W6.drew) := K6.out.drew
      rw [← hW6, ← HA3e.out]
      clear hW6 HA3e
      have AN := answer_any W6.drew B t _ _ _ _ (HTX.out _ KD.out).1 n0 (HTX.out _ KD.out).2.1 (HTX.out _ KD.out).2.2.1 (Nat.le_trans HM.out.n0le KD.out.size) HOK.out (HTX.out _ KD.out).2.2.2 r ko kc HRV.out
      simp only [rrV] at AN
      have sD : W6.drew.cell? (la.add k) = some (.pointer (some ⟨B, 0, none⟩)) ∧ W6.drew.cell? ⟨A3, 0, none⟩ = some (.int .i64 r.kd) ∧ W6.drew.cell? ⟨A3, 1, none⟩ = some (.string (bs r.v)) ∧ W6.drew.cell? ⟨A3, 2, none⟩ = some (.int .i64 r.n) ∧ W6.drew.cell? ⟨A3, 3, none⟩ = some (.slice ko r.ks.length kc) := ⟨HCL.out _ KD.out, blk_at HA3.out 0 rfl, blk_at HA3.out 1 rfl, blk_at HA3.out 2 rfl, blk_at HA3.out 3 rfl⟩
      have HANS : Hid (∀ ee wa, TxPost n0 W6.drew B (t.answer r) (D.ap i) (D.oo i) (D.cp i) ee wa → ee = .returned (.tuple #[]) ∧ (∃ T2, MS w w1 n0 sb es wa T2 ps2 a5 c5 (c + 1) (numsL (St.of ps)) ∧ Made ps ps2 T T2 i) ∧ wa.heap[A3]? = some (.cells #[.int .i64 r.kd, .string (bs r.v), .int .i64 r.n, .slice ko r.ks.length kc] 50 (0, 0))) := fun ee wa hp => by
        have h9 : (T i).ph ≤ 9 := by rw [← Ht.out]; exact HPH.out
        have hO := O6.out
        rw [HPS.out.1] at hO
        have hp2 := hp
        rw [Ht.out, HPS.out.2, HB.out, ← HDB.out] at hp2
        obtain ⟨h1, h2⟩ := (HM.out.next KD.out).answered (by omega) (by omega) HIN.out h9 (by rw [← HDb.out]) (HD.out.kept KD.out) hO hp2
        refine ⟨h1, ⟨_, by rw [HPS.out.1]; exact h2, by rw [HPS.out.1]; exact Made.some HM.out.run (by omega) (by omega) HIN.out HI7.out h9 HJ.out (HAL.out T HM.out.parts)⟩, ?_⟩
        obtain ⟨_, _, _, _, _, hk, _⟩ := hp
        refine hk.block _ _ (show W6.drew.heap[A3]? = _ from HA3.out) (fun x => ?_)
        rcases x with x | ⟨a, ha, x⟩
        · obtain ⟨cs, fr, h⟩ := (HTX.out _ KD.out).1.type
          rw [← x] at h
          have h7 := h.symm.trans (show W6.drew.heap[A3]? = _ from HA3.out)
          simp at h7
        · obtain ⟨_, cs, fr, h⟩ := (HTX.out _ KD.out).2.2.1.lt a ha
          rw [x] at h
          have h7 := h.symm.trans (show W6.drew.heap[A3]? = _ from HA3.out)
          simp at h7
      have HLRA : Hid (∀ wa T2, MS w w1 n0 sb es wa T2 ps2 a5 c5 (c + 1) (numsL (St.of ps)) → wa.cell? (la.add k) = some (.pointer (some ⟨B, 0, none⟩))) := fun wa T2 hm => by
        have := (HLR.out wa hm.kept k hk).1
        rw [← HE.out, ← HB.out] at this
        exact this
      go_region_held3 (fun w' => w'.cell? (la.add k) = some (.pointer (some ⟨B, 0, none⟩)) ∧ w'.cell? ⟨A3, 0, none⟩ = some (.int .i64 r.kd) ∧ w'.cell? ⟨A3, 1, none⟩ = some (.string (bs r.v)) ∧ w'.cell? ⟨A3, 2, none⟩ = some (.int .i64 r.n) ∧ w'.cell? ⟨A3, 3, none⟩ = some (.slice ko r.ks.length kc)) (first | assumption | go_keep) (first | (go_at_call 17; go_must (go_fit AN; intro ee wa hpa; obtain ⟨he, hms, hba⟩ := HANS.out ee wa hpa; subst he; have HMS : Hid (∃ T2, MS w w1 n0 sb es wa T2 ps2 a5 c5 (c + 1) (numsL (St.of ps)) ∧ Made ps ps2 T T2 i) := hms; have sa1 : wa.cell? (la.add k) = some (.pointer (some ⟨B, 0, none⟩)) ∧ wa.cell? ⟨A3, 0, none⟩ = some (.int .i64 r.kd) ∧ wa.cell? ⟨A3, 1, none⟩ = some (.string (bs r.v)) ∧ wa.cell? ⟨A3, 2, none⟩ = some (.int .i64 r.n) ∧ wa.cell? ⟨A3, 3, none⟩ = some (.slice ko r.ks.length kc) := ⟨(by obtain ⟨T2, hm, _⟩ := hms; exact HLRA.out wa T2 hm), blk_at hba 0 rfl, blk_at hba 1 rfl, blk_at hba 2 rfl, blk_at hba 3 rfl⟩; clear hpa hms hba)))
      all_goals
        have HF : Hid (∃ qs2 pa2 pc2 T2, (.slice a5 ps2.length c5 : Value) = .slice pa2 qs2.length pc2 ∧ MS w w1 n0 sb es wa T2 qs2 pa2 pc2 (c + 1) (numsL (St.of ps)) ∧ Made ps qs2 T T2 i) := by
          obtain ⟨T2, h1, h2⟩ := HMS.out
          exact ⟨ps2, a5, c5, T2, rfl, h1, h2⟩
        go_wp2
        go_meet
        exact HF.out
  case rest =>
    obtain ⟨ps2, pa2, pc2, T2, e15, hM2, hMD⟩ := hcut.out
    subst e15
    rename World => w6
    have HM2 : Hid (MS w w1 n0 sb es w6 T2 ps2 pa2 pc2 (c + 1) (numsL (St.of ps))) := hM2
    have HMD : Hid (Made ps ps2 T T2 i) := hMD
    clear hcut hM2 hMD HTX HCL HD HDB HAW KW HQ2 HQC HOK hol
    obtain ⟨D2, hDb2, hD2⟩ := HM2.out.tm
    obtain ⟨t2, Ht2⟩ : ∃ t, Hid (t = T2 i) := ⟨_, rfl⟩
    have HDB2 : Hid (D2.b i = B) := by show _ = _; rw [hDb2, HB.out]; show (enAt es i).b = _; rw [HEA.out]
    have hOK2 : t2.Ok := by rw [Ht2.out]; exact (HM2.out.run.inv.t i HIN.out).ok
    have hol2 : t2.old.length ≤ 4 := hOK2.old
    have LK := by
      have h1 := hD2.tx i HIN.out
      have h3 := hD2.old i HIN.out
      rw [HDB2.out, ← Ht2.out] at h1
      rw [← Ht2.out] at h3
      exact look_any w6 B t2 _ _ _ _ h1 n0 h3 (by omega)
    have c0 : w6.cell? (la.add k) = some (.pointer (some ⟨B, 0, none⟩)) := by
      have := (HLR.out w6 HM2.out.kept k hk).1
      rw [← HE.out, ← HB.out] at this
      exact this
    clear hDb2 hD2 HDB2 hOK2
    go_upto_region 34 with fail
    go_cut [24] from 161 to 165 (fun u wc => Hid (∃ A oa oc, u = .pointer (some ⟨A, 0, none⟩) ∧ A ≠ sb ∧ wc.heap[A]? = some (.cells #[.int .i64 t2.st, .slice oa t2.old.length oc] 39 (0, 0)) ∧ OwnI w1.heap.size wc oa oc t2.old ∧ Kept Nil w6 wc))
    case first =>
      go_wp2_with fail
      go_fit LK
      rintro ee w7 ⟨a7, c7, rfl, o7, k7⟩
      have HF : Hid (∃ A oa oc, (.pointer (some ⟨w7.heap.size, 0, none⟩) : Value) = .pointer (some ⟨A, 0, none⟩) ∧ A ≠ sb ∧ (w7.alloc (.cells #[.int .i64 t2.st, .slice a7 t2.old.length c7] 39)).heap[A]? = some (.cells #[.int .i64 t2.st, .slice oa t2.old.length oc] 39 (0, 0)) ∧ OwnI w1.heap.size (w7.alloc (.cells #[.int .i64 t2.st, .slice a7 t2.old.length c7] 39)) oa oc t2.old ∧ Kept Nil w6 (w7.alloc (.cells #[.int .i64 t2.st, .slice a7 t2.old.length c7] 39))) := by
        have hs1 := HM2.out.kept.size
        have hs2 := k7.size
        have hs3 := HM2.out.sbl
        refine ⟨_, a7, c7, rfl, by omega, blk_new _ _, (OwnI.kept ?_ ((Kept.refl _ _).alloc _)), k7.alloc _⟩
        exact own_mono o7 hs1
      clear LK o7 k7 c0
      go_wp2
      go_meet
      exact HF.out
    case rest =>
      obtain ⟨A7, oa7, oc7, e24, hA7, hB7, hO7, k7⟩ := hcut.out
      subst e24
      rename World => w8
      have HM8 : Hid (MS w w1 n0 sb es w8 T2 ps2 pa2 pc2 (c + 1) (numsL (St.of ps))) := HM2.out.next k7
      have HB7 : Hid (w8.heap[A7]? = some (.cells #[.int .i64 t2.st, .slice oa7 t2.old.length oc7] 39 (0, 0))) := hB7
      have HO7 : Hid (OwnI w1.heap.size w8 oa7 oc7 t2.old) := hO7
      have HT8 : Hid (t2 = T2 e.id ∧ t2.ps = e.ps ∧ t.ps = e.ps) := by
        refine ⟨by rw [Ht2.out, Hi.out], ?_, ?_⟩
        · rw [Ht2.out, HM2.out.parts i, HEA.out]
        · rw [Ht.out, HM.out.parts i, HEA.out]
      have HMK : Hid (Makes (St.of ps) (St.of ps2) t t2) := by have := HMD.out.makes; rw [← Ht.out, ← Ht2.out] at this; exact this
      have HINe : Hid (InE es e.id) := by rw [← Hi.out]; exact HIN.out
      have HKEe : Hid ((∀ p ∈ e.ps, ∃ a : Nat, keys4[a]? = some p.k) ∧ e.ps.length ≤ 4) := by rw [HE.out]; exact HKE.out _ (List.getElem_mem hk)
      have HMDe : Hid (Made ps ps2 T T2 e.id) := by rw [← Hi.out]; exact HMD.out
      clear hcut hB7 hO7 k7 LK c0
      apply_assumption
      refine tsTail35 w w1 w8 n0 sb pc2 (c + 1) A7 k pk oc7 es T2 ps2 ps pa2 oa7 sa la pp e t t2 _ _ _ _ _ _ _ _ _ _ _ _ _ _ _ _ _ _ _ _ _ _ _ _ _ _ _ _ _ _ _ _ _ _ _ _ _ _ _ _ _ _ _ _ _ _ _ _ _ _ _ _ _ _ _ _ _ _ _ _ _ _ _ _ _ _ _ _ _ _ _ _ _ _ _ _ _ _ _ _ _ _ _ _ _ _ _ _ _ _ _ _ _ _ _ _ _ _ _ _ _ _ _ _ _ _ _ _ _ _ _ _ _ _ _ _ _ _ _ _ _ _ _ _ _ _ _ _ _ _ _ _ _ _ _ _ _ _ _ _ _ _ _ _ _ _ _ _ _ _ _ _ _ _ _ _ _ _ _ _ _ _ _ _ _ _ _ _ _ _ _ _ _ _ _ _ _ _ _ _ _ _ _ _ _ _ _ _ _ _ _ _ _ _ _ _ _ _ _ _ _ _ _ _ _ _ _ _ _ _ _ _ _ _ _ _ _ _ _ _ _ _ _ _ _ _ _ _ _ _ _ _ _ _ _ _ _ _ _ _ _ _ _ _ _ _ _ _ _ _ _ _ ?_ HM8 HSA HL HLR hk HE HT8 HMK HB7 hA7 HO7 HKEe.out.1 HINe HKEe.out.2
      intro u6 u25 u26 u27 u166 u167 u168 u169 u170 u171 u172 u173 u174 u175 u176 u177 u178 u179 u180 u181 u182 u183 u184 u185 u186 u187 u188 u189 u190 u191 u192 u193 u194 u195 u196 u197 u198 u199 u200 u201 u202 u203 u204 u205 u206 u207 u208 u209 u210 u211 u212 u213 u214 u215 u216 u217 u218 u219 u220 u221 u222 u223 u224 u225 u226 u227 u228 u229 u230 u231 u232 u233 u234 u235 u236 u237 u238 u239 u240 u241 u242 u243 u244 u245 wz h1
      exact HKK.out _ _ _ _ _ _ _ _ _ _ _ _ _ _ _ _ _ _ _ _ _ _ _ _ _ _ _ _ _ _ _ _ _ _ _ _ _ _ _ _ _ _ _ _ _ _ _ _ _ _ _ _ _ _ _ _ _ _ _ _ _ _ _ _ _ _ _ _ _ _ _ _ _ _ _ _ _ _ _ _ _ _ _ _ _ _ _ _ _ _ _ _ _ _ _ _ _ _ _ _ _ _ _ _ _ _ _ _ _ _ _ _ _ _ _ _ _ _ _ _ _ _ _ _ ps2 pa2 pc2 T2 wz ⟨rfl, h1.out, HMDe.out⟩
end Go.Proofs.YtgkacepcggjfkaaGreatDoor
