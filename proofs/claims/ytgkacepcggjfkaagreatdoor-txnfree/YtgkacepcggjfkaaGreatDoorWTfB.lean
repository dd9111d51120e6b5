/-
  TxnFree: one of the others steps.
-/
import Derived.Test.YtgkacepcggjfkaaGreatDoorWTfA
import Derived.Test.YtgkacepcggjfkaaGreatDoorWTxB
import Derived.Test.YtgkacepcggjfkaaGreatDoorWTxC
import Derived.Test.YtgkacepcggjfkaaGreatDoorWKv12
import Derived.BigQuiet
import Derived.BigRegion
import Derived.StillTailTactics
import Derived.Deep.DeepCutAuto
import Derived.Deep.DeepFit
import Derived.Deep.RegionHeld3
namespace Go.Proofs.YtgkacepcggjfkaaGreatDoor
open Go.RowKit

set_option maxRecDepth 1000000 in
set_option maxHeartbeats 40000000 in
theorem tfTail16 (w w1 X : World) (n0 pc c k lc : Nat) (es : List Eb) (T : Nat → Tx) (ps : List Pr) (pa : Option Addr) (la : Addr) (e : Eb) (fv0 fv1 fv2 fv3 fv4 fv5 fv6 fv8 fv9 fv10 fv12 fv14 fv15 fv16 fv17 fv18 fv19 fv20 fv21 fv22 fv23 fv24 fv25 fv26 fv27 fv28 fv29 fv30 fv31 fv32 fv33 fv34 fv35 fv36 fv37 fv38 fv39 fv40 fv41 fv42 fv43 fv44 fv45 fv46 fv47 fv48 fv49 fv50 fv51 fv52 fv53 fv54 fv55 fv56 fv57 fv58 fv59 fv60 fv61 fv62 fv63 fv64 fv65 fv66 fv67 fv68 fv69 fv70 fv71 fv72 fv73 fv74 fv75 fv76 fv77 fv78 fv79 fv80 fv81 fv82 fv83 fv84 fv85 fv86 fv87 fv88 fv89 fv90 fv91 fv92 fv93 fv94 fv95 fv96 fv97 fv98 fv99 fv100 fv101 fv102 fv103 fv104 fv105 fv106 fv107 fv108 fv109 fv110 fv111 fv112 fv113 fv114 fv115 fv116 fv117 fv118 fv119 fv120 fv121 fv122 fv123 fv124 fv125 fv126 fv127 fv128 fv129 fv130 fv131 fv132 fv133 fv134 fv135 fv136 fv137 fv138 fv139 fv140 fv141 fv142 fv143 fv144 fv145 fv146 fv147 fv148 fv149 fv150 fv151 fv152 fv153 fv154 fv155 fv156 fv157 fv158 fv159 fv160 fv161 fv162 fv163 fv164 fv165 fv166 fv167 fv168 fv169 fv170 fv171 fv172 fv173 fv174 fv175 fv176 fv177 fv178 fv179 fv180 fv181 fv182 fv183 fv184 fv185 fv186 fv187 fv188 fv189 fv190 fv191 fv192 fv193 fv194 fv195 fv196 fv197 fv198 fv199 fv200 fv201 : Value) (K1 : Act → World → Prop) (Q9 : Exit → Act → World → Prop)
    (hK : ∀ (u11 u14 u15 u16 u17 u84 u85 u86 u87 u88 u89 u90 u91 u92 u93 u94 u95 u96 u97 u98 u99 u100 u101 u102 u103 u104 u105 : Value) (ps2 : List Pr) (pa2 : Option Addr) (pc2 : Nat) (T2 : Nat → Tx) (wc : World), Hid (u11 = .slice pa2 ps2.length pc2 ∧ FO w w1 n0 es wc T2 ps2 pa2 pc2 (c + 1)) → K1 ⟨#[fv0, fv1, fv2, fv3, fv4, fv5, fv6, .slice (some la) es.length lc, fv8, fv9, fv10, u11, fv12, .int .i64 k, u14, u15, u16, u17, fv18, fv19, fv20, fv21, fv22, fv23, fv24, fv25, fv26, fv27, fv28, fv29, fv30, fv31, fv32, fv33, fv34, fv35, fv36, fv37, fv38, fv39, fv40, fv41, fv42, fv43, fv44, fv45, fv46, fv47, fv48, fv49, fv50, fv51, fv52, fv53, fv54, fv55, fv56, fv57, fv58, fv59, fv60, fv61, fv62, fv63, fv64, fv65, fv66, fv67, fv68, fv69, fv70, fv71, fv72, fv73, fv74, fv75, fv76, fv77, fv78, fv79, fv80, fv81, fv82, fv83, u84, u85, u86, u87, u88, u89, u90, u91, u92, u93, u94, u95, u96, u97, u98, u99, u100, u101, u102, u103, u104, u105, fv106, fv107, fv108, fv109, fv110, fv111, fv112, fv113, fv114, fv115, fv116, fv117, fv118, fv119, fv120, fv121, fv122, fv123, fv124, fv125, fv126, fv127, fv128, fv129, fv130, fv131, fv132, fv133, fv134, fv135, fv136, fv137, fv138, fv139, fv140, fv141, fv142, fv143, fv144, fv145, fv146, fv147, fv148, fv149, fv150, fv151, fv152, fv153, fv154, fv155, fv156, fv157, fv158, fv159, fv160, fv161, fv162, fv163, fv164, fv165, fv166, fv167, fv168, fv169, fv170, fv171, fv172, fv173, fv174, fv175, fv176, fv177, fv178, fv179, fv180, fv181, fv182, fv183, fv184, fv185, fv186, fv187, fv188, fv189, fv190, fv191, fv192, fv193, fv194, fv195, fv196, fv197, fv198, fv199, fv200, fv201], []⟩ wc)
    (HM : Hid (FO w w1 n0 es X T ps pa pc c)) (HL : Hid (LD w)) (HLR : Hid (LRF w1 es la)) (HA9 : Hid (∀ e ∈ es, ∀ p ∈ e.ps, p.a ≤ 9)) (HND : Hid ((es.map Eb.id).Nodup)) (hl7 : es.length ≤ 7) (hc : c ≤ 1000000) (hk : k < es.length) (HE : Hid (e = es[k])) :
    Code.wp Tryz.prog fT16 (Exit.inBlock 3 (Exit.then K1 Q9)) ⟨#[fv0, fv1, fv2, fv3, fv4, fv5, fv6, .slice (some la) es.length lc, fv8, fv9, fv10, .slice pa ps.length pc, fv12, .int .i64 k, fv14, fv15, fv16, fv17, fv18, fv19, fv20, fv21, fv22, fv23, fv24, fv25, fv26, fv27, fv28, fv29, fv30, fv31, fv32, fv33, fv34, fv35, fv36, fv37, fv38, fv39, fv40, fv41, fv42, fv43, fv44, fv45, fv46, fv47, fv48, fv49, fv50, fv51, fv52, fv53, fv54, fv55, fv56, fv57, fv58, fv59, fv60, fv61, fv62, fv63, fv64, fv65, fv66, fv67, fv68, fv69, fv70, fv71, fv72, fv73, fv74, fv75, fv76, fv77, fv78, fv79, fv80, fv81, fv82, fv83, fv84, fv85, fv86, fv87, fv88, fv89, fv90, fv91, fv92, fv93, fv94, fv95, fv96, fv97, fv98, fv99, fv100, fv101, fv102, fv103, fv104, fv105, fv106, fv107, fv108, fv109, fv110, fv111, fv112, fv113, fv114, fv115, fv116, fv117, fv118, fv119, fv120, fv121, fv122, fv123, fv124, fv125, fv126, fv127, fv128, fv129, fv130, fv131, fv132, fv133, fv134, fv135, fv136, fv137, fv138, fv139, fv140, fv141, fv142, fv143, fv144, fv145, fv146, fv147, fv148, fv149, fv150, fv151, fv152, fv153, fv154, fv155, fv156, fv157, fv158, fv159, fv160, fv161, fv162, fv163, fv164, fv165, fv166, fv167, fv168, fv169, fv170, fv171, fv172, fv173, fv174, fv175, fv176, fv177, fv178, fv179, fv180, fv181, fv182, fv183, fv184, fv185, fv186, fv187, fv188, fv189, fv190, fv191, fv192, fv193, fv194, fv195, fv196, fv197, fv198, fv199, fv200, fv201], []⟩ X := by
  have HKK : Hid (∀ (u11 u14 u15 u16 u17 u84 u85 u86 u87 u88 u89 u90 u91 u92 u93 u94 u95 u96 u97 u98 u99 u100 u101 u102 u103 u104 u105 : Value) (ps2 : List Pr) (pa2 : Option Addr) (pc2 : Nat) (T2 : Nat → Tx) (wc : World), Hid (u11 = .slice pa2 ps2.length pc2 ∧ FO w w1 n0 es wc T2 ps2 pa2 pc2 (c + 1)) → K1 ⟨#[fv0, fv1, fv2, fv3, fv4, fv5, fv6, .slice (some la) es.length lc, fv8, fv9, fv10, u11, fv12, .int .i64 k, u14, u15, u16, u17, fv18, fv19, fv20, fv21, fv22, fv23, fv24, fv25, fv26, fv27, fv28, fv29, fv30, fv31, fv32, fv33, fv34, fv35, fv36, fv37, fv38, fv39, fv40, fv41, fv42, fv43, fv44, fv45, fv46, fv47, fv48, fv49, fv50, fv51, fv52, fv53, fv54, fv55, fv56, fv57, fv58, fv59, fv60, fv61, fv62, fv63, fv64, fv65, fv66, fv67, fv68, fv69, fv70, fv71, fv72, fv73, fv74, fv75, fv76, fv77, fv78, fv79, fv80, fv81, fv82, fv83, u84, u85, u86, u87, u88, u89, u90, u91, u92, u93, u94, u95, u96, u97, u98, u99, u100, u101, u102, u103, u104, u105, fv106, fv107, fv108, fv109, fv110, fv111, fv112, fv113, fv114, fv115, fv116, fv117, fv118, fv119, fv120, fv121, fv122, fv123, fv124, fv125, fv126, fv127, fv128, fv129, fv130, fv131, fv132, fv133, fv134, fv135, fv136, fv137, fv138, fv139, fv140, fv141, fv142, fv143, fv144, fv145, fv146, fv147, fv148, fv149, fv150, fv151, fv152, fv153, fv154, fv155, fv156, fv157, fv158, fv159, fv160, fv161, fv162, fv163, fv164, fv165, fv166, fv167, fv168, fv169, fv170, fv171, fv172, fv173, fv174, fv175, fv176, fv177, fv178, fv179, fv180, fv181, fv182, fv183, fv184, fv185, fv186, fv187, fv188, fv189, fv190, fv191, fv192, fv193, fv194, fv195, fv196, fv197, fv198, fv199, fv200, fv201], []⟩ wc) := hK
  clear hK
  conv => arg 2; whnf
  dsimp only
  obtain ⟨D, hDb, hD⟩ := HM.out.mf.tm
  obtain ⟨i, Hi⟩ : ∃ i, Hid (i = e.id) := ⟨_, rfl⟩
  have HIN : Hid (InE es i) := ⟨es[k], List.getElem_mem hk, by rw [Hi.out, HE.out]⟩
  have HEA : Hid (enAt es i = e) := by show _ = _; rw [Hi.out, HE.out]; exact enAt_self HND.out hk
  have HDB : Hid (D.b i = e.b) := by show _ = _; rw [hDb]; show (enAt es i).b = _; rw [HEA.out]
  obtain ⟨t, Ht⟩ : ∃ t, Hid (t = T i) := ⟨_, rfl⟩
  have HOK : Hid (t.Ok) := by rw [Ht.out]; exact (HM.out.mf.run.inv.t i HIN.out).ok
  obtain ⟨B, HB⟩ : ∃ b, Hid (b = e.b) := ⟨_, rfl⟩
  have HD : Hid (TM n0 w1.heap.size X (InE es) T D) := hD
  have HTX : Hid (∀ Y, Kept Nil X Y → TxAt Y B t (D.ap i) (D.oo i) (D.cp i) (D.oc i) ∧ OwnT n0 Y (D.ap i) (D.cp i) t.ps ∧ OwnI n0 Y (D.oo i) (D.oc i) t.old ∧ LD Y) := fun Y kY => by
    have h := HD.out.kept kY
    have h1 := h.tx i HIN.out
    rw [HDB.out, ← HB.out, ← Ht.out] at h1
    have h2 := h.ps i HIN.out
    have h3 := h.old i HIN.out
    rw [← Ht.out] at h2 h3
    exact ⟨h1, h2, h3, HL.out.kept (HM.out.mf.kw.trans kY)⟩
  have HCL : Hid (∀ Y, Kept Nil X Y → Y.cell? (la.add k) = some (.pointer (some ⟨B, 0, none⟩))) := fun Y kY => by
    have := HLR.out Y (HM.out.next kY).mf.kept k hk
    rw [← HE.out, ← HB.out] at this
    exact this
  have c0 := HCL.out X (Kept.refl _ _)
  have hki : (k : Int) < es.length := by omega
  have hol : t.old.length ≤ 4 := HOK.out.old
  have HDb : Hid (D.b = (dOf es).b) := hDb
  have NX := next_any X B t _ _ _ _ (HTX.out X (Kept.refl _ _)).1 n0 (HTX.out X (Kept.refl _ _)).2.1 HOK.out (HTX.out X (Kept.refl _ _)).2.2.2
  clear hDb hD
  go_wp2_with fail
  go_fit NX
  rintro ee w3 ⟨rfl, k3⟩
  have K3 : Hid (Kept Nil X w3) := k3
  clear NX k3 c0
  obtain ⟨q, Hq⟩ : ∃ q, Hid (q = t.next) := ⟨_, rfl⟩
  rw [← Hq.out]
  obtain ⟨q1, q2⟩ := q
  obtain ⟨kd, ky, vl, mm⟩ := q1
  simp only [cdV]
  have HQ2 : Hid (q2 = decide (t.ph ≤ 9)) := by
    have h1 := next_is t HOK.out.ph
    rw [← Hq.out] at h1
    exact h1
  have HQC : Hid (t.next.1 = ⟨kd, ky, vl, mm⟩) := by show _ = _; rw [← Hq.out]
  clear Hq
  go_upto_if 92 with fail
  obtain ⟨W, hW⟩ : ∃ W, W = w3.alloc (.cells #[.int .i64 kd, .string (bs ky), .string (bs vl), .int .i64 mm] 31) := ⟨_, rfl⟩
  obtain ⟨A, HAe⟩ : ∃ A, Hid (A = w3.heap.size) := ⟨_, rfl⟩
  have HAW : Hid (W.heap[A]? = some (.cells #[.int .i64 kd, .string (bs ky), .string (bs vl), .int .i64 mm] 31 (0, 0))) := by rw [hW, HAe.out]; exact blk_new _ _
  have KW : Hid (Kept Nil X W) := by rw [hW]; exact K3.out.alloc _
  rw [← hW, ← HAe.out]
  clear hW HAe K3
  cases q2 with
  | false =>
    have HF : Hid (FO w w1 n0 es W T ps pa pc (c + 1)) := (HM.out.next KW.out).more
    go_wp2
    exact HKK.out _ _ _ _ _ _ _ _ _ _ _ _ _ _ _ _ _ _ _ _ _ _ _ _ _ _ _ ps pa pc T _ ⟨rfl, HF.out⟩
  | true =>
    have HPH : Hid (t.ph ≤ 9) := by
      have h1 := HQ2.out.symm
      show t.ph ≤ 9
      exact of_decide_eq_true h1
    have d0 : W.cell? ⟨A, 0, none⟩ = some (.int .i64 kd) := blk_at HAW.out 0 rfl
    have d1 : W.cell? ⟨A, 1, none⟩ = some (.string (bs ky)) := blk_at HAW.out 1 rfl
    have d2 : W.cell? ⟨A, 2, none⟩ = some (.string (bs vl)) := blk_at HAW.out 2 rfl
    have d3 : W.cell? ⟨A, 3, none⟩ = some (.int .i64 mm) := blk_at HAW.out 3 rfl
    have HKL : Hid (ky.length ≤ maxLen ∧ vl.length ≤ maxLen) := by
      have h1 := next_cmd HOK.out HPH.out (by
        have h2 := HM.out.mf.run.vr i HIN.out
        rw [← Ht.out] at h2
        unfold isNum
        simp only [Bool.and_eq_true, decide_eq_true_eq]
        omega) (by rw [Ht.out]; exact (HM.out.mf.run.inv.t i HIN.out).four)
      rw [HQC.out] at h1
      unfold isCmd at h1
      simp at h1
      refine ⟨?_, ?_⟩ <;> (unfold maxLen; omega)
    have AP := by
      obtain ⟨p1, p2, p3⟩ := (HM.out.next KW.out).mf.pairs
      exact apply_any _ pc pa ps ky vl kd mm W p1 p2 p3 HKL.out.1 HKL.out.2
    obtain ⟨ps2, HP2⟩ : ∃ l, Hid (l = apP kd ky vl mm ps) := ⟨_, rfl⟩
    obtain ⟨r, HR⟩ : ∃ r, Hid (r = apR kd ky vl mm ps) := ⟨_, rfl⟩
    rw [← HP2.out, ← HR.out] at AP
    have HPS : Hid (ps2 = (T i).psOf ps ∧ r = (T i).rOf ps) := by
      rw [← Ht.out]
      unfold Tx.psOf Tx.rOf
      rw [HQC.out]
      exact ⟨HP2.out, HR.out⟩
    have HRV : Hid (r.v.length ≤ 1048576) := by
      have := apR_v kd ky vl mm ps
      rw [← HR.out] at this
      show _ ≤ _
      omega
    clear HP2 HR
    go_wp2_with fail
    go_fit AP
    rintro ee w5 ⟨a5, c5, ko, kc, rfl, o5, _, k5⟩
    simp only [rrV]
    have K5 : Hid (Kept Nil X w5) := KW.out.trans k5
    have O5 : Hid (OwnP w1.heap.size w5 a5 c5 ps2) := o5.mono (Nat.le_trans HD.out.sz KW.out.size)
    clear AP k5 o5 d0 d1 d2 d3
    go_upto_region 20 with fail
    obtain ⟨W6, hW6⟩ : ∃ W6, W6 = w5.alloc (.cells #[.int .i64 r.kd, .string (bs r.v), .int .i64 r.n, .slice ko r.ks.length kc] 50) := ⟨_, rfl⟩
    obtain ⟨A3, HA3e⟩ : ∃ A3, Hid (A3 = w5.heap.size) := ⟨_, rfl⟩
    have HA3 : Hid (W6.heap[A3]? = some (.cells #[.int .i64 r.kd, .string (bs r.v), .int .i64 r.n, .slice ko r.ks.length kc] 50 (0, 0))) := by rw [hW6, HA3e.out]; exact blk_new _ _
    have K6 : Hid (Kept Nil X W6) := by rw [hW6]; exact K5.out.alloc _
    have O6 : Hid (OwnP w1.heap.size W6.drew a5 c5 ps2) := by rw [hW6]; exact O5.out.kept ((Kept.refl _ _).alloc _).drew
    have KD : Hid (Kept Nil X W6.drew) := K6.out.drew
    rw [← hW6, ← HA3e.out]
    clear hW6 HA3e
    have AN := answer_any W6.drew B t _ _ _ _ (HTX.out _ KD.out).1 n0 (HTX.out _ KD.out).2.1 (HTX.out _ KD.out).2.2.1 (Nat.le_trans HM.out.mf.n0le KD.out.size) HOK.out (HTX.out _ KD.out).2.2.2 r ko kc HRV.out
    simp only [rrV] at AN
    have sD : W6.drew.cell? (la.add k) = some (.pointer (some ⟨B, 0, none⟩)) ∧ W6.drew.cell? ⟨A3, 0, none⟩ = some (.int .i64 r.kd) ∧ W6.drew.cell? ⟨A3, 1, none⟩ = some (.string (bs r.v)) ∧ W6.drew.cell? ⟨A3, 2, none⟩ = some (.int .i64 r.n) ∧ W6.drew.cell? ⟨A3, 3, none⟩ = some (.slice ko r.ks.length kc) := ⟨HCL.out _ KD.out, blk_at HA3.out 0 rfl, blk_at HA3.out 1 rfl, blk_at HA3.out 2 rfl, blk_at HA3.out 3 rfl⟩
    have HANS : Hid (∀ ee wa, TxPost n0 W6.drew B (t.answer r) (D.ap i) (D.oo i) (D.cp i) ee wa → ee = .returned (.tuple #[]) ∧ (∃ T2, FO w w1 n0 es wa T2 ps2 a5 c5 (c + 1)) ∧ wa.heap[A3]? = some (.cells #[.int .i64 r.kd, .string (bs r.v), .int .i64 r.n, .slice ko r.ks.length kc] 50 (0, 0))) := fun ee wa hp => by
      have h9 : (T i).ph ≤ 9 := by rw [← Ht.out]; exact HPH.out
      have hO := O6.out
      rw [HPS.out.1] at hO
      have hp2 := hp
      rw [Ht.out, HPS.out.2, HB.out, ← HDB.out] at hp2
      obtain ⟨h1, h2⟩ := (HM.out.next KD.out).answered (by omega) (by omega) HIN.out h9 HND.out HA9.out (by rw [← HDb.out]) (HD.out.kept KD.out) hO hp2
      refine ⟨h1, ⟨_, by rw [HPS.out.1]; exact h2⟩, ?_⟩
      obtain ⟨_, _, _, _, _, hk, _⟩ := hp
      refine hk.block _ _ (show W6.drew.heap[A3]? = _ from HA3.out) (fun x => ?_)
      rcases x with x | ⟨a, ha, x⟩
      · obtain ⟨cs, fr, h⟩ := (HTX.out _ KD.out).1.type
        rw [← x] at h
        have h7 := h.symm.trans (show W6.drew.heap[A3]? = _ from HA3.out)
        simp at h7
      · obtain ⟨_, cs, fr, h⟩ := (HTX.out _ KD.out).2.2.1.lt a ha
        rw [x] at h
        have h7 := h.symm.trans (show W6.drew.heap[A3]? = _ from HA3.out)
        simp at h7
    have HLRA : Hid (∀ wa T2, FO w w1 n0 es wa T2 ps2 a5 c5 (c + 1) → wa.cell? (la.add k) = some (.pointer (some ⟨B, 0, none⟩))) := fun wa T2 hm => by
      have := HLR.out wa hm.mf.kept k hk
      rw [← HE.out, ← HB.out] at this
      exact this
    go_region_held3 (fun w' => w'.cell? (la.add k) = some (.pointer (some ⟨B, 0, none⟩)) ∧ w'.cell? ⟨A3, 0, none⟩ = some (.int .i64 r.kd) ∧ w'.cell? ⟨A3, 1, none⟩ = some (.string (bs r.v)) ∧ w'.cell? ⟨A3, 2, none⟩ = some (.int .i64 r.n) ∧ w'.cell? ⟨A3, 3, none⟩ = some (.slice ko r.ks.length kc)) (first | assumption | go_keep) (first | (go_at_call 17; go_must (go_fit AN; intro ee wa hpa; obtain ⟨he, hms, hba⟩ := HANS.out ee wa hpa; subst he; have HMS : Hid (∃ T2, FO w w1 n0 es wa T2 ps2 a5 c5 (c + 1)) := hms; have sa1 : wa.cell? (la.add k) = some (.pointer (some ⟨B, 0, none⟩)) ∧ wa.cell? ⟨A3, 0, none⟩ = some (.int .i64 r.kd) ∧ wa.cell? ⟨A3, 1, none⟩ = some (.string (bs r.v)) ∧ wa.cell? ⟨A3, 2, none⟩ = some (.int .i64 r.n) ∧ wa.cell? ⟨A3, 3, none⟩ = some (.slice ko r.ks.length kc) := ⟨(by obtain ⟨T2, hm⟩ := hms; exact HLRA.out wa T2 hm), blk_at hba 0 rfl, blk_at hba 1 rfl, blk_at hba 2 rfl, blk_at hba 3 rfl⟩; clear hpa hms hba)))
    all_goals
      obtain ⟨T2, hF⟩ := HMS.out
      have HF : Hid (FO w w1 n0 es wa T2 ps2 a5 c5 (c + 1)) := hF
      clear hF HMS
      go_wp2
      exact HKK.out _ _ _ _ _ _ _ _ _ _ _ _ _ _ _ _ _ _ _ _ _ _ _ _ _ _ _ ps2 a5 c5 T2 wa ⟨rfl, HF.out⟩
end Go.Proofs.YtgkacepcggjfkaaGreatDoor
