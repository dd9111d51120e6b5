/-
  TxnFree: the lone one's command is done.
-/
import Derived.Test.YtgkacepcggjfkaaGreatDoorWTfC
import Derived.Test.YtgkacepcggjfkaaGreatDoorWTfB
namespace Go.Proofs.YtgkacepcggjfkaaGreatDoor
open Go.RowKit

set_option maxRecDepth 1000000 in
set_option maxHeartbeats 40000000 in
theorem tfTail45 (w w1 X : World) (n0 pc c j A B : Nat) (es : List Eb) (N0 : List UInt8 → Nat) (own : List Pt) (T : Nat → Tx) (ps : List Pr) (pa : Option Addr) (kd mm : Int) (ky vl : List UInt8) (fv0 fv1 fv2 fv3 fv4 fv5 fv6 fv7 fv8 fv9 fv10 fv12 fv13 fv14 fv15 fv16 fv17 fv18 fv20 fv21 fv22 fv23 fv25 fv26 fv27 fv28 fv29 fv30 fv31 fv32 fv33 fv34 fv35 fv36 fv37 fv38 fv39 fv40 fv41 fv42 fv43 fv44 fv45 fv46 fv47 fv48 fv49 fv50 fv51 fv52 fv53 fv54 fv55 fv56 fv57 fv58 fv59 fv60 fv61 fv62 fv63 fv64 fv65 fv66 fv67 fv68 fv69 fv70 fv71 fv72 fv73 fv74 fv75 fv76 fv77 fv78 fv79 fv80 fv81 fv82 fv83 fv84 fv85 fv86 fv87 fv88 fv89 fv90 fv91 fv92 fv93 fv94 fv95 fv96 fv97 fv98 fv99 fv100 fv101 fv102 fv103 fv104 fv105 fv106 fv107 fv108 fv109 fv110 fv111 fv112 fv113 fv114 fv115 fv116 fv117 fv118 fv119 fv120 fv121 fv122 fv123 fv124 fv125 fv126 fv127 fv128 fv129 fv130 fv131 fv132 fv133 fv134 fv135 fv136 fv137 fv138 fv139 fv140 fv141 fv142 fv143 fv144 fv145 fv146 fv147 fv148 fv149 fv150 fv151 fv152 fv153 fv154 fv155 fv156 fv157 fv158 fv159 fv160 fv161 fv162 fv163 fv164 fv165 fv166 fv167 fv168 fv169 fv170 fv171 fv172 fv173 fv174 fv175 fv176 fv177 fv178 fv179 fv180 fv181 fv182 fv183 fv184 fv185 fv186 fv187 fv188 fv189 fv190 fv191 fv192 fv193 fv194 fv195 fv196 fv197 fv198 fv199 fv200 fv201 : Value) (K1 : Act → World → Prop) (Q9 : Exit → Act → World → Prop)
    (hK : ∀ (u11 u29 u30 u192 u193 u194 u195 u196 u197 u198 u199 u200 u201 : Value) (ps2 : List Pr) (pa2 : Option Addr) (pc2 : Nat) (T2 : Nat → Tx) (wc : World), Hid (u11 = .slice pa2 ps2.length pc2 ∧ FS w w1 n0 es B N0 own wc T2 ps2 pa2 pc2 (c + 1) (j + 1)) → K1 ⟨#[fv0, fv1, fv2, fv3, fv4, fv5, fv6, fv7, fv8, fv9, fv10, u11, fv12, fv13, fv14, fv15, fv16, fv17, fv18, .pointer (some ⟨B, 0, none⟩), fv20, fv21, fv22, fv23, .pointer (some ⟨A, 0, none⟩), fv25, fv26, fv27, fv28, u29, u30, fv31, fv32, fv33, fv34, fv35, fv36, fv37, fv38, fv39, fv40, fv41, fv42, fv43, fv44, fv45, fv46, fv47, fv48, fv49, fv50, fv51, fv52, fv53, fv54, fv55, fv56, fv57, fv58, fv59, fv60, fv61, fv62, fv63, fv64, fv65, fv66, fv67, fv68, fv69, fv70, fv71, fv72, fv73, fv74, fv75, fv76, fv77, fv78, fv79, fv80, fv81, fv82, fv83, fv84, fv85, fv86, fv87, fv88, fv89, fv90, fv91, fv92, fv93, fv94, fv95, fv96, fv97, fv98, fv99, fv100, fv101, fv102, fv103, fv104, fv105, fv106, fv107, fv108, fv109, fv110, fv111, fv112, fv113, fv114, fv115, fv116, fv117, fv118, fv119, fv120, fv121, fv122, fv123, fv124, fv125, fv126, fv127, fv128, fv129, fv130, fv131, fv132, fv133, fv134, fv135, fv136, fv137, fv138, fv139, fv140, fv141, fv142, fv143, fv144, fv145, fv146, fv147, fv148, fv149, fv150, fv151, fv152, fv153, fv154, fv155, fv156, fv157, fv158, fv159, fv160, fv161, fv162, fv163, fv164, fv165, fv166, fv167, fv168, fv169, fv170, fv171, fv172, fv173, fv174, fv175, fv176, fv177, fv178, fv179, fv180, fv181, fv182, fv183, fv184, fv185, fv186, fv187, fv188, fv189, fv190, fv191, u192, u193, u194, u195, u196, u197, u198, u199, u200, u201], []⟩ wc)
    (HM : Hid (FS w w1 n0 es B N0 own X T ps pa pc c j)) (HL : Hid (LD w)) (HN : Hid (∀ p ∈ own, (N0 p.k : Int) + p.a ≤ 999999999)) (hl7 : es.length ≤ 7) (hc : c ≤ 1000000) (HPH : Hid ((T 50).ph ≤ 9)) (HQC : Hid ((T 50).next.1 = ⟨kd, ky, vl, mm⟩)) (HAW : Hid (X.heap[A]? = some (.cells #[.int .i64 kd, .string (bs ky), .string (bs vl), .int .i64 mm] 31 (0, 0)))) :
    Code.wp Tryz.prog fT45 (Exit.inBlock 7 (Exit.then K1 Q9)) ⟨#[fv0, fv1, fv2, fv3, fv4, fv5, fv6, fv7, fv8, fv9, fv10, .slice pa ps.length pc, fv12, fv13, fv14, fv15, fv16, fv17, fv18, .pointer (some ⟨B, 0, none⟩), fv20, fv21, fv22, fv23, .pointer (some ⟨A, 0, none⟩), fv25, fv26, fv27, fv28, fv29, fv30, fv31, fv32, fv33, fv34, fv35, fv36, fv37, fv38, fv39, fv40, fv41, fv42, fv43, fv44, fv45, fv46, fv47, fv48, fv49, fv50, fv51, fv52, fv53, fv54, fv55, fv56, fv57, fv58, fv59, fv60, fv61, fv62, fv63, fv64, fv65, fv66, fv67, fv68, fv69, fv70, fv71, fv72, fv73, fv74, fv75, fv76, fv77, fv78, fv79, fv80, fv81, fv82, fv83, fv84, fv85, fv86, fv87, fv88, fv89, fv90, fv91, fv92, fv93, fv94, fv95, fv96, fv97, fv98, fv99, fv100, fv101, fv102, fv103, fv104, fv105, fv106, fv107, fv108, fv109, fv110, fv111, fv112, fv113, fv114, fv115, fv116, fv117, fv118, fv119, fv120, fv121, fv122, fv123, fv124, fv125, fv126, fv127, fv128, fv129, fv130, fv131, fv132, fv133, fv134, fv135, fv136, fv137, fv138, fv139, fv140, fv141, fv142, fv143, fv144, fv145, fv146, fv147, fv148, fv149, fv150, fv151, fv152, fv153, fv154, fv155, fv156, fv157, fv158, fv159, fv160, fv161, fv162, fv163, fv164, fv165, fv166, fv167, fv168, fv169, fv170, fv171, fv172, fv173, fv174, fv175, fv176, fv177, fv178, fv179, fv180, fv181, fv182, fv183, fv184, fv185, fv186, fv187, fv188, fv189, fv190, fv191, fv192, fv193, fv194, fv195, fv196, fv197, fv198, fv199, fv200, fv201], []⟩ X := by
  have HKK : Hid (∀ (u11 u29 u30 u192 u193 u194 u195 u196 u197 u198 u199 u200 u201 : Value) (ps2 : List Pr) (pa2 : Option Addr) (pc2 : Nat) (T2 : Nat → Tx) (wc : World), Hid (u11 = .slice pa2 ps2.length pc2 ∧ FS w w1 n0 es B N0 own wc T2 ps2 pa2 pc2 (c + 1) (j + 1)) → K1 ⟨#[fv0, fv1, fv2, fv3, fv4, fv5, fv6, fv7, fv8, fv9, fv10, u11, fv12, fv13, fv14, fv15, fv16, fv17, fv18, .pointer (some ⟨B, 0, none⟩), fv20, fv21, fv22, fv23, .pointer (some ⟨A, 0, none⟩), fv25, fv26, fv27, fv28, u29, u30, fv31, fv32, fv33, fv34, fv35, fv36, fv37, fv38, fv39, fv40, fv41, fv42, fv43, fv44, fv45, fv46, fv47, fv48, fv49, fv50, fv51, fv52, fv53, fv54, fv55, fv56, fv57, fv58, fv59, fv60, fv61, fv62, fv63, fv64, fv65, fv66, fv67, fv68, fv69, fv70, fv71, fv72, fv73, fv74, fv75, fv76, fv77, fv78, fv79, fv80, fv81, fv82, fv83, fv84, fv85, fv86, fv87, fv88, fv89, fv90, fv91, fv92, fv93, fv94, fv95, fv96, fv97, fv98, fv99, fv100, fv101, fv102, fv103, fv104, fv105, fv106, fv107, fv108, fv109, fv110, fv111, fv112, fv113, fv114, fv115, fv116, fv117, fv118, fv119, fv120, fv121, fv122, fv123, fv124, fv125, fv126, fv127, fv128, fv129, fv130, fv131, fv132, fv133, fv134, fv135, fv136, fv137, fv138, fv139, fv140, fv141, fv142, fv143, fv144, fv145, fv146, fv147, fv148, fv149, fv150, fv151, fv152, fv153, fv154, fv155, fv156, fv157, fv158, fv159, fv160, fv161, fv162, fv163, fv164, fv165, fv166, fv167, fv168, fv169, fv170, fv171, fv172, fv173, fv174, fv175, fv176, fv177, fv178, fv179, fv180, fv181, fv182, fv183, fv184, fv185, fv186, fv187, fv188, fv189, fv190, fv191, u192, u193, u194, u195, u196, u197, u198, u199, u200, u201], []⟩ wc) := hK
  clear hK
  conv => arg 2; whnf
  dsimp only
  obtain ⟨D, hDb, hD⟩ := HM.out.mf.tm
  have HIN : Hid (In50 es 50) := .inr rfl
  have HDB : Hid (D.b 50 = B) := by show _ = _; rw [hDb]; unfold b50; rw [if_pos rfl]
  have HDb : Hid (D.b = b50 es B) := hDb
  obtain ⟨t, Ht⟩ : ∃ t, Hid (t = T 50) := ⟨_, rfl⟩
  have HOK : Hid (t.Ok) := by rw [Ht.out]; exact (HM.out.mf.run.inv.t 50 HIN.out).ok
  have HD : Hid (TM n0 w1.heap.size X (In50 es) T D) := hD
  have HTX : Hid (∀ Y, Kept Nil X Y → TxAt Y B t (D.ap 50) (D.oo 50) (D.cp 50) (D.oc 50) ∧ OwnT n0 Y (D.ap 50) (D.cp 50) t.ps ∧ OwnI n0 Y (D.oo 50) (D.oc 50) t.old ∧ LD Y) := fun Y kY => by
    have h := HD.out.kept kY
    have h1 := h.tx 50 HIN.out
    rw [HDB.out, ← Ht.out] at h1
    have h2 := h.ps 50 HIN.out
    have h3 := h.old 50 HIN.out
    rw [← Ht.out] at h2 h3
    exact ⟨h1, h2, h3, HL.out.kept (HM.out.mf.kw.trans kY)⟩
  have HQt : Hid (t.next.1 = ⟨kd, ky, vl, mm⟩ ∧ t.ph ≤ 9) := by rw [Ht.out]; exact ⟨HQC.out, HPH.out⟩
  have d0 : X.cell? ⟨A, 0, none⟩ = some (.int .i64 kd) := blk_at HAW.out 0 rfl
  have d1 : X.cell? ⟨A, 1, none⟩ = some (.string (bs ky)) := blk_at HAW.out 1 rfl
  have d2 : X.cell? ⟨A, 2, none⟩ = some (.string (bs vl)) := blk_at HAW.out 2 rfl
  have d3 : X.cell? ⟨A, 3, none⟩ = some (.int .i64 mm) := blk_at HAW.out 3 rfl
  have HKL : Hid (ky.length ≤ maxLen ∧ vl.length ≤ maxLen) := by
    have h1 := next_cmd HOK.out HQt.out.2 (by
      have h2 := HM.out.mf.run.vr 50 HIN.out
      rw [← Ht.out] at h2
      unfold isNum
      simp only [Bool.and_eq_true, decide_eq_true_eq]
      omega) (by rw [Ht.out]; exact (HM.out.mf.run.inv.t 50 HIN.out).four)
    rw [HQt.out.1] at h1
    unfold isCmd at h1
    simp at h1
    refine ⟨?_, ?_⟩ <;> (unfold maxLen; omega)
  have AP := by
    obtain ⟨p1, p2, p3⟩ := HM.out.mf.pairs
    exact apply_any _ pc pa ps ky vl kd mm X p1 p2 p3 HKL.out.1 HKL.out.2
  obtain ⟨ps2, HP2⟩ : ∃ l, Hid (l = apP kd ky vl mm ps) := ⟨_, rfl⟩
  obtain ⟨r, HR⟩ : ∃ r, Hid (r = apR kd ky vl mm ps) := ⟨_, rfl⟩
  rw [← HP2.out, ← HR.out] at AP
  have HPS : Hid (ps2 = (T 50).psOf ps ∧ r = (T 50).rOf ps) := by
    unfold Tx.psOf Tx.rOf
    rw [HQC.out]
    exact ⟨HP2.out, HR.out⟩
  have HRV : Hid (r.v.length ≤ 1048576) := by
    have := apR_v kd ky vl mm ps
    rw [← HR.out] at this
    show _ ≤ _
    omega
  clear HP2 HR hDb hD
  go_wp2_with fail
  go_fit AP
  rintro ee w5 ⟨a5, c5, ko, kc, rfl, o5, _, k5⟩
  simp only [rrV]
  have K5 : Hid (Kept Nil X w5) := k5
  have O5 : Hid (OwnP w1.heap.size w5 a5 c5 ps2) := o5.mono HD.out.sz
  clear AP k5 o5 d0 d1 d2 d3
  go_upto_region 47 with fail
  obtain ⟨W6, hW6⟩ : ∃ W6, W6 = w5.alloc (.cells #[.int .i64 r.kd, .string (bs r.v), .int .i64 r.n, .slice ko r.ks.length kc] 50) := ⟨_, rfl⟩
  obtain ⟨A3, HA3e⟩ : ∃ A3, Hid (A3 = w5.heap.size) := ⟨_, rfl⟩
  have HA3 : Hid (W6.heap[A3]? = some (.cells #[.int .i64 r.kd, .string (bs r.v), .int .i64 r.n, .slice ko r.ks.length kc] 50 (0, 0))) := by rw [hW6, HA3e.out]; exact blk_new _ _
  have K6 : Hid (Kept Nil X W6) := by rw [hW6]; exact K5.out.alloc _
  have O6 : Hid (OwnP w1.heap.size W6 a5 c5 ps2) := by rw [hW6]; exact O5.out.kept ((Kept.refl _ _).alloc _)
  rw [← hW6, ← HA3e.out]
  clear hW6 HA3e
  have AN := answer_any W6 B t _ _ _ _ (HTX.out _ K6.out).1 n0 (HTX.out _ K6.out).2.1 (HTX.out _ K6.out).2.2.1 (Nat.le_trans HM.out.mf.n0le K6.out.size) HOK.out (HTX.out _ K6.out).2.2.2 r ko kc HRV.out
  simp only [rrV] at AN
  have e0 : W6.cell? ⟨A3, 0, none⟩ = some (.int .i64 r.kd) := blk_at HA3.out 0 rfl
  have e1 : W6.cell? ⟨A3, 1, none⟩ = some (.string (bs r.v)) := blk_at HA3.out 1 rfl
  have e2 : W6.cell? ⟨A3, 2, none⟩ = some (.int .i64 r.n) := blk_at HA3.out 2 rfl
  have e3 : W6.cell? ⟨A3, 3, none⟩ = some (.slice ko r.ks.length kc) := blk_at HA3.out 3 rfl
  go_wp2_with fail
  go_fit AN
  intro ee wa hpa
  have HANS : Hid (ee = .returned (.tuple #[]) ∧ ∃ T2, FS w w1 n0 es B N0 own wa T2 ps2 a5 c5 (c + 1) (j + 1)) := by
    have hO := O6.out
    rw [HPS.out.1] at hO
    have hp2 := hpa
    rw [Ht.out, HPS.out.2, ← HDB.out] at hp2
    obtain ⟨h1, h2⟩ := (HM.out.next K6.out).answered (by omega) (by omega) HPH.out HN.out HDb.out (HD.out.kept K6.out) hO hp2
    exact ⟨h1, _, by rw [HPS.out.1]; exact h2⟩
  obtain ⟨he, T2, hF⟩ := HANS.out
  subst he
  have HF : Hid (FS w w1 n0 es B N0 own wa T2 ps2 a5 c5 (c + 1) (j + 1)) := hF
  clear hF HANS hpa AN e0 e1 e2 e3
  go_wp2
  exact HKK.out _ _ _ _ _ _ _ _ _ _ _ _ _ ps2 a5 c5 T2 wa ⟨rfl, HF.out⟩
end Go.Proofs.YtgkacepcggjfkaaGreatDoor
