/-
  TxnSerial: all rounds, and the end.
-/
import Derived.Test.YtgkacepcggjfkaaGreatDoorWTsE
namespace Go.Proofs.YtgkacepcggjfkaaGreatDoor
open Go.RowKit

set_option maxRecDepth 1000000 in
set_option maxHeartbeats 40000000 in
theorem tsTail21 (w w1 : World) (n0 sb pk lc tc sc fb : Nat) (es : List Eb) (ta so : Option Addr) (sa la pp : Addr) (ts ss : List Int) (fv0 fv3 fv4 fv5 fv6 fv9 fv10 fv11 fv12 fv14 fv17 fv18 fv19 fv20 fv21 fv22 fv23 fv24 fv25 fv26 fv27 fv28 fv29 fv30 fv31 fv32 fv33 fv34 fv35 fv36 fv37 fv38 fv39 fv40 fv41 fv42 fv43 fv44 fv45 fv46 fv47 fv48 fv49 fv50 fv51 fv52 fv53 fv54 fv55 fv56 fv57 fv58 fv59 fv60 fv61 fv62 fv63 fv64 fv65 fv66 fv67 fv68 fv69 fv70 fv71 fv72 fv73 fv74 fv75 fv76 fv77 fv78 fv79 fv80 fv81 fv82 fv83 fv84 fv85 fv86 fv87 fv88 fv89 fv90 fv91 fv92 fv93 fv94 fv95 fv96 fv97 fv98 fv99 fv100 fv101 fv102 fv103 fv104 fv105 fv106 fv107 fv108 fv109 fv110 fv111 fv112 fv113 fv114 fv115 fv116 fv117 fv118 fv119 fv120 fv121 fv122 fv123 fv124 fv125 fv126 fv127 fv128 fv129 fv130 fv131 fv132 fv133 fv134 fv135 fv136 fv137 fv138 fv139 fv140 fv141 fv142 fv143 fv144 fv145 fv146 fv147 fv148 fv149 fv150 fv151 fv152 fv153 fv154 fv155 fv156 fv157 fv158 fv159 fv160 fv161 fv162 fv163 fv164 fv165 fv166 fv167 fv168 fv169 fv170 fv171 fv172 fv173 fv174 fv175 fv176 fv177 fv178 fv179 fv180 fv181 fv182 fv183 fv184 fv185 fv186 fv187 fv188 fv189 fv190 fv191 fv192 fv193 fv194 fv195 fv196 fv197 fv198 fv199 fv200 fv201 fv202 fv203 fv204 fv205 fv206 fv207 fv208 fv209 fv210 fv211 fv212 fv213 fv214 fv215 fv216 fv217 fv218 fv219 fv220 fv221 fv222 fv223 fv224 fv225 fv226 fv227 fv228 fv229 fv230 fv231 fv232 fv233 fv234 fv235 fv236 fv237 fv238 fv239 fv240 fv241 fv242 fv243 fv244 fv245 fv246 fv247 fv248 fv249 fv250 fv251 fv252 fv253 fv254 fv255 : Value)
    (HM0 : Hid (MS w w1 n0 sb es w1 (tOf es) [] none 0 0 (numsL (St.of [])))) (HJ0 : Hid (J7 (St.of []) (tOf es 7))) (HSA : Hid (sa = ⟨sb, 0, none⟩)) (HL : Hid (LD w)) (HLR : Hid (LR w1 sb es la pp)) (HKE : Hid (∀ e ∈ es, (∀ p ∈ e.ps, ∃ a : Nat, keys4[a]? = some p.k) ∧ e.ps.length ≤ 4)) (HI7 : Hid (InE es 7)) (HAL : Hid (∀ T : Nat → Tx, (∀ i, (T i).ps = (enAt es i).ps) → Alone T (InE es) 7)) (HND : Hid ((es.map Eb.id).Nodup)) (HRT : Hid (IntRow w.heap.size w ta ts)) (HRS : Hid (IntRow w.heap.size w so ss)) (hl7 : es.length ≤ 7) (hl1 : 1 ≤ es.length) (HLA : Hid (∀ h : es.length - 1 < es.length, es[es.length - 1].id = 7)) (hts : (ts.length : Int) ≤ 16384) (HFB : Hid ((enAt es 7).b = fb)) :
    Code.wp Tryz.prog sT21 (bodyPost Tryz.prog Tryz.f4 fun e w' => e = .returned (.bool true) ∧ Kept Nil w w') ⟨#[fv0, .slice ta ts.length tc, .slice so ss.length sc, fv3, fv4, fv5, fv6, .slice (some la) es.length lc, .slice (some pp) es.length pk, fv9, fv10, fv11, fv12, .pointer (some ⟨fb, 0, none⟩), fv14, .slice none 0 0, .slice (some sa) 4 4, fv17, fv18, fv19, fv20, fv21, fv22, fv23, fv24, fv25, fv26, fv27, fv28, fv29, fv30, fv31, fv32, fv33, fv34, fv35, fv36, fv37, fv38, fv39, fv40, fv41, fv42, fv43, fv44, fv45, fv46, fv47, fv48, fv49, fv50, fv51, fv52, fv53, fv54, fv55, fv56, fv57, fv58, fv59, fv60, fv61, fv62, fv63, fv64, fv65, fv66, fv67, fv68, fv69, fv70, fv71, fv72, fv73, fv74, fv75, fv76, fv77, fv78, fv79, fv80, fv81, fv82, fv83, fv84, fv85, fv86, fv87, fv88, fv89, fv90, fv91, fv92, fv93, fv94, fv95, fv96, fv97, fv98, fv99, fv100, fv101, fv102, fv103, fv104, fv105, fv106, fv107, fv108, fv109, fv110, fv111, fv112, fv113, fv114, fv115, fv116, fv117, fv118, fv119, fv120, fv121, fv122, fv123, fv124, fv125, fv126, fv127, fv128, fv129, fv130, fv131, fv132, fv133, fv134, fv135, fv136, fv137, fv138, fv139, fv140, fv141, fv142, fv143, fv144, fv145, fv146, fv147, fv148, fv149, fv150, fv151, fv152, fv153, fv154, fv155, fv156, fv157, fv158, fv159, fv160, fv161, fv162, fv163, fv164, fv165, fv166, fv167, fv168, fv169, fv170, fv171, fv172, fv173, fv174, fv175, fv176, fv177, fv178, fv179, fv180, fv181, fv182, fv183, fv184, fv185, fv186, fv187, fv188, fv189, fv190, fv191, fv192, fv193, fv194, fv195, fv196, fv197, fv198, fv199, fv200, fv201, fv202, fv203, fv204, fv205, fv206, fv207, fv208, fv209, fv210, fv211, fv212, fv213, fv214, fv215, fv216, fv217, fv218, fv219, fv220, fv221, fv222, fv223, fv224, fv225, fv226, fv227, fv228, fv229, fv230, fv231, fv232, fv233, fv234, fv235, fv236, fv237, fv238, fv239, fv240, fv241, fv242, fv243, fv244, fv245, fv246, fv247, fv248, fv249, fv250, fv251, fv252, fv253, fv254, fv255], []⟩ w1 := by
  conv => arg 2; whnf
  dsimp only
  go_wp2_with fail
  go_loopw [6, 15, 17] (fun _ v x wr => ∃ (j : Nat) (ps : List Pr) (pa : Option Addr) (pc : Nat) (T : Nat → Tx), j ≤ ts.length + 40 ∧ v = .slice pa ps.length pc ∧ x = .int .i64 j ∧ Hid (MS w w1 n0 sb es wr T ps pa pc j (numsL (St.of ps))) ∧ Hid (J7 (St.of ps) (T 7)) ∧ Hid (∀ m, ts.length + m ≤ j → mu7 (T 7).ph ≤ 4 - m)) (fun _ _ x _ => ts.length + 40 - (intOf x).toNat)
  case atStart =>
    refine ⟨0, [], none, 0, tOf es, Nat.zero_le _, rfl, rfl, HM0.out, HJ0.out, fun m hm => ?_⟩
    have h0 : m = 0 := by omega
    subst h0
    show mu7 0 ≤ 4
    decide
  case round =>
    obtain ⟨j, ps, pa, pc, T, hj, rfl, rfl, HM, HJ, HMU⟩ := hrel
    clear HM0 HJ0
    obtain ⟨wo, hwo⟩ : ∃ x : World, x = wr := ⟨_, rfl⟩
    rw [← hwo] at HM ⊢
    clear hwo
    by_cases hlt : j < ts.length + 40
    · have hji : (j : Int) < (ts.length : Int) + 40 := by omega
      go_upto_if 103 with fail
      go_cut [6] from 104 to 104 (fun _ wc => wc = wo)
      case first =>
        go_wp2
        go_meet
        rfl
      case rest =>
        have hcw := hcut
        rw [hcw]
        apply_assumption
        refine tsTail24 w w1 wo n0 sb pc j pk lc j tc sc es T ps pa ta so sa la pp ts ss _ _ _ _ _ _ _ _ _ _ _ _ _ _ _ _ _ _ _ _ _ _ _ _ _ _ _ _ _ _ _ _ _ _ _ _ _ _ _ _ _ _ _ _ _ _ _ _ _ _ _ _ _ _ _ _ _ _ _ _ _ _ _ _ _ _ _ _ _ _ _ _ _ _ _ _ _ _ _ _ _ _ _ _ _ _ _ _ _ _ _ _ _ _ _ _ _ _ _ _ _ _ _ _ _ _ _ _ _ _ _ _ _ _ _ _ _ _ _ _ _ _ _ _ _ _ _ _ _ _ _ _ _ _ _ _ _ _ _ _ _ _ _ _ _ _ _ _ _ _ _ _ _ _ _ _ _ _ _ _ _ _ _ _ _ _ _ _ _ _ _ _ _ _ _ _ _ _ _ _ _ _ _ _ _ _ _ _ _ _ _ _ _ _ _ _ _ _ _ _ _ _ _ _ _ _ _ _ _ _ _ _ _ _ _ _ _ _ _ _ _ _ _ _ _ _ _ _ _ _ _ _ _ _ _ _ _ _ _ _ _ _ _ _ _ _ _ _ _ _ _ ?_ HM HJ HSA HL HLR HKE HI7 HAL HND HRT HRS hl7 hl1 HLA hts (by omega) hji
        intro u6 u15 u17 u18 u19 u20 u21 u22 u23 u24 u25 u26 u27 u104 u105 u106 u107 u108 u109 u110 u111 u112 u113 u114 u115 u116 u117 u118 u119 u120 u121 u122 u123 u124 u125 u126 u127 u128 u129 u130 u131 u132 u133 u134 u135 u136 u137 u138 u139 u140 u141 u142 u143 u144 u145 u146 u147 u148 u149 u150 u151 u152 u153 u154 u155 u156 u157 u158 u159 u160 u161 u162 u163 u164 u165 u166 u167 u168 u169 u170 u171 u172 u173 u174 u175 u176 u177 u178 u179 u180 u181 u182 u183 u184 u185 u186 u187 u188 u189 u190 u191 u192 u193 u194 u195 u196 u197 u198 u199 u200 u201 u202 u203 u204 u205 u206 u207 u208 u209 u210 u211 u212 u213 u214 u215 u216 u217 u218 u219 u220 u221 u222 u223 u224 u225 u226 u227 u228 u229 u230 u231 u232 u233 u234 u235 u236 u237 u238 u239 u240 u241 u242 u243 u244 u245 ps2 pa2 pc2 T2 wz h1
        obtain ⟨e15, e17, h1c, h1d, h1e⟩ := h1.out
        subst e15 e17
        have HM2 : Hid (MS w w1 n0 sb es wz T2 ps2 pa2 pc2 (j + 1) (numsL (St.of ps2))) := h1c
        have HJ2 : Hid (J7 (St.of ps2) (T2 7)) := h1d
        have HMU2 : Hid (∀ m, ts.length + m ≤ j + 1 → mu7 (T2 7).ph ≤ 4 - m) := fun m hm => by
          rcases Nat.eq_zero_or_pos m with h0 | h0
          · subst h0
            unfold mu7
            split
            · omega
            split
            · omega
            split
            · omega
            split <;> omega
          · have h2 := HMU.out (m - 1) (by omega)
            have h3 := h1e (by omega)
            omega
        clear h1 h1c h1d h1e
        go_roundw
        case rel =>
          first
            | exact ⟨j + 1, ps2, pa2, pc2, T2, by omega, rfl, by go_num, HM2.out, HJ2.out, HMU2.out⟩
            | ((repeat (apply Exists.intro)); refine ⟨?rr, rfl⟩; exact ⟨j + 1, ps2, pa2, pc2, T2, by omega, rfl, by go_num, HM2.out, HJ2.out, HMU2.out⟩)
        case measure => simp [intOf]; omega
    · obtain rfl : j = ts.length + 40 := by omega
      have hji : ¬ (((ts.length + 40 : Nat)) : Int) < (ts.length : Int) + 40 := by omega
      have hjd : decide ((((ts.length + 40 : Nat)) : Int) < (ts.length : Int) + 40) = false := decide_eq_false (by omega)
      obtain ⟨D, hDb, hD⟩ := HM.out.tm
      obtain ⟨t, Ht⟩ : ∃ t, Hid (t = T 7) := ⟨_, rfl⟩
      have HST : Hid (t.st = 2) := by
        have h1 := HMU.out 40 (by omega)
        have h2 := HJ.out.ph
        show _ = _
        rw [Ht.out]
        refine HJ.out.st.1 ?_
        rcases h2 with e | e | e | e | e
        · rw [e] at h1; exact absurd h1 (by decide)
        · rw [e] at h1; exact absurd h1 (by decide)
        · rw [e] at h1; exact absurd h1 (by decide)
        · rw [e] at h1; exact absurd h1 (by decide)
        · exact e
      have hOK : t.Ok := by rw [Ht.out]; exact (HM.out.run.inv.t 7 HI7.out).ok
      have hol : t.old.length ≤ 4 := hOK.old
      have LK := by
        have h1 := hD.tx 7 HI7.out
        have h3 := hD.old 7 HI7.out
        rw [hDb, show (dOf es).b 7 = fb from HFB.out, ← Ht.out] at h1
        rw [← Ht.out] at h3
        exact look_any wo fb t _ _ _ _ h1 n0 h3 (by omega)
      have CZ : ∀ Y, Kept Nil wo Y → Y.cell? (sa.add 3) = some (.int .i64 5) := fun Y kY => (HM.out.next kY).cell HSA.out (by
        rw [nums_at _ (show 3 < 4 by decide)]
        have h5 := HJ.out.num
        rw [if_pos (by rw [← Ht.out]; exact HST.out)] at h5
        show some (((St.of ps).num zK : Nat) : Int) = some 5
        rw [h5])
      clear hDb hD hOK
      go_wp2_with fail
      go_fit LK
      rintro ee w2 ⟨a2, c2, rfl, _, k2⟩
      have hfd : ∀ Y, (Instr.field 39 (.agg #[.int .i64 t.st, .slice a2 t.old.length c2]) 0).run Tryz.prog Y = .ok (.int .i64 t.st) Y := fun _ => by kernel_rfl
      have cz : w2.cell? ⟨sa.block, sa.off + 3, none⟩ = some (.int .i64 5) := by
        have h6 := CZ w2 k2
        rw [HSA.out, addr_addE] at h6
        rw [HSA.out]
        exact h6
      have hst : ((t.st : Int) == 2) = true := by rw [HST.out]; rfl
      have HKF : Hid (Kept Nil w w2) := HM.out.kw.trans k2
      clear LK k2 CZ
      go_wp2
      go_ret
      exact ⟨rfl, HKF.out⟩
end Go.Proofs.YtgkacepcggjfkaaGreatDoor
