/-
  TxnFree: it goes on alone, and ends.
-/
import Derived.Test.YtgkacepcggjfkaaGreatDoorWTfD
namespace Go.Proofs.YtgkacepcggjfkaaGreatDoor
open Go.RowKit

set_option maxRecDepth 1000000 in
set_option maxHeartbeats 40000000 in
theorem tfTail30 (w w1 X : World) (n0 pc c B : Nat) (es : List Eb) (N0 : List UInt8 → Nat) (own : List Pt) (T : Nat → Tx) (ps : List Pr) (pa : Option Addr) (cd : Bool) (fv0 fv1 fv2 fv3 fv4 fv5 fv6 fv7 fv8 fv9 fv10 fv12 fv13 fv14 fv15 fv16 fv17 fv18 fv20 fv22 fv23 fv24 fv25 fv26 fv27 fv28 fv29 fv30 fv31 fv32 fv33 fv34 fv35 fv36 fv37 fv38 fv39 fv40 fv41 fv42 fv43 fv44 fv45 fv46 fv47 fv48 fv49 fv50 fv51 fv52 fv53 fv54 fv55 fv56 fv57 fv58 fv59 fv60 fv61 fv62 fv63 fv64 fv65 fv66 fv67 fv68 fv69 fv70 fv71 fv72 fv73 fv74 fv75 fv76 fv77 fv78 fv79 fv80 fv81 fv82 fv83 fv84 fv85 fv86 fv87 fv88 fv89 fv90 fv91 fv92 fv93 fv94 fv95 fv96 fv97 fv98 fv99 fv100 fv101 fv102 fv103 fv104 fv105 fv106 fv107 fv108 fv109 fv110 fv111 fv112 fv113 fv114 fv115 fv116 fv117 fv118 fv119 fv120 fv121 fv122 fv123 fv124 fv125 fv126 fv127 fv128 fv129 fv130 fv131 fv132 fv133 fv134 fv135 fv136 fv137 fv138 fv139 fv140 fv141 fv142 fv143 fv144 fv145 fv146 fv147 fv148 fv149 fv150 fv151 fv152 fv153 fv154 fv155 fv156 fv157 fv158 fv159 fv160 fv161 fv162 fv163 fv164 fv165 fv166 fv167 fv168 fv169 fv170 fv171 fv172 fv173 fv174 fv175 fv176 fv177 fv178 fv179 fv180 fv181 fv182 fv183 fv184 fv185 fv186 fv187 fv188 fv189 fv190 fv191 fv192 fv193 fv194 fv195 fv196 fv197 fv198 fv199 fv200 fv201 : Value)
    (HM0 : Hid (FS w w1 n0 es B N0 own X T ps pa pc c 0)) (HL : Hid (LD w)) (HN : Hid (∀ p ∈ own, (N0 p.k : Int) + p.a ≤ 999999999)) (HCD : Hid (cd = true ↔ ∀ p ∈ own, 0 ≤ (N0 p.k : Int) + p.a)) (hl7 : es.length ≤ 7) (hc : c ≤ 900000) :
    Code.wp Tryz.prog fT30 (bodyPost Tryz.prog Tryz.f5 fun e w' => e = .returned (.bool true) ∧ Kept Nil w w') ⟨#[fv0, fv1, fv2, fv3, fv4, fv5, fv6, fv7, fv8, fv9, fv10, .slice pa ps.length pc, fv12, fv13, fv14, fv15, fv16, fv17, fv18, .pointer (some ⟨B, 0, none⟩), fv20, .bool cd, fv22, fv23, fv24, fv25, fv26, fv27, fv28, fv29, fv30, fv31, fv32, fv33, fv34, fv35, fv36, fv37, fv38, fv39, fv40, fv41, fv42, fv43, fv44, fv45, fv46, fv47, fv48, fv49, fv50, fv51, fv52, fv53, fv54, fv55, fv56, fv57, fv58, fv59, fv60, fv61, fv62, fv63, fv64, fv65, fv66, fv67, fv68, fv69, fv70, fv71, fv72, fv73, fv74, fv75, fv76, fv77, fv78, fv79, fv80, fv81, fv82, fv83, fv84, fv85, fv86, fv87, fv88, fv89, fv90, fv91, fv92, fv93, fv94, fv95, fv96, fv97, fv98, fv99, fv100, fv101, fv102, fv103, fv104, fv105, fv106, fv107, fv108, fv109, fv110, fv111, fv112, fv113, fv114, fv115, fv116, fv117, fv118, fv119, fv120, fv121, fv122, fv123, fv124, fv125, fv126, fv127, fv128, fv129, fv130, fv131, fv132, fv133, fv134, fv135, fv136, fv137, fv138, fv139, fv140, fv141, fv142, fv143, fv144, fv145, fv146, fv147, fv148, fv149, fv150, fv151, fv152, fv153, fv154, fv155, fv156, fv157, fv158, fv159, fv160, fv161, fv162, fv163, fv164, fv165, fv166, fv167, fv168, fv169, fv170, fv171, fv172, fv173, fv174, fv175, fv176, fv177, fv178, fv179, fv180, fv181, fv182, fv183, fv184, fv185, fv186, fv187, fv188, fv189, fv190, fv191, fv192, fv193, fv194, fv195, fv196, fv197, fv198, fv199, fv200, fv201], []⟩ X := by
  conv => arg 2; whnf
  dsimp only
  go_wp2_with fail
  go_loopw [6, 11, 23] (fun _ v x wr => ∃ (j : Nat) (ps : List Pr) (pa : Option Addr) (pc : Nat) (T : Nat → Tx), v = .slice pa ps.length pc ∧ x = .int .i64 j ∧ Hid (FS w w1 n0 es B N0 own wr T ps pa pc (c + j) j)) (fun _ _ x _ => 40 - (intOf x).toNat)
  case atStart => exact ⟨0, ps, pa, pc, T, rfl, rfl, HM0.out⟩
  case round =>
    obtain ⟨j, ps, pa, pc, T, rfl, rfl, HM⟩ := hrel
    clear HM0
    obtain ⟨wo, hwo⟩ : ∃ x : World, x = wr := ⟨_, rfl⟩
    rw [← hwo] at HM ⊢
    clear hwo
    have hj32 : j ≤ 32 := by have := HM.out.mu; omega
    have hji : (j : Int) < 40 := by omega
    obtain ⟨D, hDb, hD⟩ := HM.out.mf.tm
    have HIN : Hid (In50 es 50) := .inr rfl
    obtain ⟨t, Ht⟩ : ∃ t, Hid (t = T 50) := ⟨_, rfl⟩
    have HOK : Hid (t.Ok) := by rw [Ht.out]; exact (HM.out.mf.run.inv.t 50 HIN.out).ok
    have HD : Hid (TM n0 w1.heap.size wo (In50 es) T D ∧ D.b 50 = B) := ⟨hD, by rw [hDb]; unfold b50; rw [if_pos rfl]⟩
    have HTX : Hid (∀ Y, Kept Nil wo Y → TxAt Y B t (D.ap 50) (D.oo 50) (D.cp 50) (D.oc 50) ∧ OwnT n0 Y (D.ap 50) (D.cp 50) t.ps ∧ OwnI n0 Y (D.oo 50) (D.oc 50) t.old ∧ LD Y) := fun Y kY => by
      have h := HD.out.1.kept kY
      have h1 := h.tx 50 HIN.out
      rw [HD.out.2, ← Ht.out] at h1
      have h2 := h.ps 50 HIN.out
      have h3 := h.old 50 HIN.out
      rw [← Ht.out] at h2 h3
      exact ⟨h1, h2, h3, HL.out.kept (HM.out.mf.kw.trans kY)⟩
    have NX := next_any wo B t _ _ _ _ (HTX.out wo (Kept.refl _ _)).1 n0 (HTX.out wo (Kept.refl _ _)).2.1 HOK.out (HTX.out wo (Kept.refl _ _)).2.2.2
    have hol : t.old.length ≤ 4 := HOK.out.old
    clear hDb hD
    go_wp2_with fail
    go_fit NX
    rintro ee w3 ⟨rfl, k3⟩
    have K3 : Hid (Kept Nil wo w3) := k3
    clear NX k3
    obtain ⟨q, Hq⟩ : ∃ q, Hid (q = t.next) := ⟨_, rfl⟩
    rw [← Hq.out]
    obtain ⟨q1, q2⟩ := q
    obtain ⟨kd, ky, vl, mm⟩ := q1
    simp only [cdV]
    have HQ2 : Hid (q2 = decide (t.ph ≤ 9)) := by
      have h1 := next_is t HOK.out.ph
      rw [← Hq.out] at h1
      exact h1
    have HQC : Hid (t.next.1 = ⟨kd, ky, vl, mm⟩) := by show _ = _; rw [← Hq.out]
    clear Hq
    go_upto_if 152 with fail
    obtain ⟨W, hW⟩ : ∃ W, W = w3.alloc (.cells #[.int .i64 kd, .string (bs ky), .string (bs vl), .int .i64 mm] 31) := ⟨_, rfl⟩
    obtain ⟨A, HAe⟩ : ∃ A, Hid (A = w3.heap.size) := ⟨_, rfl⟩
    have HAW : Hid (W.heap[A]? = some (.cells #[.int .i64 kd, .string (bs ky), .string (bs vl), .int .i64 mm] 31 (0, 0))) := by rw [hW, HAe.out]; exact blk_new _ _
    have KW : Hid (Kept Nil wo W) := by rw [hW]; exact K3.out.alloc _
    rw [← hW, ← HAe.out]
    clear hW HAe K3
    cases q2 with
    | true =>
      have HPH : Hid ((T 50).ph ≤ 9) := by
        have h1 := HQ2.out.symm
        show (T 50).ph ≤ 9
        rw [← Ht.out]
        exact of_decide_eq_true h1
      have HQT : Hid ((T 50).next.1 = ⟨kd, ky, vl, mm⟩) := by rw [← Ht.out]; exact HQC.out
      have HMW : Hid (FS w w1 n0 es B N0 own W T ps pa pc (c + j) j) := HM.out.next KW.out
      go_cut [6, 26, 27, 28] from 152 to 191 (fun _ _ _ _ wc => wc = W)
      case first =>
        go_wp2
        go_meet
        rfl
      case rest =>
        have hcw := hcut
        rw [hcw]
        apply_assumption
        refine tfTail45 w w1 W n0 pc (c + j) j A B es N0 own T ps pa kd mm ky vl _ _ _ _ _ _ _ _ _ _ _ _ _ _ _ _ _ _ _ _ _ _ _ _ _ _ _ _ _ _ _ _ _ _ _ _ _ _ _ _ _ _ _ _ _ _ _ _ _ _ _ _ _ _ _ _ _ _ _ _ _ _ _ _ _ _ _ _ _ _ _ _ _ _ _ _ _ _ _ _ _ _ _ _ _ _ _ _ _ _ _ _ _ _ _ _ _ _ _ _ _ _ _ _ _ _ _ _ _ _ _ _ _ _ _ _ _ _ _ _ _ _ _ _ _ _ _ _ _ _ _ _ _ _ _ _ _ _ _ _ _ _ _ _ _ _ _ _ _ _ _ _ _ _ _ _ _ _ _ _ _ _ _ _ _ _ _ _ _ _ _ _ _ _ _ _ _ _ _ _ _ _ _ _ _ _ _ _ _ _ _ _ _ _ _ _ _ _ _ _ _ ?_ HMW HL HN hl7 (by omega) HPH HQT HAW
        intro u11 u29 u30 u192 u193 u194 u195 u196 u197 u198 u199 u200 u201 ps2 pa2 pc2 T2 wz h1
        obtain ⟨e11, h1b⟩ := h1.out
        subst e11
        have HM2 : Hid (FS w w1 n0 es B N0 own wz T2 ps2 pa2 pc2 (c + (j + 1)) (j + 1)) := h1b
        clear h1 h1b
        apply_assumption
        go_wp2
        go_roundw
        case rel =>
          first
            | exact ⟨j + 1, ps2, pa2, pc2, T2, rfl, by go_num, HM2.out⟩
            | ((repeat (apply Exists.intro)); refine ⟨?rr, rfl⟩; exact ⟨j + 1, ps2, pa2, pc2, T2, rfl, by go_num, HM2.out⟩)
        case measure => simp [intOf]; omega
    | false =>
      have HPH : Hid ((T 50).ph = 10) := by
        have h1 := of_decide_eq_false HQ2.out.symm
        have h2 := HOK.out.ph
        show _ = _
        rw [← Ht.out]
        omega
      have HNH : Hid (∀ p ∈ ps, ∀ k, (p.v.drop k).take 4 ≠ [32, 53, 48, 32]) := noHold HM.out.mf.run HM.out.solo HM.out.good HPH.out K50_is
      have HST : Hid ((t.st = 2 ↔ cd = true) ∧ (t.st = 2 ∨ t.st = 3)) := by
        have h1 := HM.out.solo.fin (by have := HPH.out; omega)
        have h2 := HM.out.solo.fin' (by have := HPH.out; omega)
        rw [HM.out.own, ← HCD.out, ← Ht.out] at h1
        rw [← Ht.out] at h2
        exact ⟨h1, h2⟩
      have LK := look_any W B t _ _ _ _ (HTX.out W KW.out).1 n0 (HTX.out W KW.out).2.2.1 (by omega)
      have HPR : Hid (∀ Y, Kept Nil wo Y → PairRow Y.heap.size Y pa ps) := fun Y kY => (HM.out.next kY).mf.pairs.1
      have HKF : Hid (Kept Nil w wo) := HM.out.mf.kw
      have hpl : ps.length ≤ 32 := (pairs_ok HM.out.mf.run.room.ok).1
      have HVL : Hid (∀ p ∈ ps, p.v.length ≤ 64) := fun p hp => (prOk_iff ((pairs_ok HM.out.mf.run.room.ok).2.2 p hp)).2.2.1
      clear HM HD HTX HOK HQ2 HQC
      go_wp2_with fail
      go_fit LK
      rintro ee w8 ⟨a8, c8, rfl, _, k8⟩
      obtain ⟨W9, hW9⟩ : ∃ W, W = w8.alloc (.cells #[.int .i64 t.st, .slice a8 t.old.length c8] 39) := ⟨_, rfl⟩
      obtain ⟨A9, HA9e⟩ : ∃ A, Hid (A = w8.heap.size) := ⟨_, rfl⟩
      have HA9 : Hid (W9.heap[A9]? = some (.cells #[.int .i64 t.st, .slice a8 t.old.length c8] 39 (0, 0))) := by rw [hW9, HA9e.out]; exact blk_new _ _
      have K9 : Hid (Kept Nil wo W9) := by rw [hW9]; exact (KW.out.trans k8).alloc _
      clear LK k8
      go_wp2_with fail
      rw [← hW9, ← HA9e.out]
      clear hW9 HA9e
      go_loopw [6, 27, 28] (fun _ u _ wr => ∃ n : Nat, n ≤ ps.length ∧ u = .int .i64 n ∧ wr = W9) (fun _ u _ _ => ps.length - (intOf u).toNat)
      case atStart => exact ⟨0, Nat.zero_le _, rfl, rfl⟩
      case round =>
        obtain ⟨n, hn, rfl, hwn⟩ := hrel
        rw [hwn]
        clear hwn
        by_cases hlt : n < ps.length
        · have hni : (n : Int) < ps.length := by omega
          obtain ⟨y, HY⟩ : ∃ y : Pr, Hid (y = ps[n]) := ⟨ps[n], (rfl : ps[n] = ps[n])⟩
          obtain ⟨a, ea, c1⟩ : ∃ a, pa = some a ∧ W9.cell? ⟨(a.add (n * 3)).block, (a.add (n * 3)).off + 1, none⟩ = some (.string (bs y.v)) := by
            obtain ⟨a, h1, _, _, h2, _⟩ := HPR.out W9 K9.out n hlt
            rw [← HY.out] at h2
            exact ⟨a, h1, h2⟩
          subst ea
          have hyl : y.v.length ≤ 64 := HVL.out y (by rw [HY.out]; exact List.getElem_mem hlt)
          have HYN : Hid (∀ k, (y.v.drop k).take 4 ≠ [32, 53, 48, 32]) := HNH.out y (by rw [HY.out]; exact List.getElem_mem hlt)
          have hbs : (bs y.v).size = y.v.length := bs_size _
          go_wp2_with fail
          go_loopw [6, 28] (fun _ u wr => ∃ k : Nat, k ≤ y.v.length + 1 ∧ u = .int .i64 k ∧ wr = W9) (fun _ u _ => y.v.length + 1 - (intOf u).toNat)
          case atStart => exact ⟨0, Nat.zero_le _, rfl, rfl⟩
          case round =>
            obtain ⟨k, hk, rfl, hwk⟩ := hrel
            rw [hwk]
            clear hwk
            by_cases hk4 : k + 4 ≤ y.v.length
            · have hki : (k : Int) + 4 ≤ (y.v.length : Int) := by omega
              have hk0 : (0 : Int) ≤ (k : Int) := by omega
              have hext : (bs y.v).extract k (k + 4) = bs ((y.v.drop k).take 4) := by rw [bs_subF, Nat.add_sub_cancel_left]
              have hne : ((bs ((y.v.drop k).take 4)).toList == (⟨#[32, 53, 48, 32]⟩ : ByteArray).toList) = false := by
                have h1 := HYN.out k
                rw [bs_toList]
                have h2 : (⟨#[32, 53, 48, 32]⟩ : ByteArray).toList = [32, 53, 48, 32] := bs_toList [32, 53, 48, 32]
                rw [h2]
                simpa using h1
              have hne2 : ((bs ((y.v.drop k).take 4)).toList == [32, 53, 48, 32]) = false := by rw [bs_toList]; simpa using HYN.out k
              have hne3 : ¬ (bs ((y.v.drop k).take 4)).toList = [32, 53, 48, 32] := by rw [bs_toList]; exact HYN.out k
              go_wp2
              go_roundw
              case rel => exact ⟨k + 1, by omega, by go_num, by first | rfl | trivial⟩
              case measure => simp [intOf]; omega
            · have hki : ¬ (k : Int) + 4 ≤ (y.v.length : Int) := by omega
              have hkd : decide ((k : Int) + 4 ≤ (y.v.length : Int)) = false := decide_eq_false hki
              go_wp2
              go_roundw
              case rel => exact ⟨n + 1, by omega, by go_num, by first | rfl | trivial⟩
              case measure => simp [intOf]; omega
        · obtain rfl : n = ps.length := by omega
          have hirr : ¬ (ps.length : Int) < ps.length := by omega
          have z0 : W9.cell? ⟨A9, 0, none⟩ = some (.int .i64 t.st) := blk_at HA9.out 0 rfl
          have HKE : Hid (Kept Nil w W9) := HKF.out.trans K9.out
          obtain ⟨h1, h2⟩ := HST.out
          cases cd with
          | true =>
            have e2 : t.st = 2 := h1.2 rfl
            rw [e2] at z0
            clear h1 h2 HST
            go_wp2
            go_ret
            exact ⟨rfl, HKE.out⟩
          | false =>
            have e3 : t.st = 3 := h2.resolve_left (fun x => by have := h1.1 x; cases this)
            rw [e3] at z0
            clear h1 h2 HST
            go_wp2
            go_ret
            exact ⟨rfl, HKE.out⟩
end Go.Proofs.YtgkacepcggjfkaaGreatDoor
