/-
  Joined: WSkC.
-/
import Derived.Test.YtpfgnhockfofhaaM34
import Derived.BigQuiet
import Derived.BigRegion
import Derived.Deep.DeepCutAuto
import Derived.Deep.DeepFit
import Derived.Deep.RegionHeld3
/-
  ShardMap: from region 52 on: all that is on its way comes.
-/
namespace Go.Proofs.Ytpfgnhockfofhaa
open Go.RowKit

theorem AR.up {w : World} {V T Gv L : Nat} {Mp : Nat → Option (List UInt8)} {ln : Nat → Nat → Nat} {n M M' : Nat} {f : Nat → Int} (h : AR w V T Gv L Mp ln n M f) (hM : M ≤ M') : AR w V T Gv L Mp ln n M' f := by
  obtain ⟨cs, g1, g2⟩ := h.g
  exact ⟨h.v, h.t, ⟨cs, g1, g2.1, fun a c ha hc hac => ⟨(g2.2 a c ha hc hac).1, Nat.le_trans (g2.2 a c ha hc hac).2 hM⟩⟩, h.l⟩
set_option maxRecDepth 1000000 in
set_option maxHeartbeats 40000000 in
theorem sTail52 (w0 X : World) (b V T Gv L n M : Nat) (S : Sd) (K : List (List UInt8)) (sn : Snt) (Mp : Nat → Option (List UInt8)) (ln : Nat → Nat → Nat) (f : Nat → Int) (fv0 fv1 fv2 fv3 fv4 fv7 fv10 fv12 fv13 fv14 fv15 fv16 fv17 fv18 fv19 fv20 fv21 fv22 fv23 fv24 fv25 fv26 fv27 fv28 fv29 fv30 fv31 fv32 fv33 fv34 fv35 fv36 fv37 fv38 fv39 fv40 fv41 fv42 fv43 fv44 fv45 fv46 fv47 fv48 fv49 fv50 fv51 fv52 fv53 fv54 fv55 fv56 fv57 fv58 fv59 fv60 fv61 fv62 fv63 fv64 fv65 fv66 fv67 fv68 fv69 fv70 fv71 fv72 fv73 fv74 fv75 fv76 fv77 fv78 fv79 fv80 fv81 fv82 fv83 fv84 fv85 fv86 fv87 fv88 fv89 fv90 fv91 fv92 fv93 fv94 fv95 fv96 fv97 fv98 fv99 fv100 fv101 fv102 fv103 fv104 fv105 fv106 fv107 fv108 fv109 fv110 fv111 fv112 fv113 fv114 fv115 fv116 fv117 fv118 fv119 fv120 fv121 fv122 fv123 fv124 fv125 fv126 fv127 fv128 fv129 fv130 fv131 fv132 fv133 fv134 fv135 fv136 fv137 fv138 fv139 fv140 fv141 fv142 fv143 fv144 fv145 fv146 fv147 fv148 fv149 fv150 fv151 fv152 fv153 fv154 fv155 fv156 fv157 fv158 fv159 fv160 fv161 fv162 fv163 fv164 fv165 fv166 fv167 fv168 fv169 fv170 fv171 fv172 fv173 fv174 fv175 fv176 fv177 fv178 fv179 fv180 fv181 fv182 fv183 fv184 fv185 fv186 fv187 fv188 fv189 fv190 fv191 fv192 fv193 fv194 fv195 fv196 fv197 fv198 fv199 fv200 fv201 fv202 fv203 fv204 fv205 fv206 fv207 fv208 fv209 fv210 fv211 fv212 fv213 fv214 fv215 fv216 fv217 fv218 fv219 fv220 fv221 fv222 fv223 fv224 fv225 fv226 fv227 fv228 fv229 fv230 fv231 fv232 fv233 fv234 fv235 fv236 fv237 fv238 fv239 fv240 fv241 fv242 fv243 fv244 fv245 fv246 fv247 fv248 fv249 fv250 fv251 fv252 fv253 fv254 fv255 fv256 fv257 fv258 fv259 fv260 fv261 fv262 fv263 fv264 fv265 fv266 fv267 fv268 fv269 fv270 fv271 fv272 fv273 fv274 fv275 fv276 fv277 fv278 fv279 fv280 fv281 fv282 fv283 fv284 fv285 fv286 fv287 fv288 fv289 fv290 fv291 fv292 fv293 fv294 fv295 fv296 fv297 fv298 fv299 fv300 fv301 fv302 fv303 fv304 fv305 fv306 fv307 fv308 fv309 fv310 fv311 fv312 fv313 fv314 fv315 fv316 fv317 fv318 fv319 fv320 fv321 fv322 fv323 fv324 fv325 fv326 : Value)
    (HN : Hid (S.n = n ∧ 2 ≤ n ∧ n ≤ 5 ∧ M ≤ 20000)) (HQ : Hid (∀ q, Q4 V T Gv L q → w0.heap.size ≤ q)) (HK : Hid (Kept Nil w0 X)) (HJ : Hid (JJ K M S sn Mp)) (HM : Hid (MS w0 X b S (Q4 V T Gv L))) (HA : Hid (AR X V T Gv L Mp ln n M f)) :
    Code.wp Try.prog sT52 (bodyPost Try.prog Try.f5 fun e w' => e = .returned (.bool true) ∧ Kept Nil w0 w') ⟨#[fv0, fv1, fv2, fv3, fv4, .int .i64 n, .pointer (some ⟨b, 0, none⟩), fv7, .pointer (some ⟨V, 0, none⟩), .pointer (some ⟨T, 0, none⟩), fv10, .pointer (some ⟨L, 0, none⟩), fv12, fv13, fv14, fv15, fv16, fv17, fv18, fv19, fv20, fv21, fv22, fv23, fv24, fv25, fv26, fv27, fv28, fv29, fv30, fv31, fv32, fv33, fv34, fv35, fv36, fv37, fv38, fv39, fv40, fv41, fv42, fv43, fv44, fv45, fv46, fv47, fv48, fv49, fv50, fv51, fv52, fv53, fv54, fv55, fv56, fv57, fv58, fv59, fv60, fv61, fv62, fv63, fv64, fv65, fv66, fv67, fv68, fv69, fv70, fv71, fv72, fv73, fv74, fv75, fv76, fv77, fv78, fv79, fv80, fv81, fv82, fv83, fv84, fv85, fv86, fv87, fv88, fv89, fv90, fv91, fv92, fv93, fv94, fv95, fv96, fv97, fv98, fv99, fv100, fv101, fv102, fv103, fv104, fv105, fv106, fv107, fv108, fv109, fv110, fv111, fv112, fv113, fv114, fv115, fv116, fv117, fv118, fv119, fv120, fv121, fv122, fv123, fv124, fv125, fv126, fv127, fv128, fv129, fv130, fv131, fv132, fv133, fv134, fv135, fv136, fv137, fv138, fv139, fv140, fv141, fv142, fv143, fv144, fv145, fv146, fv147, fv148, fv149, fv150, fv151, fv152, fv153, fv154, fv155, fv156, fv157, fv158, fv159, fv160, fv161, fv162, fv163, fv164, fv165, fv166, fv167, fv168, fv169, fv170, fv171, fv172, fv173, fv174, fv175, fv176, fv177, fv178, fv179, fv180, fv181, fv182, fv183, fv184, fv185, fv186, fv187, fv188, fv189, fv190, fv191, fv192, fv193, fv194, fv195, fv196, fv197, fv198, fv199, fv200, fv201, fv202, fv203, fv204, fv205, fv206, fv207, fv208, fv209, fv210, fv211, fv212, fv213, fv214, fv215, fv216, fv217, fv218, fv219, fv220, fv221, fv222, fv223, fv224, fv225, fv226, fv227, fv228, fv229, fv230, fv231, fv232, fv233, fv234, fv235, fv236, fv237, fv238, fv239, fv240, fv241, fv242, fv243, fv244, fv245, fv246, fv247, fv248, fv249, fv250, fv251, fv252, fv253, fv254, fv255, fv256, fv257, fv258, fv259, fv260, fv261, fv262, fv263, fv264, fv265, fv266, fv267, fv268, fv269, fv270, fv271, fv272, fv273, fv274, fv275, fv276, fv277, fv278, fv279, fv280, fv281, fv282, fv283, fv284, fv285, fv286, fv287, fv288, fv289, fv290, fv291, fv292, fv293, fv294, fv295, fv296, fv297, fv298, fv299, fv300, fv301, fv302, fv303, fv304, fv305, fv306, fv307, fv308, fv309, fv310, fv311, fv312, fv313, fv314, fv315, fv316, fv317, fv318, fv319, fv320, fv321, fv322, fv323, fv324, fv325, fv326], []⟩ X := by
  conv => arg 2; whnf
  dsimp only
  have hSn := HN.out.1
  have HM1 : Hid (JJ K (2 * M + 10) S sn Mp) := HJ.out.up (HJ.out.inv.up (by omega))
  have HWL : Hid (ms S.wy ≤ 160 * (2 * M + 10)) := by
    have h1 := ms_le S.wy
    have h2 := HJ.out.inv.wl
    show ms S.wy ≤ _
    omega
  obtain ⟨M1, HMe⟩ : ∃ m, Hid (m = 2 * M + 10) := ⟨_, rfl⟩
  rw [← HMe.out] at HM1 HWL
  have hM10 : 10 ≤ M1 ∧ M1 ≤ 40010 := by have := HMe.out; have := HN.out.2.2.2; omega
  have hWy : S.wy.length ≤ 3200000 := by have := HJ.out.inv.wl; have := HN.out.2.2.2; omega
  obtain ⟨W, HW⟩ : ∃ z, Hid (z = S.wy.length) := ⟨_, rfl⟩
  rw [← HW.out] at hWy
  have WA := ms_way b w0 X S (Q4 V T Gv L) HM.out
  rw [← HW.out] at WA
  have hq : (W : Int).tdiv 500 = ((W / 500 : Nat) : Int) := by rw [Int.tdiv_eq_ediv_of_nonneg (by omega)]; rfl
  obtain ⟨q, HQe⟩ : ∃ z, Hid (z = W / 500) := ⟨_, rfl⟩
  rw [← HQe.out] at hq
  have hq6 : q ≤ 6400 := by have := HQe.out; omega
  go_wp2_with fail
  go_fit WA
  rintro e _ ⟨rfl, hw9⟩
  rw [hw9]
  clear hw9 WA
  go_wp2
  go_loopw [23] (fun u wr => ∃ t : Nat, t ≤ q + 10 ∧ u = .int .i64 ((q : Int) - t) ∧ Hid (MS w0 wr b (hls t S) (Q4 V T Gv L)) ∧ Hid (AR wr V T Gv L Mp ln n M f) ∧ Hid (Kept Nil w0 wr)) (fun u _ => (intOf u + 10).toNat)
  case atStart => exact ⟨0, Nat.zero_le _, by simp, HM.out, HA.out, HK.out⟩
  case round =>
    obtain ⟨t, ht, rfl, HMr, HAr, HKr⟩ := hrel
    obtain ⟨jj, hn, -, -⟩ := JJ.heals (by have := HN.out; omega) hM10.1 HM1.out HWL.out t
    have HJt : Hid (JJ K M1 (hls t S) sn Mp) := jj
    have HNt : Hid ((hls t S).n = n) := hn.trans hSn
    clear jj hn
    by_cases hlt : t < q + 10
    · have hge : (q : Int) - t ≥ -9 := by omega
      have hge2 : (-9 : Int) ≤ (q : Int) - t := by omega
      have HE := ms_heal K M1 b w0 wr (hls t S) (Q4 V T Gv L) HKr.out.size HAr.out.lt HMr.out HJt.out.inv (by omega)
      rw [← hls_next] at HE
      go_wp2_with fail
      go_fit HE
      rintro e w5 ⟨rfl, m5, k5⟩
      have HM5 : Hid (MS w0 w5 b (hls (t + 1) S) (Q4 V T Gv L)) := m5
      have HA5 : Hid (AR w5 V T Gv L Mp ln n M f) := HAr.out.kept k5 (fun q _ hq e => e.2 hq)
      have HK5 : Hid (Kept Nil w0 w5) := HKr.out.notQ k5
      clear HE m5 k5
      go_wp2
      go_roundw
      case rel => exact ⟨t + 1, by omega, by first | (congr 1; omega) | omega, HM5.out, HA5.out, HK5.out⟩
      case measure => simp [intOf]; omega
    · obtain rfl : t = q + 10 := by omega
      have hge : ¬ (q : Int) - (q + 10 : Nat) ≥ -9 := by omega
      have hge2 : ¬ (-9 : Int) ≤ (q : Int) - (q + 10 : Nat) := by omega
      have HDl : Hid (Dlv (hls (q + 10) S) sn) := JJ.healed (by have := HN.out; omega) hM10.1 HM1.out HWL.out (by rw [← HW.out, ← HQe.out]; exact Nat.le_refl _)
      obtain ⟨S', HS'⟩ : ∃ z, Hid (z = hls (q + 10) S) := ⟨_, rfl⟩
      rw [← HS'.out] at HDl HJt HNt HMr
      have OW := ms_owners K M1 b w0 wr S' sn Mp (Q4 V T Gv L) HMr.out HJt.out (by omega)
      rw [HNt.out] at OW
      go_upto_region 56 with fail
      go_cut [12] from 242 to 247 (fun x wc => x = .bool true ∧ Hid (MS w0 wc b S' (Q4 V T Gv L)) ∧ Hid (AR wc V T Gv L Mp ln n M (owF S')) ∧ Hid (Kept Nil w0 wc))
      case first =>
        go_wp2_with fail
        go_fit OW
        rintro e w1 ⟨rfl, k1⟩
        have HA1 : Hid (AR w1 V T Gv L Mp ln n M f) := HAr.out.kept k1 (fun _ _ _ e => e)
        have HM1' : Hid (MS w0 w1 b S' (Q4 V T Gv L)) := HMr.out.kept k1
        have HK1 : Hid (Kept Nil w0 w1) := HKr.out.trans k1
        have HL1 : Hid (w1.heap[L]? = some (.cells (arrI f) 70 (0, 0))) := HA1.out.l
        clear OW k1
        go_wp2_with ((with_reducible refine atStore 70 ?_); go_must (refine wpList_storeW rfl _ _ _ rfl _ (arrI (owF S')) _ _ rfl rfl HL1.out ((arrI_size _).trans (arrI_size _).symm) Try.sizeA20 (arrI_size _) (arrI_one _) ?_); intro w2 hb2 hk2 hs2)
        go_meet
        exact ⟨rfl, HM1'.out.one hk2 (.inr (.inr (.inr rfl))), HA1.out.setL hk2 hb2, HK1.out.oneN hk2 (HQ.out _ (.inr (.inr (.inr rfl))))⟩
      case rest =>
        rename World => wc
        obtain ⟨rfl, HM9, HA9, HK9⟩ := hcut
        apply_assumption
        exact sTail57 w0 wc b V T Gv L n M1 S' K sn Mp ln _ _ _ _ _ _ _ _ _ _ _ _ _ _ _ _ _ _ _ _ _ _ _ _ _ _ _ _ _ _ _ _ _ _ _ _ _ _ _ _ _ _ _ _ _ _ _ _ _ _ _ _ _ _ _ _ _ _ _ _ _ _ _ _ _ _ _ _ _ _ _ _ _ _ _ _ _ _ _ _ _ _ _ _ _ _ _ _ _ _ _ _ _ _ _ _ _ _ _ _ _ _ _ _ _ _ _ _ _ _ _ _ _ _ _ _ _ _ _ _ _ _ _ _ _ _ _ _ _ _ _ _ _ _ _ _ _ _ _ _ _ _ _ _ _ _ _ _ _ _ _ _ _ _ _ _ _ _ _ _ _ _ _ _ _ _ _ _ _ _ _ _ _ _ _ _ _ _ _ _ _ _ _ _ _ _ _ _ _ _ _ _ _ _ _ _ _ _ _ _ _ _ _ _ _ _ _ _ _ _ _ _ _ _ _ _ _ _ _ _ _ _ _ _ _ _ _ _ _ _ _ _ _ _ _ _ _ _ _ _ _ _ _ _ _ _ _ _ _ _ _ _ _ _ _ _ _ _ _ _ _ _ _ _ _ _ _ _ _ _ _ _ _ _ _ _ _ _ _ _ _ _ _ _ _ _ _ _ _ _ _ _ _ _ _ _ _ _ _ _ _ _ _ _ _ _ _ _ _ _ _ _ _ _ _ _ _ _ _ _ _ ⟨HNt.out, HN.out.2.1, HN.out.2.2.1, by omega⟩ HK9 HJt HDl HM9 (HA9.out.up (by have := HMe.out; omega))
end Go.Proofs.Ytpfgnhockfofhaa
