/-
  Joined: WSkB.
-/
import Derived.Test.YtpfgnhockfofhaaM33
import Derived.BigQuiet
import Derived.BigRegion
import Derived.Deep.DeepCutAuto
import Derived.Deep.DeepFit
import Derived.Deep.RegionHeld3
/-
  ShardMap: from region 57 on: each key has a host, whom one finds.
-/
namespace Go.Proofs.Ytpfgnhockfofhaa
open Go.RowKit

theorem Kept.notQ {w0 w w' : World} {Q : Nat → Prop} (h : Kept Nil w0 w) (k : Kept (NotQ w0 Q) w w') : Kept Nil w0 w' :=
  ⟨k.os.trans h.os, k.tape.trans h.tape, k.output.trans h.output, Nat.le_trans h.size k.size, fun q o ho _ => k.block q o (h.block q o ho (fun x => x)) (fun e => by have := lt_of_block ho; have := e.1; omega)⟩
theorem ms_get (K : List (List UInt8)) (M b h k : Nat) (w0 w : World) (S : Sd) (sn : Snt) (Mp : Nat → Option (List UInt8)) (Q : Nat → Prop) (hw : w0.heap.size ≤ w.heap.size) (hQ : ∀ q, Q q → q < w.heap.size) (m : MS w0 w b S Q) (jj : JJ K M S sn Mp) (hM : M ≤ 1900000) (hh : h < S.n) (hk : k < 20) :
    Calls Try.prog 27 #[.pointer (some ⟨b, 0, none⟩), .agg (stC ⟨2, (h : Int) + 1, 0, 0, lt k, [], []⟩)] w fun e w' => (∃ rk rv, e = .returned (.agg (anC ⟨0, hoR 0 (S.ho h).kb (lt k), rk, rv⟩)) ∧ (hoR 0 (S.ho h).kb (lt k) = (h : Int) + 1 → rk = (if (Mp k).isSome = true then 1 else 2) ∧ rv = (Mp k).getD [])) ∧ MS w0 w' b S Q ∧ Kept (NotQ w0 Q) w w' := by
  have hm : mayS ⟨2, (h : Int) + 1, 0, 0, lt k, [], []⟩ = true := rfl
  have h1 := get_is (S := S) (s := ⟨2, (h : Int) + 1, 0, 0, lt k, [], []⟩) rfl hh rfl hm
  obtain ⟨a1, a2, _, a4⟩ := jj.ask (s := ⟨2, (h : Int) + 1, 0, 0, lt k, [], []⟩) (h := h) (k := k) ⟨show (1 : Int) ≤ 2 by decide, show (2 : Int) ≤ 3 by decide⟩ hh rfl hm hk rfl
  refine (ms_do K M b w0 w S ⟨2, (h : Int) + 1, 0, 0, lt k, [], []⟩ Q hw hQ m jj.inv hM ⟨show 1 ≤ 1000000000000 by decide, show 0 ≤ 1000000000000 by decide, show 0 ≤ 1000000000000 by decide⟩).mono ?_
  rintro e w' ⟨he, hm2, hk2⟩
  rw [h1] at hm2
  obtain ⟨a, ha⟩ : ∃ a, a = (doS ⟨2, (h : Int) + 1, 0, 0, lt k, [], []⟩ S).1 := ⟨_, rfl⟩
  rw [← ha] at a1 a2 a4 he
  obtain ⟨er, ho, rk, rv⟩ := a
  dsimp only at a1 a2 a4
  subst a1
  subst a2
  refine ⟨⟨rk, rv, he, fun e => ?_⟩, hm2, hk2⟩
  obtain ⟨b1, b2, _⟩ := a4 e
  refine ⟨?_, b2 rfl⟩
  rw [b1]
  by_cases hs : (Mp k).isSome = true
  · rw [if_pos (.inr hs), if_pos hs]
  · rw [if_neg (by rintro (e2 | e2); cases e2; exact hs e2), if_neg hs]
set_option maxRecDepth 1000000 in
set_option maxHeartbeats 40000000 in
theorem sTail57 (w0 X : World) (b V T Gv L n M : Nat) (S : Sd) (K : List (List UInt8)) (sn : Snt) (Mp : Nat → Option (List UInt8)) (ln : Nat → Nat → Nat) (fv0 fv1 fv2 fv3 fv4 fv7 fv10 fv13 fv14 fv15 fv16 fv17 fv18 fv19 fv20 fv21 fv22 fv23 fv24 fv25 fv26 fv27 fv28 fv29 fv30 fv31 fv32 fv33 fv34 fv35 fv36 fv37 fv38 fv39 fv40 fv41 fv42 fv43 fv44 fv45 fv46 fv47 fv48 fv49 fv50 fv51 fv52 fv53 fv54 fv55 fv56 fv57 fv58 fv59 fv60 fv61 fv62 fv63 fv64 fv65 fv66 fv67 fv68 fv69 fv70 fv71 fv72 fv73 fv74 fv75 fv76 fv77 fv78 fv79 fv80 fv81 fv82 fv83 fv84 fv85 fv86 fv87 fv88 fv89 fv90 fv91 fv92 fv93 fv94 fv95 fv96 fv97 fv98 fv99 fv100 fv101 fv102 fv103 fv104 fv105 fv106 fv107 fv108 fv109 fv110 fv111 fv112 fv113 fv114 fv115 fv116 fv117 fv118 fv119 fv120 fv121 fv122 fv123 fv124 fv125 fv126 fv127 fv128 fv129 fv130 fv131 fv132 fv133 fv134 fv135 fv136 fv137 fv138 fv139 fv140 fv141 fv142 fv143 fv144 fv145 fv146 fv147 fv148 fv149 fv150 fv151 fv152 fv153 fv154 fv155 fv156 fv157 fv158 fv159 fv160 fv161 fv162 fv163 fv164 fv165 fv166 fv167 fv168 fv169 fv170 fv171 fv172 fv173 fv174 fv175 fv176 fv177 fv178 fv179 fv180 fv181 fv182 fv183 fv184 fv185 fv186 fv187 fv188 fv189 fv190 fv191 fv192 fv193 fv194 fv195 fv196 fv197 fv198 fv199 fv200 fv201 fv202 fv203 fv204 fv205 fv206 fv207 fv208 fv209 fv210 fv211 fv212 fv213 fv214 fv215 fv216 fv217 fv218 fv219 fv220 fv221 fv222 fv223 fv224 fv225 fv226 fv227 fv228 fv229 fv230 fv231 fv232 fv233 fv234 fv235 fv236 fv237 fv238 fv239 fv240 fv241 fv242 fv243 fv244 fv245 fv246 fv247 fv248 fv249 fv250 fv251 fv252 fv253 fv254 fv255 fv256 fv257 fv258 fv259 fv260 fv261 fv262 fv263 fv264 fv265 fv266 fv267 fv268 fv269 fv270 fv271 fv272 fv273 fv274 fv275 fv276 fv277 fv278 fv279 fv280 fv281 fv282 fv283 fv284 fv285 fv286 fv287 fv288 fv289 fv290 fv291 fv292 fv293 fv294 fv295 fv296 fv297 fv298 fv299 fv300 fv301 fv302 fv303 fv304 fv305 fv306 fv307 fv308 fv309 fv310 fv311 fv312 fv313 fv314 fv315 fv316 fv317 fv318 fv319 fv320 fv321 fv322 fv323 fv324 fv325 fv326 : Value)
    (HN : Hid (S.n = n ∧ 2 ≤ n ∧ n ≤ 5 ∧ M ≤ 1800000)) (HK : Hid (Kept Nil w0 X)) (HJ : Hid (JJ K M S sn Mp)) (HD : Hid (Dlv S sn)) (HM : Hid (MS w0 X b S (Q4 V T Gv L))) (HA : Hid (AR X V T Gv L Mp ln n M (owF S))) :
    Code.wp Try.prog sT57 (bodyPost Try.prog Try.f5 fun e w' => e = .returned (.bool true) ∧ Kept Nil w0 w') ⟨#[fv0, fv1, fv2, fv3, fv4, .int .i64 n, .pointer (some ⟨b, 0, none⟩), fv7, .pointer (some ⟨V, 0, none⟩), .pointer (some ⟨T, 0, none⟩), fv10, .pointer (some ⟨L, 0, none⟩), .bool true, fv13, fv14, fv15, fv16, fv17, fv18, fv19, fv20, fv21, fv22, fv23, fv24, fv25, fv26, fv27, fv28, fv29, fv30, fv31, fv32, fv33, fv34, fv35, fv36, fv37, fv38, fv39, fv40, fv41, fv42, fv43, fv44, fv45, fv46, fv47, fv48, fv49, fv50, fv51, fv52, fv53, fv54, fv55, fv56, fv57, fv58, fv59, fv60, fv61, fv62, fv63, fv64, fv65, fv66, fv67, fv68, fv69, fv70, fv71, fv72, fv73, fv74, fv75, fv76, fv77, fv78, fv79, fv80, fv81, fv82, fv83, fv84, fv85, fv86, fv87, fv88, fv89, fv90, fv91, fv92, fv93, fv94, fv95, fv96, fv97, fv98, fv99, fv100, fv101, fv102, fv103, fv104, fv105, fv106, fv107, fv108, fv109, fv110, fv111, fv112, fv113, fv114, fv115, fv116, fv117, fv118, fv119, fv120, fv121, fv122, fv123, fv124, fv125, fv126, fv127, fv128, fv129, fv130, fv131, fv132, fv133, fv134, fv135, fv136, fv137, fv138, fv139, fv140, fv141, fv142, fv143, fv144, fv145, fv146, fv147, fv148, fv149, fv150, fv151, fv152, fv153, fv154, fv155, fv156, fv157, fv158, fv159, fv160, fv161, fv162, fv163, fv164, fv165, fv166, fv167, fv168, fv169, fv170, fv171, fv172, fv173, fv174, fv175, fv176, fv177, fv178, fv179, fv180, fv181, fv182, fv183, fv184, fv185, fv186, fv187, fv188, fv189, fv190, fv191, fv192, fv193, fv194, fv195, fv196, fv197, fv198, fv199, fv200, fv201, fv202, fv203, fv204, fv205, fv206, fv207, fv208, fv209, fv210, fv211, fv212, fv213, fv214, fv215, fv216, fv217, fv218, fv219, fv220, fv221, fv222, fv223, fv224, fv225, fv226, fv227, fv228, fv229, fv230, fv231, fv232, fv233, fv234, fv235, fv236, fv237, fv238, fv239, fv240, fv241, fv242, fv243, fv244, fv245, fv246, fv247, fv248, fv249, fv250, fv251, fv252, fv253, fv254, fv255, fv256, fv257, fv258, fv259, fv260, fv261, fv262, fv263, fv264, fv265, fv266, fv267, fv268, fv269, fv270, fv271, fv272, fv273, fv274, fv275, fv276, fv277, fv278, fv279, fv280, fv281, fv282, fv283, fv284, fv285, fv286, fv287, fv288, fv289, fv290, fv291, fv292, fv293, fv294, fv295, fv296, fv297, fv298, fv299, fv300, fv301, fv302, fv303, fv304, fv305, fv306, fv307, fv308, fv309, fv310, fv311, fv312, fv313, fv314, fv315, fv316, fv317, fv318, fv319, fv320, fv321, fv322, fv323, fv324, fv325, fv326], []⟩ X := by
  conv => arg 2; whnf
  dsimp only
  have hM9 := HN.out.2.2.2
  have hn5 := HN.out.2.2.1
  have hSn := HN.out.1
  go_wp2
  go_loopw [24] (fun u wr => ∃ k : Nat, k ≤ 20 ∧ u = .int .i64 k ∧ Hid (MS w0 wr b S (Q4 V T Gv L)) ∧ Hid (AR wr V T Gv L Mp ln n M (owF S)) ∧ Hid (Kept Nil w0 wr)) (fun u _ => 20 - (intOf u).toNat)
  case atStart => exact ⟨0, Nat.zero_le _, rfl, HM.out, HA.out, HK.out⟩
  case round =>
    obtain ⟨k, hk, rfl, HMr, HAr, HKr⟩ := hrel
    by_cases hlt : k < 20
    · have hki : (k : Int) < 20 := by omega
      obtain ⟨y, past, hy, hnm, hch, hnl, hrun⟩ := HJ.out.end HD.out hlt
      have how : owF S k = (y : Int) + 1 := (ow_is hy (fun a c ha hc h1 h2 => HJ.out.one hlt ha hc h1 h2)).2 (by rw [hnm y hy]; show (((nm y past y : Nat)) : Int) + 1 = _; rw [show nm y past y = y from if_pos rfl])
      have HY : Hid (y < n ∧ (∀ h, h < n → hoR 0 (S.ho h).kb (lt k) = ((nm y past h : Nat) : Int) + 1) ∧ Ch y past ∧ (∀ h, h < n → nm y past h < n) ∧ ∀ h, h < n → run y past (n - 1) h = y) := by rw [← hSn]; exact ⟨hy, hnm, hch, hnl, hrun⟩
      clear hy hnm hch hnl hrun
      obtain ⟨u, HU⟩ : ∃ u, Hid (u = lt k) := ⟨_, rfl⟩
      have hx : (⟨#[97, 98, 99, 100, 101, 102, 103, 104, 105, 106, 107, 108, 109, 110, 111, 112, 113, 114, 115, 116]⟩ : ByteArray).extract k (k + 1) = bs u := by rw [HU.out]; exact ltE hlt
      have c0 : wr.cell? ⟨L, k, none⟩ = some (.int .i64 ((y : Int) + 1)) := by rw [← how]; exact blk_at HAr.out.l k (arrI_at _ hlt)
      have lL : L < wr.heap.size := lt_of_block HAr.out.l
      have n1 : ((y : Int) + 1 == 0) = false := by simp; omega
      clear how
      go_wp2
      go_loopw [27] (fun v wq => ∃ i : Nat, i ≤ n ∧ v = .int .i64 ((i : Int) + 1) ∧ Hid (MS w0 wq b S (Q4 V T Gv L)) ∧ Hid (AR wq V T Gv L Mp ln n M (owF S)) ∧ Hid (Kept Nil w0 wq)) (fun v _ => n + 1 - (intOf v).toNat)
      case atStart => exact ⟨0, Nat.zero_le _, rfl, HMr.out, HAr.out, HKr.out⟩
      case round =>
        obtain ⟨i, hi, rfl, HMq, HAq, HKq⟩ := hrel
        clear c0 lL HMr HAr HKr
        rename World => wq
        by_cases hin : i < n
        · have hii : (i : Int) + 1 ≤ n := by omega
          have G1 := ms_get K M b i k w0 wq S sn Mp (Q4 V T Gv L) HKq.out.size HAq.out.lt HMq.out HJ.out (by omega) (by omega) hlt
          rw [HY.out.2.1 i hin, ← HU.out] at G1
          unfold stC at G1
          go_wp2_with fail
          go_fit G1
          rintro e w2 ⟨⟨rk, rv, rfl, hval⟩, m2, k2⟩
          have HM2 : Hid (MS w0 w2 b S (Q4 V T Gv L)) := m2
          have HA2 : Hid (AR w2 V T Gv L Mp ln n M (owF S)) := HAq.out.kept k2 (fun q _ hq e => e.2 hq)
          have HK2 : Hid (Kept Nil w0 w2) := HKq.out.notQ k2
          have HV2 : Hid (nm y past i = i → rk = (if (Mp k).isSome = true then 1 else 2) ∧ rv = (Mp k).getD []) := fun e => hval (by rw [e])
          clear G1 m2 k2 hval
          go_upto_region 69 with ((with_reducible refine atStore 80 ?_); go_must (refine wpList_storeW rfl _ _ _ rfl _ (anC ⟨0, ((nm y past i : Nat) : Int) + 1, rk, rv⟩) _ _ rfl rfl (blk_new w2 _) rfl Try.sizeAn rfl (anC_one _) ?_); intro w3 hb3 hk3 hs3)
          have k23 : Kept Nil w2 w3 := ((Kept.refl _ _).alloc _).oneN hk3 (Nat.le_refl _)
          obtain ⟨AB, HABe⟩ : ∃ B, Hid (B = w2.heap.size) := ⟨_, rfl⟩
          rw [← HABe.out] at hb3 ⊢
          have HB3 : Hid (w3.heap[AB]? = some (.cells (anC ⟨0, ((nm y past i : Nat) : Int) + 1, rk, rv⟩) 80 (0, 0))) := hb3
          have HM3 : Hid (MS w0 w3 b S (fun q => Q4 V T Gv L q ∨ q = AB)) := HM2.out.add k23 (by rw [HABe.out]; exact Nat.le_refl _)
          have HA3 : Hid (AR w3 V T Gv L Mp ln n M (owF S)) := HA2.out.kept k23 (fun _ _ _ e => e)
          have HK3 : Hid (Kept Nil w0 w3) := HK2.out.trans k23
          have HAw : Hid (w0.heap.size ≤ AB) := by rw [HABe.out]; exact HK2.out.size
          have HR0 : Hid (run y past (n - 1) i = y) := HY.out.2.2.2.2 i hin
          clear hb3 hk3 hs3 k23 HABe HM2 HA2 HK2
          go_wp2
          go_loopw [28, 30] (fun v z wz => ∃ h st : Nat, ∃ rk rv, h < n ∧ 1 ≤ st ∧ st ≤ n ∧ v = .int .i64 ((h : Int) + 1) ∧ z = .int .i64 st ∧ Hid (run y past (n - st) h = y) ∧ Hid (wz.heap[AB]? = some (.cells (anC ⟨0, ((nm y past h : Nat) : Int) + 1, rk, rv⟩) 80 (0, 0))) ∧ Hid (nm y past h = h → rk = (if (Mp k).isSome = true then 1 else 2) ∧ rv = (Mp k).getD []) ∧ Hid (MS w0 wz b S (fun q => Q4 V T Gv L q ∨ q = AB)) ∧ Hid (AR wz V T Gv L Mp ln n M (owF S)) ∧ Hid (Kept Nil w0 wz)) (fun _ z _ => n - (intOf z).toNat)
          case atStart => exact ⟨i, 1, rk, rv, hin, Nat.le_refl _, by have := HN.out; omega, rfl, rfl, HR0.out, HB3.out, HV2.out, HM3.out, HA3.out, HK3.out⟩
          case round =>
            obtain ⟨h, st, rk, rv, hh, hst1, hstn, rfl, rfl, HR, HBz, HV, HMz, HAz, HKz⟩ := hrel
            clear HB3 HM3 HA3 HK3 HV2 HR0
            rename World => wz
            have a1 : wz.cell? ⟨AB, 1, none⟩ = some (.int .i64 (((nm y past h : Nat) : Int) + 1)) := blk_at HBz.out 1 rfl
            have lB : AB < wz.heap.size := lt_of_block HBz.out
            by_cases hst : st < n
            · have hsi : (st : Int) < n := by omega
              by_cases hnm : nm y past h = h
              · have q1 : (((nm y past h : Nat) : Int) + 1 != (h : Int) + 1) = false := by rw [hnm]; simp
                have hyh : h = y := by
                  exact nm_self HY.out.2.2.1 hnm
                subst hyh
                have hnh : nm h past h = h := if_pos rfl
                obtain ⟨e1, e2⟩ := HV.out hnh
                obtain ⟨tb, Htb⟩ : ∃ z, Hid (z = (Mp k).isSome) := ⟨_, rfl⟩
                obtain ⟨val, Hval⟩ : ∃ z, Hid (z = (Mp k).getD []) := ⟨_, rfl⟩
                rw [← Htb.out] at e1
                rw [← Hval.out] at e2
                have t0 : wz.cell? ⟨T, k, none⟩ = some (.bool tb) := by rw [Htb.out]; exact blk_at HAz.out.t k (arrB_at Mp hlt)
                have v0 : wz.cell? ⟨V, k, none⟩ = some (.string (bs val)) := by rw [Hval.out]; exact blk_at HAz.out.v k (arrS_at Mp hlt)
                have lT : T < wz.heap.size := lt_of_block HAz.out.t
                have lV : V < wz.heap.size := lt_of_block HAz.out.v
                have a0 : wz.cell? ⟨AB, 0, none⟩ = some (.int .i64 0) := blk_at HBz.out 0 rfl
                have a2 : wz.cell? ⟨AB, 2, none⟩ = some (.int .i64 rk) := blk_at HBz.out 2 rfl
                have a3 : wz.cell? ⟨AB, 3, none⟩ = some (.string (bs rv)) := blk_at HBz.out 3 rfl
                rw [hnh] at a1
                subst e2
                have p1 : ((h : Int) + 1 != (h : Int) + 1) = false := by simp
                have p2 : (rv == rv) = true := by simp
                have HMi : Hid (MS w0 wz b S (Q4 V T Gv L)) := HMz.out.sub (fun q hq => .inl hq)
                cases tb with
                | true =>
                  obtain rfl : rk = 1 := e1
                  go_upto_region 74 with fail
                  go_quiet (fail)
                  go_wp2
                  go_roundw
                  case rel => exact ⟨i + 1, by omega, by congr 1, HMi.out.kept ((Kept.refl _ _).drewN _), HAz.out.kept ((Kept.refl _ _).drewN _) (fun _ _ _ e => e), HKz.out.drewN _⟩
                  case measure => simp [intOf]; omega
                | false =>
                  obtain rfl : rk = 2 := e1
                  go_upto_region 74 with fail
                  go_quiet (fail)
                  go_wp2
                  go_roundw
                  case rel => exact ⟨i + 1, by omega, by congr 1, HMi.out.kept ((Kept.refl _ _).drewN _), HAz.out.kept ((Kept.refl _ _).drewN _) (fun _ _ _ e => e), HKz.out.drewN _⟩
                  case measure => simp [intOf]; omega
              · obtain ⟨z, HZ⟩ : ∃ z, Hid (z = nm y past h) := ⟨_, rfl⟩
                rw [← HZ.out] at hnm a1
                have hzn : z < n := by rw [HZ.out]; exact HY.out.2.2.2.1 h hh
                have q1 : ((z : Int) + 1 != (h : Int) + 1) = true := by simp; omega
                have G2 := ms_get K M b z k w0 wz S sn Mp (fun q => Q4 V T Gv L q ∨ q = AB) HKz.out.size (fun q hq => by
                  rcases hq with hq | hq
                  · exact HAz.out.lt q hq
                  · rw [hq]; exact lB) HMz.out HJ.out (by omega) (by omega) hlt
                rw [HY.out.2.1 z hzn, ← HU.out] at G2
                unfold stC at G2
                have HR2 : Hid (run y past (n - (st + 1)) z = y) := by
                  have h1 := HR.out
                  rw [show n - st = (n - (st + 1)) + 1 by omega] at h1
                  show _ = _
                  rw [HZ.out]
                  exact h1
                go_wp2_with fail
                go_fit G2
                rintro e w5 ⟨⟨rk', rv', rfl, hval⟩, m5, k5⟩
                have HB5 : Hid (w5.heap[AB]? = some (.cells (anC ⟨0, ((nm y past h : Nat) : Int) + 1, rk, rv⟩) 80 (0, 0))) := k5.block _ _ HBz.out (fun e => e.2 (.inr rfl))
                have HM5 : Hid (MS w0 w5 b S (fun q => Q4 V T Gv L q ∨ q = AB)) := m5
                have HA5 : Hid (AR w5 V T Gv L Mp ln n M (owF S)) := HAz.out.kept k5 (fun q _ hq e => e.2 (.inl hq))
                have HK5 : Hid (Kept Nil w0 w5) := HKz.out.notQ k5
                have HV5 : Hid (nm y past z = z → rk' = (if (Mp k).isSome = true then 1 else 2) ∧ rv' = (Mp k).getD []) := fun e => hval (by rw [e])
                clear G2 m5 k5 hval
                go_wp2_with ((with_reducible refine atStore 80 ?_); go_must (refine wpList_storeW rfl _ _ _ rfl _ (anC ⟨0, ((nm y past z : Nat) : Int) + 1, rk', rv'⟩) _ _ rfl rfl HB5.out rfl Try.sizeAn rfl (anC_one _) ?_); intro w6 hb6 hk6 hs6)
                go_roundw
                case rel => exact ⟨z, st + 1, rk', rv', hzn, by omega, by omega, rfl, by go_num, HR2.out, hb6, HV5.out, HM5.out.one hk6 (.inr rfl), HA5.out.kept hk6 (fun q _ hq e => HA5.out.ne HB5.out (by decide) (by have e : q = AB := e; rw [← e]; exact hq)), HK5.out.oneN hk6 HAw.out⟩
                case measure => simp [intOf]; omega
            · have hsi : ¬ (st : Int) < n := by omega
              have hyh : h = y := by
                have h1 := HR.out
                rw [show n - st = 0 by omega] at h1
                exact h1
              subst hyh
              have hnh : nm h past h = h := if_pos rfl
              obtain ⟨e1, e2⟩ := HV.out hnh
              obtain ⟨tb, Htb⟩ : ∃ z, Hid (z = (Mp k).isSome) := ⟨_, rfl⟩
              obtain ⟨val, Hval⟩ : ∃ z, Hid (z = (Mp k).getD []) := ⟨_, rfl⟩
              rw [← Htb.out] at e1
              rw [← Hval.out] at e2
              have t0 : wz.cell? ⟨T, k, none⟩ = some (.bool tb) := by rw [Htb.out]; exact blk_at HAz.out.t k (arrB_at Mp hlt)
              have v0 : wz.cell? ⟨V, k, none⟩ = some (.string (bs val)) := by rw [Hval.out]; exact blk_at HAz.out.v k (arrS_at Mp hlt)
              have lT : T < wz.heap.size := lt_of_block HAz.out.t
              have lV : V < wz.heap.size := lt_of_block HAz.out.v
              have a0 : wz.cell? ⟨AB, 0, none⟩ = some (.int .i64 0) := blk_at HBz.out 0 rfl
              have a2 : wz.cell? ⟨AB, 2, none⟩ = some (.int .i64 rk) := blk_at HBz.out 2 rfl
              have a3 : wz.cell? ⟨AB, 3, none⟩ = some (.string (bs rv)) := blk_at HBz.out 3 rfl
              rw [hnh] at a1
              subst e2
              have p1 : ((h : Int) + 1 != (h : Int) + 1) = false := by simp
              have p2 : (rv == rv) = true := by simp
              have HMi : Hid (MS w0 wz b S (Q4 V T Gv L)) := HMz.out.sub (fun q hq => .inl hq)
              cases tb with
              | true =>
                obtain rfl : rk = 1 := e1
                go_upto_region 74 with fail
                go_quiet (fail)
                go_wp2
                go_roundw
                case rel => exact ⟨i + 1, by omega, by congr 1, HMi.out.kept ((Kept.refl _ _).drewN _), HAz.out.kept ((Kept.refl _ _).drewN _) (fun _ _ _ e => e), HKz.out.drewN _⟩
                case measure => simp [intOf]; omega
              | false =>
                obtain rfl : rk = 2 := e1
                go_upto_region 74 with fail
                go_quiet (fail)
                go_wp2
                go_roundw
                case rel => exact ⟨i + 1, by omega, by congr 1, HMi.out.kept ((Kept.refl _ _).drewN _), HAz.out.kept ((Kept.refl _ _).drewN _) (fun _ _ _ e => e), HKz.out.drewN _⟩
                case measure => simp [intOf]; omega
        · obtain rfl : i = n := by omega
          have hii : ¬ (i : Int) + 1 ≤ i := by omega
          go_wp2
          go_roundw
          case rel => exact ⟨k + 1, by omega, by go_num, HMq.out, HAq.out, HKq.out⟩
          case measure => simp [intOf]; omega
    · obtain rfl : k = 20 := by omega
      go_wp2
      go_ret
      exact ⟨rfl, HKr.out⟩
end Go.Proofs.Ytpfgnhockfofhaa
