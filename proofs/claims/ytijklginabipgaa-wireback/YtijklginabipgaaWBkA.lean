/-
  WireBack: an entry comes back (from region 10 on).
-/
import Derived.Test.YtijklginabipgaaWBkB
import Derived.Test.YtijklginabipgaaWBkR10
import Derived.Deep.DeepCutAuto
import Derived.Deep.DeepFit
import Derived.Deep.RegionHeld3
import Derived.Deep.CutBlock
import Derived.Deep.QuietTactic
import Derived.BigQuiet
namespace Go.Proofs.Ytijklginabipgaa
open Go.RowKit

set_option maxRecDepth 1000000 in
set_option maxHeartbeats 40000000 in
theorem backB10w (w wx : World) (ix tm i3 i4 cm cx nB : Nat) (n0 n1 n2 n3 n4 n5 : Int) (a rest : List UInt8) (fv0 fv1 fv2 fv5 fv6 fv7 fv8 fv9 fv11 fv12 fv13 fv14 fv15 fv16 fv17 fv18 fv19 fv20 fv21 fv22 fv23 fv24 fv25 fv26 fv27 fv28 fv29 fv30 fv31 fv32 fv33 fv34 fv35 fv36 fv37 fv38 fv39 fv40 fv41 fv42 fv43 fv44 fv45 fv46 fv47 fv48 fv49 fv50 fv51 fv52 fv53 fv54 fv55 fv56 fv57 fv58 fv59 fv60 fv61 fv62 fv63 fv64 fv65 fv66 fv67 fv68 fv69 fv70 fv71 fv72 fv73 fv74 fv75 fv76 fv77 fv78 fv79 fv80 fv81 fv82 fv83 fv84 fv85 fv86 fv87 fv88 fv89 fv90 fv91 fv92 fv93 fv94 fv95 fv96 fv97 fv98 fv99 fv100 fv101 fv102 fv103 fv104 fv105 fv106 fv107 fv108 fv109 fv110 fv111 fv112 fv113 fv114 fv115 fv116 fv117 fv118 fv119 fv120 fv121 fv122 fv123 fv124 fv125 fv126 fv127 fv128 fv129 fv130 fv131 fv132 fv133 fv134 fv135 fv136 fv137 fv138 fv139 fv140 fv141 fv142 fv143 fv144 fv145 fv146 fv147 fv148 fv149 fv150 fv151 fv152 fv153 fv154 fv155 fv156 fv157 fv158 fv159 fv160 fv161 fv162 fv163 fv164 fv165 fv166 fv167 fv168 fv169 fv170 fv171 fv172 fv173 fv174 fv175 fv176 fv177 fv178 fv179 fv180 fv181 fv182 fv183 fv184 fv185 fv186 fv187 fv188 fv189 fv190 fv191 fv192 fv193 fv194 fv195 fv196 fv197 fv198 fv199 fv200 fv201 fv202 fv203 fv204 fv205 fv206 fv207 fv208 fv209 fv210 fv211 fv212 fv213 fv214 fv215 fv216 fv217 fv218 fv219 fv220 fv221 fv222 fv223 fv224 fv225 fv226 fv227 fv228 fv229 fv230 fv231 fv232 fv233 fv234 fv235 fv236 fv237 fv238 fv239 fv240 fv241 fv242 fv243 fv244 fv245 fv246 fv247 fv248 fv249 fv250 : Value) (hk : Kept Nil w wx) (hn : Hid (wx.heap[nB]? = some (.cells #[.int .i64 n0, .int .i64 n1, .int .i64 n2, .int .i64 n3, .int .i64 n4, .int .i64 n5] 75 (0, 0)))) (hp1 : n1 % 1073741824 = cm) (hp2 : n2 % 1073741824 = cx) (hp3 : n3 % 1073741824 = i3) (hp4 : n4 % 1073741824 = i4) (hix : ix = 1 + i3) (htm : tm = 1 + i4)
    (ha : a.length ≤ 256) (hr : rest.length ≤ 140737488351232) :
    Code.wp Try.prog bT10 (bodyPost Try.prog Try.f7 fun e w' => e = .returned (.bool true) ∧ Kept Nil w w') ⟨#[fv0, fv1, fv2, .string (bs rest), .pointer (some ⟨nB, 0, none⟩), fv5, fv6, fv7, fv8, fv9, .string (bs a), fv11, fv12, fv13, fv14, fv15, fv16, fv17, fv18, fv19, fv20, fv21, fv22, fv23, fv24, fv25, fv26, fv27, fv28, fv29, fv30, fv31, fv32, fv33, fv34, fv35, fv36, fv37, fv38, fv39, fv40, fv41, fv42, fv43, fv44, fv45, fv46, fv47, fv48, fv49, fv50, fv51, fv52, fv53, fv54, fv55, fv56, fv57, fv58, fv59, fv60, fv61, fv62, fv63, fv64, fv65, fv66, fv67, fv68, fv69, fv70, fv71, fv72, fv73, fv74, fv75, fv76, fv77, fv78, fv79, fv80, fv81, fv82, fv83, fv84, fv85, fv86, fv87, fv88, fv89, fv90, fv91, fv92, fv93, fv94, fv95, fv96, fv97, fv98, fv99, fv100, fv101, fv102, fv103, fv104, fv105, fv106, fv107, fv108, fv109, fv110, fv111, fv112, fv113, fv114, fv115, fv116, fv117, fv118, fv119, fv120, fv121, fv122, fv123, fv124, fv125, fv126, fv127, fv128, fv129, fv130, fv131, fv132, fv133, fv134, fv135, fv136, fv137, fv138, fv139, fv140, fv141, fv142, fv143, fv144, fv145, fv146, fv147, fv148, fv149, fv150, fv151, fv152, fv153, fv154, fv155, fv156, fv157, fv158, fv159, fv160, fv161, fv162, fv163, fv164, fv165, fv166, fv167, fv168, fv169, fv170, fv171, fv172, fv173, fv174, fv175, fv176, fv177, fv178, fv179, fv180, fv181, fv182, fv183, fv184, fv185, fv186, fv187, fv188, fv189, fv190, fv191, fv192, fv193, fv194, fv195, fv196, fv197, fv198, fv199, fv200, fv201, fv202, fv203, fv204, fv205, fv206, fv207, fv208, fv209, fv210, fv211, fv212, fv213, fv214, fv215, fv216, fv217, fv218, fv219, fv220, fv221, fv222, fv223, fv224, fv225, fv226, fv227, fv228, fv229, fv230, fv231, fv232, fv233, fv234, fv235, fv236, fv237, fv238, fv239, fv240, fv241, fv242, fv243, fv244, fv245, fv246, fv247, fv248, fv249, fv250], []⟩ wx := by
  have l3 : i3 < 1073741824 := by have := Int.emod_lt_of_pos n3 (show (0 : Int) < 1073741824 by decide); omega
  have l4 : i4 < 1073741824 := by have := Int.emod_lt_of_pos n4 (show (0 : Int) < 1073741824 by decide); omega
  have hi : 1 ≤ ix ∧ ix ≤ 1073741824 := by omega
  have ht : 1 ≤ tm ∧ tm ≤ 1073741824 := by omega
  have HK : Hid (Kept Nil w wx) := hk
  have HN : Hid (wx.heap[nB]? = some (.cells #[.int .i64 n0, .int .i64 n1, .int .i64 n2, .int .i64 n3, .int .i64 n4, .int .i64 n5] 75 (0, 0))) := hn
  have HQ : Hid (n1 % 1073741824 = cm ∧ n2 % 1073741824 = cx ∧ (1 ≤ ix ∧ ix ≤ 1073741824) ∧ (1 ≤ tm ∧ tm ≤ 1073741824) ∧ a.length ≤ 256 ∧ rest.length ≤ 140737488351232) := ⟨hp1, hp2, hi, ht, ha, hr⟩
  have HW : Hid (IntKind.i64.wrap (1 + (i3 : Int)) = (ix : Int) ∧ IntKind.i64.wrap (1 + (i4 : Int)) = (tm : Int)) := ⟨by rw [IntKind.wrap_i64]; omega, by rw [IntKind.wrap_i64]; omega⟩
  have HOK : Hid (En.ok ⟨ix, tm, 1, a⟩ = true) := bkEn hi ht ha
  have HP3 : Hid (n3 % 1073741824 = i3) := hp3
  have HP4 : Hid (n4 % 1073741824 = i4) := hp4
  have PE := fun X => putEntry_any ix tm 1 a X (by unfold maxLen; omega)
  have hpe : putEnt ⟨ix, tm, 1, a⟩ = (encEnt ix tm 1 a, 0) := by unfold putEnt; rw [if_pos HOK.out]; rfl
  rw [hpe] at PE
  have GE := fun X => getEntry_any (encEnt ix tm 1 a) X
  have hre := rdEnt_enc (ix := ix) (tm := tm) (kd := 1) (dt := a) (t := []) HOK.out
  rw [List.append_nil] at hre
  simp only [getAll_ok hre] at GE
  simp only at PE
  clear hk hp1 hp2 hp3 hp4 hix htm ha hr hi ht l3 l4 hpe hre
  conv => arg 2; whnf
  dsimp only
  go_upto_region 10 with fail
  go_cut [14] (fun r wc => ∃ xB : Nat, r = .pointer (some ⟨xB, 0, none⟩) ∧ Hid (wc.heap[xB]? = some (.cells #[.int .i64 ix, .int .i64 tm, .int .i64 1, .string (bs a)] 52 (0, 0))) ∧ Hid (Kept Nil wx wc))
  case first =>
    refine backB10 wx ix tm i3 i4 nB n3 n4 a rest _ _ _ _ _ _ _ _ _ _ _ _ _ _ _ _ _ _ _ _ _ _ _ _ _ _ _ _ _ _ _ _ _ _ _ _ _ _ _ _ _ _ _ _ _ _ _ _ _ _ _ _ _ _ _ _ _ _ _ _ _ _ _ _ _ _ _ _ _ _ _ _ _ _ _ _ _ _ _ _ _ _ _ _ _ _ _ _ _ _ _ _ _ _ _ _ _ _ _ _ _ _ _ _ _ _ _ _ _ _ _ _ _ _ _ _ _ _ _ _ _ _ _ _ _ _ _ _ _ _ _ _ _ _ _ _ _ _ _ _ _ _ _ _ _ _ _ _ _ _ _ _ _ _ _ _ _ _ _ _ _ _ _ _ _ _ _ _ _ _ _ _ _ _ _ _ _ _ _ _ _ _ _ _ _ _ _ _ _ _ _ _ _ _ _ _ _ _ _ _ _ _ _ _ _ _ _ _ _ _ _ _ _ _ _ _ _ _ _ _ _ _ _ _ _ _ _ _ _ _ _ _ _ _ _ _ _ _ _ _ _ _ _ _ _ _ _ _ _ _ ?_ (blk_at hn.out 3 rfl) (blk_at hn.out 4 rfl) (lt_of_block hn.out) HP3.out HP4.out HW.out.1 HW.out.2
    intro u14 u77 u78 u79 u80 u81 u82 u83 u84 u85 u86 wc xB h1 h2 h3
    subst h1
    (try dsimp only)
    go_wp2
    go_meet
    exact ⟨xB, rfl, h2, h3⟩
  case rest =>
    obtain ⟨xB, rfl, HX, KC⟩ := hcut
    rename World => wc
    have x0 := blk_at HX.out 0 rfl
    have x1 := blk_at HX.out 1 rfl
    have x2 := blk_at HX.out 2 rfl
    have x3 := blk_at HX.out 3 rfl
    clear hn
    go_wp2_with fail
    refine (PE _).mono ?_
    rintro e w1 ⟨rfl, k1⟩
    go_wp2_with fail
    refine (GE _).mono ?_
    rintro e w2 ⟨v, rfl, hv, k2⟩
    unfold EnV at hv
    subst hv
    have HX2 : Hid (w2.heap[xB]? = some (.cells #[.int .i64 ix, .int .i64 tm, .int .i64 1, .string (bs a)] 52 (0, 0))) := k2.block _ _ (k1.block _ _ HX.out (fun x => x.elim)) (fun x => x.elim)
    have HK2 : Hid (Kept Nil wx w2) := KC.out.trans (k1.trans k2)
    have y0 := blk_at HX2.out 0 rfl
    have y1 := blk_at HX2.out 1 rfl
    have y2 := blk_at HX2.out 2 rfl
    have y3 := blk_at HX2.out 3 rfl
    have hlt : xB < w2.heap.size := lt_of_block HX2.out
    have htl := bs_toList
    clear k1 k2 PE GE
    simp only
    go_upto_if 107 with fail
    go_cut [] (fun wd => Hid (Kept Nil w2 wd))
    case first =>
      go_wp2
      go_meet
      exact (Kept.refl _ _).alloc _
    case rest =>
      have K4 : Hid (Kept Nil w2 _) := hcut
      have HK4 := HK2.out.trans K4.out
      apply_assumption
      exact backB15 w _ ix tm cm cx xB nB n0 n1 n2 n3 n4 n5 a rest _ _ _ _ _ _ _ _ _ _ _ _ _ _ _ _ _ _ _ _ _ _ _ _ _ _ _ _ _ _ _ _ _ _ _ _ _ _ _ _ _ _ _ _ _ _ _ _ _ _ _ _ _ _ _ _ _ _ _ _ _ _ _ _ _ _ _ _ _ _ _ _ _ _ _ _ _ _ _ _ _ _ _ _ _ _ _ _ _ _ _ _ _ _ _ _ _ _ _ _ _ _ _ _ _ _ _ _ _ _ _ _ _ _ _ _ _ _ _ _ _ _ _ _ _ _ _ _ _ _ _ _ _ _ _ _ _ _ _ _ _ _ _ _ _ _ _ _ _ _ _ _ _ _ _ _ _ _ _ _ _ _ _ _ _ _ _ _ _ _ _ _ _ _ _ _ _ _ _ _ _ _ _ _ _ _ _ _ _ _ _ _ _ _ _ _ _ _ _ _ _ _ _ _ _ _ _ _ _ _ _ _ _ _ _ _ _ _ _ _ _ _ _ _ _ _ _ _ _ _ _ _ _ _ _ _ _ _ _ _ _ _ _ _ _ _ _ _ (HK.out.trans HK4) (K4.out.block _ _ HX2.out (fun x => x.elim)) (HK4.block _ _ HN.out (fun x => x.elim)) HQ.out.1 HQ.out.2.1 HQ.out.2.2.1 HQ.out.2.2.2.1 HQ.out.2.2.2.2.1 HQ.out.2.2.2.2.2

end Go.Proofs.Ytijklginabipgaa
