/-
  WireBack: a configuration comes back (from region 15 on).
-/
import Derived.Test.YtijklginabipgaaWBkC
import Derived.Deep.DeepCutAuto
import Derived.Deep.DeepFit
import Derived.Deep.RegionHeld3
import Derived.Deep.CutBlock
import Derived.Deep.QuietTactic
import Derived.BigQuiet
namespace Go.Proofs.Ytijklginabipgaa
open Go.RowKit

theorem putCfgN (c : Cf) (B c1 c2 c3 : Nat) (a1 a2 a3 : Option Addr) (X : World) (hok : c.ok = true) (h : CfRows B X a1 a2 a3 (intsOf c.v) (intsOf c.n) (intsOf c.l)) :
    Calls Try.prog 42 #[.agg #[.slice a1 c.v.length c1, .slice a2 c.n.length c2, .slice a3 c.l.length c3]] X fun e w' => e = .returned (.tuple #[.string (bs (encCfg c.v c.n c.l)), .int .i64 0]) ∧ Kept Nil X w' := by
  have f := few_of hok
  have H := putConfig_any B c1 c2 c3 a1 a2 a3 (intsOf c.v) (intsOf c.n) (intsOf c.l) X h (by have := f.1.len; rw [intsOf_len]; omega) (by have := f.2.1.len; rw [intsOf_len]; omega) (by have := f.2.2.len; rw [intsOf_len]; omega)
  have e : putCfg (intsOf c.v) (intsOf c.n) (intsOf c.l) = (encCfg c.v c.n c.l, 0) := by
    unfold putCfg
    rw [if_pos (show isCfg _ _ _ = true from hok), natsOf_ints, natsOf_ints, natsOf_ints]
  rw [intsOf_len, intsOf_len, intsOf_len, e] at H
  exact H
theorem sameN (c : Cf) (B1 B2 c1 c2 c3 d1 d2 d3 : Nat) (a1 a2 a3 b1 b2 b3 : Option Addr) (X : World) (hok : c.ok = true) (h1 : CfRows B1 X a1 a2 a3 (intsOf c.v) (intsOf c.n) (intsOf c.l)) (h2 : CfRows B2 X b1 b2 b3 (intsOf c.v) (intsOf c.n) (intsOf c.l)) :
    Calls Try.prog 58 #[.agg #[.slice a1 c.v.length c1, .slice a2 c.n.length c2, .slice a3 c.l.length c3], .agg #[.slice b1 c.v.length d1, .slice b2 c.n.length d2, .slice b3 c.l.length d3]] X fun e w' => e = .returned (.bool true) ∧ Kept Nil X w' := by
  have f := few_of hok
  have H := same_yes B1 B2 c1 c2 c3 d1 d2 d3 a1 a2 a3 b1 b2 b3 (intsOf c.v) (intsOf c.n) (intsOf c.l) X h1 h2 (by have := f.1.len; rw [intsOf_len]; omega) (by have := f.2.1.len; rw [intsOf_len]; omega) (by have := f.2.2.len; rw [intsOf_len]; omega)
  rw [intsOf_len, intsOf_len, intsOf_len] at H
  exact H
set_option maxRecDepth 1000000 in
set_option maxHeartbeats 40000000 in
theorem backB15 (w wx : World) (ix tm cm cx xB nB : Nat) (n0 n1 n2 n3 n4 n5 : Int) (a rest : List UInt8) (fv0 fv1 fv2 fv5 fv6 fv7 fv8 fv9 fv10 fv11 fv12 fv13 fv15 fv16 fv17 fv18 fv19 fv20 fv21 fv22 fv23 fv24 fv25 fv26 fv27 fv28 fv29 fv30 fv31 fv32 fv33 fv34 fv35 fv36 fv37 fv38 fv39 fv40 fv41 fv42 fv43 fv44 fv45 fv46 fv47 fv48 fv49 fv50 fv51 fv52 fv53 fv54 fv55 fv56 fv57 fv58 fv59 fv60 fv61 fv62 fv63 fv64 fv65 fv66 fv67 fv68 fv69 fv70 fv71 fv72 fv73 fv74 fv75 fv76 fv77 fv78 fv79 fv80 fv81 fv82 fv83 fv84 fv85 fv86 fv87 fv88 fv89 fv90 fv91 fv92 fv93 fv94 fv95 fv96 fv97 fv98 fv99 fv100 fv101 fv102 fv103 fv104 fv105 fv106 fv107 fv108 fv109 fv110 fv111 fv112 fv113 fv114 fv115 fv116 fv117 fv118 fv119 fv120 fv121 fv122 fv123 fv124 fv125 fv126 fv127 fv128 fv129 fv130 fv131 fv132 fv133 fv134 fv135 fv136 fv137 fv138 fv139 fv140 fv141 fv142 fv143 fv144 fv145 fv146 fv147 fv148 fv149 fv150 fv151 fv152 fv153 fv154 fv155 fv156 fv157 fv158 fv159 fv160 fv161 fv162 fv163 fv164 fv165 fv166 fv167 fv168 fv169 fv170 fv171 fv172 fv173 fv174 fv175 fv176 fv177 fv178 fv179 fv180 fv181 fv182 fv183 fv184 fv185 fv186 fv187 fv188 fv189 fv190 fv191 fv192 fv193 fv194 fv195 fv196 fv197 fv198 fv199 fv200 fv201 fv202 fv203 fv204 fv205 fv206 fv207 fv208 fv209 fv210 fv211 fv212 fv213 fv214 fv215 fv216 fv217 fv218 fv219 fv220 fv221 fv222 fv223 fv224 fv225 fv226 fv227 fv228 fv229 fv230 fv231 fv232 fv233 fv234 fv235 fv236 fv237 fv238 fv239 fv240 fv241 fv242 fv243 fv244 fv245 fv246 fv247 fv248 fv249 fv250 : Value) (hk : Kept Nil w wx) (hx : Hid (wx.heap[xB]? = some (.cells #[.int .i64 ix, .int .i64 tm, .int .i64 1, .string (bs a)] 52 (0, 0)))) (hn : Hid (wx.heap[nB]? = some (.cells #[.int .i64 n0, .int .i64 n1, .int .i64 n2, .int .i64 n3, .int .i64 n4, .int .i64 n5] 75 (0, 0)))) (hp1 : n1 % 1073741824 = cm) (hp2 : n2 % 1073741824 = cx)
    (hi : 1 ≤ ix ∧ ix ≤ 1073741824) (ht : 1 ≤ tm ∧ tm ≤ 1073741824) (ha : a.length ≤ 256) (hr : rest.length ≤ 140737488351232) :
    Code.wp Try.prog bT15 (bodyPost Try.prog Try.f7 fun e w' => e = .returned (.bool true) ∧ Kept Nil w w') ⟨#[fv0, fv1, fv2, .string (bs rest), .pointer (some ⟨nB, 0, none⟩), fv5, fv6, fv7, fv8, fv9, fv10, fv11, fv12, fv13, .pointer (some ⟨xB, 0, none⟩), fv15, fv16, fv17, fv18, fv19, fv20, fv21, fv22, fv23, fv24, fv25, fv26, fv27, fv28, fv29, fv30, fv31, fv32, fv33, fv34, fv35, fv36, fv37, fv38, fv39, fv40, fv41, fv42, fv43, fv44, fv45, fv46, fv47, fv48, fv49, fv50, fv51, fv52, fv53, fv54, fv55, fv56, fv57, fv58, fv59, fv60, fv61, fv62, fv63, fv64, fv65, fv66, fv67, fv68, fv69, fv70, fv71, fv72, fv73, fv74, fv75, fv76, fv77, fv78, fv79, fv80, fv81, fv82, fv83, fv84, fv85, fv86, fv87, fv88, fv89, fv90, fv91, fv92, fv93, fv94, fv95, fv96, fv97, fv98, fv99, fv100, fv101, fv102, fv103, fv104, fv105, fv106, fv107, fv108, fv109, fv110, fv111, fv112, fv113, fv114, fv115, fv116, fv117, fv118, fv119, fv120, fv121, fv122, fv123, fv124, fv125, fv126, fv127, fv128, fv129, fv130, fv131, fv132, fv133, fv134, fv135, fv136, fv137, fv138, fv139, fv140, fv141, fv142, fv143, fv144, fv145, fv146, fv147, fv148, fv149, fv150, fv151, fv152, fv153, fv154, fv155, fv156, fv157, fv158, fv159, fv160, fv161, fv162, fv163, fv164, fv165, fv166, fv167, fv168, fv169, fv170, fv171, fv172, fv173, fv174, fv175, fv176, fv177, fv178, fv179, fv180, fv181, fv182, fv183, fv184, fv185, fv186, fv187, fv188, fv189, fv190, fv191, fv192, fv193, fv194, fv195, fv196, fv197, fv198, fv199, fv200, fv201, fv202, fv203, fv204, fv205, fv206, fv207, fv208, fv209, fv210, fv211, fv212, fv213, fv214, fv215, fv216, fv217, fv218, fv219, fv220, fv221, fv222, fv223, fv224, fv225, fv226, fv227, fv228, fv229, fv230, fv231, fv232, fv233, fv234, fv235, fv236, fv237, fv238, fv239, fv240, fv241, fv242, fv243, fv244, fv245, fv246, fv247, fv248, fv249, fv250], []⟩ wx := by
  have HK : Hid (Kept Nil w wx) := hk
  have HX : Hid (wx.heap[xB]? = some (.cells #[.int .i64 ix, .int .i64 tm, .int .i64 1, .string (bs a)] 52 (0, 0))) := hx
  have HN : Hid (wx.heap[nB]? = some (.cells #[.int .i64 n0, .int .i64 n1, .int .i64 n2, .int .i64 n3, .int .i64 n4, .int .i64 n5] 75 (0, 0))) := hn
  have HQ : Hid (n1 % 1073741824 = cm ∧ n2 % 1073741824 = cx ∧ (1 ≤ ix ∧ ix ≤ 1073741824) ∧ (1 ≤ tm ∧ tm ≤ 1073741824) ∧ a.length ≤ 256 ∧ rest.length ≤ 140737488351232) := ⟨hp1, hp2, hi, ht, ha, hr⟩
  have q0 := blk_at hn.out 0 rfl
  have q5 := blk_at hn.out 5 rfl
  clear hk hx hn hp1 hp2 hi ht ha hr
  conv => arg 2; whnf
  dsimp only
  go_wp2_with fail
  refine (configOf_any n0 n5 _).mono ?_
  rintro e w1 ⟨cf, v, rfl, hv, hok, hA, hB, hC, k1⟩
  clear hA hB hC
  obtain ⟨a1, a2, a3, c1, c2, c3, rfl, o1, o2, o3⟩ := hv
  have HR1 : Hid (CfRows w1.heap.size w1 a1 a2 a3 (intsOf cf.v) (intsOf cf.n) (intsOf cf.l)) := cf_rows o1 o2 o3
  have HOK : Hid (cf.ok = true) := hok
  have HK1 : Hid (Kept Nil wx w1) := k1
  have HZ1 : Hid ((w1.alloc (.cells #[.slice a1 cf.v.length c1, .slice a2 cf.n.length c2, .slice a3 cf.l.length c3] 24)).heap[w1.heap.size]? = some (.cells #[.slice a1 cf.v.length c1, .slice a2 cf.n.length c2, .slice a3 cf.l.length c3] 24 (0, 0))) := blk_new w1 _
  clear o1 o2 o3 hok k1
  go_wp2_with fail
  refine (putCfgN cf _ c1 c2 c3 a1 a2 a3 _ HOK.out (HR1.out.alloc _)).mono ?_
  rintro e w2 ⟨rfl, k2⟩
  have GC := fun X => getConfig_any (encCfg cf.v cf.n cf.l) X
  simp only [getAll_ok (rdCfg_enc (v := cf.v) (n := cf.n) (l := cf.l) HOK.out)] at GC
  go_wp2_with fail
  refine (GC _).mono ?_
  rintro e w3 ⟨v, rfl, hv, k3⟩
  obtain ⟨b1, b2, b3, d1, d2, d3, rfl, p1, p2, p3⟩ := hv
  have HR3 : Hid (CfRows w3.heap.size w3 b1 b2 b3 (intsOf cf.v) (intsOf cf.n) (intsOf cf.l)) := cf_rows p1 p2 p3
  have HR13 : Hid (CfRows w1.heap.size w3 a1 a2 a3 (intsOf cf.v) (intsOf cf.n) (intsOf cf.l)) := HR1.out.nil (((Kept.refl _ _).alloc _).trans (k2.trans k3))
  have HZ3 : Hid (w3.heap[w1.heap.size]? = some (.cells #[.slice a1 cf.v.length c1, .slice a2 cf.n.length c2, .slice a3 cf.l.length c3] 24 (0, 0))) := k3.block _ _ (k2.block _ _ HZ1.out (fun x => x.elim)) (fun x => x.elim)
  have HK3 : Hid (Kept Nil wx w3) := HK1.out.trans (((Kept.refl _ _).alloc _).trans (k2.trans k3))
  have z0 := blk_at HZ3.out 0 rfl
  have z1 := blk_at HZ3.out 1 rfl
  have z2 := blk_at HZ3.out 2 rfl
  have hlt3 : w1.heap.size < w3.heap.size := lt_of_block HZ3.out
  clear p1 p2 p3 k2 k3 GC HZ1 HR1 HK1
  go_wp2_with fail
  refine (sameN cf _ _ d1 d2 d3 c1 c2 c3 b1 b2 b3 a1 a2 a3 _ HOK.out (HR3.out.alloc _) (HR13.out.alloc _)).mono ?_
  rintro e w4 ⟨rfl, k4⟩
  have HK4 : Hid (Kept Nil wx w4) := HK3.out.trans (((Kept.refl _ _).alloc _).trans k4)
  go_upto_if 135 with fail
  go_cut [] (fun wd => wd = w4)
  case first =>
    go_wp2
    go_meet
    rfl
  case rest =>
    subst hcut
    apply_assumption
    exact backC w _ ix tm cm cx xB nB n0 n1 n2 n3 n4 n5 a rest _ _ _ _ _ _ _ _ _ _ _ _ _ _ _ _ _ _ _ _ _ _ _ _ _ _ _ _ _ _ _ _ _ _ _ _ _ _ _ _ _ _ _ _ _ _ _ _ _ _ _ _ _ _ _ _ _ _ _ _ _ _ _ _ _ _ _ _ _ _ _ _ _ _ _ _ _ _ _ _ _ _ _ _ _ _ _ _ _ _ _ _ _ _ _ _ _ _ _ _ _ _ _ _ _ _ _ _ _ _ _ _ _ _ _ _ _ _ _ _ _ _ _ _ _ _ _ _ _ _ _ _ _ _ _ _ _ _ _ _ _ _ _ _ _ _ _ _ _ _ _ _ _ _ _ _ _ _ _ _ _ _ _ _ _ _ _ _ _ _ _ _ _ _ _ _ _ _ _ _ _ _ _ _ _ _ _ _ _ _ _ _ _ _ _ _ _ _ _ _ _ _ _ _ _ _ _ _ _ _ _ _ _ _ _ _ _ _ _ _ _ _ _ _ _ _ _ _ _ _ _ _ _ _ _ _ _ _ _ _ _ _ _ _ _ _ _ _ (HK.out.trans HK4.out) (HK4.out.block _ _ HX.out (fun x => x.elim)) (HK4.out.block _ _ HN.out (fun x => x.elim)) HQ.out.1 HQ.out.2.1 HQ.out.2.2.1 HQ.out.2.2.2.1 HQ.out.2.2.2.2.1 HQ.out.2.2.2.2.2

end Go.Proofs.Ytijklginabipgaa
