/-
  WireBack: a message comes back (from region 24 on).
-/
import Derived.Test.YtijklginabipgaaWBkE
import Derived.Deep.DeepCutAuto
import Derived.Deep.DeepFit
import Derived.Deep.RegionHeld3
import Derived.Deep.CutBlock
import Derived.Deep.QuietTactic
import Derived.BigQuiet
namespace Go.Proofs.Ytijklginabipgaa
open Go.RowKit

theorem cell_one {w w3 : World} {o : Obj} {g i : Nat} {v : Value} (hg : g < w.heap.size) (h : w.cell? ⟨g, i, none⟩ = some v) (hk : Kept (One w.heap.size) (w.alloc o) w3) : w3.cell? ⟨g, i, none⟩ = some v := by
  have h1 : (w.alloc o).cell? ⟨g, i, none⟩ = some v := by rw [World.cell?_alloc_past _ _ _ hg]; exact h
  have hlt := cell_lt h1
  have hb : w3.heap[g]? = (w.alloc o).heap[g]? := by rw [Array.getElem?_eq_getElem hlt]; exact hk.block _ _ (Array.getElem?_eq_getElem hlt) (fun (e : g = w.heap.size) => by omega)
  exact (World.cell?_of_block hb).trans h1
set_option maxRecDepth 1000000 in
set_option maxHeartbeats 40000000 in
theorem backD (w wx : World) (tm1 ix0 lg cm cx xB mB eb : Nat) (x : En) (rest : List UInt8) (fv0 fv1 fv2 fv4 fv5 fv6 fv7 fv8 fv9 fv10 fv11 fv12 fv13 fv15 fv16 fv17 fv18 fv19 fv20 fv22 fv23 fv24 fv25 fv26 fv27 fv28 fv29 fv30 fv31 fv32 fv33 fv34 fv35 fv36 fv37 fv38 fv39 fv40 fv41 fv42 fv43 fv44 fv45 fv46 fv47 fv48 fv49 fv50 fv51 fv52 fv53 fv54 fv55 fv56 fv57 fv58 fv59 fv60 fv61 fv62 fv63 fv64 fv65 fv66 fv67 fv68 fv69 fv70 fv71 fv72 fv73 fv74 fv75 fv76 fv77 fv78 fv79 fv80 fv81 fv82 fv83 fv84 fv85 fv86 fv87 fv88 fv89 fv90 fv91 fv92 fv93 fv94 fv95 fv96 fv97 fv98 fv99 fv100 fv101 fv102 fv103 fv104 fv105 fv106 fv107 fv108 fv109 fv110 fv111 fv112 fv113 fv114 fv115 fv116 fv117 fv118 fv119 fv120 fv121 fv122 fv123 fv124 fv125 fv126 fv127 fv128 fv129 fv130 fv131 fv132 fv133 fv134 fv135 fv136 fv137 fv138 fv139 fv140 fv141 fv142 fv143 fv144 fv145 fv146 fv147 fv148 fv149 fv150 fv151 fv152 fv153 fv154 fv155 fv156 fv157 fv158 fv159 fv160 fv161 fv162 fv163 fv164 fv165 fv166 fv167 fv168 fv169 fv170 fv171 fv172 fv173 fv174 fv175 fv176 fv177 fv178 fv179 fv180 fv181 fv182 fv183 fv184 fv185 fv186 fv187 fv188 fv189 fv190 fv191 fv192 fv193 fv194 fv195 fv196 fv197 fv198 fv199 fv200 fv201 fv202 fv203 fv204 fv205 fv206 fv207 fv208 fv209 fv210 fv211 fv212 fv213 fv214 fv215 fv216 fv217 fv218 fv219 fv220 fv221 fv222 fv223 fv224 fv225 fv226 fv227 fv228 fv229 fv230 fv231 fv232 fv233 fv234 fv235 fv236 fv237 fv238 fv239 fv240 fv241 fv242 fv243 fv244 fv245 fv246 fv247 fv248 fv249 fv250 : Value) (hk : Kept Nil w wx) (hx : wx.heap[xB]? = some (.cells #[.int .i64 x.ix, .int .i64 x.tm, .int .i64 x.kd, .string (bs x.dt)] 52 (0, 0))) (hm : wx.heap[mB]? = some (.cells #[.int .i64 5, .int .i64 1, .int .i64 2, .int .i64 tm1, .int .i64 ix0, .int .i64 lg, .int .i64 cm, .slice (some ⟨eb, 0, none⟩) 1 1, .int .i64 0, .int .i64 0, .slice none 0 0, .slice none 0 0, .slice none 0 0, .string (bs []), .bool false, .int .i64 0, .int .i64 cx] 85 (0, 0)))
    (ho : OwnEs 0 wx (some ⟨eb, 0, none⟩) 1 [x]) (hsm : Mg.Small { Mg.head 5 1 2 tm1 with ix := ix0, lg := lg, cm := cm, cx := cx, es := [x] }) (hok : Mg.ok { Mg.head 5 1 2 tm1 with ix := ix0, lg := lg, cm := cm, cx := cx, es := [x] } = true) (hrd : rdMsg (encMsg { Mg.head 5 1 2 tm1 with ix := ix0, lg := lg, cm := cm, cx := cx, es := [x] }) = .ok ({ Mg.head 5 1 2 tm1 with ix := ix0, lg := lg, cm := cm, cx := cx, es := [x] }, [])) (hi : (encMsg { Mg.head 5 1 2 tm1 with ix := ix0, lg := lg, cm := cm, cx := cx, es := [x] }).length ≤ 65536) (hr : rest.length ≤ 140737488351232) :
    Code.wp Try.prog bT24 (bodyPost Try.prog Try.f7 fun e w' => e = .returned (.bool true) ∧ Kept Nil w w') ⟨#[fv0, fv1, fv2, .string (bs rest), fv4, fv5, fv6, fv7, fv8, fv9, fv10, fv11, fv12, fv13, .pointer (some ⟨xB, 0, none⟩), fv15, fv16, fv17, fv18, fv19, fv20, .pointer (some ⟨mB, 0, none⟩), fv22, fv23, fv24, fv25, fv26, fv27, fv28, fv29, fv30, fv31, fv32, fv33, fv34, fv35, fv36, fv37, fv38, fv39, fv40, fv41, fv42, fv43, fv44, fv45, fv46, fv47, fv48, fv49, fv50, fv51, fv52, fv53, fv54, fv55, fv56, fv57, fv58, fv59, fv60, fv61, fv62, fv63, fv64, fv65, fv66, fv67, fv68, fv69, fv70, fv71, fv72, fv73, fv74, fv75, fv76, fv77, fv78, fv79, fv80, fv81, fv82, fv83, fv84, fv85, fv86, fv87, fv88, fv89, fv90, fv91, fv92, fv93, fv94, fv95, fv96, fv97, fv98, fv99, fv100, fv101, fv102, fv103, fv104, fv105, fv106, fv107, fv108, fv109, fv110, fv111, fv112, fv113, fv114, fv115, fv116, fv117, fv118, fv119, fv120, fv121, fv122, fv123, fv124, fv125, fv126, fv127, fv128, fv129, fv130, fv131, fv132, fv133, fv134, fv135, fv136, fv137, fv138, fv139, fv140, fv141, fv142, fv143, fv144, fv145, fv146, fv147, fv148, fv149, fv150, fv151, fv152, fv153, fv154, fv155, fv156, fv157, fv158, fv159, fv160, fv161, fv162, fv163, fv164, fv165, fv166, fv167, fv168, fv169, fv170, fv171, fv172, fv173, fv174, fv175, fv176, fv177, fv178, fv179, fv180, fv181, fv182, fv183, fv184, fv185, fv186, fv187, fv188, fv189, fv190, fv191, fv192, fv193, fv194, fv195, fv196, fv197, fv198, fv199, fv200, fv201, fv202, fv203, fv204, fv205, fv206, fv207, fv208, fv209, fv210, fv211, fv212, fv213, fv214, fv215, fv216, fv217, fv218, fv219, fv220, fv221, fv222, fv223, fv224, fv225, fv226, fv227, fv228, fv229, fv230, fv231, fv232, fv233, fv234, fv235, fv236, fv237, fv238, fv239, fv240, fv241, fv242, fv243, fv244, fv245, fv246, fv247, fv248, fv249, fv250], []⟩ wx := by
  have HK : Hid (Kept Nil w wx) := hk
  have HM : Hid _ := hm
  have HX : Hid _ := hx
  have PM := fun X (hX : Kept Nil wx X) => putMsg_any { Mg.head 5 1 2 tm1 with ix := ix0, lg := lg, cm := cm, cx := cx, es := [x] } 0 _ X (.app _ _ _ _ _ _ _ _) hsm hok ⟨some ⟨eb, 0, none⟩, 1, none, none, none, 0, 0, 0, rfl, ⟨fun h => absurd rfl h, fun _ => ⟨⟨rfl, rfl⟩, ⟨rfl, rfl⟩, ⟨rfl, rfl⟩⟩⟩, own_kept ho hX (fun _ _ _ x => x.elim), World.ownsRow_nil _ _ _ _, World.ownsRow_nil _ _ _ _, World.ownsRow_nil _ _ _ _⟩
  have GM := fun X => getMessage_any (encMsg { Mg.head 5 1 2 tm1 with ix := ix0, lg := lg, cm := cm, cx := cx, es := [x] }) X
  simp only [getAll_ok hrd] at GM
  have HI : Hid ((encMsg { Mg.head 5 1 2 tm1 with ix := ix0, lg := lg, cm := cm, cx := cx, es := [x] }).length ≤ 65536 ∧ rest.length ≤ 140737488351232) := ⟨hi, hr⟩
  generalize encMsg { Mg.head 5 1 2 tm1 with ix := ix0, lg := lg, cm := cm, cx := cx, es := [x] } = ib at PM GM HI
  clear hk hx hm ho hsm hok hrd hi hr
  conv => arg 2; whnf
  dsimp only
  go_wp2_with ((with_reducible refine atLoad 85 ?_); go_must (refine wpList_loadW rfl _ _ rfl _ rfl _ _ _ HM.out Try.underlying85 rfl Try.sizeMsg rfl ?_))
  refine (PM _ (Kept.refl _ _)).mono ?_
  rintro e w1 ⟨rfl, k1⟩
  go_wp2_with fail
  refine (GM _).mono ?_
  rintro e w2 ⟨v, rfl, hv, k2⟩
  obtain ⟨ae, ce, a1, a2, a3, c1, c2, c3, rfl, hnil, o0, _, _, _⟩ := hv
  obtain ⟨⟨rfl, rfl⟩, ⟨rfl, rfl⟩, ⟨rfl, rfl⟩⟩ := hnil.2 (show (5 : Nat) ≠ 7 by decide)
  obtain ⟨g, rfl, hg1, hg2, hgc⟩ := own_cellE o0 (by simp)
  have y0 : w2.cell? ⟨g, 0, none⟩ = some (.int .i64 x.ix) := hgc 0 _ rfl
  have y1 : w2.cell? ⟨g, 1, none⟩ = some (.int .i64 x.tm) := hgc 1 _ rfl
  have y2 : w2.cell? ⟨g, 2, none⟩ = some (.int .i64 x.kd) := hgc 2 _ rfl
  have y3 : w2.cell? ⟨g, 3, none⟩ = some (.string (bs x.dt)) := hgc 3 _ rfl
  have HY : Hid (w2.cell? ⟨g, 0, none⟩ = some (.int .i64 x.ix) ∧ w2.cell? ⟨g, 1, none⟩ = some (.int .i64 x.tm) ∧ w2.cell? ⟨g, 2, none⟩ = some (.int .i64 x.kd) ∧ w2.cell? ⟨g, 3, none⟩ = some (.string (bs x.dt)) ∧ g < w2.heap.size) := ⟨y0, y1, y2, y3, hg2⟩
  have HM2 : Hid (w2.heap[mB]? = some (.cells #[.int .i64 5, .int .i64 1, .int .i64 2, .int .i64 tm1, .int .i64 ix0, .int .i64 lg, .int .i64 cm, .slice (some ⟨eb, 0, none⟩) 1 1, .int .i64 0, .int .i64 0, .slice none 0 0, .slice none 0 0, .slice none 0 0, .string (bs []), .bool false, .int .i64 0, .int .i64 cx] 85 (0, 0))) := k2.block _ _ (k1.block _ _ HM.out (fun x => x.elim)) (fun x => x.elim)
  have HX2 : Hid (w2.heap[xB]? = some (.cells #[.int .i64 x.ix, .int .i64 x.tm, .int .i64 x.kd, .string (bs x.dt)] 52 (0, 0))) := k2.block _ _ (k1.block _ _ HX.out (fun x => x.elim)) (fun x => x.elim)
  have HK2 : Hid (Kept Nil w w2) := HK.out.trans (k1.trans k2)
  clear hgc o0 hnil hg1 hg2 y0 y1 y2 y3 k1 k2 HM HX HK PM GM
  simp only [Mg.head]
  go_wp2_with ((with_reducible refine atStore 85 ?_); go_must (refine wpList_storeW rfl _ _ _ rfl _ #[.int .i64 5, .int .i64 1, .int .i64 2, .int .i64 tm1, .int .i64 ix0, .int .i64 lg, .int .i64 cm, .slice (some ⟨g, 0, none⟩) 1 ce, .int .i64 0, .int .i64 0, .slice none 0 0, .slice none 0 0, .slice none 0 0, .string (bs []), .bool false, .int .i64 0, .int .i64 cx] _ _ rfl rfl (blk_new w2 _) rfl Try.sizeMsg rfl (one17 rfl rfl rfl rfl rfl rfl rfl rfl rfl rfl rfl rfl rfl rfl rfl rfl rfl) ?_; intro w3 hb3 hk3 hs3; have nM : mB ≠ w2.heap.size := (by have := lt_of_block HM2.out; omega); have nX : xB ≠ w2.heap.size := (by have := lt_of_block HX2.out; omega); have HM3 := hk3.block _ _ (blk_past HM2.out _) (fun (e : mB = w2.heap.size) => nM e); have HX3 := hk3.block _ _ (blk_past HX2.out _) (fun (e : xB = w2.heap.size) => nX e); have z3 := blk_at hb3 3 rfl; have z4 := blk_at hb3 4 rfl; have z5 := blk_at hb3 5 rfl; have z6 := blk_at hb3 6 rfl; have z7 := blk_at hb3 7 rfl; have z16 := blk_at hb3 16 rfl; have m3 := blk_at HM3 3 rfl; have m4 := blk_at HM3 4 rfl; have m5 := blk_at HM3 5 rfl; have m6 := blk_at HM3 6 rfl; have m16 := blk_at HM3 16 rfl; have e0 := blk_at HX3 0 rfl; have e1 := blk_at HX3 1 rfl; have e2 := blk_at HX3 2 rfl; have e3 := blk_at HX3 3 rfl; have ya := cell_one HY.out.2.2.2.2 HY.out.1 hk3; have yb := cell_one HY.out.2.2.2.2 HY.out.2.1 hk3; have yc := cell_one HY.out.2.2.2.2 HY.out.2.2.1 hk3; have yd := cell_one HY.out.2.2.2.2 HY.out.2.2.2.1 hk3; have HK3 : Hid (Kept Nil w w3) := (by show Kept Nil w w3; exact Kept.ofNew (HK2.out.alloc _) hk3 (fun k _ h => by have : k = w2.heap.size := h; have := HK2.out.size; omega)); clear hb3 hk3 hs3 HM3 HX3))
  have ht := bs_toList
  go_quiet (fail)
  go_upto_if 221 with fail
  go_cut [] (fun wc => Hid (Kept Nil w wc))
  case first =>
    go_wp2
    go_meet
    first | exact HK3.out.drewN _ | exact HK3.out | exact HK3.out.drew
  case rest =>
    have HKc : Hid (Kept Nil w _) := hcut
    apply_assumption
    exact backE w _ ib rest _ _ _ _ _ _ _ _ _ _ _ _ _ _ _ _ _ _ _ _ _ _ _ _ _ _ _ _ _ _ _ _ _ _ _ _ _ _ _ _ _ _ _ _ _ _ _ _ _ _ _ _ _ _ _ _ _ _ _ _ _ _ _ _ _ _ _ _ _ _ _ _ _ _ _ _ _ _ _ _ _ _ _ _ _ _ _ _ _ _ _ _ _ _ _ _ _ _ _ _ _ _ _ _ _ _ _ _ _ _ _ _ _ _ _ _ _ _ _ _ _ _ _ _ _ _ _ _ _ _ _ _ _ _ _ _ _ _ _ _ _ _ _ _ _ _ _ _ _ _ _ _ _ _ _ _ _ _ _ _ _ _ _ _ _ _ _ _ _ _ _ _ _ _ _ _ _ _ _ _ _ _ _ _ _ _ _ _ _ _ _ _ _ _ _ _ _ _ _ _ _ _ _ _ _ _ _ _ _ _ _ _ _ _ _ _ _ _ _ _ _ _ _ _ _ _ _ _ _ _ _ _ _ _ _ _ _ _ _ _ _ _ _ _ _ _ _ _ _ HKc.out HI.out.1 HI.out.2

end Go.Proofs.Ytijklginabipgaa
