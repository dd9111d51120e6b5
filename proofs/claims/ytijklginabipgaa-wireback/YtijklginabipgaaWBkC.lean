/-
  WireBack: the message is made, and comes back (from region 21 on).
-/
import Derived.Test.YtijklginabipgaaWBkD
import Derived.Test.YtijklginabipgaaWBkM
import Derived.Test.YtijklginabipgaaWBkR
import Derived.Deep.DeepCutAuto
import Derived.Deep.DeepFit
import Derived.Deep.RegionHeld3
import Derived.Deep.CutBlock
import Derived.Deep.QuietTactic
import Derived.BigQuiet
namespace Go.Proofs.Ytijklginabipgaa
open Go.RowKit

set_option maxRecDepth 1000000 in
set_option maxHeartbeats 40000000 in
theorem backC (w wx : World) (ix tm cm cx xB nB : Nat) (n0 n1 n2 n3 n4 n5 : Int) (a rest : List UInt8) (fv0 fv1 fv2 fv5 fv6 fv7 fv8 fv9 fv10 fv11 fv12 fv13 fv15 fv16 fv17 fv18 fv19 fv20 fv21 fv22 fv23 fv24 fv25 fv26 fv27 fv28 fv29 fv30 fv31 fv32 fv33 fv34 fv35 fv36 fv37 fv38 fv39 fv40 fv41 fv42 fv43 fv44 fv45 fv46 fv47 fv48 fv49 fv50 fv51 fv52 fv53 fv54 fv55 fv56 fv57 fv58 fv59 fv60 fv61 fv62 fv63 fv64 fv65 fv66 fv67 fv68 fv69 fv70 fv71 fv72 fv73 fv74 fv75 fv76 fv77 fv78 fv79 fv80 fv81 fv82 fv83 fv84 fv85 fv86 fv87 fv88 fv89 fv90 fv91 fv92 fv93 fv94 fv95 fv96 fv97 fv98 fv99 fv100 fv101 fv102 fv103 fv104 fv105 fv106 fv107 fv108 fv109 fv110 fv111 fv112 fv113 fv114 fv115 fv116 fv117 fv118 fv119 fv120 fv121 fv122 fv123 fv124 fv125 fv126 fv127 fv128 fv129 fv130 fv131 fv132 fv133 fv134 fv135 fv136 fv137 fv138 fv139 fv140 fv141 fv142 fv143 fv144 fv145 fv146 fv147 fv148 fv149 fv150 fv151 fv152 fv153 fv154 fv155 fv156 fv157 fv158 fv159 fv160 fv161 fv162 fv163 fv164 fv165 fv166 fv167 fv168 fv169 fv170 fv171 fv172 fv173 fv174 fv175 fv176 fv177 fv178 fv179 fv180 fv181 fv182 fv183 fv184 fv185 fv186 fv187 fv188 fv189 fv190 fv191 fv192 fv193 fv194 fv195 fv196 fv197 fv198 fv199 fv200 fv201 fv202 fv203 fv204 fv205 fv206 fv207 fv208 fv209 fv210 fv211 fv212 fv213 fv214 fv215 fv216 fv217 fv218 fv219 fv220 fv221 fv222 fv223 fv224 fv225 fv226 fv227 fv228 fv229 fv230 fv231 fv232 fv233 fv234 fv235 fv236 fv237 fv238 fv239 fv240 fv241 fv242 fv243 fv244 fv245 fv246 fv247 fv248 fv249 fv250 : Value) (hk : Kept Nil w wx) (hx : Hid (wx.heap[xB]? = some (.cells #[.int .i64 ix, .int .i64 tm, .int .i64 1, .string (bs a)] 52 (0, 0)))) (hn : Hid (wx.heap[nB]? = some (.cells #[.int .i64 n0, .int .i64 n1, .int .i64 n2, .int .i64 n3, .int .i64 n4, .int .i64 n5] 75 (0, 0)))) (hp1 : n1 % 1073741824 = cm) (hp2 : n2 % 1073741824 = cx)
    (hi : 1 ≤ ix ∧ ix ≤ 1073741824) (ht : 1 ≤ tm ∧ tm ≤ 1073741824) (ha : a.length ≤ 256) (hr : rest.length ≤ 140737488351232) :
    Code.wp Try.prog bT21 (bodyPost Try.prog Try.f7 fun e w' => e = .returned (.bool true) ∧ Kept Nil w w') ⟨#[fv0, fv1, fv2, .string (bs rest), .pointer (some ⟨nB, 0, none⟩), fv5, fv6, fv7, fv8, fv9, fv10, fv11, fv12, fv13, .pointer (some ⟨xB, 0, none⟩), fv15, fv16, fv17, fv18, fv19, fv20, fv21, fv22, fv23, fv24, fv25, fv26, fv27, fv28, fv29, fv30, fv31, fv32, fv33, fv34, fv35, fv36, fv37, fv38, fv39, fv40, fv41, fv42, fv43, fv44, fv45, fv46, fv47, fv48, fv49, fv50, fv51, fv52, fv53, fv54, fv55, fv56, fv57, fv58, fv59, fv60, fv61, fv62, fv63, fv64, fv65, fv66, fv67, fv68, fv69, fv70, fv71, fv72, fv73, fv74, fv75, fv76, fv77, fv78, fv79, fv80, fv81, fv82, fv83, fv84, fv85, fv86, fv87, fv88, fv89, fv90, fv91, fv92, fv93, fv94, fv95, fv96, fv97, fv98, fv99, fv100, fv101, fv102, fv103, fv104, fv105, fv106, fv107, fv108, fv109, fv110, fv111, fv112, fv113, fv114, fv115, fv116, fv117, fv118, fv119, fv120, fv121, fv122, fv123, fv124, fv125, fv126, fv127, fv128, fv129, fv130, fv131, fv132, fv133, fv134, fv135, fv136, fv137, fv138, fv139, fv140, fv141, fv142, fv143, fv144, fv145, fv146, fv147, fv148, fv149, fv150, fv151, fv152, fv153, fv154, fv155, fv156, fv157, fv158, fv159, fv160, fv161, fv162, fv163, fv164, fv165, fv166, fv167, fv168, fv169, fv170, fv171, fv172, fv173, fv174, fv175, fv176, fv177, fv178, fv179, fv180, fv181, fv182, fv183, fv184, fv185, fv186, fv187, fv188, fv189, fv190, fv191, fv192, fv193, fv194, fv195, fv196, fv197, fv198, fv199, fv200, fv201, fv202, fv203, fv204, fv205, fv206, fv207, fv208, fv209, fv210, fv211, fv212, fv213, fv214, fv215, fv216, fv217, fv218, fv219, fv220, fv221, fv222, fv223, fv224, fv225, fv226, fv227, fv228, fv229, fv230, fv231, fv232, fv233, fv234, fv235, fv236, fv237, fv238, fv239, fv240, fv241, fv242, fv243, fv244, fv245, fv246, fv247, fv248, fv249, fv250], []⟩ wx := by
  have HK : Hid (Kept Nil w wx) := hk
  have hcm : cm < 1073741824 := by have := Int.emod_lt_of_pos n1 (show (0 : Int) < 1073741824 by decide); omega
  have hcx : cx < 1073741824 := by have := Int.emod_lt_of_pos n2 (show (0 : Int) < 1073741824 by decide); omega
  have HPL : Hid ((bkMsg ix tm cm cx a).Small ∧ (bkMsg ix tm cm cx a).ok = true ∧ rdMsg (encMsg (bkMsg ix tm cm cx a)) = .ok (bkMsg ix tm cm cx a, []) ∧ (encMsg (bkMsg ix tm cm cx a)).length ≤ 65536 ∧ rest.length ≤ 140737488351232) := ⟨bkSmall hi ht hcm hcx ha, bkOk hi ht ha, bkRd hi ht hcm hcx ha, bkLen hi ht hcm hcx ha, hr⟩
  have HW : Hid (IntKind.i64.wrap ((tm : Int) + 1) = ((tm + 1 : Nat) : Int) ∧ IntKind.i64.wrap ((ix : Int) - 1) = ((ix - 1 : Nat) : Int)) := ⟨by rw [IntKind.wrap_i64]; omega, by rw [IntKind.wrap_i64]; omega⟩
  have HP1 : Hid (n1 % 1073741824 = cm) := hp1
  have HP2 : Hid (n2 % 1073741824 = cx) := hp2
  clear hp1 hp2 hcm hcx ha hr ht hk
  conv => arg 2; whnf
  dsimp only
  go_upto_region 21 with fail
  go_cut [21] (fun r wc => ∃ mB eb : Nat, r = .pointer (some ⟨mB, 0, none⟩) ∧ Hid (wc.heap[mB]? = some (.cells #[.int .i64 5, .int .i64 1, .int .i64 2, .int .i64 ((tm + 1 : Nat) : Int), .int .i64 ((ix - 1 : Nat) : Int), .int .i64 tm, .int .i64 cm, .slice (some ⟨eb, 0, none⟩) 1 1, .int .i64 0, .int .i64 0, .slice none 0 0, .slice none 0 0, .slice none 0 0, .string (bs []), .bool false, .int .i64 0, .int .i64 cx] 85 (0, 0))) ∧ Hid (wc.heap[eb]? = some (.cells #[.int .i64 ix, .int .i64 tm, .int .i64 1, .string (bs a)] 52 (0, 0))) ∧ Hid (Kept Nil wx wc) ∧ Hid (wx.heap.size ≤ mB))
  case first =>
    refine backC21 wx ix tm (tm + 1) (ix - 1) cm cx xB nB n1 n2 a rest _ _ _ _ _ _ _ _ _ _ _ _ _ _ _ _ _ _ _ _ _ _ _ _ _ _ _ _ _ _ _ _ _ _ _ _ _ _ _ _ _ _ _ _ _ _ _ _ _ _ _ _ _ _ _ _ _ _ _ _ _ _ _ _ _ _ _ _ _ _ _ _ _ _ _ _ _ _ _ _ _ _ _ _ _ _ _ _ _ _ _ _ _ _ _ _ _ _ _ _ _ _ _ _ _ _ _ _ _ _ _ _ _ _ _ _ _ _ _ _ _ _ _ _ _ _ _ _ _ _ _ _ _ _ _ _ _ _ _ _ _ _ _ _ _ _ _ _ _ _ _ _ _ _ _ _ _ _ _ _ _ _ _ _ _ _ _ _ _ _ _ _ _ _ _ _ _ _ _ _ _ _ _ _ _ _ _ _ _ _ _ _ _ _ _ _ _ _ _ _ _ _ _ _ _ _ _ _ _ _ _ _ _ _ _ _ _ _ _ _ _ _ _ _ _ _ _ _ _ _ _ _ _ _ _ _ _ _ _ _ _ _ _ _ _ _ _ _ _ _ ?_ (blk_at hx.out 0 rfl) (blk_at hx.out 1 rfl) (blk_at hx.out 2 rfl) (blk_at hx.out 3 rfl) (blk_at hn.out 1 rfl) (blk_at hn.out 2 rfl) (lt_of_block hx.out) (lt_of_block hn.out) HP1.out HP2.out HW.out.1 HW.out.2
    intro u21 u136 u137 u138 u139 u140 u141 u142 u143 u144 u145 u146 u147 u148 u149 u150 u151 u152 wc mB eb h1 h2 h3 h4 h5
    subst h1
    (try dsimp only)
    go_wp2
    go_meet
    exact ⟨mB, eb, rfl, h2, h3, h4, h5⟩
  case rest =>
    obtain ⟨mB, eb, rfl, HM, HE, KC, HGE⟩ := hcut
    rename World => wc
    have HXc : Hid (wc.heap[xB]? = some (.cells #[.int .i64 ix, .int .i64 tm, .int .i64 1, .string (bs a)] 52 (0, 0))) := KC.out.block _ _ hx.out (fun x => x.elim)
    have HKc : Hid (Kept Nil w wc) := HK.out.trans KC.out
    have m4 := blk_at HM.out 4 rfl
    have m5 := blk_at HM.out 5 rfl
    have f5 := blk_free HM.out 5
    have nXM : xB ≠ mB := fun e => by have h1 := HXc.out; rw [e, HM.out] at h1; cases h1
    have nEM : eb ≠ mB := fun e => by have h1 := HE.out; rw [e, HM.out] at h1; cases h1
    have hge : w.heap.size ≤ mB := Nat.le_trans HK.out.size HGE.out
    clear hx hn
    go_upto_if 155 with fail
    go_cut [] (fun wd => Hid (wd.heap[mB]? = some (.cells #[.int .i64 5, .int .i64 1, .int .i64 2, .int .i64 ((tm + 1 : Nat) : Int), .int .i64 ((ix - 1 : Nat) : Int), .int .i64 (((if ix - 1 = 0 then 0 else tm : Nat)) : Int), .int .i64 cm, .slice (some ⟨eb, 0, none⟩) 1 1, .int .i64 0, .int .i64 0, .slice none 0 0, .slice none 0 0, .slice none 0 0, .string (bs []), .bool false, .int .i64 0, .int .i64 cx] 85 (0, 0))) ∧ Hid (wd.heap[xB]? = some (.cells #[.int .i64 ix, .int .i64 tm, .int .i64 1, .string (bs a)] 52 (0, 0))) ∧ Hid (wd.heap[eb]? = some (.cells #[.int .i64 ix, .int .i64 tm, .int .i64 1, .string (bs a)] 52 (0, 0))) ∧ Hid (Kept Nil w wd))
    case first =>
      by_cases h0 : ix - 1 = 0
      · have h1 : (((ix - 1 : Nat) : Int) == 0) = true := by simp [h0]
        have HS : Hid ((wc.setCell ⟨mB, 5, none⟩ (.int .i64 0)).heap[mB]? = some (.cells #[.int .i64 5, .int .i64 1, .int .i64 2, .int .i64 ((tm + 1 : Nat) : Int), .int .i64 ((ix - 1 : Nat) : Int), .int .i64 (((if ix - 1 = 0 then 0 else tm : Nat)) : Int), .int .i64 cm, .slice (some ⟨eb, 0, none⟩) 1 1, .int .i64 0, .int .i64 0, .slice none 0 0, .slice none 0 0, .slice none 0 0, .string (bs []), .bool false, .int .i64 0, .int .i64 cx] 85 (0, 0))) := by
          show _ = _
          rw [if_pos h0]
          exact blk_set HM.out 5 _
        clear h0
        go_wp2
        go_meet
        exact ⟨HS.out, blk_other HXc.out nXM _, blk_other HE.out nEM _, HKc.out.setNew hge _⟩
      · have h1 : (((ix - 1 : Nat) : Int) == 0) = false := by simp; omega
        have HS : Hid (wc.heap[mB]? = some (.cells #[.int .i64 5, .int .i64 1, .int .i64 2, .int .i64 ((tm + 1 : Nat) : Int), .int .i64 ((ix - 1 : Nat) : Int), .int .i64 (((if ix - 1 = 0 then 0 else tm : Nat)) : Int), .int .i64 cm, .slice (some ⟨eb, 0, none⟩) 1 1, .int .i64 0, .int .i64 0, .slice none 0 0, .slice none 0 0, .slice none 0 0, .string (bs []), .bool false, .int .i64 0, .int .i64 cx] 85 (0, 0))) := by
          show _ = _
          rw [if_neg h0]
          exact HM.out
        clear h0
        go_wp2
        go_meet
        exact ⟨HS.out, HXc.out, HE.out, HKc.out⟩
    case rest =>
      obtain ⟨HM2, HX2, HE2, HK2⟩ := hcut
      apply_assumption
      exact backD w _ (tm + 1) (ix - 1) _ cm cx xB mB eb ⟨ix, tm, 1, a⟩ rest _ _ _ _ _ _ _ _ _ _ _ _ _ _ _ _ _ _ _ _ _ _ _ _ _ _ _ _ _ _ _ _ _ _ _ _ _ _ _ _ _ _ _ _ _ _ _ _ _ _ _ _ _ _ _ _ _ _ _ _ _ _ _ _ _ _ _ _ _ _ _ _ _ _ _ _ _ _ _ _ _ _ _ _ _ _ _ _ _ _ _ _ _ _ _ _ _ _ _ _ _ _ _ _ _ _ _ _ _ _ _ _ _ _ _ _ _ _ _ _ _ _ _ _ _ _ _ _ _ _ _ _ _ _ _ _ _ _ _ _ _ _ _ _ _ _ _ _ _ _ _ _ _ _ _ _ _ _ _ _ _ _ _ _ _ _ _ _ _ _ _ _ _ _ _ _ _ _ _ _ _ _ _ _ _ _ _ _ _ _ _ _ _ _ _ _ _ _ _ _ _ _ _ _ _ _ _ _ _ _ _ _ _ _ _ _ _ _ _ _ _ _ _ _ _ _ _ _ _ _ _ _ _ _ _ _ _ _ _ _ _ _ _ _ _ _ _ _ HK2.out HX2.out HM2.out (ownE1 HE2.out) HPL.out.1 HPL.out.2.1 HPL.out.2.2.1 HPL.out.2.2.2.1 HPL.out.2.2.2.2

end Go.Proofs.Ytijklginabipgaa
