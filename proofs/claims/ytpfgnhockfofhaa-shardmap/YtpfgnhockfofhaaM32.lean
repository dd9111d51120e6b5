/-
  Joined: WSk8.
-/
import Derived.Test.YtpfgnhockfofhaaM31
import Derived.BigQuiet
import Derived.BigRegion
import Derived.Deep.DeepCutAuto
import Derived.Deep.DeepFit
import Derived.Deep.RegionHeld3
/-
  ShardMap: from region 27 on: who has which key behind the step.
-/
namespace Go.Proofs.Ytpfgnhockfofhaa
open Go.RowKit

theorem AR.setL {w w' : World} {V T Gv L : Nat} {Mp : Nat → Option (List UInt8)} {ln : Nat → Nat → Nat} {n M : Nat} {f g : Nat → Int} (h : AR w V T Gv L Mp ln n M f) (k : Kept (One L) w w') (hb : RowI w' L g) : AR w' V T Gv L Mp ln n M g := by
  obtain ⟨cs, g1, g2⟩ := h.g
  have hl := h.l
  unfold RowI at hl
  have hVL : V ≠ L := fun e => by have := h.v; rw [e, hl] at this; cases this
  have hTL : T ≠ L := fun e => by have := h.t; rw [e, hl] at this; cases this
  have hGL : Gv ≠ L := fun e => by rw [e, hl] at g1; cases g1
  exact ⟨k.block _ _ h.v (fun e => hVL e), k.block _ _ h.t (fun e => hTL e), ⟨cs, k.block _ _ g1 (fun e => hGL e), g2⟩, hb⟩
theorem Tam.low {M n : Nat} {s : Sp} {S : Sd} {a : An} (h : Tam M n s) (hn : 2 ≤ n ∧ n ≤ 5) (h0 : (M = 0 → S = sd0 n) ∧ (M = 1 → S = (doS st1 (sd0 n)).2)) (ha : a = (doS s S).1) (hM : M < 2) : a.er = 0 ∧ a.ho = 1 := by
  rcases (show M = 0 ∨ M = 1 by omega) with e | e
  · rw [ha, h.m0 e, h0.1 e]; exact first0 hn
  · rw [ha, h.m1 e, h0.2 e]; exact first1 hn
set_option maxRecDepth 1000000 in
set_option maxHeartbeats 40000000 in
theorem sTail27 (w0 X : World) (b V T Gv L n M : Nat) (S : Sd) (K : List (List UInt8)) (sn sn' : Snt) (Mp Mp' : Nat → Option (List UInt8)) (s : Sp) (kk : Nat) (a : An) (S' : Sd) (XB AB : Nat) (mb : Bool) (f : Nat → Int) (fv0 fv1 fv2 fv3 fv4 fv7 fv12 fv18 fv19 fv20 fv21 fv22 fv23 fv24 fv25 fv26 fv27 fv28 fv29 fv30 fv31 fv32 fv33 fv34 fv35 fv36 fv37 fv38 fv39 fv40 fv41 fv42 fv43 fv44 fv45 fv46 fv47 fv48 fv49 fv50 fv51 fv52 fv53 fv54 fv55 fv56 fv57 fv58 fv59 fv60 fv61 fv62 fv63 fv64 fv65 fv66 fv67 fv68 fv69 fv70 fv71 fv72 fv73 fv74 fv75 fv76 fv77 fv78 fv79 fv80 fv81 fv82 fv83 fv84 fv85 fv86 fv87 fv88 fv89 fv90 fv91 fv92 fv93 fv94 fv95 fv96 fv97 fv98 fv99 fv100 fv101 fv102 fv103 fv104 fv105 fv106 fv107 fv108 fv109 fv110 fv111 fv112 fv113 fv114 fv115 fv116 fv117 fv118 fv119 fv120 fv121 fv122 fv123 fv124 fv125 fv126 fv127 fv128 fv129 fv130 fv131 fv132 fv133 fv134 fv135 fv136 fv137 fv138 fv139 fv140 fv141 fv142 fv143 fv144 fv145 fv146 fv147 fv148 fv149 fv150 fv151 fv152 fv153 fv154 fv155 fv156 fv157 fv158 fv159 fv160 fv161 fv162 fv163 fv164 fv165 fv166 fv167 fv168 fv169 fv170 fv171 fv172 fv173 fv174 fv175 fv176 fv177 fv178 fv179 fv180 fv181 fv182 fv183 fv184 fv185 fv186 fv187 fv188 fv189 fv190 fv191 fv192 fv193 fv194 fv195 fv196 fv197 fv198 fv199 fv200 fv201 fv202 fv203 fv204 fv205 fv206 fv207 fv208 fv209 fv210 fv211 fv212 fv213 fv214 fv215 fv216 fv217 fv218 fv219 fv220 fv221 fv222 fv223 fv224 fv225 fv226 fv227 fv228 fv229 fv230 fv231 fv232 fv233 fv234 fv235 fv236 fv237 fv238 fv239 fv240 fv241 fv242 fv243 fv244 fv245 fv246 fv247 fv248 fv249 fv250 fv251 fv252 fv253 fv254 fv255 fv256 fv257 fv258 fv259 fv260 fv261 fv262 fv263 fv264 fv265 fv266 fv267 fv268 fv269 fv270 fv271 fv272 fv273 fv274 fv275 fv276 fv277 fv278 fv279 fv280 fv281 fv282 fv283 fv284 fv285 fv286 fv287 fv288 fv289 fv290 fv291 fv292 fv293 fv294 fv295 fv296 fv297 fv298 fv299 fv300 fv301 fv302 fv303 fv304 fv305 fv306 fv307 fv308 fv309 fv310 fv311 fv312 fv313 fv314 fv315 fv316 fv317 fv318 fv319 fv320 fv321 fv322 fv323 fv324 fv325 fv326 : Value) (K1 : Act → World → Prop) (Q9 : Exit → Act → World → Prop)
    (hK : ∀ (u12 u19 u20 u21 u22 u99 u100 u101 u102 u103 u104 u105 u106 u107 u108 u109 u110 u111 u112 u113 u114 u115 u116 u117 u118 u119 u120 u121 u122 u123 u124 u125 u126 u127 u128 u129 u130 u131 u132 u133 u134 u135 u136 u137 u138 u139 u140 u141 u142 u143 u144 u145 u146 u147 u148 u149 u150 u151 u152 u153 u154 u155 u156 u157 u158 u159 u160 u161 u162 u163 u164 u165 u166 u167 u168 u169 u170 u171 u172 u173 u174 u175 u176 u177 u178 u179 u180 u181 u182 u183 u184 u185 u186 u187 u188 u189 u190 u191 u192 u193 u194 u195 u196 u197 u198 u199 u200 u201 u202 u203 u204 u205 u206 u207 u208 u209 u210 u211 u212 u213 u214 u215 u216 u217 u218 u219 u220 u221 u222 u223 u224 u225 u226 u227 u228 u229 u230 u231 u232 : Value)  (wc : World), Hid (Nxt w0 wc b V T Gv L n M S) → K1 ⟨#[fv0, fv1, fv2, fv3, fv4, .int .i64 n, .pointer (some ⟨b, 0, none⟩), fv7, .pointer (some ⟨V, 0, none⟩), .pointer (some ⟨T, 0, none⟩), .pointer (some ⟨Gv, 0, none⟩), .pointer (some ⟨L, 0, none⟩), u12, .int .i64 ((M : Int) - 2), .pointer (some ⟨XB, 0, none⟩), .bool mb, .pointer (some ⟨AB, 0, none⟩), .int .i64 kk, fv18, u19, u20, u21, u22, fv23, fv24, fv25, fv26, fv27, fv28, fv29, fv30, fv31, fv32, fv33, fv34, fv35, fv36, fv37, fv38, fv39, fv40, fv41, fv42, fv43, fv44, fv45, fv46, fv47, fv48, fv49, fv50, fv51, fv52, fv53, fv54, fv55, fv56, fv57, fv58, fv59, fv60, fv61, fv62, fv63, fv64, fv65, fv66, fv67, fv68, fv69, fv70, fv71, fv72, fv73, fv74, fv75, fv76, fv77, fv78, fv79, fv80, fv81, fv82, fv83, fv84, fv85, fv86, fv87, fv88, fv89, fv90, fv91, fv92, fv93, fv94, fv95, fv96, fv97, fv98, u99, u100, u101, u102, u103, u104, u105, u106, u107, u108, u109, u110, u111, u112, u113, u114, u115, u116, u117, u118, u119, u120, u121, u122, u123, u124, u125, u126, u127, u128, u129, u130, u131, u132, u133, u134, u135, u136, u137, u138, u139, u140, u141, u142, u143, u144, u145, u146, u147, u148, u149, u150, u151, u152, u153, u154, u155, u156, u157, u158, u159, u160, u161, u162, u163, u164, u165, u166, u167, u168, u169, u170, u171, u172, u173, u174, u175, u176, u177, u178, u179, u180, u181, u182, u183, u184, u185, u186, u187, u188, u189, u190, u191, u192, u193, u194, u195, u196, u197, u198, u199, u200, u201, u202, u203, u204, u205, u206, u207, u208, u209, u210, u211, u212, u213, u214, u215, u216, u217, u218, u219, u220, u221, u222, u223, u224, u225, u226, u227, u228, u229, u230, u231, u232, fv233, fv234, fv235, fv236, fv237, fv238, fv239, fv240, fv241, fv242, fv243, fv244, fv245, fv246, fv247, fv248, fv249, fv250, fv251, fv252, fv253, fv254, fv255, fv256, fv257, fv258, fv259, fv260, fv261, fv262, fv263, fv264, fv265, fv266, fv267, fv268, fv269, fv270, fv271, fv272, fv273, fv274, fv275, fv276, fv277, fv278, fv279, fv280, fv281, fv282, fv283, fv284, fv285, fv286, fv287, fv288, fv289, fv290, fv291, fv292, fv293, fv294, fv295, fv296, fv297, fv298, fv299, fv300, fv301, fv302, fv303, fv304, fv305, fv306, fv307, fv308, fv309, fv310, fv311, fv312, fv313, fv314, fv315, fv316, fv317, fv318, fv319, fv320, fv321, fv322, fv323, fv324, fv325, fv326], []⟩ wc)
    (HN : Hid (S.n = n ∧ 2 ≤ n ∧ n ≤ 5 ∧ M ≤ 20000)) (HQ : Hid (∀ q, Q4 V T Gv L q → w0.heap.size ≤ q)) (HK : Hid (Kept Nil w0 X)) (HT : Hid (Tam M n s)) (HO : Hid (Out K M S sn Mp s kk a S' sn' Mp')) (Ha : Hid (a = (doS s S).1)) (HS' : Hid (S' = (doS s S).2)) (HKK2 : Hid (kk < 20 ∧ s.ky = lt kk)) (HM : Hid (MS w0 X b S' (Q4 V T Gv L))) (HXB : Hid (X.heap[XB]? = some (.cells (stC s) 74 (0, 0)))) (HAB : Hid (X.heap[AB]? = some (.cells (anC a) 80 (0, 0)))) (HS0 : Hid ((M = 0 → S = sd0 n) ∧ (M = 1 → S = (doS st1 (sd0 n)).2))) (HA : Hid (AR X V T Gv L Mp (fun i j => (sn i j).length) n M f)) (HMB : Hid (mb = hasF (owF S) s.ky s.up s.hs)) :
    Code.wp Try.prog sT27 (Exit.inBlock 1 (Exit.then K1 Q9)) ⟨#[fv0, fv1, fv2, fv3, fv4, .int .i64 n, .pointer (some ⟨b, 0, none⟩), fv7, .pointer (some ⟨V, 0, none⟩), .pointer (some ⟨T, 0, none⟩), .pointer (some ⟨Gv, 0, none⟩), .pointer (some ⟨L, 0, none⟩), fv12, .int .i64 ((M : Int) - 2), .pointer (some ⟨XB, 0, none⟩), .bool mb, .pointer (some ⟨AB, 0, none⟩), .int .i64 kk, fv18, fv19, fv20, fv21, fv22, fv23, fv24, fv25, fv26, fv27, fv28, fv29, fv30, fv31, fv32, fv33, fv34, fv35, fv36, fv37, fv38, fv39, fv40, fv41, fv42, fv43, fv44, fv45, fv46, fv47, fv48, fv49, fv50, fv51, fv52, fv53, fv54, fv55, fv56, fv57, fv58, fv59, fv60, fv61, fv62, fv63, fv64, fv65, fv66, fv67, fv68, fv69, fv70, fv71, fv72, fv73, fv74, fv75, fv76, fv77, fv78, fv79, fv80, fv81, fv82, fv83, fv84, fv85, fv86, fv87, fv88, fv89, fv90, fv91, fv92, fv93, fv94, fv95, fv96, fv97, fv98, fv99, fv100, fv101, fv102, fv103, fv104, fv105, fv106, fv107, fv108, fv109, fv110, fv111, fv112, fv113, fv114, fv115, fv116, fv117, fv118, fv119, fv120, fv121, fv122, fv123, fv124, fv125, fv126, fv127, fv128, fv129, fv130, fv131, fv132, fv133, fv134, fv135, fv136, fv137, fv138, fv139, fv140, fv141, fv142, fv143, fv144, fv145, fv146, fv147, fv148, fv149, fv150, fv151, fv152, fv153, fv154, fv155, fv156, fv157, fv158, fv159, fv160, fv161, fv162, fv163, fv164, fv165, fv166, fv167, fv168, fv169, fv170, fv171, fv172, fv173, fv174, fv175, fv176, fv177, fv178, fv179, fv180, fv181, fv182, fv183, fv184, fv185, fv186, fv187, fv188, fv189, fv190, fv191, fv192, fv193, fv194, fv195, fv196, fv197, fv198, fv199, fv200, fv201, fv202, fv203, fv204, fv205, fv206, fv207, fv208, fv209, fv210, fv211, fv212, fv213, fv214, fv215, fv216, fv217, fv218, fv219, fv220, fv221, fv222, fv223, fv224, fv225, fv226, fv227, fv228, fv229, fv230, fv231, fv232, fv233, fv234, fv235, fv236, fv237, fv238, fv239, fv240, fv241, fv242, fv243, fv244, fv245, fv246, fv247, fv248, fv249, fv250, fv251, fv252, fv253, fv254, fv255, fv256, fv257, fv258, fv259, fv260, fv261, fv262, fv263, fv264, fv265, fv266, fv267, fv268, fv269, fv270, fv271, fv272, fv273, fv274, fv275, fv276, fv277, fv278, fv279, fv280, fv281, fv282, fv283, fv284, fv285, fv286, fv287, fv288, fv289, fv290, fv291, fv292, fv293, fv294, fv295, fv296, fv297, fv298, fv299, fv300, fv301, fv302, fv303, fv304, fv305, fv306, fv307, fv308, fv309, fv310, fv311, fv312, fv313, fv314, fv315, fv316, fv317, fv318, fv319, fv320, fv321, fv322, fv323, fv324, fv325, fv326], []⟩ X := by
  have HKK : Hid (∀ (u12 u19 u20 u21 u22 u99 u100 u101 u102 u103 u104 u105 u106 u107 u108 u109 u110 u111 u112 u113 u114 u115 u116 u117 u118 u119 u120 u121 u122 u123 u124 u125 u126 u127 u128 u129 u130 u131 u132 u133 u134 u135 u136 u137 u138 u139 u140 u141 u142 u143 u144 u145 u146 u147 u148 u149 u150 u151 u152 u153 u154 u155 u156 u157 u158 u159 u160 u161 u162 u163 u164 u165 u166 u167 u168 u169 u170 u171 u172 u173 u174 u175 u176 u177 u178 u179 u180 u181 u182 u183 u184 u185 u186 u187 u188 u189 u190 u191 u192 u193 u194 u195 u196 u197 u198 u199 u200 u201 u202 u203 u204 u205 u206 u207 u208 u209 u210 u211 u212 u213 u214 u215 u216 u217 u218 u219 u220 u221 u222 u223 u224 u225 u226 u227 u228 u229 u230 u231 u232 : Value)  (wc : World), Hid (Nxt w0 wc b V T Gv L n M S) → K1 ⟨#[fv0, fv1, fv2, fv3, fv4, .int .i64 n, .pointer (some ⟨b, 0, none⟩), fv7, .pointer (some ⟨V, 0, none⟩), .pointer (some ⟨T, 0, none⟩), .pointer (some ⟨Gv, 0, none⟩), .pointer (some ⟨L, 0, none⟩), u12, .int .i64 ((M : Int) - 2), .pointer (some ⟨XB, 0, none⟩), .bool mb, .pointer (some ⟨AB, 0, none⟩), .int .i64 kk, fv18, u19, u20, u21, u22, fv23, fv24, fv25, fv26, fv27, fv28, fv29, fv30, fv31, fv32, fv33, fv34, fv35, fv36, fv37, fv38, fv39, fv40, fv41, fv42, fv43, fv44, fv45, fv46, fv47, fv48, fv49, fv50, fv51, fv52, fv53, fv54, fv55, fv56, fv57, fv58, fv59, fv60, fv61, fv62, fv63, fv64, fv65, fv66, fv67, fv68, fv69, fv70, fv71, fv72, fv73, fv74, fv75, fv76, fv77, fv78, fv79, fv80, fv81, fv82, fv83, fv84, fv85, fv86, fv87, fv88, fv89, fv90, fv91, fv92, fv93, fv94, fv95, fv96, fv97, fv98, u99, u100, u101, u102, u103, u104, u105, u106, u107, u108, u109, u110, u111, u112, u113, u114, u115, u116, u117, u118, u119, u120, u121, u122, u123, u124, u125, u126, u127, u128, u129, u130, u131, u132, u133, u134, u135, u136, u137, u138, u139, u140, u141, u142, u143, u144, u145, u146, u147, u148, u149, u150, u151, u152, u153, u154, u155, u156, u157, u158, u159, u160, u161, u162, u163, u164, u165, u166, u167, u168, u169, u170, u171, u172, u173, u174, u175, u176, u177, u178, u179, u180, u181, u182, u183, u184, u185, u186, u187, u188, u189, u190, u191, u192, u193, u194, u195, u196, u197, u198, u199, u200, u201, u202, u203, u204, u205, u206, u207, u208, u209, u210, u211, u212, u213, u214, u215, u216, u217, u218, u219, u220, u221, u222, u223, u224, u225, u226, u227, u228, u229, u230, u231, u232, fv233, fv234, fv235, fv236, fv237, fv238, fv239, fv240, fv241, fv242, fv243, fv244, fv245, fv246, fv247, fv248, fv249, fv250, fv251, fv252, fv253, fv254, fv255, fv256, fv257, fv258, fv259, fv260, fv261, fv262, fv263, fv264, fv265, fv266, fv267, fv268, fv269, fv270, fv271, fv272, fv273, fv274, fv275, fv276, fv277, fv278, fv279, fv280, fv281, fv282, fv283, fv284, fv285, fv286, fv287, fv288, fv289, fv290, fv291, fv292, fv293, fv294, fv295, fv296, fv297, fv298, fv299, fv300, fv301, fv302, fv303, fv304, fv305, fv306, fv307, fv308, fv309, fv310, fv311, fv312, fv313, fv314, fv315, fv316, fv317, fv318, fv319, fv320, fv321, fv322, fv323, fv324, fv325, fv326], []⟩ wc) := hK
  clear hK
  conv => arg 2; whnf
  dsimp only
  dsimp only at HKK
  have OW := ms_owners (s.ky :: K) (M + 1) b w0 X S' sn' Mp' (Q4 V T Gv L) HM.out HO.out.jj (by have := HN.out; omega)
  have hn' : S'.n = n := HO.out.n.trans HN.out.1
  rw [hn'] at OW
  go_wp2_with fail
  go_fit OW
  rintro e w1 ⟨rfl, k1⟩
  have HA1 : Hid (AR w1 V T Gv L Mp (fun i j => (sn i j).length) n M f) := HA.out.kept k1 (fun _ _ _ e => e)
  have HM1 : Hid (MS w0 w1 b S' (Q4 V T Gv L)) := HM.out.kept k1
  have HX1 : Hid (w1.heap[XB]? = some (.cells (stC s) 74 (0, 0))) := k1.block _ _ HXB.out (fun e => e)
  have HB1 : Hid (w1.heap[AB]? = some (.cells (anC a) 80 (0, 0))) := k1.block _ _ HAB.out (fun e => e)
  have HK1 : Hid (Kept Nil w0 w1) := HK.out.trans k1
  have HL1 : Hid (w1.heap[L]? = some (.cells (arrI f) 70 (0, 0))) := HA1.out.l
  have HNL : Hid (XB ≠ L ∧ AB ≠ L) := ⟨fun e => HA1.out.ne HX1.out (by decide) (.inr (.inr (.inr e))), fun e => HA1.out.ne HB1.out (by decide) (.inr (.inr (.inr e)))⟩
  clear OW k1 hn'
  go_upto_region 28 with ((with_reducible refine atStore 70 ?_); go_must (refine wpList_storeW rfl _ _ _ rfl _ (arrI (owF S')) _ _ rfl rfl HL1.out ((arrI_size _).trans (arrI_size _).symm) Try.sizeA20 (arrI_size _) (arrI_one _) ?_); intro w2 hb2 hk2 hs2)
  have HA2 : Hid (AR w2 V T Gv L Mp (fun i j => (sn i j).length) n M (owF S')) := HA1.out.setL hk2 hb2
  have HM2 : Hid (MS w0 w2 b S' (Q4 V T Gv L)) := HM1.out.one hk2 (.inr (.inr (.inr rfl)))
  have HX2 : Hid (w2.heap[XB]? = some (.cells (stC s) 74 (0, 0))) := hk2.block _ _ HX1.out (fun e => HNL.out.1 e)
  have HB2 : Hid (w2.heap[AB]? = some (.cells (anC a) 80 (0, 0))) := hk2.block _ _ HB1.out (fun e => HNL.out.2 e)
  have HK2 : Hid (Kept Nil w0 w2) := HK1.out.oneN hk2 (HQ.out _ (.inr (.inr (.inr rfl))))
  obtain ⟨er, HEr⟩ : ∃ z, Hid (z = a.er) := ⟨_, rfl⟩
  obtain ⟨ho, HHo⟩ : ∃ z, Hid (z = a.ho) := ⟨_, rfl⟩
  have a0 : w2.cell? ⟨AB, 0, none⟩ = some (.int .i64 er) := by rw [HEr.out]; exact blk_at HB2.out 0 rfl
  have a1 : w2.cell? ⟨AB, 1, none⟩ = some (.int .i64 ho) := by rw [HHo.out]; exact blk_at HB2.out 1 rfl
  clear hb2 hk2 hs2 HA1 HM1 HX1 HB1 HK1 HL1
  by_cases hM2 : M < 2
  · have hneg : (M : Int) - 2 < 0 := by omega
    obtain ⟨e1, e2⟩ := HT.out.low ⟨HN.out.2.1, HN.out.2.2.1⟩ HS0.out Ha.out hM2
    rw [← HEr.out] at e1
    rw [← HHo.out] at e2
    clear HEr HHo
    subst e1
    subst e2
    go_upto_if 118 with fail
    go_cut [4] from 118 to 118 (fun q4 wc => q4 = fv4 ∧ wc = w2)
    case first =>
      go_wp2
      go_meet
      exact ⟨rfl, rfl⟩
    case rest =>
      rename World => wc
      obtain ⟨rfl, rfl⟩ := hcut
      apply_assumption
      refine sTail32 w0 wc b V T Gv L n M S K sn sn' Mp Mp' s kk a S' XB AB mb _ _ _ _ _ _ _ _ _ _ _ _ _ _ _ _ _ _ _ _ _ _ _ _ _ _ _ _ _ _ _ _ _ _ _ _ _ _ _ _ _ _ _ _ _ _ _ _ _ _ _ _ _ _ _ _ _ _ _ _ _ _ _ _ _ _ _ _ _ _ _ _ _ _ _ _ _ _ _ _ _ _ _ _ _ _ _ _ _ _ _ _ _ _ _ _ _ _ _ _ _ _ _ _ _ _ _ _ _ _ _ _ _ _ _ _ _ _ _ _ _ _ _ _ _ _ _ _ _ _ _ _ _ _ _ _ _ _ _ _ _ _ _ _ _ _ _ _ _ _ _ _ _ _ _ _ _ _ _ _ _ _ _ _ _ _ _ _ _ _ _ _ _ _ _ _ _ _ _ _ _ _ _ _ _ _ _ _ _ _ _ _ _ _ _ _ _ _ _ _ _ _ _ _ _ _ _ _ _ _ _ _ _ _ _ _ _ _ _ _ _ _ _ _ _ _ _ _ _ _ _ _ _ _ _ _ _ _ _ _ _ _ _ _ _ _ _ _ _ _ _ _ _ _ _ _ _ _ _ _ _ _ _ _ _ _ _ _ _ _ _ _ _ _ _ _ _ _ _ _ _ _ _ _ _ _ _ _ _ _ _ _ _ _ _ _ _ _ _ _ _ _ _ _ _ _ _ _ _ _ _ _ _ _ _ _ _ ?_ HN HQ HK2 HT HO Ha HS' HKK2 HM2 HX2 HB2 HA2 HMB
      intro u19 u20 u21 u22 u119 u120 u121 u122 u123 u124 u125 u126 u127 u128 u129 u130 u131 u132 u133 u134 u135 u136 u137 u138 u139 u140 u141 u142 u143 u144 u145 u146 u147 u148 u149 u150 u151 u152 u153 u154 u155 u156 u157 u158 u159 u160 u161 u162 u163 u164 u165 u166 u167 u168 u169 u170 u171 u172 u173 u174 u175 u176 u177 u178 u179 u180 u181 u182 u183 u184 u185 u186 u187 u188 u189 u190 u191 u192 u193 u194 u195 u196 u197 u198 u199 u200 u201 u202 u203 u204 u205 u206 u207 u208 u209 u210 u211 u212 u213 u214 u215 u216 u217 u218 u219 u220 u221 u222 u223 u224 u225 u226 u227 u228 u229 u230 u231 u232 wc2 hE
      dsimp only
      exact HKK.out _ _ _ _ _ _ _ _ _ _ _ _ _ _ _ _ _ _ _ _ _ _ _ _ _ _ _ _ _ _ _ _ _ _ _ _ _ _ _ _ _ _ _ _ _ _ _ _ _ _ _ _ _ _ _ _ _ _ _ _ _ _ _ _ _ _ _ _ _ _ _ _ _ _ _ _ _ _ _ _ _ _ _ _ _ _ _ _ _ _ _ _ _ _ _ _ _ _ _ _ _ _ _ _ _ _ _ _ _ _ _ _ _ _ _ _ _ _ _ _ _ _ _ _ _ _ _ _ _ _ _ _ _ _ _ _ _ _ _ _  hE
  · have hneg : ¬ (M : Int) - 2 < 0 := by omega
    go_upto_if 118 with fail
    go_cut [4] from 118 to 118 (fun q4 wc => q4 = fv4 ∧ wc = w2)
    case first =>
      go_wp2
      go_meet
      exact ⟨rfl, rfl⟩
    case rest =>
      rename World => wc
      obtain ⟨rfl, rfl⟩ := hcut
      apply_assumption
      refine sTail32 w0 wc b V T Gv L n M S K sn sn' Mp Mp' s kk a S' XB AB mb _ _ _ _ _ _ _ _ _ _ _ _ _ _ _ _ _ _ _ _ _ _ _ _ _ _ _ _ _ _ _ _ _ _ _ _ _ _ _ _ _ _ _ _ _ _ _ _ _ _ _ _ _ _ _ _ _ _ _ _ _ _ _ _ _ _ _ _ _ _ _ _ _ _ _ _ _ _ _ _ _ _ _ _ _ _ _ _ _ _ _ _ _ _ _ _ _ _ _ _ _ _ _ _ _ _ _ _ _ _ _ _ _ _ _ _ _ _ _ _ _ _ _ _ _ _ _ _ _ _ _ _ _ _ _ _ _ _ _ _ _ _ _ _ _ _ _ _ _ _ _ _ _ _ _ _ _ _ _ _ _ _ _ _ _ _ _ _ _ _ _ _ _ _ _ _ _ _ _ _ _ _ _ _ _ _ _ _ _ _ _ _ _ _ _ _ _ _ _ _ _ _ _ _ _ _ _ _ _ _ _ _ _ _ _ _ _ _ _ _ _ _ _ _ _ _ _ _ _ _ _ _ _ _ _ _ _ _ _ _ _ _ _ _ _ _ _ _ _ _ _ _ _ _ _ _ _ _ _ _ _ _ _ _ _ _ _ _ _ _ _ _ _ _ _ _ _ _ _ _ _ _ _ _ _ _ _ _ _ _ _ _ _ _ _ _ _ _ _ _ _ _ _ _ _ _ _ _ _ _ _ _ _ _ _ _ _ ?_ HN HQ HK2 HT HO Ha HS' HKK2 HM2 HX2 HB2 HA2 HMB
      intro u19 u20 u21 u22 u119 u120 u121 u122 u123 u124 u125 u126 u127 u128 u129 u130 u131 u132 u133 u134 u135 u136 u137 u138 u139 u140 u141 u142 u143 u144 u145 u146 u147 u148 u149 u150 u151 u152 u153 u154 u155 u156 u157 u158 u159 u160 u161 u162 u163 u164 u165 u166 u167 u168 u169 u170 u171 u172 u173 u174 u175 u176 u177 u178 u179 u180 u181 u182 u183 u184 u185 u186 u187 u188 u189 u190 u191 u192 u193 u194 u195 u196 u197 u198 u199 u200 u201 u202 u203 u204 u205 u206 u207 u208 u209 u210 u211 u212 u213 u214 u215 u216 u217 u218 u219 u220 u221 u222 u223 u224 u225 u226 u227 u228 u229 u230 u231 u232 wc2 hE
      dsimp only
      exact HKK.out _ _ _ _ _ _ _ _ _ _ _ _ _ _ _ _ _ _ _ _ _ _ _ _ _ _ _ _ _ _ _ _ _ _ _ _ _ _ _ _ _ _ _ _ _ _ _ _ _ _ _ _ _ _ _ _ _ _ _ _ _ _ _ _ _ _ _ _ _ _ _ _ _ _ _ _ _ _ _ _ _ _ _ _ _ _ _ _ _ _ _ _ _ _ _ _ _ _ _ _ _ _ _ _ _ _ _ _ _ _ _ _ _ _ _ _ _ _ _ _ _ _ _ _ _ _ _ _ _ _ _ _ _ _ _ _ _ _ _ _  hE
end Go.Proofs.Ytpfgnhockfofhaa
