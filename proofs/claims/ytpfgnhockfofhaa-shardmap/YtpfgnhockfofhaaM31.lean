/-
  Joined: WSk7.
-/
import Derived.Test.YtpfgnhockfofhaaM30
import Derived.BigQuiet
import Derived.BigRegion
import Derived.Deep.DeepCutAuto
import Derived.Deep.DeepFit
import Derived.Deep.RegionHeld3
/-
  ShardMap: from region 32 on: what may be handed over.
-/
namespace Go.Proofs.Ytpfgnhockfofhaa
open Go.RowKit

theorem GvA.same {ln ln' : Nat → Nat → Nat} {n M : Nat} {cs : Array Value} (h : GvA ln n M cs) (he : ∀ i j, ln' i j = ln i j) : GvA ln' n (M + 1) cs :=
  ⟨h.1, fun a c ha hc hac => by rw [he]; exact ⟨(h.2 a c ha hc hac).1, Nat.le_succ_of_le (h.2 a c ha hc hac).2⟩⟩
theorem GvA.more {ln ln' : Nat → Nat → Nat} {n M x y : Nat} {cs : Array Value} (h : GvA ln n M cs) (hn : n ≤ 5) (hx : x < n) (hy : y < n) (hxy : x ≠ y) (he : ∀ i j, ln' i j = ln i j + if i = x ∧ j = y then 1 else 0) : GvA ln' n (M + 1) (cs.setIfInBounds (8 * (x + 1) + (y + 1)) (.int .i64 ((ln x y : Int) + 1))) := by
  refine ⟨by rw [Array.size_setIfInBounds]; exact h.1, fun a c ha hc hac => ?_⟩
  obtain ⟨h1, h2⟩ := h.2 a c ha hc hac
  rw [he, Array.getElem?_setIfInBounds]
  by_cases e : a = x ∧ c = y
  · obtain ⟨rfl, rfl⟩ := e
    rw [if_pos rfl, if_pos (by rw [h.1]; omega), if_pos ⟨rfl, rfl⟩]
    exact ⟨by congr 2, by omega⟩
  · rw [if_neg (by omega), if_neg e]
    exact ⟨h1, by omega⟩
theorem AR.same {w : World} {V T Gv L : Nat} {Mp : Nat → Option (List UInt8)} {ln ln' : Nat → Nat → Nat} {n M : Nat} {f : Nat → Int} (h : AR w V T Gv L Mp ln n M f) (he : ∀ i j, ln' i j = ln i j) : AR w V T Gv L Mp ln' n (M + 1) f := by
  obtain ⟨cs, g1, g2⟩ := h.g
  exact ⟨h.v, h.t, ⟨cs, g1, g2.same he⟩, h.l⟩
theorem AR.more {w : World} {V T Gv L : Nat} {Mp : Nat → Option (List UInt8)} {ln ln' : Nat → Nat → Nat} {n M x y : Nat} {f : Nat → Int} (h : AR w V T Gv L Mp ln n M f) (hn : n ≤ 5) (hx : x < n) (hy : y < n) (hxy : x ≠ y) (he : ∀ i j, ln' i j = ln i j + if i = x ∧ j = y then 1 else 0) : AR (w.setCell ⟨Gv, 8 * (x + 1) + (y + 1), none⟩ (.int .i64 ((ln x y : Int) + 1))) V T Gv L Mp ln' n (M + 1) f := by
  obtain ⟨cs, g1, g2⟩ := h.g
  have hl := h.l
  unfold RowI at hl
  have hVG : V ≠ Gv := fun e => by have := h.v; rw [e, g1] at this; cases this
  have hTG : T ≠ Gv := fun e => by have := h.t; rw [e, g1] at this; cases this
  have hLG : L ≠ Gv := fun e => by rw [e, g1] at hl; cases hl
  exact ⟨blk_other h.v hVG _, blk_other h.t hTG _, ⟨_, blk_set g1 _ _, g2.more hn hx hy hxy he⟩, blk_other hl hLG _⟩
set_option maxRecDepth 1000000 in
set_option maxHeartbeats 40000000 in
theorem sTail32 (w0 X : World) (b V T Gv L n M : Nat) (S : Sd) (K : List (List UInt8)) (sn sn' : Snt) (Mp Mp' : Nat → Option (List UInt8)) (s : Sp) (kk : Nat) (a : An) (S' : Sd) (XB AB : Nat) (mb : Bool) (fv0 fv1 fv2 fv3 fv4 fv7 fv18 fv19 fv20 fv21 fv22 fv23 fv24 fv25 fv26 fv27 fv28 fv29 fv30 fv31 fv32 fv33 fv34 fv35 fv36 fv37 fv38 fv39 fv40 fv41 fv42 fv43 fv44 fv45 fv46 fv47 fv48 fv49 fv50 fv51 fv52 fv53 fv54 fv55 fv56 fv57 fv58 fv59 fv60 fv61 fv62 fv63 fv64 fv65 fv66 fv67 fv68 fv69 fv70 fv71 fv72 fv73 fv74 fv75 fv76 fv77 fv78 fv79 fv80 fv81 fv82 fv83 fv84 fv85 fv86 fv87 fv88 fv89 fv90 fv91 fv92 fv93 fv94 fv95 fv96 fv97 fv98 fv99 fv100 fv101 fv102 fv103 fv104 fv105 fv106 fv107 fv108 fv109 fv110 fv111 fv112 fv113 fv114 fv115 fv116 fv117 fv118 fv119 fv120 fv121 fv122 fv123 fv124 fv125 fv126 fv127 fv128 fv129 fv130 fv131 fv132 fv133 fv134 fv135 fv136 fv137 fv138 fv139 fv140 fv141 fv142 fv143 fv144 fv145 fv146 fv147 fv148 fv149 fv150 fv151 fv152 fv153 fv154 fv155 fv156 fv157 fv158 fv159 fv160 fv161 fv162 fv163 fv164 fv165 fv166 fv167 fv168 fv169 fv170 fv171 fv172 fv173 fv174 fv175 fv176 fv177 fv178 fv179 fv180 fv181 fv182 fv183 fv184 fv185 fv186 fv187 fv188 fv189 fv190 fv191 fv192 fv193 fv194 fv195 fv196 fv197 fv198 fv199 fv200 fv201 fv202 fv203 fv204 fv205 fv206 fv207 fv208 fv209 fv210 fv211 fv212 fv213 fv214 fv215 fv216 fv217 fv218 fv219 fv220 fv221 fv222 fv223 fv224 fv225 fv226 fv227 fv228 fv229 fv230 fv231 fv232 fv233 fv234 fv235 fv236 fv237 fv238 fv239 fv240 fv241 fv242 fv243 fv244 fv245 fv246 fv247 fv248 fv249 fv250 fv251 fv252 fv253 fv254 fv255 fv256 fv257 fv258 fv259 fv260 fv261 fv262 fv263 fv264 fv265 fv266 fv267 fv268 fv269 fv270 fv271 fv272 fv273 fv274 fv275 fv276 fv277 fv278 fv279 fv280 fv281 fv282 fv283 fv284 fv285 fv286 fv287 fv288 fv289 fv290 fv291 fv292 fv293 fv294 fv295 fv296 fv297 fv298 fv299 fv300 fv301 fv302 fv303 fv304 fv305 fv306 fv307 fv308 fv309 fv310 fv311 fv312 fv313 fv314 fv315 fv316 fv317 fv318 fv319 fv320 fv321 fv322 fv323 fv324 fv325 fv326 : Value) (K1 : Act → World → Prop) (Q9 : Exit → Act → World → Prop)
    (hK : ∀ (u19 u20 u21 u22 u119 u120 u121 u122 u123 u124 u125 u126 u127 u128 u129 u130 u131 u132 u133 u134 u135 u136 u137 u138 u139 u140 u141 u142 u143 u144 u145 u146 u147 u148 u149 u150 u151 u152 u153 u154 u155 u156 u157 u158 u159 u160 u161 u162 u163 u164 u165 u166 u167 u168 u169 u170 u171 u172 u173 u174 u175 u176 u177 u178 u179 u180 u181 u182 u183 u184 u185 u186 u187 u188 u189 u190 u191 u192 u193 u194 u195 u196 u197 u198 u199 u200 u201 u202 u203 u204 u205 u206 u207 u208 u209 u210 u211 u212 u213 u214 u215 u216 u217 u218 u219 u220 u221 u222 u223 u224 u225 u226 u227 u228 u229 u230 u231 u232 : Value)  (wc : World), Hid (Nxt w0 wc b V T Gv L n M S) → K1 ⟨#[fv0, fv1, fv2, fv3, fv4, .int .i64 n, .pointer (some ⟨b, 0, none⟩), fv7, .pointer (some ⟨V, 0, none⟩), .pointer (some ⟨T, 0, none⟩), .pointer (some ⟨Gv, 0, none⟩), .pointer (some ⟨L, 0, none⟩), .bool true, .int .i64 ((M : Int) - 2), .pointer (some ⟨XB, 0, none⟩), .bool mb, .pointer (some ⟨AB, 0, none⟩), .int .i64 kk, fv18, u19, u20, u21, u22, fv23, fv24, fv25, fv26, fv27, fv28, fv29, fv30, fv31, fv32, fv33, fv34, fv35, fv36, fv37, fv38, fv39, fv40, fv41, fv42, fv43, fv44, fv45, fv46, fv47, fv48, fv49, fv50, fv51, fv52, fv53, fv54, fv55, fv56, fv57, fv58, fv59, fv60, fv61, fv62, fv63, fv64, fv65, fv66, fv67, fv68, fv69, fv70, fv71, fv72, fv73, fv74, fv75, fv76, fv77, fv78, fv79, fv80, fv81, fv82, fv83, fv84, fv85, fv86, fv87, fv88, fv89, fv90, fv91, fv92, fv93, fv94, fv95, fv96, fv97, fv98, fv99, fv100, fv101, fv102, fv103, fv104, fv105, fv106, fv107, fv108, fv109, fv110, fv111, fv112, fv113, fv114, fv115, fv116, fv117, fv118, u119, u120, u121, u122, u123, u124, u125, u126, u127, u128, u129, u130, u131, u132, u133, u134, u135, u136, u137, u138, u139, u140, u141, u142, u143, u144, u145, u146, u147, u148, u149, u150, u151, u152, u153, u154, u155, u156, u157, u158, u159, u160, u161, u162, u163, u164, u165, u166, u167, u168, u169, u170, u171, u172, u173, u174, u175, u176, u177, u178, u179, u180, u181, u182, u183, u184, u185, u186, u187, u188, u189, u190, u191, u192, u193, u194, u195, u196, u197, u198, u199, u200, u201, u202, u203, u204, u205, u206, u207, u208, u209, u210, u211, u212, u213, u214, u215, u216, u217, u218, u219, u220, u221, u222, u223, u224, u225, u226, u227, u228, u229, u230, u231, u232, fv233, fv234, fv235, fv236, fv237, fv238, fv239, fv240, fv241, fv242, fv243, fv244, fv245, fv246, fv247, fv248, fv249, fv250, fv251, fv252, fv253, fv254, fv255, fv256, fv257, fv258, fv259, fv260, fv261, fv262, fv263, fv264, fv265, fv266, fv267, fv268, fv269, fv270, fv271, fv272, fv273, fv274, fv275, fv276, fv277, fv278, fv279, fv280, fv281, fv282, fv283, fv284, fv285, fv286, fv287, fv288, fv289, fv290, fv291, fv292, fv293, fv294, fv295, fv296, fv297, fv298, fv299, fv300, fv301, fv302, fv303, fv304, fv305, fv306, fv307, fv308, fv309, fv310, fv311, fv312, fv313, fv314, fv315, fv316, fv317, fv318, fv319, fv320, fv321, fv322, fv323, fv324, fv325, fv326], []⟩ wc)
    (HN : Hid (S.n = n ∧ 2 ≤ n ∧ n ≤ 5 ∧ M ≤ 20000)) (HQ : Hid (∀ q, Q4 V T Gv L q → w0.heap.size ≤ q)) (HK : Hid (Kept Nil w0 X)) (HT : Hid (Tam M n s)) (HO : Hid (Out K M S sn Mp s kk a S' sn' Mp')) (Ha : Hid (a = (doS s S).1)) (HS' : Hid (S' = (doS s S).2)) (HKK2 : Hid (kk < 20 ∧ s.ky = lt kk)) (HM : Hid (MS w0 X b S' (Q4 V T Gv L))) (HXB : Hid (X.heap[XB]? = some (.cells (stC s) 74 (0, 0)))) (HAB : Hid (X.heap[AB]? = some (.cells (anC a) 80 (0, 0)))) (HA : Hid (AR X V T Gv L Mp (fun i j => (sn i j).length) n M (owF S'))) (HMB : Hid (mb = hasF (owF S) s.ky s.up s.hs)) :
    Code.wp Try.prog sT32 (Exit.inBlock 1 (Exit.then K1 Q9)) ⟨#[fv0, fv1, fv2, fv3, fv4, .int .i64 n, .pointer (some ⟨b, 0, none⟩), fv7, .pointer (some ⟨V, 0, none⟩), .pointer (some ⟨T, 0, none⟩), .pointer (some ⟨Gv, 0, none⟩), .pointer (some ⟨L, 0, none⟩), .bool true, .int .i64 ((M : Int) - 2), .pointer (some ⟨XB, 0, none⟩), .bool mb, .pointer (some ⟨AB, 0, none⟩), .int .i64 kk, fv18, fv19, fv20, fv21, fv22, fv23, fv24, fv25, fv26, fv27, fv28, fv29, fv30, fv31, fv32, fv33, fv34, fv35, fv36, fv37, fv38, fv39, fv40, fv41, fv42, fv43, fv44, fv45, fv46, fv47, fv48, fv49, fv50, fv51, fv52, fv53, fv54, fv55, fv56, fv57, fv58, fv59, fv60, fv61, fv62, fv63, fv64, fv65, fv66, fv67, fv68, fv69, fv70, fv71, fv72, fv73, fv74, fv75, fv76, fv77, fv78, fv79, fv80, fv81, fv82, fv83, fv84, fv85, fv86, fv87, fv88, fv89, fv90, fv91, fv92, fv93, fv94, fv95, fv96, fv97, fv98, fv99, fv100, fv101, fv102, fv103, fv104, fv105, fv106, fv107, fv108, fv109, fv110, fv111, fv112, fv113, fv114, fv115, fv116, fv117, fv118, fv119, fv120, fv121, fv122, fv123, fv124, fv125, fv126, fv127, fv128, fv129, fv130, fv131, fv132, fv133, fv134, fv135, fv136, fv137, fv138, fv139, fv140, fv141, fv142, fv143, fv144, fv145, fv146, fv147, fv148, fv149, fv150, fv151, fv152, fv153, fv154, fv155, fv156, fv157, fv158, fv159, fv160, fv161, fv162, fv163, fv164, fv165, fv166, fv167, fv168, fv169, fv170, fv171, fv172, fv173, fv174, fv175, fv176, fv177, fv178, fv179, fv180, fv181, fv182, fv183, fv184, fv185, fv186, fv187, fv188, fv189, fv190, fv191, fv192, fv193, fv194, fv195, fv196, fv197, fv198, fv199, fv200, fv201, fv202, fv203, fv204, fv205, fv206, fv207, fv208, fv209, fv210, fv211, fv212, fv213, fv214, fv215, fv216, fv217, fv218, fv219, fv220, fv221, fv222, fv223, fv224, fv225, fv226, fv227, fv228, fv229, fv230, fv231, fv232, fv233, fv234, fv235, fv236, fv237, fv238, fv239, fv240, fv241, fv242, fv243, fv244, fv245, fv246, fv247, fv248, fv249, fv250, fv251, fv252, fv253, fv254, fv255, fv256, fv257, fv258, fv259, fv260, fv261, fv262, fv263, fv264, fv265, fv266, fv267, fv268, fv269, fv270, fv271, fv272, fv273, fv274, fv275, fv276, fv277, fv278, fv279, fv280, fv281, fv282, fv283, fv284, fv285, fv286, fv287, fv288, fv289, fv290, fv291, fv292, fv293, fv294, fv295, fv296, fv297, fv298, fv299, fv300, fv301, fv302, fv303, fv304, fv305, fv306, fv307, fv308, fv309, fv310, fv311, fv312, fv313, fv314, fv315, fv316, fv317, fv318, fv319, fv320, fv321, fv322, fv323, fv324, fv325, fv326], []⟩ X := by
  have HKK : Hid (∀ (u19 u20 u21 u22 u119 u120 u121 u122 u123 u124 u125 u126 u127 u128 u129 u130 u131 u132 u133 u134 u135 u136 u137 u138 u139 u140 u141 u142 u143 u144 u145 u146 u147 u148 u149 u150 u151 u152 u153 u154 u155 u156 u157 u158 u159 u160 u161 u162 u163 u164 u165 u166 u167 u168 u169 u170 u171 u172 u173 u174 u175 u176 u177 u178 u179 u180 u181 u182 u183 u184 u185 u186 u187 u188 u189 u190 u191 u192 u193 u194 u195 u196 u197 u198 u199 u200 u201 u202 u203 u204 u205 u206 u207 u208 u209 u210 u211 u212 u213 u214 u215 u216 u217 u218 u219 u220 u221 u222 u223 u224 u225 u226 u227 u228 u229 u230 u231 u232 : Value)  (wc : World), Hid (Nxt w0 wc b V T Gv L n M S) → K1 ⟨#[fv0, fv1, fv2, fv3, fv4, .int .i64 n, .pointer (some ⟨b, 0, none⟩), fv7, .pointer (some ⟨V, 0, none⟩), .pointer (some ⟨T, 0, none⟩), .pointer (some ⟨Gv, 0, none⟩), .pointer (some ⟨L, 0, none⟩), .bool true, .int .i64 ((M : Int) - 2), .pointer (some ⟨XB, 0, none⟩), .bool mb, .pointer (some ⟨AB, 0, none⟩), .int .i64 kk, fv18, u19, u20, u21, u22, fv23, fv24, fv25, fv26, fv27, fv28, fv29, fv30, fv31, fv32, fv33, fv34, fv35, fv36, fv37, fv38, fv39, fv40, fv41, fv42, fv43, fv44, fv45, fv46, fv47, fv48, fv49, fv50, fv51, fv52, fv53, fv54, fv55, fv56, fv57, fv58, fv59, fv60, fv61, fv62, fv63, fv64, fv65, fv66, fv67, fv68, fv69, fv70, fv71, fv72, fv73, fv74, fv75, fv76, fv77, fv78, fv79, fv80, fv81, fv82, fv83, fv84, fv85, fv86, fv87, fv88, fv89, fv90, fv91, fv92, fv93, fv94, fv95, fv96, fv97, fv98, fv99, fv100, fv101, fv102, fv103, fv104, fv105, fv106, fv107, fv108, fv109, fv110, fv111, fv112, fv113, fv114, fv115, fv116, fv117, fv118, u119, u120, u121, u122, u123, u124, u125, u126, u127, u128, u129, u130, u131, u132, u133, u134, u135, u136, u137, u138, u139, u140, u141, u142, u143, u144, u145, u146, u147, u148, u149, u150, u151, u152, u153, u154, u155, u156, u157, u158, u159, u160, u161, u162, u163, u164, u165, u166, u167, u168, u169, u170, u171, u172, u173, u174, u175, u176, u177, u178, u179, u180, u181, u182, u183, u184, u185, u186, u187, u188, u189, u190, u191, u192, u193, u194, u195, u196, u197, u198, u199, u200, u201, u202, u203, u204, u205, u206, u207, u208, u209, u210, u211, u212, u213, u214, u215, u216, u217, u218, u219, u220, u221, u222, u223, u224, u225, u226, u227, u228, u229, u230, u231, u232, fv233, fv234, fv235, fv236, fv237, fv238, fv239, fv240, fv241, fv242, fv243, fv244, fv245, fv246, fv247, fv248, fv249, fv250, fv251, fv252, fv253, fv254, fv255, fv256, fv257, fv258, fv259, fv260, fv261, fv262, fv263, fv264, fv265, fv266, fv267, fv268, fv269, fv270, fv271, fv272, fv273, fv274, fv275, fv276, fv277, fv278, fv279, fv280, fv281, fv282, fv283, fv284, fv285, fv286, fv287, fv288, fv289, fv290, fv291, fv292, fv293, fv294, fv295, fv296, fv297, fv298, fv299, fv300, fv301, fv302, fv303, fv304, fv305, fv306, fv307, fv308, fv309, fv310, fv311, fv312, fv313, fv314, fv315, fv316, fv317, fv318, fv319, fv320, fv321, fv322, fv323, fv324, fv325, fv326], []⟩ wc) := hK
  clear hK
  conv => arg 2; whnf
  dsimp only
  dsimp only at HKK
  obtain ⟨kd, HKd⟩ : ∃ z, Hid (z = s.kd) := ⟨_, rfl⟩
  obtain ⟨hs, HHs⟩ : ∃ z, Hid (z = s.hs) := ⟨_, rfl⟩
  obtain ⟨ot, HOt⟩ : ∃ z, Hid (z = s.ot) := ⟨_, rfl⟩
  obtain ⟨er, HEr⟩ : ∃ z, Hid (z = a.er) := ⟨_, rfl⟩
  have x0 : X.cell? ⟨XB, 0, none⟩ = some (.int .i64 kd) := by rw [HKd.out]; exact blk_at HXB.out 0 rfl
  have x1 : X.cell? ⟨XB, 1, none⟩ = some (.int .i64 hs) := by rw [HHs.out]; exact blk_at HXB.out 1 rfl
  have x2 : X.cell? ⟨XB, 2, none⟩ = some (.int .i64 ot) := by rw [HOt.out]; exact blk_at HXB.out 2 rfl
  have a0 : X.cell? ⟨AB, 0, none⟩ = some (.int .i64 er) := by rw [HEr.out]; exact blk_at HAB.out 0 rfl
  have HLN : Hid (∀ i j : Nat, (sn' i j).length = (sn i j).length + if kd = 4 ∧ hs ≠ ot ∧ hs = (i : Int) + 1 ∧ ot = (j : Int) + 1 ∧ er = 0 then 1 else 0) := by rw [HKd.out, HHs.out, HOt.out, HEr.out]; exact HO.out.ln
  have HMV : Hid (kd = 4 → hs ≠ ot → ∃ h o : Nat, h < S.n ∧ o < S.n ∧ h ≠ o ∧ hs = (h : Int) + 1 ∧ ot = (o : Int) + 1 ∧ ((mb = true ∧ (er = 0 ∨ (er = 4 ∧ 16 ≤ (sn h o).length))) ∨ (mb = false ∧ er = 14))) := by rw [HKd.out, HHs.out, HOt.out, HEr.out, HMB.out]; exact HO.out.mv
  have hSn := HN.out.1
  have hn5 := HN.out.2.2.1
  have hM := HN.out.2.2.2
  clear HMB HKd HHs HOt HEr
  by_cases h4 : kd = 4
  · subst h4
    by_cases hne : hs = ot
    · subst hne
      have n1 : (hs != hs) = false := by simp
      have HS9 : Hid (AR X V T Gv L Mp (fun i j => (sn' i j).length) n (M + 1) (owF S')) := HA.out.same (fun i j => by show (sn' i j).length = _; rw [HLN.out, if_neg (fun e => e.2.1 rfl)]; rfl)
      go_upto_if 128 with fail
      go_cut [4, 19, 20, 21] from 129 to 174 (fun q4 _ _ _ wc => q4 = fv4 ∧ Hid (AR wc V T Gv L Mp (fun i j => (sn' i j).length) n (M + 1) (owF S')) ∧ Hid (MS w0 wc b S' (Q4 V T Gv L)) ∧ Hid (wc.heap[XB]? = some (.cells (stC s) 74 (0, 0))) ∧ Hid (wc.heap[AB]? = some (.cells (anC a) 80 (0, 0))) ∧ Hid (Kept Nil w0 wc))
      case first =>
        go_wp2
        go_meet
        exact ⟨rfl, HS9.out, HM.out, HXB.out, HAB.out, HK.out⟩
      case rest =>
        rename World => wc
        obtain ⟨rfl, HA9, HM9, HX9, HB9, HK9⟩ := hcut
        apply_assumption
        refine sTail40 w0 wc b V T Gv L n M S K sn sn' Mp Mp' s kk a S' XB AB _ _ _ _ _ _ _ _ _ _ _ _ _ _ _ _ _ _ _ _ _ _ _ _ _ _ _ _ _ _ _ _ _ _ _ _ _ _ _ _ _ _ _ _ _ _ _ _ _ _ _ _ _ _ _ _ _ _ _ _ _ _ _ _ _ _ _ _ _ _ _ _ _ _ _ _ _ _ _ _ _ _ _ _ _ _ _ _ _ _ _ _ _ _ _ _ _ _ _ _ _ _ _ _ _ _ _ _ _ _ _ _ _ _ _ _ _ _ _ _ _ _ _ _ _ _ _ _ _ _ _ _ _ _ _ _ _ _ _ _ _ _ _ _ _ _ _ _ _ _ _ _ _ _ _ _ _ _ _ _ _ _ _ _ _ _ _ _ _ _ _ _ _ _ _ _ _ _ _ _ _ _ _ _ _ _ _ _ _ _ _ _ _ _ _ _ _ _ _ _ _ _ _ _ _ _ _ _ _ _ _ _ _ _ _ _ _ _ _ _ _ _ _ _ _ _ _ _ _ _ _ _ _ _ _ _ _ _ _ _ _ _ _ _ _ _ _ _ _ _ _ _ _ _ _ _ _ _ _ _ _ _ _ _ _ _ _ _ _ _ _ _ _ _ _ _ _ _ _ _ _ _ _ _ _ _ _ _ _ _ _ _ _ _ _ _ _ _ _ _ _ _ _ _ _ _ _ _ _ _ _ _ _ _ _ _ _ _ ?_ HN HQ HK9 HT HO Ha HS' HKK2 HM9 HX9 HB9 HA9
        intro u22 u175 u176 u177 u178 u179 u180 u181 u182 u183 u184 u185 u186 u187 u188 u189 u190 u191 u192 u193 u194 u195 u196 u197 u198 u199 u200 u201 u202 u203 u204 u205 u206 u207 u208 u209 u210 u211 u212 u213 u214 u215 u216 u217 u218 u219 u220 u221 u222 u223 u224 u225 u226 u227 u228 u229 u230 u231 u232 wc2 hE
        dsimp only
        exact HKK.out _ _ _ _ _ _ _ _ _ _ _ _ _ _ _ _ _ _ _ _ _ _ _ _ _ _ _ _ _ _ _ _ _ _ _ _ _ _ _ _ _ _ _ _ _ _ _ _ _ _ _ _ _ _ _ _ _ _ _ _ _ _ _ _ _ _ _ _ _ _ _ _ _ _ _ _ _ _ _ _ _ _ _ _ _ _ _ _ _ _ _ _ _ _ _ _ _ _ _ _ _ _ _ _ _ _ _ _ _ _ _ _ _ _ _ _ _ _ _  hE
    · obtain ⟨h, o, hh, hoo, hho, rfl, rfl, hor⟩ := HMV.out rfl hne
      have n1 : ((h : Int) + 1 != (o : Int) + 1) = true := by simp; omega
      rw [hSn] at hh hoo
      obtain ⟨cs, g1, g2⟩ := HA.out.g
      obtain ⟨gc, gle⟩ := g2.2 h o hh hoo hho
      obtain ⟨gn, Hgn⟩ : ∃ z : Nat, Hid (z = (sn h o).length) := ⟨_, rfl⟩
      dsimp only at gc gle
      rw [← Hgn.out] at gc gle hor
      obtain ⟨jj, hjj⟩ : ∃ j : Nat, 8 * ((h : Int) + 1) + ((o : Int) + 1) = (j : Int) := ⟨8 * (h + 1) + (o + 1), by omega⟩
      have ejj : 8 * (h + 1) + (o + 1) = jj := by omega
      have hj64 : (jj : Int) < 64 := by omega
      rw [ejj] at gc
      have c0 : X.cell? ⟨Gv, jj, none⟩ = some (.int .i64 gn) := blk_at g1 jj gc
      have f0 : X.frozen? ⟨Gv, jj, none⟩ = false := blk_free g1 _
      have l0 : Gv < X.heap.size := lt_of_block g1
      have HG1 : Hid (X.heap[Gv]? = some (.cells cs 69 (0, 0))) := g1
      have hXG : XB ≠ Gv := fun e => by have := HXB.out; rw [e, g1] at this; cases this
      have hAG : AB ≠ Gv := fun e => by have := HAB.out; rw [e, g1] at this; cases this
      have HXG : Hid (XB ≠ Gv ∧ AB ≠ Gv) := ⟨hXG, hAG⟩
      clear g1 g2 gc hXG hAG
      rcases hor with ⟨rfl, rfl | ⟨rfl, hg16⟩⟩ | ⟨rfl, rfl⟩
      · have HS9 : Hid (AR (X.setCell ⟨Gv, jj, none⟩ (.int .i64 ((gn : Int) + 1))) V T Gv L Mp (fun i j => (sn' i j).length) n (M + 1) (owF S')) := by
          have := HA.out.more (ln' := fun i j => (sn' i j).length) (x := h) (y := o) hn5 hh hoo hho (fun i j => by
            show (sn' i j).length = _
            rw [HLN.out]
            congr 1
            by_cases e : i = h ∧ j = o
            · rw [if_pos e, if_pos ⟨rfl, hne, by rw [e.1], by rw [e.2], rfl⟩]
            · rw [if_neg e, if_neg (fun z => e ⟨by omega, by omega⟩)])
          rw [ejj, ← Hgn.out] at this
          exact this
        have HQG : Hid (w0.heap.size ≤ Gv) := HQ.out _ (.inr (.inr (.inl rfl)))
        have hj9 : 8 * ((h : Int) + 1) ≤ 40 := by omega
        go_upto_if 128 with fail
        go_cut [4, 19, 20, 21] from 129 to 174 (fun q4 _ _ _ wc => q4 = fv4 ∧ Hid (AR wc V T Gv L Mp (fun i j => (sn' i j).length) n (M + 1) (owF S')) ∧ Hid (MS w0 wc b S' (Q4 V T Gv L)) ∧ Hid (wc.heap[XB]? = some (.cells (stC s) 74 (0, 0))) ∧ Hid (wc.heap[AB]? = some (.cells (anC a) 80 (0, 0))) ∧ Hid (Kept Nil w0 wc))
        case first =>
          go_wp2
          go_meet
          exact ⟨rfl, HS9.out, HM.out.cells (.inr (.inr (.inl rfl))) _ _, blk_other HXB.out HXG.out.1 _, blk_other HAB.out HXG.out.2 _, HK.out.ownN HQG.out _ _⟩
        case rest =>
          rename World => wc
          obtain ⟨rfl, HA9, HM9, HX9, HB9, HK9⟩ := hcut
          apply_assumption
          refine sTail40 w0 wc b V T Gv L n M S K sn sn' Mp Mp' s kk a S' XB AB _ _ _ _ _ _ _ _ _ _ _ _ _ _ _ _ _ _ _ _ _ _ _ _ _ _ _ _ _ _ _ _ _ _ _ _ _ _ _ _ _ _ _ _ _ _ _ _ _ _ _ _ _ _ _ _ _ _ _ _ _ _ _ _ _ _ _ _ _ _ _ _ _ _ _ _ _ _ _ _ _ _ _ _ _ _ _ _ _ _ _ _ _ _ _ _ _ _ _ _ _ _ _ _ _ _ _ _ _ _ _ _ _ _ _ _ _ _ _ _ _ _ _ _ _ _ _ _ _ _ _ _ _ _ _ _ _ _ _ _ _ _ _ _ _ _ _ _ _ _ _ _ _ _ _ _ _ _ _ _ _ _ _ _ _ _ _ _ _ _ _ _ _ _ _ _ _ _ _ _ _ _ _ _ _ _ _ _ _ _ _ _ _ _ _ _ _ _ _ _ _ _ _ _ _ _ _ _ _ _ _ _ _ _ _ _ _ _ _ _ _ _ _ _ _ _ _ _ _ _ _ _ _ _ _ _ _ _ _ _ _ _ _ _ _ _ _ _ _ _ _ _ _ _ _ _ _ _ _ _ _ _ _ _ _ _ _ _ _ _ _ _ _ _ _ _ _ _ _ _ _ _ _ _ _ _ _ _ _ _ _ _ _ _ _ _ _ _ _ _ _ _ _ _ _ _ _ _ _ _ _ _ _ _ _ _ _ _ ?_ HN HQ HK9 HT HO Ha HS' HKK2 HM9 HX9 HB9 HA9
          intro u22 u175 u176 u177 u178 u179 u180 u181 u182 u183 u184 u185 u186 u187 u188 u189 u190 u191 u192 u193 u194 u195 u196 u197 u198 u199 u200 u201 u202 u203 u204 u205 u206 u207 u208 u209 u210 u211 u212 u213 u214 u215 u216 u217 u218 u219 u220 u221 u222 u223 u224 u225 u226 u227 u228 u229 u230 u231 u232 wc2 hE
          dsimp only
          exact HKK.out _ _ _ _ _ _ _ _ _ _ _ _ _ _ _ _ _ _ _ _ _ _ _ _ _ _ _ _ _ _ _ _ _ _ _ _ _ _ _ _ _ _ _ _ _ _ _ _ _ _ _ _ _ _ _ _ _ _ _ _ _ _ _ _ _ _ _ _ _ _ _ _ _ _ _ _ _ _ _ _ _ _ _ _ _ _ _ _ _ _ _ _ _ _ _ _ _ _ _ _ _ _ _ _ _ _ _ _ _ _ _ _ _ _ _ _ _ _ _  hE
      · have HS9 : Hid (AR X V T Gv L Mp (fun i j => (sn' i j).length) n (M + 1) (owF S')) := HA.out.same (fun i j => by show (sn' i j).length = _; rw [HLN.out, if_neg (fun e => by cases e.2.2.2.2)]; rfl)
        have hgi : (16 : Int) ≤ gn := by omega
        have hgi2 : (gn : Int) ≥ 16 := by omega
        go_upto_if 128 with fail
        go_cut [4, 19, 20, 21] from 129 to 174 (fun q4 _ _ _ wc => q4 = fv4 ∧ Hid (AR wc V T Gv L Mp (fun i j => (sn' i j).length) n (M + 1) (owF S')) ∧ Hid (MS w0 wc b S' (Q4 V T Gv L)) ∧ Hid (wc.heap[XB]? = some (.cells (stC s) 74 (0, 0))) ∧ Hid (wc.heap[AB]? = some (.cells (anC a) 80 (0, 0))) ∧ Hid (Kept Nil w0 wc))
        case first =>
          go_wp2
          go_meet
          exact ⟨rfl, HS9.out, HM.out, HXB.out, HAB.out, HK.out⟩
        case rest =>
          rename World => wc
          obtain ⟨rfl, HA9, HM9, HX9, HB9, HK9⟩ := hcut
          apply_assumption
          refine sTail40 w0 wc b V T Gv L n M S K sn sn' Mp Mp' s kk a S' XB AB _ _ _ _ _ _ _ _ _ _ _ _ _ _ _ _ _ _ _ _ _ _ _ _ _ _ _ _ _ _ _ _ _ _ _ _ _ _ _ _ _ _ _ _ _ _ _ _ _ _ _ _ _ _ _ _ _ _ _ _ _ _ _ _ _ _ _ _ _ _ _ _ _ _ _ _ _ _ _ _ _ _ _ _ _ _ _ _ _ _ _ _ _ _ _ _ _ _ _ _ _ _ _ _ _ _ _ _ _ _ _ _ _ _ _ _ _ _ _ _ _ _ _ _ _ _ _ _ _ _ _ _ _ _ _ _ _ _ _ _ _ _ _ _ _ _ _ _ _ _ _ _ _ _ _ _ _ _ _ _ _ _ _ _ _ _ _ _ _ _ _ _ _ _ _ _ _ _ _ _ _ _ _ _ _ _ _ _ _ _ _ _ _ _ _ _ _ _ _ _ _ _ _ _ _ _ _ _ _ _ _ _ _ _ _ _ _ _ _ _ _ _ _ _ _ _ _ _ _ _ _ _ _ _ _ _ _ _ _ _ _ _ _ _ _ _ _ _ _ _ _ _ _ _ _ _ _ _ _ _ _ _ _ _ _ _ _ _ _ _ _ _ _ _ _ _ _ _ _ _ _ _ _ _ _ _ _ _ _ _ _ _ _ _ _ _ _ _ _ _ _ _ _ _ _ _ _ _ _ _ _ _ _ _ _ _ _ _ ?_ HN HQ HK9 HT HO Ha HS' HKK2 HM9 HX9 HB9 HA9
          intro u22 u175 u176 u177 u178 u179 u180 u181 u182 u183 u184 u185 u186 u187 u188 u189 u190 u191 u192 u193 u194 u195 u196 u197 u198 u199 u200 u201 u202 u203 u204 u205 u206 u207 u208 u209 u210 u211 u212 u213 u214 u215 u216 u217 u218 u219 u220 u221 u222 u223 u224 u225 u226 u227 u228 u229 u230 u231 u232 wc2 hE
          dsimp only
          exact HKK.out _ _ _ _ _ _ _ _ _ _ _ _ _ _ _ _ _ _ _ _ _ _ _ _ _ _ _ _ _ _ _ _ _ _ _ _ _ _ _ _ _ _ _ _ _ _ _ _ _ _ _ _ _ _ _ _ _ _ _ _ _ _ _ _ _ _ _ _ _ _ _ _ _ _ _ _ _ _ _ _ _ _ _ _ _ _ _ _ _ _ _ _ _ _ _ _ _ _ _ _ _ _ _ _ _ _ _ _ _ _ _ _ _ _ _ _ _ _ _  hE
      · have HS9 : Hid (AR X V T Gv L Mp (fun i j => (sn' i j).length) n (M + 1) (owF S')) := HA.out.same (fun i j => by show (sn' i j).length = _; rw [HLN.out, if_neg (fun e => by cases e.2.2.2.2)]; rfl)
        go_upto_if 128 with fail
        go_cut [4, 19, 20, 21] from 129 to 174 (fun q4 _ _ _ wc => q4 = fv4 ∧ Hid (AR wc V T Gv L Mp (fun i j => (sn' i j).length) n (M + 1) (owF S')) ∧ Hid (MS w0 wc b S' (Q4 V T Gv L)) ∧ Hid (wc.heap[XB]? = some (.cells (stC s) 74 (0, 0))) ∧ Hid (wc.heap[AB]? = some (.cells (anC a) 80 (0, 0))) ∧ Hid (Kept Nil w0 wc))
        case first =>
          go_wp2
          go_meet
          exact ⟨rfl, HS9.out, HM.out, HXB.out, HAB.out, HK.out⟩
        case rest =>
          rename World => wc
          obtain ⟨rfl, HA9, HM9, HX9, HB9, HK9⟩ := hcut
          apply_assumption
          refine sTail40 w0 wc b V T Gv L n M S K sn sn' Mp Mp' s kk a S' XB AB _ _ _ _ _ _ _ _ _ _ _ _ _ _ _ _ _ _ _ _ _ _ _ _ _ _ _ _ _ _ _ _ _ _ _ _ _ _ _ _ _ _ _ _ _ _ _ _ _ _ _ _ _ _ _ _ _ _ _ _ _ _ _ _ _ _ _ _ _ _ _ _ _ _ _ _ _ _ _ _ _ _ _ _ _ _ _ _ _ _ _ _ _ _ _ _ _ _ _ _ _ _ _ _ _ _ _ _ _ _ _ _ _ _ _ _ _ _ _ _ _ _ _ _ _ _ _ _ _ _ _ _ _ _ _ _ _ _ _ _ _ _ _ _ _ _ _ _ _ _ _ _ _ _ _ _ _ _ _ _ _ _ _ _ _ _ _ _ _ _ _ _ _ _ _ _ _ _ _ _ _ _ _ _ _ _ _ _ _ _ _ _ _ _ _ _ _ _ _ _ _ _ _ _ _ _ _ _ _ _ _ _ _ _ _ _ _ _ _ _ _ _ _ _ _ _ _ _ _ _ _ _ _ _ _ _ _ _ _ _ _ _ _ _ _ _ _ _ _ _ _ _ _ _ _ _ _ _ _ _ _ _ _ _ _ _ _ _ _ _ _ _ _ _ _ _ _ _ _ _ _ _ _ _ _ _ _ _ _ _ _ _ _ _ _ _ _ _ _ _ _ _ _ _ _ _ _ _ _ _ _ _ _ _ _ _ _ _ ?_ HN HQ HK9 HT HO Ha HS' HKK2 HM9 HX9 HB9 HA9
          intro u22 u175 u176 u177 u178 u179 u180 u181 u182 u183 u184 u185 u186 u187 u188 u189 u190 u191 u192 u193 u194 u195 u196 u197 u198 u199 u200 u201 u202 u203 u204 u205 u206 u207 u208 u209 u210 u211 u212 u213 u214 u215 u216 u217 u218 u219 u220 u221 u222 u223 u224 u225 u226 u227 u228 u229 u230 u231 u232 wc2 hE
          dsimp only
          exact HKK.out _ _ _ _ _ _ _ _ _ _ _ _ _ _ _ _ _ _ _ _ _ _ _ _ _ _ _ _ _ _ _ _ _ _ _ _ _ _ _ _ _ _ _ _ _ _ _ _ _ _ _ _ _ _ _ _ _ _ _ _ _ _ _ _ _ _ _ _ _ _ _ _ _ _ _ _ _ _ _ _ _ _ _ _ _ _ _ _ _ _ _ _ _ _ _ _ _ _ _ _ _ _ _ _ _ _ _ _ _ _ _ _ _ _ _ _ _ _ _  hE
  · have n4 : (kd == 4) = false := by simpa using h4
    have HS9 : Hid (AR X V T Gv L Mp (fun i j => (sn' i j).length) n (M + 1) (owF S')) := HA.out.same (fun i j => by show (sn' i j).length = _; rw [HLN.out, if_neg (fun e => h4 e.1)]; rfl)
    go_upto_if 128 with fail
    go_cut [4, 19, 20, 21] from 129 to 174 (fun q4 _ _ _ wc => q4 = fv4 ∧ Hid (AR wc V T Gv L Mp (fun i j => (sn' i j).length) n (M + 1) (owF S')) ∧ Hid (MS w0 wc b S' (Q4 V T Gv L)) ∧ Hid (wc.heap[XB]? = some (.cells (stC s) 74 (0, 0))) ∧ Hid (wc.heap[AB]? = some (.cells (anC a) 80 (0, 0))) ∧ Hid (Kept Nil w0 wc))
    case first =>
      go_wp2
      go_meet
      exact ⟨rfl, HS9.out, HM.out, HXB.out, HAB.out, HK.out⟩
    case rest =>
      rename World => wc
      obtain ⟨rfl, HA9, HM9, HX9, HB9, HK9⟩ := hcut
      apply_assumption
      refine sTail40 w0 wc b V T Gv L n M S K sn sn' Mp Mp' s kk a S' XB AB _ _ _ _ _ _ _ _ _ _ _ _ _ _ _ _ _ _ _ _ _ _ _ _ _ _ _ _ _ _ _ _ _ _ _ _ _ _ _ _ _ _ _ _ _ _ _ _ _ _ _ _ _ _ _ _ _ _ _ _ _ _ _ _ _ _ _ _ _ _ _ _ _ _ _ _ _ _ _ _ _ _ _ _ _ _ _ _ _ _ _ _ _ _ _ _ _ _ _ _ _ _ _ _ _ _ _ _ _ _ _ _ _ _ _ _ _ _ _ _ _ _ _ _ _ _ _ _ _ _ _ _ _ _ _ _ _ _ _ _ _ _ _ _ _ _ _ _ _ _ _ _ _ _ _ _ _ _ _ _ _ _ _ _ _ _ _ _ _ _ _ _ _ _ _ _ _ _ _ _ _ _ _ _ _ _ _ _ _ _ _ _ _ _ _ _ _ _ _ _ _ _ _ _ _ _ _ _ _ _ _ _ _ _ _ _ _ _ _ _ _ _ _ _ _ _ _ _ _ _ _ _ _ _ _ _ _ _ _ _ _ _ _ _ _ _ _ _ _ _ _ _ _ _ _ _ _ _ _ _ _ _ _ _ _ _ _ _ _ _ _ _ _ _ _ _ _ _ _ _ _ _ _ _ _ _ _ _ _ _ _ _ _ _ _ _ _ _ _ _ _ _ _ _ _ _ _ _ _ _ _ _ _ _ _ _ _ _ ?_ HN HQ HK9 HT HO Ha HS' HKK2 HM9 HX9 HB9 HA9
      intro u22 u175 u176 u177 u178 u179 u180 u181 u182 u183 u184 u185 u186 u187 u188 u189 u190 u191 u192 u193 u194 u195 u196 u197 u198 u199 u200 u201 u202 u203 u204 u205 u206 u207 u208 u209 u210 u211 u212 u213 u214 u215 u216 u217 u218 u219 u220 u221 u222 u223 u224 u225 u226 u227 u228 u229 u230 u231 u232 wc2 hE
      dsimp only
      exact HKK.out _ _ _ _ _ _ _ _ _ _ _ _ _ _ _ _ _ _ _ _ _ _ _ _ _ _ _ _ _ _ _ _ _ _ _ _ _ _ _ _ _ _ _ _ _ _ _ _ _ _ _ _ _ _ _ _ _ _ _ _ _ _ _ _ _ _ _ _ _ _ _ _ _ _ _ _ _ _ _ _ _ _ _ _ _ _ _ _ _ _ _ _ _ _ _ _ _ _ _ _ _ _ _ _ _ _ _ _ _ _ _ _ _ _ _ _ _ _ _  hE
end Go.Proofs.Ytpfgnhockfofhaa
