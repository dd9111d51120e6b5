/-
  Joined: WSk6.
-/
import Derived.Test.YtpfgnhockfofhaaM29
import Derived.BigQuiet
import Derived.BigRegion
import Derived.Deep.DeepCutAuto
import Derived.Deep.DeepFit
import Derived.Deep.RegionHeld3
/-
  ShardMap: what a round leaves; the pieces of its code; from region 40 on.
-/
namespace Go.Proofs.Ytpfgnhockfofhaa
open Go.RowKit

def headIsC (n : Nat) : Code → Bool
  | .region k _ _ => k == n
  | .seq a _ => headIsC n a
  | .block _ c => headIsC n c
  | .loop c => headIsC n c
  | _ => false
/-- From the statement on that begins with a region. -/
def findTailC (n : Nat) : Code → Option Code
  | .seq a b => if headIsC n a then some (.seq a b) else match findTailC n a with
    | some c => some c
    | none => findTailC n b
  | .block _ c => findTailC n c
  | .loop c => findTailC n c
  | .cond _ a b => match findTailC n a with
    | some c => some c
    | none => findTailC n b
  | _ => none
noncomputable def sT19 : Code := (Try.f5.body.bind (findTailC 19)).getD .skip
noncomputable def sT21 : Code := (Try.f5.body.bind (findTailC 21)).getD .skip
noncomputable def sT27 : Code := (Try.f5.body.bind (findTailC 27)).getD .skip
noncomputable def sT32 : Code := (Try.f5.body.bind (findTailC 32)).getD .skip
noncomputable def sT40 : Code := (Try.f5.body.bind (findTailC 40)).getD .skip
noncomputable def sT52 : Code := (Try.f5.body.bind (findTailC 52)).getD .skip
noncomputable def sT57 : Code := (Try.f5.body.bind (findTailC 57)).getD .skip
/-- What is so behind a round. -/
def Nxt (w0 wc : World) (b V T Gv L n M : Nat) (S : Sd) : Prop := ∃ s sn' Mp' K', Tam M n s ∧ JJ K' (M + 1) (doS s S).2 sn' Mp' ∧ (doS s S).2.n = n ∧ MS w0 wc b (doS s S).2 (Q4 V T Gv L) ∧ AR wc V T Gv L Mp' (fun i j => (sn' i j).length) n (M + 1) (owF (doS s S).2) ∧ Kept Nil w0 wc
theorem MS.cells {w0 w : World} {b : Nat} {S : Sd} {Q : Nat → Prop} (h : MS w0 w b S Q) {B : Nat} (hB : Q B) (i : Nat) (u : Value) : MS w0 (w.setCell ⟨B, i, none⟩ u) b S Q := h.one ((Kept.refl _ _).setT (fun _ _ => rfl) i u) hB
theorem AR.setV {w : World} {V T Gv L : Nat} {Mp : Nat → Option (List UInt8)} {ln : Nat → Nat → Nat} {n M : Nat} {f : Nat → Int} (h : AR w V T Gv L Mp ln n M f) {k : Nat} (hk : k < 20) (o : Option (List UInt8)) : AR ((w.setCell ⟨T, k, none⟩ (.bool o.isSome)).setCell ⟨V, k, none⟩ (.string (bs (o.getD [])))) V T Gv L (upd Mp k o) ln n M f := by
  obtain ⟨cs, g1, g2⟩ := h.g
  have hVT : V ≠ T := fun e => by have := h.v; rw [e, h.t] at this; cases this
  have hVG : Gv ≠ V := fun e => by have := h.v; rw [← e, g1] at this; cases this
  have hTG : Gv ≠ T := fun e => by have := h.t; rw [← e, g1] at this; cases this
  have hl := h.l
  unfold RowI at hl
  have hVL : L ≠ V := fun e => by have := h.v; rw [← e, hl] at this; cases this
  have hTL : L ≠ T := fun e => by have := h.t; rw [← e, hl] at this; cases this
  refine ⟨?_, ?_, ⟨cs, blk_other (blk_other g1 hTG _) hVG _, g2⟩, blk_other (blk_other hl hTL _) hVL _⟩
  · have := blk_set (blk_other h.v hVT (.bool o.isSome) (a := ⟨T, k, none⟩)) k (.string (bs (o.getD [])))
    rw [arrS_set Mp hk] at this
    exact this
  · have := blk_other (blk_set h.t k (.bool o.isSome)) (Ne.symm hVT) (a := ⟨V, k, none⟩) (.string (bs (o.getD [])))
    rw [arrB_set Mp hk] at this
    exact this
theorem Kept.ownN {w a : World} {B : Nat} (h : Kept Nil w a) (hB : w.heap.size ≤ B) (i : Nat) (u : Value) : Kept Nil w (a.setCell ⟨B, i, none⟩ u) := h.setT (fun o ho => by have := lt_of_block ho; omega) i u
set_option maxRecDepth 1000000 in
set_option maxHeartbeats 40000000 in
theorem sTail40 (w0 X : World) (b V T Gv L n M : Nat) (S : Sd) (K : List (List UInt8)) (sn sn' : Snt) (Mp Mp' : Nat → Option (List UInt8)) (s : Sp) (kk : Nat) (a : An) (S' : Sd) (XB AB : Nat) (fv0 fv1 fv2 fv3 fv4 fv7 fv15 fv18 fv19 fv20 fv21 fv22 fv23 fv24 fv25 fv26 fv27 fv28 fv29 fv30 fv31 fv32 fv33 fv34 fv35 fv36 fv37 fv38 fv39 fv40 fv41 fv42 fv43 fv44 fv45 fv46 fv47 fv48 fv49 fv50 fv51 fv52 fv53 fv54 fv55 fv56 fv57 fv58 fv59 fv60 fv61 fv62 fv63 fv64 fv65 fv66 fv67 fv68 fv69 fv70 fv71 fv72 fv73 fv74 fv75 fv76 fv77 fv78 fv79 fv80 fv81 fv82 fv83 fv84 fv85 fv86 fv87 fv88 fv89 fv90 fv91 fv92 fv93 fv94 fv95 fv96 fv97 fv98 fv99 fv100 fv101 fv102 fv103 fv104 fv105 fv106 fv107 fv108 fv109 fv110 fv111 fv112 fv113 fv114 fv115 fv116 fv117 fv118 fv119 fv120 fv121 fv122 fv123 fv124 fv125 fv126 fv127 fv128 fv129 fv130 fv131 fv132 fv133 fv134 fv135 fv136 fv137 fv138 fv139 fv140 fv141 fv142 fv143 fv144 fv145 fv146 fv147 fv148 fv149 fv150 fv151 fv152 fv153 fv154 fv155 fv156 fv157 fv158 fv159 fv160 fv161 fv162 fv163 fv164 fv165 fv166 fv167 fv168 fv169 fv170 fv171 fv172 fv173 fv174 fv175 fv176 fv177 fv178 fv179 fv180 fv181 fv182 fv183 fv184 fv185 fv186 fv187 fv188 fv189 fv190 fv191 fv192 fv193 fv194 fv195 fv196 fv197 fv198 fv199 fv200 fv201 fv202 fv203 fv204 fv205 fv206 fv207 fv208 fv209 fv210 fv211 fv212 fv213 fv214 fv215 fv216 fv217 fv218 fv219 fv220 fv221 fv222 fv223 fv224 fv225 fv226 fv227 fv228 fv229 fv230 fv231 fv232 fv233 fv234 fv235 fv236 fv237 fv238 fv239 fv240 fv241 fv242 fv243 fv244 fv245 fv246 fv247 fv248 fv249 fv250 fv251 fv252 fv253 fv254 fv255 fv256 fv257 fv258 fv259 fv260 fv261 fv262 fv263 fv264 fv265 fv266 fv267 fv268 fv269 fv270 fv271 fv272 fv273 fv274 fv275 fv276 fv277 fv278 fv279 fv280 fv281 fv282 fv283 fv284 fv285 fv286 fv287 fv288 fv289 fv290 fv291 fv292 fv293 fv294 fv295 fv296 fv297 fv298 fv299 fv300 fv301 fv302 fv303 fv304 fv305 fv306 fv307 fv308 fv309 fv310 fv311 fv312 fv313 fv314 fv315 fv316 fv317 fv318 fv319 fv320 fv321 fv322 fv323 fv324 fv325 fv326 : Value) (K1 : Act → World → Prop) (Q9 : Exit → Act → World → Prop)
    (hK : ∀ (u22 u175 u176 u177 u178 u179 u180 u181 u182 u183 u184 u185 u186 u187 u188 u189 u190 u191 u192 u193 u194 u195 u196 u197 u198 u199 u200 u201 u202 u203 u204 u205 u206 u207 u208 u209 u210 u211 u212 u213 u214 u215 u216 u217 u218 u219 u220 u221 u222 u223 u224 u225 u226 u227 u228 u229 u230 u231 u232 : Value)  (wc : World), Hid (Nxt w0 wc b V T Gv L n M S) → K1 ⟨#[fv0, fv1, fv2, fv3, fv4, .int .i64 n, .pointer (some ⟨b, 0, none⟩), fv7, .pointer (some ⟨V, 0, none⟩), .pointer (some ⟨T, 0, none⟩), .pointer (some ⟨Gv, 0, none⟩), .pointer (some ⟨L, 0, none⟩), .bool true, .int .i64 ((M : Int) - 2), .pointer (some ⟨XB, 0, none⟩), fv15, .pointer (some ⟨AB, 0, none⟩), .int .i64 kk, fv18, fv19, fv20, fv21, u22, fv23, fv24, fv25, fv26, fv27, fv28, fv29, fv30, fv31, fv32, fv33, fv34, fv35, fv36, fv37, fv38, fv39, fv40, fv41, fv42, fv43, fv44, fv45, fv46, fv47, fv48, fv49, fv50, fv51, fv52, fv53, fv54, fv55, fv56, fv57, fv58, fv59, fv60, fv61, fv62, fv63, fv64, fv65, fv66, fv67, fv68, fv69, fv70, fv71, fv72, fv73, fv74, fv75, fv76, fv77, fv78, fv79, fv80, fv81, fv82, fv83, fv84, fv85, fv86, fv87, fv88, fv89, fv90, fv91, fv92, fv93, fv94, fv95, fv96, fv97, fv98, fv99, fv100, fv101, fv102, fv103, fv104, fv105, fv106, fv107, fv108, fv109, fv110, fv111, fv112, fv113, fv114, fv115, fv116, fv117, fv118, fv119, fv120, fv121, fv122, fv123, fv124, fv125, fv126, fv127, fv128, fv129, fv130, fv131, fv132, fv133, fv134, fv135, fv136, fv137, fv138, fv139, fv140, fv141, fv142, fv143, fv144, fv145, fv146, fv147, fv148, fv149, fv150, fv151, fv152, fv153, fv154, fv155, fv156, fv157, fv158, fv159, fv160, fv161, fv162, fv163, fv164, fv165, fv166, fv167, fv168, fv169, fv170, fv171, fv172, fv173, fv174, u175, u176, u177, u178, u179, u180, u181, u182, u183, u184, u185, u186, u187, u188, u189, u190, u191, u192, u193, u194, u195, u196, u197, u198, u199, u200, u201, u202, u203, u204, u205, u206, u207, u208, u209, u210, u211, u212, u213, u214, u215, u216, u217, u218, u219, u220, u221, u222, u223, u224, u225, u226, u227, u228, u229, u230, u231, u232, fv233, fv234, fv235, fv236, fv237, fv238, fv239, fv240, fv241, fv242, fv243, fv244, fv245, fv246, fv247, fv248, fv249, fv250, fv251, fv252, fv253, fv254, fv255, fv256, fv257, fv258, fv259, fv260, fv261, fv262, fv263, fv264, fv265, fv266, fv267, fv268, fv269, fv270, fv271, fv272, fv273, fv274, fv275, fv276, fv277, fv278, fv279, fv280, fv281, fv282, fv283, fv284, fv285, fv286, fv287, fv288, fv289, fv290, fv291, fv292, fv293, fv294, fv295, fv296, fv297, fv298, fv299, fv300, fv301, fv302, fv303, fv304, fv305, fv306, fv307, fv308, fv309, fv310, fv311, fv312, fv313, fv314, fv315, fv316, fv317, fv318, fv319, fv320, fv321, fv322, fv323, fv324, fv325, fv326], []⟩ wc)
    (HN : Hid (S.n = n ∧ 2 ≤ n ∧ n ≤ 5 ∧ M ≤ 20000)) (HQ : Hid (∀ q, Q4 V T Gv L q → w0.heap.size ≤ q)) (HK : Hid (Kept Nil w0 X)) (HT : Hid (Tam M n s)) (HO : Hid (Out K M S sn Mp s kk a S' sn' Mp')) (Ha : Hid (a = (doS s S).1)) (HS' : Hid (S' = (doS s S).2)) (HKK2 : Hid (kk < 20 ∧ s.ky = lt kk)) (HM : Hid (MS w0 X b S' (Q4 V T Gv L))) (HXB : Hid (X.heap[XB]? = some (.cells (stC s) 74 (0, 0)))) (HAB : Hid (X.heap[AB]? = some (.cells (anC a) 80 (0, 0)))) (HA : Hid (AR X V T Gv L Mp (fun i j => (sn' i j).length) n (M + 1) (owF S'))) :
    Code.wp Try.prog sT40 (Exit.inBlock 1 (Exit.then K1 Q9)) ⟨#[fv0, fv1, fv2, fv3, fv4, .int .i64 n, .pointer (some ⟨b, 0, none⟩), fv7, .pointer (some ⟨V, 0, none⟩), .pointer (some ⟨T, 0, none⟩), .pointer (some ⟨Gv, 0, none⟩), .pointer (some ⟨L, 0, none⟩), .bool true, .int .i64 ((M : Int) - 2), .pointer (some ⟨XB, 0, none⟩), fv15, .pointer (some ⟨AB, 0, none⟩), .int .i64 kk, fv18, fv19, fv20, fv21, fv22, fv23, fv24, fv25, fv26, fv27, fv28, fv29, fv30, fv31, fv32, fv33, fv34, fv35, fv36, fv37, fv38, fv39, fv40, fv41, fv42, fv43, fv44, fv45, fv46, fv47, fv48, fv49, fv50, fv51, fv52, fv53, fv54, fv55, fv56, fv57, fv58, fv59, fv60, fv61, fv62, fv63, fv64, fv65, fv66, fv67, fv68, fv69, fv70, fv71, fv72, fv73, fv74, fv75, fv76, fv77, fv78, fv79, fv80, fv81, fv82, fv83, fv84, fv85, fv86, fv87, fv88, fv89, fv90, fv91, fv92, fv93, fv94, fv95, fv96, fv97, fv98, fv99, fv100, fv101, fv102, fv103, fv104, fv105, fv106, fv107, fv108, fv109, fv110, fv111, fv112, fv113, fv114, fv115, fv116, fv117, fv118, fv119, fv120, fv121, fv122, fv123, fv124, fv125, fv126, fv127, fv128, fv129, fv130, fv131, fv132, fv133, fv134, fv135, fv136, fv137, fv138, fv139, fv140, fv141, fv142, fv143, fv144, fv145, fv146, fv147, fv148, fv149, fv150, fv151, fv152, fv153, fv154, fv155, fv156, fv157, fv158, fv159, fv160, fv161, fv162, fv163, fv164, fv165, fv166, fv167, fv168, fv169, fv170, fv171, fv172, fv173, fv174, fv175, fv176, fv177, fv178, fv179, fv180, fv181, fv182, fv183, fv184, fv185, fv186, fv187, fv188, fv189, fv190, fv191, fv192, fv193, fv194, fv195, fv196, fv197, fv198, fv199, fv200, fv201, fv202, fv203, fv204, fv205, fv206, fv207, fv208, fv209, fv210, fv211, fv212, fv213, fv214, fv215, fv216, fv217, fv218, fv219, fv220, fv221, fv222, fv223, fv224, fv225, fv226, fv227, fv228, fv229, fv230, fv231, fv232, fv233, fv234, fv235, fv236, fv237, fv238, fv239, fv240, fv241, fv242, fv243, fv244, fv245, fv246, fv247, fv248, fv249, fv250, fv251, fv252, fv253, fv254, fv255, fv256, fv257, fv258, fv259, fv260, fv261, fv262, fv263, fv264, fv265, fv266, fv267, fv268, fv269, fv270, fv271, fv272, fv273, fv274, fv275, fv276, fv277, fv278, fv279, fv280, fv281, fv282, fv283, fv284, fv285, fv286, fv287, fv288, fv289, fv290, fv291, fv292, fv293, fv294, fv295, fv296, fv297, fv298, fv299, fv300, fv301, fv302, fv303, fv304, fv305, fv306, fv307, fv308, fv309, fv310, fv311, fv312, fv313, fv314, fv315, fv316, fv317, fv318, fv319, fv320, fv321, fv322, fv323, fv324, fv325, fv326], []⟩ X := by
  have HKK : Hid (∀ (u22 u175 u176 u177 u178 u179 u180 u181 u182 u183 u184 u185 u186 u187 u188 u189 u190 u191 u192 u193 u194 u195 u196 u197 u198 u199 u200 u201 u202 u203 u204 u205 u206 u207 u208 u209 u210 u211 u212 u213 u214 u215 u216 u217 u218 u219 u220 u221 u222 u223 u224 u225 u226 u227 u228 u229 u230 u231 u232 : Value)  (wc : World), Hid (Nxt w0 wc b V T Gv L n M S) → K1 ⟨#[fv0, fv1, fv2, fv3, fv4, .int .i64 n, .pointer (some ⟨b, 0, none⟩), fv7, .pointer (some ⟨V, 0, none⟩), .pointer (some ⟨T, 0, none⟩), .pointer (some ⟨Gv, 0, none⟩), .pointer (some ⟨L, 0, none⟩), .bool true, .int .i64 ((M : Int) - 2), .pointer (some ⟨XB, 0, none⟩), fv15, .pointer (some ⟨AB, 0, none⟩), .int .i64 kk, fv18, fv19, fv20, fv21, u22, fv23, fv24, fv25, fv26, fv27, fv28, fv29, fv30, fv31, fv32, fv33, fv34, fv35, fv36, fv37, fv38, fv39, fv40, fv41, fv42, fv43, fv44, fv45, fv46, fv47, fv48, fv49, fv50, fv51, fv52, fv53, fv54, fv55, fv56, fv57, fv58, fv59, fv60, fv61, fv62, fv63, fv64, fv65, fv66, fv67, fv68, fv69, fv70, fv71, fv72, fv73, fv74, fv75, fv76, fv77, fv78, fv79, fv80, fv81, fv82, fv83, fv84, fv85, fv86, fv87, fv88, fv89, fv90, fv91, fv92, fv93, fv94, fv95, fv96, fv97, fv98, fv99, fv100, fv101, fv102, fv103, fv104, fv105, fv106, fv107, fv108, fv109, fv110, fv111, fv112, fv113, fv114, fv115, fv116, fv117, fv118, fv119, fv120, fv121, fv122, fv123, fv124, fv125, fv126, fv127, fv128, fv129, fv130, fv131, fv132, fv133, fv134, fv135, fv136, fv137, fv138, fv139, fv140, fv141, fv142, fv143, fv144, fv145, fv146, fv147, fv148, fv149, fv150, fv151, fv152, fv153, fv154, fv155, fv156, fv157, fv158, fv159, fv160, fv161, fv162, fv163, fv164, fv165, fv166, fv167, fv168, fv169, fv170, fv171, fv172, fv173, fv174, u175, u176, u177, u178, u179, u180, u181, u182, u183, u184, u185, u186, u187, u188, u189, u190, u191, u192, u193, u194, u195, u196, u197, u198, u199, u200, u201, u202, u203, u204, u205, u206, u207, u208, u209, u210, u211, u212, u213, u214, u215, u216, u217, u218, u219, u220, u221, u222, u223, u224, u225, u226, u227, u228, u229, u230, u231, u232, fv233, fv234, fv235, fv236, fv237, fv238, fv239, fv240, fv241, fv242, fv243, fv244, fv245, fv246, fv247, fv248, fv249, fv250, fv251, fv252, fv253, fv254, fv255, fv256, fv257, fv258, fv259, fv260, fv261, fv262, fv263, fv264, fv265, fv266, fv267, fv268, fv269, fv270, fv271, fv272, fv273, fv274, fv275, fv276, fv277, fv278, fv279, fv280, fv281, fv282, fv283, fv284, fv285, fv286, fv287, fv288, fv289, fv290, fv291, fv292, fv293, fv294, fv295, fv296, fv297, fv298, fv299, fv300, fv301, fv302, fv303, fv304, fv305, fv306, fv307, fv308, fv309, fv310, fv311, fv312, fv313, fv314, fv315, fv316, fv317, fv318, fv319, fv320, fv321, fv322, fv323, fv324, fv325, fv326], []⟩ wc) := hK
  clear hK
  conv => arg 2; whnf
  dsimp only
  obtain ⟨kd, hs, ot, nn, ky, up, vl⟩ := s
  obtain ⟨er, ho, rk, rv⟩ := a
  have HASK : Hid (kd ≤ 3 → ho = hs → er = 0 ∧ rk = (if kd = 1 ∨ (Mp kk).isSome = true then 1 else 2) ∧ (kd = 2 → rv = (Mp kk).getD [])) := HO.out.ask
  have HMP : Hid (Mp' = if kd ≤ 3 ∧ ho = hs then upd Mp kk (newM kd vl (Mp kk)) else Mp) := HO.out.mp
  have hkk := HKK2.out.1
  have hkd := HT.out.kd
  dsimp only at hkd
  have HFIN : Hid (∀ wc, MS w0 wc b S' (Q4 V T Gv L) → AR wc V T Gv L Mp' (fun i j => (sn' i j).length) n (M + 1) (owF S') → Kept Nil w0 wc → Nxt w0 wc b V T Gv L n M S) := fun wc m r k => by
    have h1 := HO.out.jj
    have h2 := HO.out.n
    rw [HS'.out] at m r h1 h2
    exact ⟨_, sn', Mp', _, HT.out, h1, h2.trans HN.out.1, m, r, k⟩
  have x0 : X.cell? ⟨XB, 0, none⟩ = some (.int .i64 kd) := blk_at HXB.out 0 rfl
  have x1 : X.cell? ⟨XB, 1, none⟩ = some (.int .i64 hs) := blk_at HXB.out 1 rfl
  have x6 : X.cell? ⟨XB, 6, none⟩ = some (.string (bs vl)) := blk_at HXB.out 6 rfl
  have a0 : X.cell? ⟨AB, 0, none⟩ = some (.int .i64 er) := blk_at HAB.out 0 rfl
  have a1 : X.cell? ⟨AB, 1, none⟩ = some (.int .i64 ho) := blk_at HAB.out 1 rfl
  have a2 : X.cell? ⟨AB, 2, none⟩ = some (.int .i64 rk) := blk_at HAB.out 2 rfl
  have a3 : X.cell? ⟨AB, 3, none⟩ = some (.string (bs rv)) := blk_at HAB.out 3 rfl
  by_cases h3 : kd ≤ 3
  · by_cases hh : ho = hs
    · obtain ⟨e0, erk, erv⟩ := HASK.out h3 hh
      subst e0
      subst hh
      have n1 : (ho != ho) = false := by simp
      have hg : ¬ (3 : Int) < kd := by omega
      have hg2 : ¬ kd > 3 := by omega
      obtain ⟨tb, Htb⟩ : ∃ z, Hid (z = (Mp kk).isSome) := ⟨_, rfl⟩
      obtain ⟨val, Hval⟩ : ∃ z, Hid (z = (Mp kk).getD []) := ⟨_, rfl⟩
      rw [← Htb.out] at erk
      rw [← Hval.out] at erv
      have HCL : Hid (∀ Y, Kept Nil X Y → Y.cell? ⟨XB, 0, none⟩ = some (.int .i64 kd) ∧ Y.cell? ⟨XB, 6, none⟩ = some (.string (bs vl)) ∧ (∃ z, Y.cell? ⟨T, kk, none⟩ = some z) ∧ (∃ z, Y.cell? ⟨V, kk, none⟩ = some z) ∧ Y.frozen? ⟨T, kk, none⟩ = false ∧ Y.frozen? ⟨V, kk, none⟩ = false ∧ T < Y.heap.size ∧ V < Y.heap.size) := fun Y kY => by
        have hx := kY.block _ _ HXB.out (fun e => e)
        have hv := kY.block _ _ HA.out.v (fun e => e)
        have ht := kY.block _ _ HA.out.t (fun e => e)
        exact ⟨blk_at hx 0 rfl, blk_at hx 6 rfl, ⟨_, blk_at ht kk (arrB_at _ hkk)⟩, ⟨_, blk_at hv kk (arrS_at _ hkk)⟩, blk_free ht _, blk_free hv _, lt_of_block ht, lt_of_block hv⟩
      have t0 : X.cell? ⟨T, kk, none⟩ = some (.bool tb) := by rw [Htb.out]; exact blk_at HA.out.t kk (arrB_at Mp hkk)
      have v0 : X.cell? ⟨V, kk, none⟩ = some (.string (bs val)) := by rw [Hval.out]; exact blk_at HA.out.v kk (arrS_at Mp hkk)
      have hki : (kk : Int) < 20 := by omega
      have hVL : T < X.heap.size := lt_of_block HA.out.t
      have hVL2 : V < X.heap.size := lt_of_block HA.out.v
      have hTV : T ≠ V := fun e => by have := HA.out.v; rw [← e, HA.out.t] at this; cases this
      have hVT : V ≠ T := Ne.symm hTV
      have hXT : XB ≠ T := fun e => by have := HXB.out; rw [e, HA.out.t] at this; cases this
      have hXV : XB ≠ V := fun e => by have := HXB.out; rw [e, HA.out.v] at this; cases this
      have HW0 : Hid (∀ Y, Kept Nil X Y → Kept Nil w0 Y) := fun Y kY => HK.out.trans kY
      have HQT : Hid (w0.heap.size ≤ T) := HQ.out _ (.inr (.inl rfl))
      have HQV : Hid (w0.heap.size ≤ V) := HQ.out _ (.inl rfl)
      obtain rfl | rfl | rfl : kd = 1 ∨ kd = 2 ∨ kd = 3 := by omega
      · obtain rfl : rk = 1 := by rw [erk, if_pos (.inl rfl)]
        have HME : Hid (Mp' = upd Mp kk (some vl)) := by show _ = _; rw [HMP.out, if_pos ⟨by decide, rfl⟩]; rfl
        clear erk erv
        cases tb with
        | true =>
          go_upto_region 44 with fail
          go_quiet (fail)
          rename Nat => nq
          obtain ⟨Y, hY⟩ : ∃ Y, Y = X.drewN nq := ⟨_, rfl⟩
          have KY : Hid (Kept Nil X Y) := by rw [hY]; exact (Kept.refl _ _).drewN _
          rw [← hY]
          obtain ⟨y0, y6, ⟨z1, y1⟩, ⟨z2, y2⟩, y3, y4, y5, y7⟩ := HCL.out Y KY.out
          clear hY x0 x1 x6 a0 a1 a2 a3 t0 v0
          go_wp2
          exact HKK.out _ _ _ _ _ _ _ _ _ _ _ _ _ _ _ _ _ _ _ _ _ _ _ _ _ _ _ _ _ _ _ _ _ _ _ _ _ _ _ _ _ _ _ _ _ _ _ _ _ _ _ _ _ _ _ _ _ _ _ _ (HFIN.out _ (((HM.out.kept KY.out).cells (.inr (.inl rfl)) _ _).cells (.inl rfl) _ _) (by rw [HME.out]; exact (HA.out.kept KY.out (fun _ _ _ e => e)).setV hkk (some vl)) (((HW0.out Y KY.out).ownN HQT.out _ _).ownN HQV.out _ _))
        | false =>
          go_upto_region 44 with fail
          go_quiet (fail)
          rename Nat => nq
          obtain ⟨Y, hY⟩ : ∃ Y, Y = X.drewN nq := ⟨_, rfl⟩
          have KY : Hid (Kept Nil X Y) := by rw [hY]; exact (Kept.refl _ _).drewN _
          rw [← hY]
          obtain ⟨y0, y6, ⟨z1, y1⟩, ⟨z2, y2⟩, y3, y4, y5, y7⟩ := HCL.out Y KY.out
          clear hY x0 x1 x6 a0 a1 a2 a3 t0 v0
          go_wp2
          exact HKK.out _ _ _ _ _ _ _ _ _ _ _ _ _ _ _ _ _ _ _ _ _ _ _ _ _ _ _ _ _ _ _ _ _ _ _ _ _ _ _ _ _ _ _ _ _ _ _ _ _ _ _ _ _ _ _ _ _ _ _ _ (HFIN.out _ (((HM.out.kept KY.out).cells (.inr (.inl rfl)) _ _).cells (.inl rfl) _ _) (by rw [HME.out]; exact (HA.out.kept KY.out (fun _ _ _ e => e)).setV hkk (some vl)) (((HW0.out Y KY.out).ownN HQT.out _ _).ownN HQV.out _ _))
      · have hrv := erv rfl
        subst hrv
        have HME : Hid (Mp' = Mp) := by show _ = _; rw [HMP.out, if_pos ⟨by decide, rfl⟩]; exact upd_id Mp kk
        clear erv
        cases tb with
        | true =>
          obtain rfl : rk = 1 := by rw [erk, if_pos (.inr rfl)]
          clear erk
          go_upto_region 44 with fail
          go_quiet (fail)
          rename Nat => nq
          obtain ⟨Y, hY⟩ : ∃ Y, Y = X.drewN nq := ⟨_, rfl⟩
          have KY : Hid (Kept Nil X Y) := by rw [hY]; exact (Kept.refl _ _).drewN _
          rw [← hY]
          obtain ⟨y0, y6, ⟨z1, y1⟩, ⟨z2, y2⟩, y3, y4, y5, y7⟩ := HCL.out Y KY.out
          clear hY x0 x1 x6 a0 a1 a2 a3 t0 v0
          go_wp2
          exact HKK.out _ _ _ _ _ _ _ _ _ _ _ _ _ _ _ _ _ _ _ _ _ _ _ _ _ _ _ _ _ _ _ _ _ _ _ _ _ _ _ _ _ _ _ _ _ _ _ _ _ _ _ _ _ _ _ _ _ _ _ _ (HFIN.out _ (HM.out.kept KY.out) (by rw [HME.out]; exact HA.out.kept KY.out (fun _ _ _ e => e)) (HW0.out Y KY.out))
        | false =>
          obtain rfl : rk = 2 := by rw [erk, if_neg (by rintro (e | e) <;> cases e)]
          clear erk
          go_upto_region 44 with fail
          go_quiet (fail)
          rename Nat => nq
          obtain ⟨Y, hY⟩ : ∃ Y, Y = X.drewN nq := ⟨_, rfl⟩
          have KY : Hid (Kept Nil X Y) := by rw [hY]; exact (Kept.refl _ _).drewN _
          rw [← hY]
          obtain ⟨y0, y6, ⟨z1, y1⟩, ⟨z2, y2⟩, y3, y4, y5, y7⟩ := HCL.out Y KY.out
          clear hY x0 x1 x6 a0 a1 a2 a3 t0 v0
          go_wp2
          exact HKK.out _ _ _ _ _ _ _ _ _ _ _ _ _ _ _ _ _ _ _ _ _ _ _ _ _ _ _ _ _ _ _ _ _ _ _ _ _ _ _ _ _ _ _ _ _ _ _ _ _ _ _ _ _ _ _ _ _ _ _ _ (HFIN.out _ (HM.out.kept KY.out) (by rw [HME.out]; exact HA.out.kept KY.out (fun _ _ _ e => e)) (HW0.out Y KY.out))
      · have HME : Hid (Mp' = upd Mp kk none) := by show _ = _; rw [HMP.out, if_pos ⟨by decide, rfl⟩]; rfl
        clear erv
        cases tb with
        | true =>
          obtain rfl : rk = 1 := by rw [erk, if_pos (.inr rfl)]
          clear erk
          go_upto_region 44 with fail
          go_quiet (fail)
          rename Nat => nq
          obtain ⟨Y, hY⟩ : ∃ Y, Y = X.drewN nq := ⟨_, rfl⟩
          have KY : Hid (Kept Nil X Y) := by rw [hY]; exact (Kept.refl _ _).drewN _
          rw [← hY]
          obtain ⟨y0, y6, ⟨z1, y1⟩, ⟨z2, y2⟩, y3, y4, y5, y7⟩ := HCL.out Y KY.out
          clear hY x0 x1 x6 a0 a1 a2 a3 t0 v0
          go_wp2
          exact HKK.out _ _ _ _ _ _ _ _ _ _ _ _ _ _ _ _ _ _ _ _ _ _ _ _ _ _ _ _ _ _ _ _ _ _ _ _ _ _ _ _ _ _ _ _ _ _ _ _ _ _ _ _ _ _ _ _ _ _ _ _ (HFIN.out _ (((HM.out.kept KY.out).cells (.inr (.inl rfl)) _ _).cells (.inl rfl) _ _) (by rw [HME.out]; exact (HA.out.kept KY.out (fun _ _ _ e => e)).setV hkk none) (((HW0.out Y KY.out).ownN HQT.out _ _).ownN HQV.out _ _))
        | false =>
          obtain rfl : rk = 2 := by rw [erk, if_neg (by rintro (e | e) <;> cases e)]
          clear erk
          go_upto_region 44 with fail
          go_quiet (fail)
          rename Nat => nq
          obtain ⟨Y, hY⟩ : ∃ Y, Y = X.drewN nq := ⟨_, rfl⟩
          have KY : Hid (Kept Nil X Y) := by rw [hY]; exact (Kept.refl _ _).drewN _
          rw [← hY]
          obtain ⟨y0, y6, ⟨z1, y1⟩, ⟨z2, y2⟩, y3, y4, y5, y7⟩ := HCL.out Y KY.out
          clear hY x0 x1 x6 a0 a1 a2 a3 t0 v0
          go_wp2
          exact HKK.out _ _ _ _ _ _ _ _ _ _ _ _ _ _ _ _ _ _ _ _ _ _ _ _ _ _ _ _ _ _ _ _ _ _ _ _ _ _ _ _ _ _ _ _ _ _ _ _ _ _ _ _ _ _ _ _ _ _ _ _ (HFIN.out _ (((HM.out.kept KY.out).cells (.inr (.inl rfl)) _ _).cells (.inl rfl) _ _) (by rw [HME.out]; exact (HA.out.kept KY.out (fun _ _ _ e => e)).setV hkk none) (((HW0.out Y KY.out).ownN HQT.out _ _).ownN HQV.out _ _))
    · have HME : Hid (Mp' = Mp) := by show _ = _; rw [HMP.out, if_neg (fun e => hh e.2)]
      have n1 : (ho != hs) = true := by simpa using hh
      have hg : ¬ (3 : Int) < kd := by omega
      have hg2 : ¬ kd > 3 := by omega
      go_wp2
      exact HKK.out _ _ _ _ _ _ _ _ _ _ _ _ _ _ _ _ _ _ _ _ _ _ _ _ _ _ _ _ _ _ _ _ _ _ _ _ _ _ _ _ _ _ _ _ _ _ _ _ _ _ _ _ _ _ _ _ _ _ _ _ (HFIN.out _ HM.out (by rw [HME.out]; exact HA.out) HK.out)
  · have HME : Hid (Mp' = Mp) := by show _ = _; rw [HMP.out, if_neg (fun e => h3 e.1)]
    have hg : (3 : Int) < kd := by omega
    have hg2 : kd > 3 := by omega
    go_wp2
    exact HKK.out _ _ _ _ _ _ _ _ _ _ _ _ _ _ _ _ _ _ _ _ _ _ _ _ _ _ _ _ _ _ _ _ _ _ _ _ _ _ _ _ _ _ _ _ _ _ _ _ _ _ _ _ _ _ _ _ _ _ _ _ (HFIN.out _ HM.out (by rw [HME.out]; exact HA.out) HK.out)
end Go.Proofs.Ytpfgnhockfofhaa
