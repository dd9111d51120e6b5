/-
  ClientOnce: a round from the answer to the first question on.
-/
import Derived.Test.YtbfleeilpccmcaaWCoC
import Derived.Deep.DeepCutAuto
import Derived.Deep.DeepFit
import Derived.Deep.RegionHeld3
namespace Go.Proofs.Ytbfleeilpccmcaa
open Go.RowKit

set_option maxRecDepth 1000000 in
set_option maxHeartbeats 40000000 in
theorem coTail27 (w w5 : World) (b cn kc Q A18 k cs c0 : Nat) (c c1 : Cl) (l : List Int) (an ao ko : Option Addr) (a : Addr) (ss : List An) (s : An) (tv : Bool) (n1 sv nv ak ai : Int) (akey aval : List UInt8) (fv0 fv2 fv3 fv4 fv6 fv8 fv14 fv15 fv16 fv17 fv20 fv21 fv22 fv23 fv24 fv25 fv26 fv27 fv28 fv29 fv30 fv31 fv32 fv33 fv34 fv35 fv36 fv37 fv38 fv39 fv40 fv41 fv42 fv43 fv44 fv45 fv46 fv47 fv48 fv49 fv50 fv51 fv52 fv53 fv54 fv55 fv56 fv57 fv58 fv59 fv60 fv61 fv62 fv63 fv64 fv65 fv66 fv67 fv68 fv69 fv70 fv71 fv72 fv73 fv74 fv75 fv76 fv77 fv78 fv79 fv80 fv81 fv82 fv83 fv84 fv85 fv86 fv87 fv88 fv89 fv90 fv91 fv92 fv93 fv94 fv95 fv96 fv97 fv98 fv99 fv100 fv101 fv102 fv103 fv104 fv105 fv106 fv107 fv108 fv109 fv110 fv111 fv112 fv113 fv114 fv115 fv116 fv117 fv118 fv119 fv120 fv121 fv122 fv123 fv124 fv125 fv126 fv127 fv128 fv129 fv130 fv131 fv132 fv133 fv134 fv135 fv136 fv137 fv138 fv139 fv140 fv141 fv142 fv143 fv144 fv145 fv146 fv147 fv148 fv149 fv150 fv151 fv152 fv153 fv154 fv155 fv156 fv157 fv158 fv159 fv160 fv161 fv162 fv163 fv164 fv165 fv166 fv167 fv168 fv169 fv170 fv171 fv172 fv173 fv174 fv175 fv176 fv177 fv178 fv179 fv180 fv181 fv182 fv183 fv184 fv185 fv186 fv187 fv188 fv189 fv190 fv191 fv192 fv193 fv194 fv195 fv196 fv197 fv198 fv199 fv200 fv201 fv202 fv203 fv204 fv205 fv206 fv207 fv208 fv209 fv210 fv211 fv212 fv213 fv214 fv215 fv216 fv217 fv218 fv219 fv220 fv221 fv222 fv223 fv224 fv225 fv226 fv227 fv228 fv229 fv230 fv231 fv232 fv233 fv234 fv235 fv236 fv237 fv238 fv239 fv240 fv241 fv242 fv243 fv244 fv245 fv246 fv247 fv248 fv249 fv250 fv251 fv252 fv253 fv254 fv255 fv256 fv257 fv258 fv259 fv260 fv261 fv262 fv263 fv264 fv265 fv266 fv267 fv268 : Value) (K1 : Act → World → Prop) (Q9 : Exit → Act → World → Prop)
    (hK : ∀ (u4 u20 u21 u22 u23 u24 u25 u26 u27 u28 u92 u93 u94 u95 u96 u97 u98 u99 u100 u101 u102 u103 u104 u105 u106 u107 u108 u109 u110 u111 u112 u113 u114 u115 u116 u117 u118 u119 u120 u121 u122 u123 u124 u125 u126 u127 u128 u129 u130 u131 u132 u133 u134 u135 u136 u137 u138 u139 u140 u141 u142 u143 u144 u145 u146 u147 u148 u149 u150 u151 u152 u153 u154 u155 u156 u157 u158 u159 u160 u161 u162 u163 u164 u165 u166 u167 u168 u169 u170 u171 u172 u173 u174 u175 u176 u177 u178 u179 u180 u181 u182 u183 u184 u185 u186 u187 u188 u189 u190 u191 u192 u193 u194 u195 u196 u197 u198 u199 u200 u201 u202 u203 u204 u205 u206 u207 u208 u209 u210 u211 u212 u213 u214 u215 u216 u217 u218 u219 u220 u221 u222 u223 u224 u225 u226 u227 u228 u229 u230 u231 u232 u233 u234 u235 u236 u237 u238 u239 u240 u241 u242 u243 u244 u245 u246 u247 u248 u249 u250 u251 u252 u253 u254 u255 u256 u257 u258 u259 u260 u261 u262 u263 u264 u265 u266 u267 u268 : Value) (c5 : Cl) (sv2 nv2 : Int) (wc : World), Hid (∃ ko kc ak akey aval ai, MO w wc b c5 l an cn ko kc ∧ PC (2 * ((k + 1 : Nat) : Int)) l.length c5 ∧ OI c5 sv2 nv2 ak akey aval ai ∧ (c5.st = 0 ∨ c5.st = 1) ∧ wc.heap[Q]? = some (.cells #[.int .i64 ak, .string (bs akey), .string (bs aval), .int .i64 ai] 30 (0, 0))) → K1 ⟨#[fv0, .slice (some a) ss.length cs, fv2, fv3, u4, .slice ao l.length c0, fv6, .pointer (some ⟨b, 0, none⟩), fv8, .int .i64 sv2, .int .i64 nv2, .pointer (some ⟨Q, 0, none⟩), .int .i64 c5.la, .int .i64 k, fv14, fv15, fv16, fv17, .pointer (some ⟨A18, 0, none⟩), .bool (!tv), u20, u21, u22, u23, u24, u25, u26, u27, u28, fv29, fv30, fv31, fv32, fv33, fv34, fv35, fv36, fv37, fv38, fv39, fv40, fv41, fv42, fv43, fv44, fv45, fv46, fv47, fv48, fv49, fv50, fv51, fv52, fv53, fv54, fv55, fv56, fv57, fv58, fv59, fv60, fv61, fv62, fv63, fv64, fv65, fv66, fv67, fv68, fv69, fv70, fv71, fv72, fv73, fv74, fv75, fv76, fv77, fv78, fv79, fv80, fv81, fv82, fv83, fv84, fv85, fv86, fv87, fv88, fv89, fv90, fv91, u92, u93, u94, u95, u96, u97, u98, u99, u100, u101, u102, u103, u104, u105, u106, u107, u108, u109, u110, u111, u112, u113, u114, u115, u116, u117, u118, u119, u120, u121, u122, u123, u124, u125, u126, u127, u128, u129, u130, u131, u132, u133, u134, u135, u136, u137, u138, u139, u140, u141, u142, u143, u144, u145, u146, u147, u148, u149, u150, u151, u152, u153, u154, u155, u156, u157, u158, u159, u160, u161, u162, u163, u164, u165, u166, u167, u168, u169, u170, u171, u172, u173, u174, u175, u176, u177, u178, u179, u180, u181, u182, u183, u184, u185, u186, u187, u188, u189, u190, u191, u192, u193, u194, u195, u196, u197, u198, u199, u200, u201, u202, u203, u204, u205, u206, u207, u208, u209, u210, u211, u212, u213, u214, u215, u216, u217, u218, u219, u220, u221, u222, u223, u224, u225, u226, u227, u228, u229, u230, u231, u232, u233, u234, u235, u236, u237, u238, u239, u240, u241, u242, u243, u244, u245, u246, u247, u248, u249, u250, u251, u252, u253, u254, u255, u256, u257, u258, u259, u260, u261, u262, u263, u264, u265, u266, u267, u268], []⟩ wc)
    (M5 : Hid (MO w w5 b (nextC c1) l an cn ko kc)) (HQ5 : Hid (w5.heap[Q]? = some (.cells #[.int .i64 ak, .string (bs akey), .string (bs aval), .int .i64 ai] 30 (0, 0)))) (HA18 : Hid (w5.heap[A18]? = some (.cells (askV c1 n1) 34 (0, 0)))) (HCX : Hid (∀ X, Kept Nil w X → (X.cell? (a.add (k * 6)) = some (.int .i64 s.tk) ∧ X.cell? ⟨(a.add (k * 6)).block, (a.add (k * 6)).off + 1, none⟩ = some (.int .i64 s.er) ∧ X.cell? ⟨(a.add (k * 6)).block, (a.add (k * 6)).off + 2, none⟩ = some (.int .i64 s.rk) ∧ X.cell? ⟨(a.add (k * 6)).block, (a.add (k * 6)).off + 3, none⟩ = some (.string (bs s.rval)) ∧ X.cell? ⟨(a.add (k * 6)).block, (a.add (k * 6)).off + 4, none⟩ = some (.int .i64 s.rver) ∧ X.cell? ⟨(a.add (k * 6)).block, (a.add (k * 6)).off + 5, none⟩ = some (.slice s.ao s.ks.length s.cc)) ∧ KIn (fun k => k < w.heap.size) X s.ao s.cc s.ks)) (HKl : Hid (s.ks.length ≤ 8796093022200 ∧ ∀ k ∈ s.ks, k.length ≤ maxLen)) (HP : Hid (PC (2 * k) l.length c)) (P1 : Hid (PC (2 * k) l.length c1)) (OI1 : Hid (OI c1 sv nv ak akey aval ai)) (LA1 : Hid (c1.la = c.la)) (HGO : Hid (goes c1 = !tv)) (hna : ¬ n1 < 1) (hnb : ¬ n1 > l.length) (hbQ : b ≠ Q) (hQn : w.heap.size ≤ Q) (hAb : A18 ≠ b) (hl5 : l.length ≤ 5) (hki : (k : Int) < ss.length) (hk14 : (k : Int) ≤ 16384) (haB : a.block < w.heap.size) :
    Code.wp Try.prog cT27 (Exit.inBlock 3 (Exit.then K1 Q9)) ⟨#[fv0, .slice (some a) ss.length cs, fv2, fv3, fv4, .slice ao l.length c0, fv6, .pointer (some ⟨b, 0, none⟩), fv8, .int .i64 sv, .int .i64 nv, .pointer (some ⟨Q, 0, none⟩), .int .i64 c.la, .int .i64 k, fv14, fv15, fv16, fv17, .pointer (some ⟨A18, 0, none⟩), .bool (!tv), fv20, fv21, fv22, fv23, fv24, fv25, fv26, fv27, fv28, fv29, fv30, fv31, fv32, fv33, fv34, fv35, fv36, fv37, fv38, fv39, fv40, fv41, fv42, fv43, fv44, fv45, fv46, fv47, fv48, fv49, fv50, fv51, fv52, fv53, fv54, fv55, fv56, fv57, fv58, fv59, fv60, fv61, fv62, fv63, fv64, fv65, fv66, fv67, fv68, fv69, fv70, fv71, fv72, fv73, fv74, fv75, fv76, fv77, fv78, fv79, fv80, fv81, fv82, fv83, fv84, fv85, fv86, fv87, fv88, fv89, fv90, fv91, fv92, fv93, fv94, fv95, fv96, fv97, fv98, fv99, fv100, fv101, fv102, fv103, fv104, fv105, fv106, fv107, fv108, fv109, fv110, fv111, fv112, fv113, fv114, fv115, fv116, fv117, fv118, fv119, fv120, fv121, fv122, fv123, fv124, fv125, fv126, fv127, fv128, fv129, fv130, fv131, fv132, fv133, fv134, fv135, fv136, fv137, fv138, fv139, fv140, fv141, fv142, fv143, fv144, fv145, fv146, fv147, fv148, fv149, fv150, fv151, fv152, fv153, fv154, fv155, fv156, fv157, fv158, fv159, fv160, fv161, fv162, fv163, fv164, fv165, fv166, fv167, fv168, fv169, fv170, fv171, fv172, fv173, fv174, fv175, fv176, fv177, fv178, fv179, fv180, fv181, fv182, fv183, fv184, fv185, fv186, fv187, fv188, fv189, fv190, fv191, fv192, fv193, fv194, fv195, fv196, fv197, fv198, fv199, fv200, fv201, fv202, fv203, fv204, fv205, fv206, fv207, fv208, fv209, fv210, fv211, fv212, fv213, fv214, fv215, fv216, fv217, fv218, fv219, fv220, fv221, fv222, fv223, fv224, fv225, fv226, fv227, fv228, fv229, fv230, fv231, fv232, fv233, fv234, fv235, fv236, fv237, fv238, fv239, fv240, fv241, fv242, fv243, fv244, fv245, fv246, fv247, fv248, fv249, fv250, fv251, fv252, fv253, fv254, fv255, fv256, fv257, fv258, fv259, fv260, fv261, fv262, fv263, fv264, fv265, fv266, fv267, fv268], []⟩ w5 := by
  have HKK : Hid (∀ (u4 u20 u21 u22 u23 u24 u25 u26 u27 u28 u92 u93 u94 u95 u96 u97 u98 u99 u100 u101 u102 u103 u104 u105 u106 u107 u108 u109 u110 u111 u112 u113 u114 u115 u116 u117 u118 u119 u120 u121 u122 u123 u124 u125 u126 u127 u128 u129 u130 u131 u132 u133 u134 u135 u136 u137 u138 u139 u140 u141 u142 u143 u144 u145 u146 u147 u148 u149 u150 u151 u152 u153 u154 u155 u156 u157 u158 u159 u160 u161 u162 u163 u164 u165 u166 u167 u168 u169 u170 u171 u172 u173 u174 u175 u176 u177 u178 u179 u180 u181 u182 u183 u184 u185 u186 u187 u188 u189 u190 u191 u192 u193 u194 u195 u196 u197 u198 u199 u200 u201 u202 u203 u204 u205 u206 u207 u208 u209 u210 u211 u212 u213 u214 u215 u216 u217 u218 u219 u220 u221 u222 u223 u224 u225 u226 u227 u228 u229 u230 u231 u232 u233 u234 u235 u236 u237 u238 u239 u240 u241 u242 u243 u244 u245 u246 u247 u248 u249 u250 u251 u252 u253 u254 u255 u256 u257 u258 u259 u260 u261 u262 u263 u264 u265 u266 u267 u268 : Value) (c5 : Cl) (sv2 nv2 : Int) (wc : World), Hid (∃ ko kc ak akey aval ai, MO w wc b c5 l an cn ko kc ∧ PC (2 * ((k + 1 : Nat) : Int)) l.length c5 ∧ OI c5 sv2 nv2 ak akey aval ai ∧ (c5.st = 0 ∨ c5.st = 1) ∧ wc.heap[Q]? = some (.cells #[.int .i64 ak, .string (bs akey), .string (bs aval), .int .i64 ai] 30 (0, 0))) → K1 ⟨#[fv0, .slice (some a) ss.length cs, fv2, fv3, u4, .slice ao l.length c0, fv6, .pointer (some ⟨b, 0, none⟩), fv8, .int .i64 sv2, .int .i64 nv2, .pointer (some ⟨Q, 0, none⟩), .int .i64 c5.la, .int .i64 k, fv14, fv15, fv16, fv17, .pointer (some ⟨A18, 0, none⟩), .bool (!tv), u20, u21, u22, u23, u24, u25, u26, u27, u28, fv29, fv30, fv31, fv32, fv33, fv34, fv35, fv36, fv37, fv38, fv39, fv40, fv41, fv42, fv43, fv44, fv45, fv46, fv47, fv48, fv49, fv50, fv51, fv52, fv53, fv54, fv55, fv56, fv57, fv58, fv59, fv60, fv61, fv62, fv63, fv64, fv65, fv66, fv67, fv68, fv69, fv70, fv71, fv72, fv73, fv74, fv75, fv76, fv77, fv78, fv79, fv80, fv81, fv82, fv83, fv84, fv85, fv86, fv87, fv88, fv89, fv90, fv91, u92, u93, u94, u95, u96, u97, u98, u99, u100, u101, u102, u103, u104, u105, u106, u107, u108, u109, u110, u111, u112, u113, u114, u115, u116, u117, u118, u119, u120, u121, u122, u123, u124, u125, u126, u127, u128, u129, u130, u131, u132, u133, u134, u135, u136, u137, u138, u139, u140, u141, u142, u143, u144, u145, u146, u147, u148, u149, u150, u151, u152, u153, u154, u155, u156, u157, u158, u159, u160, u161, u162, u163, u164, u165, u166, u167, u168, u169, u170, u171, u172, u173, u174, u175, u176, u177, u178, u179, u180, u181, u182, u183, u184, u185, u186, u187, u188, u189, u190, u191, u192, u193, u194, u195, u196, u197, u198, u199, u200, u201, u202, u203, u204, u205, u206, u207, u208, u209, u210, u211, u212, u213, u214, u215, u216, u217, u218, u219, u220, u221, u222, u223, u224, u225, u226, u227, u228, u229, u230, u231, u232, u233, u234, u235, u236, u237, u238, u239, u240, u241, u242, u243, u244, u245, u246, u247, u248, u249, u250, u251, u252, u253, u254, u255, u256, u257, u258, u259, u260, u261, u262, u263, u264, u265, u266, u267, u268], []⟩ wc) := hK
  clear hK
  conv => arg 2; whnf
  dsimp only
  go_upto_if 92 with fail
  go_cut [9, 10, 12, 20] from 92 to 268 (fun s9 s10 s12 _ wc => ∃ sv2 nv2 : Int, s9 = .int .i64 sv2 ∧ s10 = .int .i64 nv2 ∧ s12 = .int .i64 (nextC c1).la ∧ Hid (∃ ak akey aval ai, OI (nextC c1) sv2 nv2 ak akey aval ai ∧ wc.heap[Q]? = some (.cells #[.int .i64 ak, .string (bs akey), .string (bs aval), .int .i64 ai] 30 (0, 0))) ∧ Hid (MO w wc b (nextC c1) l an cn ko kc) ∧ Hid (wc.heap[A18]? = some (.cells (askV c1 n1) 34 (0, 0))))
  case first =>
    cases tv with
    | true =>
      have HN1 : Hid (nextC c1 = c1) := by show _ = _; unfold nextC; rw [HGO.out]; rfl
      go_wp2
      go_meet
      exact ⟨sv, nv, rfl, rfl, by rw [HN1.out, LA1.out], ⟨ak, akey, aval, ai, OI1.out.next0 (.inl HGO.out), HQ5.out⟩, M5.out, HA18.out⟩
    | false =>
      have HN1 : Hid ((nextC c1).la = c1.la + 1) := by show _ = _; unfold nextC; rw [HGO.out]; rfl
      have hla0 := HP.out.la0
      have hla1 := HP.out.la1
      by_cases hz : c1.se = 0
      · have HA : Hid (askV c1 n1 = #[.int .i64 (c.la + 1), .int .i64 n1, .int .i64 0, .int .i64 0, .int .i64 0, .string ⟨#[]⟩, .string ⟨#[]⟩, .int .i64 0, .int .i64 0]) := by show _ = _; unfold askV; rw [HGO.out, if_pos (by rfl), if_pos hz, LA1.out]; rfl
        have HA5 : Hid (w5.heap[A18]? = some (.cells #[.int .i64 (c.la + 1), .int .i64 n1, .int .i64 0, .int .i64 0, .int .i64 0, .string ⟨#[]⟩, .string ⟨#[]⟩, .int .i64 0, .int .i64 0] 34 (0, 0))) := by rw [← HA.out]; exact HA18.out
        have x2 : w5.cell? ⟨A18, 2, none⟩ = some (.int .i64 0) := blk_at HA5.out 2 rfl
        have x3 : w5.cell? ⟨A18, 3, none⟩ = some (.int .i64 0) := blk_at HA5.out 3 rfl
        have x4 : w5.cell? ⟨A18, 4, none⟩ = some (.int .i64 0) := blk_at HA5.out 4 rfl
        have x5 : w5.cell? ⟨A18, 5, none⟩ = some (.string ⟨#[]⟩) := blk_at HA5.out 5 rfl
        have x6 : w5.cell? ⟨A18, 6, none⟩ = some (.string ⟨#[]⟩) := blk_at HA5.out 6 rfl
        have x7 : w5.cell? ⟨A18, 7, none⟩ = some (.int .i64 0) := blk_at HA5.out 7 rfl
        have x8 : w5.cell? ⟨A18, 8, none⟩ = some (.int .i64 0) := blk_at HA5.out 8 rfl
        go_upto_region 29 with fail
        obtain ⟨G20, HGe⟩ : ∃ G20, Hid (G20 = w5.heap.size) := ⟨_, rfl⟩
        obtain ⟨X6, hX6⟩ : ∃ X6, X6 = w5.alloc (.cells #[.int .i64 0, .int .i64 0, .int .i64 0, .string ⟨#[]⟩, .string ⟨#[]⟩, .int .i64 0, .int .i64 0] 32) := ⟨_, rfl⟩
        have KX6 : Hid (Kept Nil w5 X6) := by rw [hX6]; exact (Kept.refl _ _).alloc _
        have HG20 : Hid (X6.heap[G20]? = some (.cells #[.int .i64 0, .int .i64 0, .int .i64 0, .string ⟨#[]⟩, .string ⟨#[]⟩, .int .i64 0, .int .i64 0] 32 (0, 0))) := by rw [hX6, HGe.out]; exact blk_new _ _
        rw [← HGe.out, ← hX6]
        clear hX6 x2 x3 x4 x5 x6 x7 x8
        have HA6 : Hid (X6.heap[A18]? = some (.cells #[.int .i64 (c.la + 1), .int .i64 n1, .int .i64 0, .int .i64 0, .int .i64 0, .string ⟨#[]⟩, .string ⟨#[]⟩, .int .i64 0, .int .i64 0] 34 (0, 0))) := KX6.out.block _ _ HA5.out (fun x => x.elim)
        have HQ6 : Hid (X6.heap[Q]? = some (.cells #[.int .i64 ak, .string (bs akey), .string (bs aval), .int .i64 ai] 30 (0, 0))) := KX6.out.block _ _ HQ5.out (fun x => x.elim)
        have M6 : Hid (MO w X6 b (nextC c1) l an cn ko kc) := M5.out.next KX6.out
        have x0 : X6.cell? ⟨A18, 0, none⟩ = some (.int .i64 (c.la + 1)) := blk_at HA6.out 0 rfl
        have x1 : X6.cell? ⟨A18, 1, none⟩ = some (.int .i64 n1) := blk_at HA6.out 1 rfl
        have g0 : X6.cell? ⟨G20, 0, none⟩ = some (.int .i64 0) := blk_at HG20.out 0 rfl
        have g1 : X6.cell? ⟨G20, 1, none⟩ = some (.int .i64 0) := blk_at HG20.out 1 rfl
        have g2 : X6.cell? ⟨G20, 2, none⟩ = some (.int .i64 0) := blk_at HG20.out 2 rfl
        have g3 : X6.cell? ⟨G20, 3, none⟩ = some (.string ⟨#[]⟩) := blk_at HG20.out 3 rfl
        have g4 : X6.cell? ⟨G20, 4, none⟩ = some (.string ⟨#[]⟩) := blk_at HG20.out 4 rfl
        have g5 : X6.cell? ⟨G20, 5, none⟩ = some (.int .i64 0) := blk_at HG20.out 5 rfl
        have g6 : X6.cell? ⟨G20, 6, none⟩ = some (.int .i64 0) := blk_at HG20.out 6 rfl
        go_wp2
        go_meet
        exact ⟨sv, nv, rfl, rfl, by rw [HN1.out, LA1.out], ⟨ak, akey, aval, ai, OI1.out.next0 (.inr hz), HQ6.out⟩, M6.out, by rw [HA.out]; exact HA6.out⟩
      · have HA : Hid (askV c1 n1 = #[.int .i64 (c.la + 1), .int .i64 n1, .int .i64 c1.se, .int .i64 (c1.nu + 1), .int .i64 c1.ck, .string (bs c1.ckey), .string (bs c1.cval), .int .i64 c1.ci, .int .i64 0]) := by show _ = _; unfold askV; rw [HGO.out, if_pos (by rfl), if_neg hz, LA1.out]
        have HA5 : Hid (w5.heap[A18]? = some (.cells #[.int .i64 (c.la + 1), .int .i64 n1, .int .i64 c1.se, .int .i64 (c1.nu + 1), .int .i64 c1.ck, .string (bs c1.ckey), .string (bs c1.cval), .int .i64 c1.ci, .int .i64 0] 34 (0, 0))) := by rw [← HA.out]; exact HA18.out
        have x2 : w5.cell? ⟨A18, 2, none⟩ = some (.int .i64 c1.se) := blk_at HA5.out 2 rfl
        have x3 : w5.cell? ⟨A18, 3, none⟩ = some (.int .i64 (c1.nu + 1)) := blk_at HA5.out 3 rfl
        have x4 : w5.cell? ⟨A18, 4, none⟩ = some (.int .i64 c1.ck) := blk_at HA5.out 4 rfl
        have x5 : w5.cell? ⟨A18, 5, none⟩ = some (.string (bs c1.ckey)) := blk_at HA5.out 5 rfl
        have x6 : w5.cell? ⟨A18, 6, none⟩ = some (.string (bs c1.cval)) := blk_at HA5.out 6 rfl
        have x7 : w5.cell? ⟨A18, 7, none⟩ = some (.int .i64 c1.ci) := blk_at HA5.out 7 rfl
        have x8 : w5.cell? ⟨A18, 8, none⟩ = some (.int .i64 0) := blk_at HA5.out 8 rfl
        go_upto_region 29 with fail
        obtain ⟨G20, HGe⟩ : ∃ G20, Hid (G20 = w5.heap.size) := ⟨_, rfl⟩
        obtain ⟨X6, hX6⟩ : ∃ X6, X6 = w5.alloc (.cells #[.int .i64 c1.se, .int .i64 (c1.nu + 1), .int .i64 c1.ck, .string (bs c1.ckey), .string (bs c1.cval), .int .i64 c1.ci, .int .i64 0] 32) := ⟨_, rfl⟩
        have KX6 : Hid (Kept Nil w5 X6) := by rw [hX6]; exact (Kept.refl _ _).alloc _
        have HG20 : Hid (X6.heap[G20]? = some (.cells #[.int .i64 c1.se, .int .i64 (c1.nu + 1), .int .i64 c1.ck, .string (bs c1.ckey), .string (bs c1.cval), .int .i64 c1.ci, .int .i64 0] 32 (0, 0))) := by rw [hX6, HGe.out]; exact blk_new _ _
        rw [← HGe.out, ← hX6]
        clear hX6 x2 x3 x4 x5 x6 x7 x8
        have HA6 : Hid (X6.heap[A18]? = some (.cells #[.int .i64 (c.la + 1), .int .i64 n1, .int .i64 c1.se, .int .i64 (c1.nu + 1), .int .i64 c1.ck, .string (bs c1.ckey), .string (bs c1.cval), .int .i64 c1.ci, .int .i64 0] 34 (0, 0))) := KX6.out.block _ _ HA5.out (fun x => x.elim)
        have HQ6 : Hid (X6.heap[Q]? = some (.cells #[.int .i64 ak, .string (bs akey), .string (bs aval), .int .i64 ai] 30 (0, 0))) := KX6.out.block _ _ HQ5.out (fun x => x.elim)
        have M6 : Hid (MO w X6 b (nextC c1) l an cn ko kc) := M5.out.next KX6.out
        have x0 : X6.cell? ⟨A18, 0, none⟩ = some (.int .i64 (c.la + 1)) := blk_at HA6.out 0 rfl
        have x1 : X6.cell? ⟨A18, 1, none⟩ = some (.int .i64 n1) := blk_at HA6.out 1 rfl
        have g0 : X6.cell? ⟨G20, 0, none⟩ = some (.int .i64 c1.se) := blk_at HG20.out 0 rfl
        have g1 : X6.cell? ⟨G20, 1, none⟩ = some (.int .i64 (c1.nu + 1)) := blk_at HG20.out 1 rfl
        have g2 : X6.cell? ⟨G20, 2, none⟩ = some (.int .i64 c1.ck) := blk_at HG20.out 2 rfl
        have g3 : X6.cell? ⟨G20, 3, none⟩ = some (.string (bs c1.ckey)) := blk_at HG20.out 3 rfl
        have g4 : X6.cell? ⟨G20, 4, none⟩ = some (.string (bs c1.cval)) := blk_at HG20.out 4 rfl
        have g5 : X6.cell? ⟨G20, 5, none⟩ = some (.int .i64 c1.ci) := blk_at HG20.out 5 rfl
        have g6 : X6.cell? ⟨G20, 6, none⟩ = some (.int .i64 0) := blk_at HG20.out 6 rfl
        have hAQ : A18 ≠ Q := fun e => by have h8 := HQ6.out; rw [← e, HA6.out] at h8; simp at h8
        have hz1 : (c1.se == 0) = false := by simpa using hz
        have hz2 : (c1.se != 0) = true := by simpa using hz
        have hnu0 := P1.out.nu0
        have hnu1 := P1.out.nu1
        rcases OI1.out.s hz with ⟨e1, e2⟩ | ⟨e1, e2 | ⟨e2, _, e3, e4, e5, e6⟩⟩
        · have e7 : (c1.se == sv) = false := by rw [e1]; exact hz1
          have e8 : (c1.se != sv) = true := by rw [e1]; exact hz2
          have e9 : (c1.nu + 1 != 1) = false := by rw [e2]; rfl
          clear e1 e2 hz1
          have y0 : X6.cell? ⟨Q, 0, none⟩ = some (.int .i64 ak) := blk_at HQ6.out 0 rfl
          have y1 : X6.cell? ⟨Q, 1, none⟩ = some (.string (bs akey)) := blk_at HQ6.out 1 rfl
          have y2 : X6.cell? ⟨Q, 2, none⟩ = some (.string (bs aval)) := blk_at HQ6.out 2 rfl
          have y3 : X6.cell? ⟨Q, 3, none⟩ = some (.int .i64 ai) := blk_at HQ6.out 3 rfl
          have z0 : X6.frozen? ⟨Q, 0, none⟩ = false := blk_free HQ6.out 0
          have z1 : X6.frozen? ⟨Q, 1, none⟩ = false := blk_free HQ6.out 1
          have z2 : X6.frozen? ⟨Q, 2, none⟩ = false := blk_free HQ6.out 2
          have z3 : X6.frozen? ⟨Q, 3, none⟩ = false := blk_free HQ6.out 3
          obtain ⟨Y6, hY6⟩ : ∃ Y6, Y6 = ((((X6.setCell ⟨Q, 0, none⟩ (.int .i64 c1.ck)).setCell ⟨Q, 1, none⟩ (.string (bs c1.ckey))).setCell ⟨Q, 2, none⟩ (.string (bs c1.cval))).setCell ⟨Q, 3, none⟩ (.int .i64 c1.ci)) := ⟨_, rfl⟩
          have HY6 : Hid (Y6.heap[Q]? = some (.cells #[.int .i64 c1.ck, .string (bs c1.ckey), .string (bs c1.cval), .int .i64 c1.ci] 30 (0, 0)) ∧ MO w Y6 b (nextC c1) l an cn ko kc ∧ Y6.heap[A18]? = some (.cells (askV c1 n1) 34 (0, 0))) := by
            rw [hY6]
            exact ⟨put4 HQ6.out, ((((M6.out.set HQ6.out (by decide) hbQ hQn _ (i := 0)).set (blk_set HQ6.out 0 _) (by decide) hbQ hQn _ (i := 1)).set (blk_set (blk_set HQ6.out 0 _) 1 _) (by decide) hbQ hQn _ (i := 2)).set (blk_set (blk_set (blk_set HQ6.out 0 _) 1 _) 2 _) (by decide) hbQ hQn _ (i := 3)), by rw [HA.out]; exact (blk_other (a := ⟨Q, 3, none⟩) (blk_other (a := ⟨Q, 2, none⟩) (blk_other (a := ⟨Q, 1, none⟩) (blk_other (a := ⟨Q, 0, none⟩) HA6.out hAQ _) hAQ _) hAQ _) hAQ _)⟩
          go_wp2
          rw [← hY6]
          go_meet
          exact ⟨c1.se, c1.nu + 1, rfl, rfl, by rw [HN1.out, LA1.out], ⟨_, _, _, _, OI1.out.ask HGO.out hz, HY6.out.1⟩, HY6.out.2.1, HY6.out.2.2⟩
        · have e7 : (c1.se == sv) = true := by rw [e1]; simp
          have e8 : (c1.se != sv) = false := by rw [e1]; simp
          have e9 : ¬ c1.nu + 1 < nv := by omega
          have e10 : ¬ c1.nu + 1 > nv + 1 := by omega
          have e11 : (c1.nu + 1 == nv) = false := by simp; omega
          have e12 : IntKind.i64.wrap (nv + 1) = nv + 1 := by rw [IntKind.wrap_i64]; omega
          clear e1 e2 hz1
          have y0 : X6.cell? ⟨Q, 0, none⟩ = some (.int .i64 ak) := blk_at HQ6.out 0 rfl
          have y1 : X6.cell? ⟨Q, 1, none⟩ = some (.string (bs akey)) := blk_at HQ6.out 1 rfl
          have y2 : X6.cell? ⟨Q, 2, none⟩ = some (.string (bs aval)) := blk_at HQ6.out 2 rfl
          have y3 : X6.cell? ⟨Q, 3, none⟩ = some (.int .i64 ai) := blk_at HQ6.out 3 rfl
          have z0 : X6.frozen? ⟨Q, 0, none⟩ = false := blk_free HQ6.out 0
          have z1 : X6.frozen? ⟨Q, 1, none⟩ = false := blk_free HQ6.out 1
          have z2 : X6.frozen? ⟨Q, 2, none⟩ = false := blk_free HQ6.out 2
          have z3 : X6.frozen? ⟨Q, 3, none⟩ = false := blk_free HQ6.out 3
          obtain ⟨Y6, hY6⟩ : ∃ Y6, Y6 = ((((X6.setCell ⟨Q, 0, none⟩ (.int .i64 c1.ck)).setCell ⟨Q, 1, none⟩ (.string (bs c1.ckey))).setCell ⟨Q, 2, none⟩ (.string (bs c1.cval))).setCell ⟨Q, 3, none⟩ (.int .i64 c1.ci)) := ⟨_, rfl⟩
          have HY6 : Hid (Y6.heap[Q]? = some (.cells #[.int .i64 c1.ck, .string (bs c1.ckey), .string (bs c1.cval), .int .i64 c1.ci] 30 (0, 0)) ∧ MO w Y6 b (nextC c1) l an cn ko kc ∧ Y6.heap[A18]? = some (.cells (askV c1 n1) 34 (0, 0))) := by
            rw [hY6]
            exact ⟨put4 HQ6.out, ((((M6.out.set HQ6.out (by decide) hbQ hQn _ (i := 0)).set (blk_set HQ6.out 0 _) (by decide) hbQ hQn _ (i := 1)).set (blk_set (blk_set HQ6.out 0 _) 1 _) (by decide) hbQ hQn _ (i := 2)).set (blk_set (blk_set (blk_set HQ6.out 0 _) 1 _) 2 _) (by decide) hbQ hQn _ (i := 3)), by rw [HA.out]; exact (blk_other (a := ⟨Q, 3, none⟩) (blk_other (a := ⟨Q, 2, none⟩) (blk_other (a := ⟨Q, 1, none⟩) (blk_other (a := ⟨Q, 0, none⟩) HA6.out hAQ _) hAQ _) hAQ _) hAQ _)⟩
          go_wp2
          rw [← hY6]
          go_meet
          exact ⟨c1.se, c1.nu + 1, rfl, rfl, by rw [HN1.out, LA1.out], ⟨_, _, _, _, OI1.out.ask HGO.out hz, HY6.out.1⟩, HY6.out.2.1, HY6.out.2.2⟩
        · have e7 : (c1.se == sv) = true := by rw [e1]; simp
          have e8 : (c1.se != sv) = false := by rw [e1]; simp
          have e9 : ¬ c1.nu + 1 < nv := by omega
          have e10 : ¬ c1.nu + 1 > nv + 1 := by omega
          have e11 : (c1.nu + 1 == nv) = true := by simp; omega
          have e12 : IntKind.i64.wrap (nv + 1) = nv + 1 := by rw [IntKind.wrap_i64]; omega
          subst e3 e4 e5 e6
          clear e1 e2 hz1
          have y0 : X6.cell? ⟨Q, 0, none⟩ = some (.int .i64 c1.ck) := blk_at HQ6.out 0 rfl
          have y1 : X6.cell? ⟨Q, 1, none⟩ = some (.string (bs c1.ckey)) := blk_at HQ6.out 1 rfl
          have y2 : X6.cell? ⟨Q, 2, none⟩ = some (.string (bs c1.cval)) := blk_at HQ6.out 2 rfl
          have y3 : X6.cell? ⟨Q, 3, none⟩ = some (.int .i64 c1.ci) := blk_at HQ6.out 3 rfl
          have z0 : X6.frozen? ⟨Q, 0, none⟩ = false := blk_free HQ6.out 0
          have z1 : X6.frozen? ⟨Q, 1, none⟩ = false := blk_free HQ6.out 1
          have z2 : X6.frozen? ⟨Q, 2, none⟩ = false := blk_free HQ6.out 2
          have z3 : X6.frozen? ⟨Q, 3, none⟩ = false := blk_free HQ6.out 3
          obtain ⟨Y6, hY6⟩ : ∃ Y6, Y6 = ((((X6.setCell ⟨Q, 0, none⟩ (.int .i64 c1.ck)).setCell ⟨Q, 1, none⟩ (.string (bs c1.ckey))).setCell ⟨Q, 2, none⟩ (.string (bs c1.cval))).setCell ⟨Q, 3, none⟩ (.int .i64 c1.ci)) := ⟨_, rfl⟩
          have HY6 : Hid (Y6.heap[Q]? = some (.cells #[.int .i64 c1.ck, .string (bs c1.ckey), .string (bs c1.cval), .int .i64 c1.ci] 30 (0, 0)) ∧ MO w Y6 b (nextC c1) l an cn ko kc ∧ Y6.heap[A18]? = some (.cells (askV c1 n1) 34 (0, 0))) := by
            rw [hY6]
            exact ⟨put4 HQ6.out, ((((M6.out.set HQ6.out (by decide) hbQ hQn _ (i := 0)).set (blk_set HQ6.out 0 _) (by decide) hbQ hQn _ (i := 1)).set (blk_set (blk_set HQ6.out 0 _) 1 _) (by decide) hbQ hQn _ (i := 2)).set (blk_set (blk_set (blk_set HQ6.out 0 _) 1 _) 2 _) (by decide) hbQ hQn _ (i := 3)), by rw [HA.out]; exact (blk_other (a := ⟨Q, 3, none⟩) (blk_other (a := ⟨Q, 2, none⟩) (blk_other (a := ⟨Q, 1, none⟩) (blk_other (a := ⟨Q, 0, none⟩) HA6.out hAQ _) hAQ _) hAQ _) hAQ _)⟩
          go_wp2
          rw [← hY6]
          go_meet
          exact ⟨c1.se, c1.nu + 1, rfl, rfl, by rw [HN1.out, LA1.out], ⟨_, _, _, _, OI1.out.ask HGO.out hz, HY6.out.1⟩, HY6.out.2.1, HY6.out.2.2⟩
  case rest =>
    obtain ⟨sv2, nv2, rfl, rfl, rfl, HAS, M6, HA6⟩ := hcut
    rename World => w6
    obtain ⟨ak2, akey2, aval2, ai2, oi2, hq6⟩ := HAS.out
    have HQ6 : Hid (w6.heap[Q]? = some (.cells #[.int .i64 ak2, .string (bs akey2), .string (bs aval2), .int .i64 ai2] 30 (0, 0))) := hq6
    obtain ⟨c2, HC2⟩ : ∃ c2, Hid (c2 = nextC c1) := ⟨_, rfl⟩
    rw [← HC2.out] at oi2 M6 ⊢
    have OI2 : Hid (OI c2 sv2 nv2 ak2 akey2 aval2 ai2) := oi2
    clear oi2 hq6 HAS
    have P2 : Hid (PC (2 * k + 1) l.length c2) := by rw [HC2.out]; exact P1.out.next
    have G2 : Hid (goes c2 = false) := by show _ = _; rw [HC2.out]; exact goes_next
    have N2 : Hid (nextC c2 = c2) := by show _ = _; rw [HC2.out]; exact next_next
    have HFR0 : Hid (tv = false → c1.se ≠ 0 → ∀ (er rk rver : Int) (rval : List UInt8) (ks : List (List UInt8)), er = 0 → (tickC (ansC c2 l.length c2.la er rk rval rver ks) l.length).st = 2) := fun e1 e2 er rk rver rval ks e4 => by
      rw [HC2.out]
      exact fresh_done OI1.out (by rw [HGO.out, e1]; rfl) e2 e4
    apply_assumption
    refine coTail42 w w6 b cn kc Q A18 k cs c1 c2 l an ko a ss s tv n1 sv2 nv2 ak2 ai2 akey2 aval2 _ _ _ _ _ _ _ _ _ _ _ _ _ _ _ _ _ _ _ _ _ _ _ _ _ _ _ _ _ _ _ _ _ _ _ _ _ _ _ _ _ _ _ _ _ _ _ _ _ _ _ _ _ _ _ _ _ _ _ _ _ _ _ _ _ _ _ _ _ _ _ _ _ _ _ _ _ _ _ _ _ _ _ _ _ _ _ _ _ _ _ _ _ _ _ _ _ _ _ _ _ _ _ _ _ _ _ _ _ _ _ _ _ _ _ _ _ _ _ _ _ _ _ _ _ _ _ _ _ _ _ _ _ _ _ _ _ _ _ _ _ _ _ _ _ _ _ _ _ _ _ _ _ _ _ _ _ _ _ _ _ _ _ _ _ _ _ _ _ _ _ _ _ _ _ _ _ _ _ _ _ _ _ _ _ _ _ _ _ _ _ _ _ _ _ _ _ _ _ _ _ _ _ _ _ _ _ _ _ _ _ _ _ _ _ _ _ _ _ _ _ _ _ _ _ _ _ _ _ _ _ _ _ _ _ _ _ _ _ _ _ _ _ _ _ _ _ _ _ _ _ _ _ _ _ _ _ _ _ _ _ _ _ _ _ ?_ M6 HQ6 HA6 HCX HKl P2 OI2 G2 N2 HGO HFR0 hbQ hAb hl5 hki hk14 haB
    intro u4 u21 u22 u23 u24 u25 u26 u27 u28 u180 u181 u182 u183 u184 u185 u186 u187 u188 u189 u190 u191 u192 u193 u194 u195 u196 u197 u198 u199 u200 u201 u202 u203 u204 u205 u206 u207 u208 u209 u210 u211 u212 u213 u214 u215 u216 u217 u218 u219 u220 u221 u222 u223 u224 u225 u226 u227 u228 u229 u230 u231 u232 u233 u234 u235 u236 u237 u238 u239 u240 u241 u242 u243 u244 u245 u246 u247 u248 u249 u250 u251 u252 u253 u254 u255 u256 u257 u258 u259 u260 u261 u262 u263 u264 u265 u266 u267 u268 c5 wz h1
    obtain ⟨ko9, kc9, ak9, akey9, aval9, ai9, m9, p9, o9, s9, q9, e9⟩ := h1.out
    rw [← e9]
    exact HKK.out _ _ _ _ _ _ _ _ _ _ _ _ _ _ _ _ _ _ _ _ _ _ _ _ _ _ _ _ _ _ _ _ _ _ _ _ _ _ _ _ _ _ _ _ _ _ _ _ _ _ _ _ _ _ _ _ _ _ _ _ _ _ _ _ _ _ _ _ _ _ _ _ _ _ _ _ _ _ _ _ _ _ _ _ _ _ _ _ _ _ _ _ _ _ _ _ _ _ _ _ _ _ _ _ _ _ _ _ _ _ _ _ _ _ _ _ _ _ _ _ _ _ _ _ _ _ _ _ _ _ _ _ _ _ _ _ _ _ _ _ _ _ _ _ _ _ _ _ _ _ _ _ _ _ _ _ _ _ _ _ _ _ _ _ _ _ _ _ _ _ _ _ _ _ _ _ _ _ _ _ _ _ _ _ _ _ _ c5 sv2 nv2 wz ⟨ko9, kc9, ak9, akey9, aval9, ai9, m9, p9, o9, s9, q9⟩

end Go.Proofs.Ytbfleeilpccmcaa
