/-
  ClientOnce: a round from the first look on.
-/
import Derived.Test.YtbfleeilpccmcaaWCoB
import Derived.Deep.DeepCutAuto
import Derived.Deep.DeepFit
import Derived.Deep.RegionHeld3
namespace Go.Proofs.Ytbfleeilpccmcaa
open Go.RowKit

noncomputable def cT19 : Code := (Try.f4.body.bind (findTailC 19)).getD .skip

set_option maxRecDepth 1000000 in
set_option maxHeartbeats 40000000 in
theorem coTail19 (w w1 : World) (b cn kc Q k cs c0 B14 : Nat) (c : Cl) (l : List Int) (an ao ko : Option Addr) (a : Addr) (ss : List An) (s : An) (sv nv ak ai : Int) (akey aval v : List UInt8) (fv0 fv2 fv3 fv4 fv6 fv8 fv15 fv16 fv17 fv18 fv19 fv20 fv21 fv22 fv23 fv24 fv25 fv26 fv27 fv28 fv29 fv30 fv31 fv32 fv33 fv34 fv35 fv36 fv37 fv38 fv39 fv40 fv41 fv42 fv43 fv44 fv45 fv46 fv47 fv48 fv49 fv50 fv51 fv52 fv53 fv54 fv55 fv56 fv57 fv58 fv59 fv60 fv61 fv62 fv63 fv64 fv65 fv66 fv67 fv68 fv69 fv70 fv71 fv72 fv73 fv74 fv75 fv76 fv77 fv78 fv79 fv80 fv81 fv82 fv83 fv84 fv85 fv86 fv87 fv88 fv89 fv90 fv91 fv92 fv93 fv94 fv95 fv96 fv97 fv98 fv99 fv100 fv101 fv102 fv103 fv104 fv105 fv106 fv107 fv108 fv109 fv110 fv111 fv112 fv113 fv114 fv115 fv116 fv117 fv118 fv119 fv120 fv121 fv122 fv123 fv124 fv125 fv126 fv127 fv128 fv129 fv130 fv131 fv132 fv133 fv134 fv135 fv136 fv137 fv138 fv139 fv140 fv141 fv142 fv143 fv144 fv145 fv146 fv147 fv148 fv149 fv150 fv151 fv152 fv153 fv154 fv155 fv156 fv157 fv158 fv159 fv160 fv161 fv162 fv163 fv164 fv165 fv166 fv167 fv168 fv169 fv170 fv171 fv172 fv173 fv174 fv175 fv176 fv177 fv178 fv179 fv180 fv181 fv182 fv183 fv184 fv185 fv186 fv187 fv188 fv189 fv190 fv191 fv192 fv193 fv194 fv195 fv196 fv197 fv198 fv199 fv200 fv201 fv202 fv203 fv204 fv205 fv206 fv207 fv208 fv209 fv210 fv211 fv212 fv213 fv214 fv215 fv216 fv217 fv218 fv219 fv220 fv221 fv222 fv223 fv224 fv225 fv226 fv227 fv228 fv229 fv230 fv231 fv232 fv233 fv234 fv235 fv236 fv237 fv238 fv239 fv240 fv241 fv242 fv243 fv244 fv245 fv246 fv247 fv248 fv249 fv250 fv251 fv252 fv253 fv254 fv255 fv256 fv257 fv258 fv259 fv260 fv261 fv262 fv263 fv264 fv265 fv266 fv267 fv268 : Value) (K1 : Act → World → Prop) (Q9 : Exit → Act → World → Prop)
    (hK : ∀ (u4 u15 u16 u17 u18 u19 u20 u21 u22 u23 u24 u25 u26 u27 u28 u66 u67 u68 u69 u70 u71 u72 u73 u74 u75 u76 u77 u78 u79 u80 u81 u82 u83 u84 u85 u86 u87 u88 u89 u90 u91 u92 u93 u94 u95 u96 u97 u98 u99 u100 u101 u102 u103 u104 u105 u106 u107 u108 u109 u110 u111 u112 u113 u114 u115 u116 u117 u118 u119 u120 u121 u122 u123 u124 u125 u126 u127 u128 u129 u130 u131 u132 u133 u134 u135 u136 u137 u138 u139 u140 u141 u142 u143 u144 u145 u146 u147 u148 u149 u150 u151 u152 u153 u154 u155 u156 u157 u158 u159 u160 u161 u162 u163 u164 u165 u166 u167 u168 u169 u170 u171 u172 u173 u174 u175 u176 u177 u178 u179 u180 u181 u182 u183 u184 u185 u186 u187 u188 u189 u190 u191 u192 u193 u194 u195 u196 u197 u198 u199 u200 u201 u202 u203 u204 u205 u206 u207 u208 u209 u210 u211 u212 u213 u214 u215 u216 u217 u218 u219 u220 u221 u222 u223 u224 u225 u226 u227 u228 u229 u230 u231 u232 u233 u234 u235 u236 u237 u238 u239 u240 u241 u242 u243 u244 u245 u246 u247 u248 u249 u250 u251 u252 u253 u254 u255 u256 u257 u258 u259 u260 u261 u262 u263 u264 u265 u266 u267 u268 : Value) (c5 : Cl) (sv2 nv2 : Int) (wc : World), Hid (∃ ko kc ak akey aval ai, MO w wc b c5 l an cn ko kc ∧ PC (2 * ((k + 1 : Nat) : Int)) l.length c5 ∧ OI c5 sv2 nv2 ak akey aval ai ∧ (c5.st = 0 ∨ c5.st = 1) ∧ wc.heap[Q]? = some (.cells #[.int .i64 ak, .string (bs akey), .string (bs aval), .int .i64 ai] 30 (0, 0))) → K1 ⟨#[fv0, .slice (some a) ss.length cs, fv2, fv3, u4, .slice ao l.length c0, fv6, .pointer (some ⟨b, 0, none⟩), fv8, .int .i64 sv2, .int .i64 nv2, .pointer (some ⟨Q, 0, none⟩), .int .i64 c5.la, .int .i64 k, .pointer (some ⟨B14, 0, none⟩), u15, u16, u17, u18, u19, u20, u21, u22, u23, u24, u25, u26, u27, u28, fv29, fv30, fv31, fv32, fv33, fv34, fv35, fv36, fv37, fv38, fv39, fv40, fv41, fv42, fv43, fv44, fv45, fv46, fv47, fv48, fv49, fv50, fv51, fv52, fv53, fv54, fv55, fv56, fv57, fv58, fv59, fv60, fv61, fv62, fv63, fv64, fv65, u66, u67, u68, u69, u70, u71, u72, u73, u74, u75, u76, u77, u78, u79, u80, u81, u82, u83, u84, u85, u86, u87, u88, u89, u90, u91, u92, u93, u94, u95, u96, u97, u98, u99, u100, u101, u102, u103, u104, u105, u106, u107, u108, u109, u110, u111, u112, u113, u114, u115, u116, u117, u118, u119, u120, u121, u122, u123, u124, u125, u126, u127, u128, u129, u130, u131, u132, u133, u134, u135, u136, u137, u138, u139, u140, u141, u142, u143, u144, u145, u146, u147, u148, u149, u150, u151, u152, u153, u154, u155, u156, u157, u158, u159, u160, u161, u162, u163, u164, u165, u166, u167, u168, u169, u170, u171, u172, u173, u174, u175, u176, u177, u178, u179, u180, u181, u182, u183, u184, u185, u186, u187, u188, u189, u190, u191, u192, u193, u194, u195, u196, u197, u198, u199, u200, u201, u202, u203, u204, u205, u206, u207, u208, u209, u210, u211, u212, u213, u214, u215, u216, u217, u218, u219, u220, u221, u222, u223, u224, u225, u226, u227, u228, u229, u230, u231, u232, u233, u234, u235, u236, u237, u238, u239, u240, u241, u242, u243, u244, u245, u246, u247, u248, u249, u250, u251, u252, u253, u254, u255, u256, u257, u258, u259, u260, u261, u262, u263, u264, u265, u266, u267, u268], []⟩ wc)
    (M1 : Hid (MO w w1 b c l an cn ko kc)) (HQ1 : Hid (w1.heap[Q]? = some (.cells #[.int .i64 ak, .string (bs akey), .string (bs aval), .int .i64 ai] 30 (0, 0)))) (HB14 : Hid (w1.heap[B14]? = some (.cells #[.int .i64 1, .string (bs [107]), .string (bs v), .int .i64 0] 30 (0, 0)))) (HV1 : Hid (v.length = 1)) (HOI : Hid (OI c sv nv ak akey aval ai)) (HST : Hid (c.st = 0 ∨ c.st = 1)) (HCX : Hid (∀ X, Kept Nil w X → (X.cell? (a.add (k * 6)) = some (.int .i64 s.tk) ∧ X.cell? ⟨(a.add (k * 6)).block, (a.add (k * 6)).off + 1, none⟩ = some (.int .i64 s.er) ∧ X.cell? ⟨(a.add (k * 6)).block, (a.add (k * 6)).off + 2, none⟩ = some (.int .i64 s.rk) ∧ X.cell? ⟨(a.add (k * 6)).block, (a.add (k * 6)).off + 3, none⟩ = some (.string (bs s.rval)) ∧ X.cell? ⟨(a.add (k * 6)).block, (a.add (k * 6)).off + 4, none⟩ = some (.int .i64 s.rver) ∧ X.cell? ⟨(a.add (k * 6)).block, (a.add (k * 6)).off + 5, none⟩ = some (.slice s.ao s.ks.length s.cc)) ∧ KIn (fun k => k < w.heap.size) X s.ao s.cc s.ks)) (HKl : Hid (s.ks.length ≤ 8796093022200 ∧ ∀ k ∈ s.ks, k.length ≤ maxLen)) (HP : Hid (PC (2 * k) l.length c)) (HLat : Hid (∀ j (hj : j < l.length), l[j] = (j : Int) + 1)) (hbQ : b ≠ Q) (hQn : w.heap.size ≤ Q) (hl5 : l.length ≤ 5) (hki : (k : Int) < ss.length) (hk14 : (k : Int) ≤ 16384) (haB : a.block < w.heap.size) :
    Code.wp Try.prog cT19 (Exit.inBlock 3 (Exit.then K1 Q9)) ⟨#[fv0, .slice (some a) ss.length cs, fv2, fv3, fv4, .slice ao l.length c0, fv6, .pointer (some ⟨b, 0, none⟩), fv8, .int .i64 sv, .int .i64 nv, .pointer (some ⟨Q, 0, none⟩), .int .i64 c.la, .int .i64 k, .pointer (some ⟨B14, 0, none⟩), fv15, fv16, fv17, fv18, fv19, fv20, fv21, fv22, fv23, fv24, fv25, fv26, fv27, fv28, fv29, fv30, fv31, fv32, fv33, fv34, fv35, fv36, fv37, fv38, fv39, fv40, fv41, fv42, fv43, fv44, fv45, fv46, fv47, fv48, fv49, fv50, fv51, fv52, fv53, fv54, fv55, fv56, fv57, fv58, fv59, fv60, fv61, fv62, fv63, fv64, fv65, fv66, fv67, fv68, fv69, fv70, fv71, fv72, fv73, fv74, fv75, fv76, fv77, fv78, fv79, fv80, fv81, fv82, fv83, fv84, fv85, fv86, fv87, fv88, fv89, fv90, fv91, fv92, fv93, fv94, fv95, fv96, fv97, fv98, fv99, fv100, fv101, fv102, fv103, fv104, fv105, fv106, fv107, fv108, fv109, fv110, fv111, fv112, fv113, fv114, fv115, fv116, fv117, fv118, fv119, fv120, fv121, fv122, fv123, fv124, fv125, fv126, fv127, fv128, fv129, fv130, fv131, fv132, fv133, fv134, fv135, fv136, fv137, fv138, fv139, fv140, fv141, fv142, fv143, fv144, fv145, fv146, fv147, fv148, fv149, fv150, fv151, fv152, fv153, fv154, fv155, fv156, fv157, fv158, fv159, fv160, fv161, fv162, fv163, fv164, fv165, fv166, fv167, fv168, fv169, fv170, fv171, fv172, fv173, fv174, fv175, fv176, fv177, fv178, fv179, fv180, fv181, fv182, fv183, fv184, fv185, fv186, fv187, fv188, fv189, fv190, fv191, fv192, fv193, fv194, fv195, fv196, fv197, fv198, fv199, fv200, fv201, fv202, fv203, fv204, fv205, fv206, fv207, fv208, fv209, fv210, fv211, fv212, fv213, fv214, fv215, fv216, fv217, fv218, fv219, fv220, fv221, fv222, fv223, fv224, fv225, fv226, fv227, fv228, fv229, fv230, fv231, fv232, fv233, fv234, fv235, fv236, fv237, fv238, fv239, fv240, fv241, fv242, fv243, fv244, fv245, fv246, fv247, fv248, fv249, fv250, fv251, fv252, fv253, fv254, fv255, fv256, fv257, fv258, fv259, fv260, fv261, fv262, fv263, fv264, fv265, fv266, fv267, fv268], []⟩ w1 := by
  have HKK : Hid (∀ (u4 u15 u16 u17 u18 u19 u20 u21 u22 u23 u24 u25 u26 u27 u28 u66 u67 u68 u69 u70 u71 u72 u73 u74 u75 u76 u77 u78 u79 u80 u81 u82 u83 u84 u85 u86 u87 u88 u89 u90 u91 u92 u93 u94 u95 u96 u97 u98 u99 u100 u101 u102 u103 u104 u105 u106 u107 u108 u109 u110 u111 u112 u113 u114 u115 u116 u117 u118 u119 u120 u121 u122 u123 u124 u125 u126 u127 u128 u129 u130 u131 u132 u133 u134 u135 u136 u137 u138 u139 u140 u141 u142 u143 u144 u145 u146 u147 u148 u149 u150 u151 u152 u153 u154 u155 u156 u157 u158 u159 u160 u161 u162 u163 u164 u165 u166 u167 u168 u169 u170 u171 u172 u173 u174 u175 u176 u177 u178 u179 u180 u181 u182 u183 u184 u185 u186 u187 u188 u189 u190 u191 u192 u193 u194 u195 u196 u197 u198 u199 u200 u201 u202 u203 u204 u205 u206 u207 u208 u209 u210 u211 u212 u213 u214 u215 u216 u217 u218 u219 u220 u221 u222 u223 u224 u225 u226 u227 u228 u229 u230 u231 u232 u233 u234 u235 u236 u237 u238 u239 u240 u241 u242 u243 u244 u245 u246 u247 u248 u249 u250 u251 u252 u253 u254 u255 u256 u257 u258 u259 u260 u261 u262 u263 u264 u265 u266 u267 u268 : Value) (c5 : Cl) (sv2 nv2 : Int) (wc : World), Hid (∃ ko kc ak akey aval ai, MO w wc b c5 l an cn ko kc ∧ PC (2 * ((k + 1 : Nat) : Int)) l.length c5 ∧ OI c5 sv2 nv2 ak akey aval ai ∧ (c5.st = 0 ∨ c5.st = 1) ∧ wc.heap[Q]? = some (.cells #[.int .i64 ak, .string (bs akey), .string (bs aval), .int .i64 ai] 30 (0, 0))) → K1 ⟨#[fv0, .slice (some a) ss.length cs, fv2, fv3, u4, .slice ao l.length c0, fv6, .pointer (some ⟨b, 0, none⟩), fv8, .int .i64 sv2, .int .i64 nv2, .pointer (some ⟨Q, 0, none⟩), .int .i64 c5.la, .int .i64 k, .pointer (some ⟨B14, 0, none⟩), u15, u16, u17, u18, u19, u20, u21, u22, u23, u24, u25, u26, u27, u28, fv29, fv30, fv31, fv32, fv33, fv34, fv35, fv36, fv37, fv38, fv39, fv40, fv41, fv42, fv43, fv44, fv45, fv46, fv47, fv48, fv49, fv50, fv51, fv52, fv53, fv54, fv55, fv56, fv57, fv58, fv59, fv60, fv61, fv62, fv63, fv64, fv65, u66, u67, u68, u69, u70, u71, u72, u73, u74, u75, u76, u77, u78, u79, u80, u81, u82, u83, u84, u85, u86, u87, u88, u89, u90, u91, u92, u93, u94, u95, u96, u97, u98, u99, u100, u101, u102, u103, u104, u105, u106, u107, u108, u109, u110, u111, u112, u113, u114, u115, u116, u117, u118, u119, u120, u121, u122, u123, u124, u125, u126, u127, u128, u129, u130, u131, u132, u133, u134, u135, u136, u137, u138, u139, u140, u141, u142, u143, u144, u145, u146, u147, u148, u149, u150, u151, u152, u153, u154, u155, u156, u157, u158, u159, u160, u161, u162, u163, u164, u165, u166, u167, u168, u169, u170, u171, u172, u173, u174, u175, u176, u177, u178, u179, u180, u181, u182, u183, u184, u185, u186, u187, u188, u189, u190, u191, u192, u193, u194, u195, u196, u197, u198, u199, u200, u201, u202, u203, u204, u205, u206, u207, u208, u209, u210, u211, u212, u213, u214, u215, u216, u217, u218, u219, u220, u221, u222, u223, u224, u225, u226, u227, u228, u229, u230, u231, u232, u233, u234, u235, u236, u237, u238, u239, u240, u241, u242, u243, u244, u245, u246, u247, u248, u249, u250, u251, u252, u253, u254, u255, u256, u257, u258, u259, u260, u261, u262, u263, u264, u265, u266, u267, u268], []⟩ wc) := hK
  clear hK
  conv => arg 2; whnf
  dsimp only
  obtain ⟨bv, HBV⟩ : ∃ bv, Hid (bv = (c.st == 1)) := ⟨_, rfl⟩
  have hx : c.nx < l.length := HP.out.nx
  obtain ⟨nd, hnd⟩ : ∃ nd, l[c.nx] = nd := ⟨_, rfl⟩
  have LK := look_any b l.length cn kc c an ko l w1.heap.size w1 M1.out.cl M1.out.row rfl hx
  rw [hnd, ← HBV.out] at LK
  have hfd : ∀ X : World, (Instr.field 49 (.agg #[.int .i64 c.se, .int .i64 c.nu, .int .i64 nd, .bool c.wt, .bool bv]) 4).run Try.prog X = .ok (.bool bv) X := fun _ => by kernel_rfl
  go_upto_region 20 with (go_at_call 12; go_fit LK; rintro _ w2 ⟨rfl, k2⟩; have K2 : Hid (Kept Nil w1 w2) := k2; clear k2; dsimp only)
  have M2 : Hid (MO w w2 b c l an cn ko kc) := M1.out.next K2.out
  have HB2 : Hid (w2.heap[B14]? = some (.cells #[.int .i64 1, .string (bs [107]), .string (bs v), .int .i64 0] 30 (0, 0))) := K2.out.block _ _ HB14.out (fun x => x.elim)
  have HQ2 : Hid (w2.heap[Q]? = some (.cells #[.int .i64 ak, .string (bs akey), .string (bs aval), .int .i64 ai] 30 (0, 0))) := K2.out.block _ _ HQ1.out (fun x => x.elim)
  have d0 : w2.cell? ⟨B14, 0, none⟩ = some (.int .i64 1) := blk_at HB2.out 0 rfl
  have d1 : w2.cell? ⟨B14, 1, none⟩ = some (.string (bs [107])) := blk_at HB2.out 1 rfl
  have d2 : w2.cell? ⟨B14, 2, none⟩ = some (.string (bs v)) := blk_at HB2.out 2 rfl
  have d3 : w2.cell? ⟨B14, 3, none⟩ = some (.int .i64 0) := blk_at HB2.out 3 rfl
  obtain ⟨ev, HEV⟩ : ∃ ev, Hid (ev = wantE c 1 [107] v 0) := ⟨_, rfl⟩
  obtain ⟨c1, HC1⟩ : ∃ c1, Hid (c1 = wantC c 1 [107] v 0) := ⟨_, rfl⟩
  have hev : (ev == 0) = !bv := by
    rw [HEV.out, HBV.out, (want_st HST.out HV1.out).2]
    rcases HST.out with e | e <;> rw [e] <;> rfl
  have ST1 : Hid (c1.st = 1) := by show _ = _; rw [HC1.out]; exact (want_st HST.out HV1.out).1
  have P1 : Hid (PC (2 * k) l.length c1) := by rw [HC1.out]; exact HP.out.want _ _ _ _
  have OI1 : Hid (OI c1 sv nv ak akey aval ai) := by rw [HC1.out]; exact HOI.out.want _ _ _ _
  have LA1 : Hid (c1.la = c.la) := by show _ = _; rw [HC1.out]; unfold wantC; split; split <;> rfl; rfl
  have WN := want_any b l.length cn kc c an ko 1 0 [107] v w2 M2.out.cl (by decide) (by rw [HV1.out]; decide)
  rw [← HEV.out, ← HC1.out] at WN
  go_upto_region 23 with (go_at_call 6; go_fit WN; rintro _ w3 ⟨rfl, h3, k3⟩; have M3 : Hid (MO w w3 b c1 l an cn ko kc) := M2.out.call k3 h3; have K3 : Hid (Kept (One b) w2 w3) := k3; clear h3 k3; try dsimp only)
  have HQ3 : Hid (w3.heap[Q]? = some (.cells #[.int .i64 ak, .string (bs akey), .string (bs aval), .int .i64 ai] 30 (0, 0))) := K3.out.block _ _ HQ2.out (fun e => hbQ (show Q = b from e).symm)
  clear d0 d1 d2 d3 hev HBV
  have hx1 : c1.nx < l.length := P1.out.nx
  obtain ⟨n1, hn1⟩ : ∃ n1, l[c1.nx] = n1 := ⟨_, rfl⟩
  have hna : ¬ n1 < 1 := by rw [← hn1, HLat.out]; omega
  have hnb : ¬ n1 > l.length := by rw [← hn1, HLat.out]; omega
  obtain ⟨tv, HTV⟩ : ∃ tv, Hid (tv = c1.wt) := ⟨_, rfl⟩
  have LK3 := look_any b l.length cn kc c1 an ko l w3.heap.size w3 M3.out.cl M3.out.row rfl hx1
  rw [hn1, ← HTV.out, show (c1.st == 1) = true by rw [ST1.out]; rfl] at LK3
  go_upto_region 24 with (go_at_call 12; go_fit LK3; rintro _ w4 ⟨rfl, k4⟩; have K4 : Hid (Kept Nil w3 w4) := k4; clear k4; dsimp only)
  obtain ⟨S17, HSe⟩ : ∃ S17, Hid (S17 = w4.heap.size) := ⟨_, rfl⟩
  obtain ⟨X4, hX4⟩ : ∃ X4, X4 = w4.alloc (.cells #[.int .i64 c1.se, .int .i64 c1.nu, .int .i64 n1, .bool tv, .bool true] 49) := ⟨_, rfl⟩
  have KX4 : Hid (Kept Nil w3 X4) := by rw [hX4]; exact K4.out.alloc _
  have HS17 : Hid (X4.heap[S17]? = some (.cells #[.int .i64 c1.se, .int .i64 c1.nu, .int .i64 n1, .bool tv, .bool true] 49 (0, 0))) := by rw [hX4, HSe.out]; exact blk_new _ _
  rw [← HSe.out, ← hX4]
  clear hX4
  have M4 : Hid (MO w X4 b c1 l an cn ko kc) := M3.out.next KX4.out
  have HQ4 : Hid (X4.heap[Q]? = some (.cells #[.int .i64 ak, .string (bs akey), .string (bs aval), .int .i64 ai] 30 (0, 0))) := KX4.out.block _ _ HQ3.out (fun x => x.elim)
  have hSb : S17 ≠ b := by have := lt_of_block M3.out.cl; have := K4.out.size; have := HSe.out; omega
  have NX := next_any b l.length cn kc c1 an ko l X4.heap.size n1 X4 M4.out.cl M4.out.row rfl hx1 hn1 P1.out.nu0 (by have := P1.out.nu1; omega) M4.out.far P1.out.la0 (by have := P1.out.la1; omega)
  have HGO : Hid (goes c1 = !tv) := by show _ = _; rw [HTV.out]; simp [goes, ST1.out]
  rw [HGO.out] at NX
  clear LK LK3 WN
  go_cut [18, 19] from 66 to 268 (fun s18 s19 wc => ∃ A18 : Nat, s18 = .pointer (some ⟨A18, 0, none⟩) ∧ s19 = .bool (!tv) ∧ Hid (MO w wc b (nextC c1) l an cn ko kc) ∧ Hid (wc.heap[A18]? = some (.cells (askV c1 n1) 34 (0, 0))) ∧ Hid (wc.heap[Q]? = some (.cells #[.int .i64 ak, .string (bs akey), .string (bs aval), .int .i64 ai] 30 (0, 0))) ∧ Hid (wc.heap[S17]? = some (.cells #[.int .i64 c1.se, .int .i64 c1.nu, .int .i64 n1, .bool tv, .bool true] 49 (0, 0))) ∧ Hid (X4.heap.size ≤ A18) ∧ Hid (Kept (One b) X4 wc))
  case first =>
    cases tv with
    | true =>
      have HA : Hid (askV c1 n1 = #[.int .i64 0, .int .i64 0, .int .i64 0, .int .i64 0, .int .i64 0, .string ⟨#[]⟩, .string ⟨#[]⟩, .int .i64 0, .int .i64 0]) := by show _ = _; unfold askV; rw [HGO.out]; rfl
      rw [HA.out] at NX
      go_wp2_with (go_at_call 7; go_fit NX; rintro _ w5 ⟨rfl, h5, k5⟩; have H5 : Hid (MO w w5 b (nextC c1) l an cn ko kc ∧ Kept (One b) X4 w5) := ⟨M4.out.call k5 h5, k5⟩; clear h5 k5; try dsimp only)
      go_meet
      exact ⟨w5.heap.size, rfl, rfl, H5.out.1.next ((Kept.refl _ _).alloc _), by rw [HA.out]; exact blk_new _ _, blk_past (H5.out.2.block _ _ HQ4.out (fun e => hbQ (show Q = b from e).symm)) _, blk_past (H5.out.2.block _ _ HS17.out (fun e => hSb e)) _, H5.out.2.size, H5.out.2.alloc _⟩
    | false =>
      by_cases hz : c1.se = 0
      · have HA : Hid (askV c1 n1 = #[.int .i64 (c1.la + 1), .int .i64 n1, .int .i64 0, .int .i64 0, .int .i64 0, .string ⟨#[]⟩, .string ⟨#[]⟩, .int .i64 0, .int .i64 0]) := by show _ = _; unfold askV; rw [HGO.out, if_pos (by rfl), if_pos hz]; rfl
        rw [HA.out] at NX
        go_wp2_with (go_at_call 7; go_fit NX; rintro _ w5 ⟨rfl, h5, k5⟩; have H5 : Hid (MO w w5 b (nextC c1) l an cn ko kc ∧ Kept (One b) X4 w5) := ⟨M4.out.call k5 h5, k5⟩; clear h5 k5; try dsimp only)
        go_meet
        exact ⟨w5.heap.size, rfl, rfl, H5.out.1.next ((Kept.refl _ _).alloc _), by rw [HA.out]; exact blk_new _ _, blk_past (H5.out.2.block _ _ HQ4.out (fun e => hbQ (show Q = b from e).symm)) _, blk_past (H5.out.2.block _ _ HS17.out (fun e => hSb e)) _, H5.out.2.size, H5.out.2.alloc _⟩
      · have HA : Hid (askV c1 n1 = #[.int .i64 (c1.la + 1), .int .i64 n1, .int .i64 c1.se, .int .i64 (c1.nu + 1), .int .i64 c1.ck, .string (bs c1.ckey), .string (bs c1.cval), .int .i64 c1.ci, .int .i64 0]) := by show _ = _; unfold askV; rw [HGO.out, if_pos (by rfl), if_neg hz]
        rw [HA.out] at NX
        go_wp2_with (go_at_call 7; go_fit NX; rintro _ w5 ⟨rfl, h5, k5⟩; have H5 : Hid (MO w w5 b (nextC c1) l an cn ko kc ∧ Kept (One b) X4 w5) := ⟨M4.out.call k5 h5, k5⟩; clear h5 k5; try dsimp only)
        go_meet
        exact ⟨w5.heap.size, rfl, rfl, H5.out.1.next ((Kept.refl _ _).alloc _), by rw [HA.out]; exact blk_new _ _, blk_past (H5.out.2.block _ _ HQ4.out (fun e => hbQ (show Q = b from e).symm)) _, blk_past (H5.out.2.block _ _ HS17.out (fun e => hSb e)) _, H5.out.2.size, H5.out.2.alloc _⟩
  case rest =>
    obtain ⟨A18, rfl, rfl, M5, HA18, HQ5, HS5, NA18, K5⟩ := hcut
    rename World => w5
    clear NX M4 HQ4 HS17
    go_upto_region 25 with fail
    have e3 : w5.cell? ⟨S17, 3, none⟩ = some (.bool tv) := blk_at HS5.out 3 rfl
    have e4 : w5.cell? ⟨S17, 4, none⟩ = some (.bool true) := blk_at HS5.out 4 rfl
    go_cut [91] from 66 to 268 (fun s91 wc => s91 = .bool false ∧ wc = w5)
    case first =>
      cases tv
      all_goals
        go_wp2
        go_meet
        exact ⟨rfl, rfl⟩
    case rest =>
      obtain ⟨rfl, hw5⟩ := hcut
      rw [hw5]
      clear hw5 e3 e4 HS5
      have hAb : A18 ≠ b := by have h8 := lt_of_block M3.out.cl; have := KX4.out.size; have := NA18.out; omega
      go_upto_if 91 with fail
      go_cut [] from 92 to 268 (fun wc => wc = w5)
      case first =>
        go_wp2
        go_meet
        rfl
      case rest =>
        rw [hcut]
        apply_assumption
        refine coTail27 w w5 b cn kc Q A18 k cs c0 c c1 l an ao ko a ss s tv n1 sv nv ak ai akey aval _ _ _ _ _ _ _ _ _ _ _ _ _ _ _ _ _ _ _ _ _ _ _ _ _ _ _ _ _ _ _ _ _ _ _ _ _ _ _ _ _ _ _ _ _ _ _ _ _ _ _ _ _ _ _ _ _ _ _ _ _ _ _ _ _ _ _ _ _ _ _ _ _ _ _ _ _ _ _ _ _ _ _ _ _ _ _ _ _ _ _ _ _ _ _ _ _ _ _ _ _ _ _ _ _ _ _ _ _ _ _ _ _ _ _ _ _ _ _ _ _ _ _ _ _ _ _ _ _ _ _ _ _ _ _ _ _ _ _ _ _ _ _ _ _ _ _ _ _ _ _ _ _ _ _ _ _ _ _ _ _ _ _ _ _ _ _ _ _ _ _ _ _ _ _ _ _ _ _ _ _ _ _ _ _ _ _ _ _ _ _ _ _ _ _ _ _ _ _ _ _ _ _ _ _ _ _ _ _ _ _ _ _ _ _ _ _ _ _ _ _ _ _ _ _ _ _ _ _ _ _ _ _ _ _ _ _ _ _ _ _ _ _ _ _ _ _ _ _ _ _ _ _ _ _ _ _ _ _ _ _ ?_ M5 HQ5 HA18 HCX HKl HP P1 OI1 LA1 HGO (by omega) (by omega) hbQ hQn hAb hl5 hki hk14 haB
        intro u4 u20 u21 u22 u23 u24 u25 u26 u27 u28 u92 u93 u94 u95 u96 u97 u98 u99 u100 u101 u102 u103 u104 u105 u106 u107 u108 u109 u110 u111 u112 u113 u114 u115 u116 u117 u118 u119 u120 u121 u122 u123 u124 u125 u126 u127 u128 u129 u130 u131 u132 u133 u134 u135 u136 u137 u138 u139 u140 u141 u142 u143 u144 u145 u146 u147 u148 u149 u150 u151 u152 u153 u154 u155 u156 u157 u158 u159 u160 u161 u162 u163 u164 u165 u166 u167 u168 u169 u170 u171 u172 u173 u174 u175 u176 u177 u178 u179 u180 u181 u182 u183 u184 u185 u186 u187 u188 u189 u190 u191 u192 u193 u194 u195 u196 u197 u198 u199 u200 u201 u202 u203 u204 u205 u206 u207 u208 u209 u210 u211 u212 u213 u214 u215 u216 u217 u218 u219 u220 u221 u222 u223 u224 u225 u226 u227 u228 u229 u230 u231 u232 u233 u234 u235 u236 u237 u238 u239 u240 u241 u242 u243 u244 u245 u246 u247 u248 u249 u250 u251 u252 u253 u254 u255 u256 u257 u258 u259 u260 u261 u262 u263 u264 u265 u266 u267 u268 c5 sv2 nv2 wz h1
        exact HKK.out _ _ _ _ _ _ _ _ _ _ _ _ _ _ _ _ _ _ _ _ _ _ _ _ _ _ _ _ _ _ _ _ _ _ _ _ _ _ _ _ _ _ _ _ _ _ _ _ _ _ _ _ _ _ _ _ _ _ _ _ _ _ _ _ _ _ _ _ _ _ _ _ _ _ _ _ _ _ _ _ _ _ _ _ _ _ _ _ _ _ _ _ _ _ _ _ _ _ _ _ _ _ _ _ _ _ _ _ _ _ _ _ _ _ _ _ _ _ _ _ _ _ _ _ _ _ _ _ _ _ _ _ _ _ _ _ _ _ _ _ _ _ _ _ _ _ _ _ _ _ _ _ _ _ _ _ _ _ _ _ _ _ _ _ _ _ _ _ _ _ _ _ _ _ _ _ _ _ _ _ _ _ _ _ _ _ _ _ _ _ _ _ _ _ _ _ _ _ _ _ _ _ _ _ _ _ _ _ _ _ _ _ _ _ _ _ _ _ c5 sv2 nv2 wz h1.out

end Go.Proofs.Ytbfleeilpccmcaa
