/-
  ClientOnce: a round from the second question on.
-/
import Derived.Test.YtbfleeilpccmcaaWCoD
import Derived.Deep.DeepCutAuto
import Derived.Deep.DeepFit
import Derived.Deep.RegionHeld3
namespace Go.Proofs.Ytbfleeilpccmcaa
open Go.RowKit

set_option maxRecDepth 1000000 in
set_option maxHeartbeats 40000000 in
theorem coTail42 (w w6 : World) (b cn kc Q A18 k cs : Nat) (c1 c2 : Cl) (l : List Int) (an ko : Option Addr) (a : Addr) (ss : List An) (s : An) (tv : Bool) (n1 sv2 nv2 ak2 ai2 : Int) (akey2 aval2 : List UInt8) (fv0 fv2 fv3 fv4 fv5 fv6 fv8 fv9 fv10 fv11 fv14 fv15 fv16 fv17 fv20 fv21 fv22 fv23 fv24 fv25 fv26 fv27 fv28 fv29 fv30 fv31 fv32 fv33 fv34 fv35 fv36 fv37 fv38 fv39 fv40 fv41 fv42 fv43 fv44 fv45 fv46 fv47 fv48 fv49 fv50 fv51 fv52 fv53 fv54 fv55 fv56 fv57 fv58 fv59 fv60 fv61 fv62 fv63 fv64 fv65 fv66 fv67 fv68 fv69 fv70 fv71 fv72 fv73 fv74 fv75 fv76 fv77 fv78 fv79 fv80 fv81 fv82 fv83 fv84 fv85 fv86 fv87 fv88 fv89 fv90 fv91 fv92 fv93 fv94 fv95 fv96 fv97 fv98 fv99 fv100 fv101 fv102 fv103 fv104 fv105 fv106 fv107 fv108 fv109 fv110 fv111 fv112 fv113 fv114 fv115 fv116 fv117 fv118 fv119 fv120 fv121 fv122 fv123 fv124 fv125 fv126 fv127 fv128 fv129 fv130 fv131 fv132 fv133 fv134 fv135 fv136 fv137 fv138 fv139 fv140 fv141 fv142 fv143 fv144 fv145 fv146 fv147 fv148 fv149 fv150 fv151 fv152 fv153 fv154 fv155 fv156 fv157 fv158 fv159 fv160 fv161 fv162 fv163 fv164 fv165 fv166 fv167 fv168 fv169 fv170 fv171 fv172 fv173 fv174 fv175 fv176 fv177 fv178 fv179 fv180 fv181 fv182 fv183 fv184 fv185 fv186 fv187 fv188 fv189 fv190 fv191 fv192 fv193 fv194 fv195 fv196 fv197 fv198 fv199 fv200 fv201 fv202 fv203 fv204 fv205 fv206 fv207 fv208 fv209 fv210 fv211 fv212 fv213 fv214 fv215 fv216 fv217 fv218 fv219 fv220 fv221 fv222 fv223 fv224 fv225 fv226 fv227 fv228 fv229 fv230 fv231 fv232 fv233 fv234 fv235 fv236 fv237 fv238 fv239 fv240 fv241 fv242 fv243 fv244 fv245 fv246 fv247 fv248 fv249 fv250 fv251 fv252 fv253 fv254 fv255 fv256 fv257 fv258 fv259 fv260 fv261 fv262 fv263 fv264 fv265 fv266 fv267 fv268 : Value) (K1 : Act → World → Prop) (Q9 : Exit → Act → World → Prop)
    (hK : ∀ (u4 u21 u22 u23 u24 u25 u26 u27 u28 u180 u181 u182 u183 u184 u185 u186 u187 u188 u189 u190 u191 u192 u193 u194 u195 u196 u197 u198 u199 u200 u201 u202 u203 u204 u205 u206 u207 u208 u209 u210 u211 u212 u213 u214 u215 u216 u217 u218 u219 u220 u221 u222 u223 u224 u225 u226 u227 u228 u229 u230 u231 u232 u233 u234 u235 u236 u237 u238 u239 u240 u241 u242 u243 u244 u245 u246 u247 u248 u249 u250 u251 u252 u253 u254 u255 u256 u257 u258 u259 u260 u261 u262 u263 u264 u265 u266 u267 u268 : Value) (c5 : Cl) (wc : World), Hid (∃ ko kc ak akey aval ai, MO w wc b c5 l an cn ko kc ∧ PC (2 * ((k + 1 : Nat) : Int)) l.length c5 ∧ OI c5 sv2 nv2 ak akey aval ai ∧ (c5.st = 0 ∨ c5.st = 1) ∧ wc.heap[Q]? = some (.cells #[.int .i64 ak, .string (bs akey), .string (bs aval), .int .i64 ai] 30 (0, 0)) ∧ c5.la = c2.la) → K1 ⟨#[fv0, .slice (some a) ss.length cs, fv2, fv3, u4, fv5, fv6, .pointer (some ⟨b, 0, none⟩), fv8, fv9, fv10, fv11, .int .i64 c2.la, .int .i64 k, fv14, fv15, fv16, fv17, .pointer (some ⟨A18, 0, none⟩), .bool (!tv), fv20, u21, u22, u23, u24, u25, u26, u27, u28, fv29, fv30, fv31, fv32, fv33, fv34, fv35, fv36, fv37, fv38, fv39, fv40, fv41, fv42, fv43, fv44, fv45, fv46, fv47, fv48, fv49, fv50, fv51, fv52, fv53, fv54, fv55, fv56, fv57, fv58, fv59, fv60, fv61, fv62, fv63, fv64, fv65, fv66, fv67, fv68, fv69, fv70, fv71, fv72, fv73, fv74, fv75, fv76, fv77, fv78, fv79, fv80, fv81, fv82, fv83, fv84, fv85, fv86, fv87, fv88, fv89, fv90, fv91, fv92, fv93, fv94, fv95, fv96, fv97, fv98, fv99, fv100, fv101, fv102, fv103, fv104, fv105, fv106, fv107, fv108, fv109, fv110, fv111, fv112, fv113, fv114, fv115, fv116, fv117, fv118, fv119, fv120, fv121, fv122, fv123, fv124, fv125, fv126, fv127, fv128, fv129, fv130, fv131, fv132, fv133, fv134, fv135, fv136, fv137, fv138, fv139, fv140, fv141, fv142, fv143, fv144, fv145, fv146, fv147, fv148, fv149, fv150, fv151, fv152, fv153, fv154, fv155, fv156, fv157, fv158, fv159, fv160, fv161, fv162, fv163, fv164, fv165, fv166, fv167, fv168, fv169, fv170, fv171, fv172, fv173, fv174, fv175, fv176, fv177, fv178, fv179, u180, u181, u182, u183, u184, u185, u186, u187, u188, u189, u190, u191, u192, u193, u194, u195, u196, u197, u198, u199, u200, u201, u202, u203, u204, u205, u206, u207, u208, u209, u210, u211, u212, u213, u214, u215, u216, u217, u218, u219, u220, u221, u222, u223, u224, u225, u226, u227, u228, u229, u230, u231, u232, u233, u234, u235, u236, u237, u238, u239, u240, u241, u242, u243, u244, u245, u246, u247, u248, u249, u250, u251, u252, u253, u254, u255, u256, u257, u258, u259, u260, u261, u262, u263, u264, u265, u266, u267, u268], []⟩ wc)
    (M6 : Hid (MO w w6 b c2 l an cn ko kc)) (HQ6 : Hid (w6.heap[Q]? = some (.cells #[.int .i64 ak2, .string (bs akey2), .string (bs aval2), .int .i64 ai2] 30 (0, 0)))) (HA6 : Hid (w6.heap[A18]? = some (.cells (askV c1 n1) 34 (0, 0)))) (HCX : Hid (∀ X, Kept Nil w X → (X.cell? (a.add (k * 6)) = some (.int .i64 s.tk) ∧ X.cell? ⟨(a.add (k * 6)).block, (a.add (k * 6)).off + 1, none⟩ = some (.int .i64 s.er) ∧ X.cell? ⟨(a.add (k * 6)).block, (a.add (k * 6)).off + 2, none⟩ = some (.int .i64 s.rk) ∧ X.cell? ⟨(a.add (k * 6)).block, (a.add (k * 6)).off + 3, none⟩ = some (.string (bs s.rval)) ∧ X.cell? ⟨(a.add (k * 6)).block, (a.add (k * 6)).off + 4, none⟩ = some (.int .i64 s.rver) ∧ X.cell? ⟨(a.add (k * 6)).block, (a.add (k * 6)).off + 5, none⟩ = some (.slice s.ao s.ks.length s.cc)) ∧ KIn (fun k => k < w.heap.size) X s.ao s.cc s.ks)) (HKl : Hid (s.ks.length ≤ 8796093022200 ∧ ∀ k ∈ s.ks, k.length ≤ maxLen)) (P2 : Hid (PC (2 * k + 1) l.length c2)) (OI2 : Hid (OI c2 sv2 nv2 ak2 akey2 aval2 ai2)) (G2 : Hid (goes c2 = false)) (N2 : Hid (nextC c2 = c2)) (HGO : Hid (goes c1 = !tv)) (HFR0 : Hid (tv = false → c1.se ≠ 0 → ∀ (er rk rver : Int) (rval : List UInt8) (ks : List (List UInt8)), er = 0 → (tickC (ansC c2 l.length c2.la er rk rval rver ks) l.length).st = 2)) (hbQ : b ≠ Q) (hAb : A18 ≠ b) (hl5 : l.length ≤ 5) (hki : (k : Int) < ss.length) (hk14 : (k : Int) ≤ 16384) (haB : a.block < w.heap.size) :
    Code.wp Try.prog cT42 (Exit.inBlock 3 (Exit.then K1 Q9)) ⟨#[fv0, .slice (some a) ss.length cs, fv2, fv3, fv4, fv5, fv6, .pointer (some ⟨b, 0, none⟩), fv8, fv9, fv10, fv11, .int .i64 c2.la, .int .i64 k, fv14, fv15, fv16, fv17, .pointer (some ⟨A18, 0, none⟩), .bool (!tv), fv20, fv21, fv22, fv23, fv24, fv25, fv26, fv27, fv28, fv29, fv30, fv31, fv32, fv33, fv34, fv35, fv36, fv37, fv38, fv39, fv40, fv41, fv42, fv43, fv44, fv45, fv46, fv47, fv48, fv49, fv50, fv51, fv52, fv53, fv54, fv55, fv56, fv57, fv58, fv59, fv60, fv61, fv62, fv63, fv64, fv65, fv66, fv67, fv68, fv69, fv70, fv71, fv72, fv73, fv74, fv75, fv76, fv77, fv78, fv79, fv80, fv81, fv82, fv83, fv84, fv85, fv86, fv87, fv88, fv89, fv90, fv91, fv92, fv93, fv94, fv95, fv96, fv97, fv98, fv99, fv100, fv101, fv102, fv103, fv104, fv105, fv106, fv107, fv108, fv109, fv110, fv111, fv112, fv113, fv114, fv115, fv116, fv117, fv118, fv119, fv120, fv121, fv122, fv123, fv124, fv125, fv126, fv127, fv128, fv129, fv130, fv131, fv132, fv133, fv134, fv135, fv136, fv137, fv138, fv139, fv140, fv141, fv142, fv143, fv144, fv145, fv146, fv147, fv148, fv149, fv150, fv151, fv152, fv153, fv154, fv155, fv156, fv157, fv158, fv159, fv160, fv161, fv162, fv163, fv164, fv165, fv166, fv167, fv168, fv169, fv170, fv171, fv172, fv173, fv174, fv175, fv176, fv177, fv178, fv179, fv180, fv181, fv182, fv183, fv184, fv185, fv186, fv187, fv188, fv189, fv190, fv191, fv192, fv193, fv194, fv195, fv196, fv197, fv198, fv199, fv200, fv201, fv202, fv203, fv204, fv205, fv206, fv207, fv208, fv209, fv210, fv211, fv212, fv213, fv214, fv215, fv216, fv217, fv218, fv219, fv220, fv221, fv222, fv223, fv224, fv225, fv226, fv227, fv228, fv229, fv230, fv231, fv232, fv233, fv234, fv235, fv236, fv237, fv238, fv239, fv240, fv241, fv242, fv243, fv244, fv245, fv246, fv247, fv248, fv249, fv250, fv251, fv252, fv253, fv254, fv255, fv256, fv257, fv258, fv259, fv260, fv261, fv262, fv263, fv264, fv265, fv266, fv267, fv268], []⟩ w6 := by
  have HKK : Hid (∀ (u4 u21 u22 u23 u24 u25 u26 u27 u28 u180 u181 u182 u183 u184 u185 u186 u187 u188 u189 u190 u191 u192 u193 u194 u195 u196 u197 u198 u199 u200 u201 u202 u203 u204 u205 u206 u207 u208 u209 u210 u211 u212 u213 u214 u215 u216 u217 u218 u219 u220 u221 u222 u223 u224 u225 u226 u227 u228 u229 u230 u231 u232 u233 u234 u235 u236 u237 u238 u239 u240 u241 u242 u243 u244 u245 u246 u247 u248 u249 u250 u251 u252 u253 u254 u255 u256 u257 u258 u259 u260 u261 u262 u263 u264 u265 u266 u267 u268 : Value) (c5 : Cl) (wc : World), Hid (∃ ko kc ak akey aval ai, MO w wc b c5 l an cn ko kc ∧ PC (2 * ((k + 1 : Nat) : Int)) l.length c5 ∧ OI c5 sv2 nv2 ak akey aval ai ∧ (c5.st = 0 ∨ c5.st = 1) ∧ wc.heap[Q]? = some (.cells #[.int .i64 ak, .string (bs akey), .string (bs aval), .int .i64 ai] 30 (0, 0)) ∧ c5.la = c2.la) → K1 ⟨#[fv0, .slice (some a) ss.length cs, fv2, fv3, u4, fv5, fv6, .pointer (some ⟨b, 0, none⟩), fv8, fv9, fv10, fv11, .int .i64 c2.la, .int .i64 k, fv14, fv15, fv16, fv17, .pointer (some ⟨A18, 0, none⟩), .bool (!tv), fv20, u21, u22, u23, u24, u25, u26, u27, u28, fv29, fv30, fv31, fv32, fv33, fv34, fv35, fv36, fv37, fv38, fv39, fv40, fv41, fv42, fv43, fv44, fv45, fv46, fv47, fv48, fv49, fv50, fv51, fv52, fv53, fv54, fv55, fv56, fv57, fv58, fv59, fv60, fv61, fv62, fv63, fv64, fv65, fv66, fv67, fv68, fv69, fv70, fv71, fv72, fv73, fv74, fv75, fv76, fv77, fv78, fv79, fv80, fv81, fv82, fv83, fv84, fv85, fv86, fv87, fv88, fv89, fv90, fv91, fv92, fv93, fv94, fv95, fv96, fv97, fv98, fv99, fv100, fv101, fv102, fv103, fv104, fv105, fv106, fv107, fv108, fv109, fv110, fv111, fv112, fv113, fv114, fv115, fv116, fv117, fv118, fv119, fv120, fv121, fv122, fv123, fv124, fv125, fv126, fv127, fv128, fv129, fv130, fv131, fv132, fv133, fv134, fv135, fv136, fv137, fv138, fv139, fv140, fv141, fv142, fv143, fv144, fv145, fv146, fv147, fv148, fv149, fv150, fv151, fv152, fv153, fv154, fv155, fv156, fv157, fv158, fv159, fv160, fv161, fv162, fv163, fv164, fv165, fv166, fv167, fv168, fv169, fv170, fv171, fv172, fv173, fv174, fv175, fv176, fv177, fv178, fv179, u180, u181, u182, u183, u184, u185, u186, u187, u188, u189, u190, u191, u192, u193, u194, u195, u196, u197, u198, u199, u200, u201, u202, u203, u204, u205, u206, u207, u208, u209, u210, u211, u212, u213, u214, u215, u216, u217, u218, u219, u220, u221, u222, u223, u224, u225, u226, u227, u228, u229, u230, u231, u232, u233, u234, u235, u236, u237, u238, u239, u240, u241, u242, u243, u244, u245, u246, u247, u248, u249, u250, u251, u252, u253, u254, u255, u256, u257, u258, u259, u260, u261, u262, u263, u264, u265, u266, u267, u268], []⟩ wc) := hK
  clear hK
  conv => arg 2; whnf
  dsimp only
  have hx2 : c2.nx < l.length := P2.out.nx
  have hla20 := P2.out.la0
  have hla21 := P2.out.la1
  obtain ⟨n2, hn2⟩ : ∃ n2, l[c2.nx] = n2 := ⟨_, rfl⟩
  have AK2 : Hid (askV c2 n2 = #[.int .i64 0, .int .i64 0, .int .i64 0, .int .i64 0, .int .i64 0, .string ⟨#[]⟩, .string ⟨#[]⟩, .int .i64 0, .int .i64 0]) := by show _ = _; unfold askV; rw [G2.out]; rfl
  have NX2 := next_any b l.length cn kc c2 an ko l w6.heap.size n2 w6 M6.out.cl M6.out.row rfl hx2 hn2 P2.out.nu0 (by have := P2.out.nu1; omega) M6.out.far P2.out.la0 (by omega)
  rw [G2.out, N2.out, AK2.out] at NX2
  go_upto_region 45 with (go_at_call 7; go_fit NX2; rintro _ w7 ⟨rfl, h7, k7⟩; have H7 : Hid (MO w w7 b c2 l an cn ko kc ∧ Kept (One b) w6 w7) := ⟨M6.out.call k7 h7, k7⟩; clear h7 k7)
  obtain ⟨X7, hX7⟩ : ∃ X7, X7 = w7.alloc (.cells #[.int .i64 0, .int .i64 0, .int .i64 0, .int .i64 0, .int .i64 0, .string ⟨#[]⟩, .string ⟨#[]⟩, .int .i64 0, .int .i64 0] 34) := ⟨_, rfl⟩
  have HX7 : Hid (MO w X7 b c2 l an cn ko kc ∧ X7.heap[Q]? = some (.cells #[.int .i64 ak2, .string (bs akey2), .string (bs aval2), .int .i64 ai2] 30 (0, 0)) ∧ X7.heap[A18]? = some (.cells (askV c1 n1) 34 (0, 0))) := by
    rw [hX7]
    exact ⟨H7.out.1.next ((Kept.refl _ _).alloc _), blk_past (H7.out.2.block _ _ HQ6.out (fun e => hbQ (show Q = b from e).symm)) _, blk_past (H7.out.2.block _ _ HA6.out (fun e => hAb e)) _⟩
  rw [← hX7]
  clear hX7 NX2 H7 M6 HQ6 HA6
  have hcX := (HCX.out X7 HX7.out.1.kept).1
  have h2 : X7.cell? ⟨(a.add (k * 6)).block, (a.add (k * 6)).off + 2, none⟩ = some (.int .i64 s.rk) := hcX.2.2.1
  have h3 : X7.cell? ⟨(a.add (k * 6)).block, (a.add (k * 6)).off + 3, none⟩ = some (.string (bs s.rval)) := hcX.2.2.2.1
  have h4 : X7.cell? ⟨(a.add (k * 6)).block, (a.add (k * 6)).off + 4, none⟩ = some (.int .i64 s.rver) := hcX.2.2.2.2.1
  have h5 : X7.cell? ⟨(a.add (k * 6)).block, (a.add (k * 6)).off + 5, none⟩ = some (.slice s.ao s.ks.length s.cc) := hcX.2.2.2.2.2
  clear hcX
  go_upto_region 46 with fail
  obtain ⟨E, HEe⟩ : ∃ E, Hid (E = X7.heap.size) := ⟨_, rfl⟩
  obtain ⟨X8, hX8⟩ : ∃ X8, X8 = X7.alloc (.cells #[.int .i64 s.rk, .string (bs s.rval), .int .i64 s.rver, .slice s.ao s.ks.length s.cc] 45) := ⟨_, rfl⟩
  have KX8 : Hid (Kept Nil X7 X8) := by rw [hX8]; exact (Kept.refl _ _).alloc _
  have HE8 : Hid (X8.heap[E]? = some (.cells #[.int .i64 s.rk, .string (bs s.rval), .int .i64 s.rver, .slice s.ao s.ks.length s.cc] 45 (0, 0))) := by rw [hX8, HEe.out]; exact blk_new _ _
  rw [← HEe.out, ← hX8]
  clear hX8 h2 h3 h4 h5
  have hEb : b ≠ E := by have := lt_of_block HX7.out.1.cl; have := HEe.out; omega
  have hEQ : Q ≠ E := by have := lt_of_block HX7.out.2.1; have := HEe.out; omega
  have hEA : A18 ≠ E := by have := lt_of_block HX7.out.2.2; have := HEe.out; omega
  have hEn : w.heap.size ≤ E := by have := HX7.out.1.kept.size; have := HEe.out; omega
  obtain ⟨u5, HU5⟩ : ∃ u5, Hid (u5 = s.rk % 5) := ⟨_, rfl⟩
  obtain ⟨u50, HU50⟩ : ∃ u50, Hid (u50 = s.rver % 50) := ⟨_, rfl⟩
  obtain ⟨t3, HT3⟩ : ∃ t3, Hid (t3 = s.tk % 3) := ⟨_, rfl⟩
  have PK5 := fun X => pickC_any s.rk 5 X (by decide) (by decide)
  have PK50 := fun X => pickC_any s.rver 50 X (by decide) (by decide)
  have PK3 := fun X => pickC_any s.tk 3 X (by decide) (by decide)
  rw [← HU5.out] at PK5
  rw [← HU50.out] at PK50
  rw [← HT3.out] at PK3
  have hu50 : 0 ≤ u5 := by rw [HU5.out]; exact Int.emod_nonneg _ (by decide)
  have hu51 : u5 < 5 := by rw [HU5.out]; exact Int.emod_lt_of_pos _ (by decide)
  have hu500 : 0 ≤ u50 := by rw [HU50.out]; exact Int.emod_nonneg _ (by decide)
  have hu501 : u50 < 50 := by rw [HU50.out]; exact Int.emod_lt_of_pos _ (by decide)
  have ht30 : 0 ≤ t3 := by rw [HT3.out]; exact Int.emod_nonneg _ (by decide)
  have ht31 : t3 < 3 := by rw [HT3.out]; exact Int.emod_lt_of_pos _ (by decide)
  clear HU5 HU50
  have e0 : X8.cell? ⟨E, 0, none⟩ = some (.int .i64 s.rk) := blk_at HE8.out 0 rfl
  have e2 : X8.cell? ⟨E, 2, none⟩ = some (.int .i64 s.rver) := blk_at HE8.out 2 rfl
  have f0 : X8.frozen? ⟨E, 0, none⟩ = false := blk_free HE8.out 0
  have f2 : X8.frozen? ⟨E, 2, none⟩ = false := blk_free HE8.out 2
  obtain ⟨X9, hX9⟩ : ∃ X9, X9 = (X8.setCell ⟨E, 0, none⟩ (.int .i64 (1 + u5))).setCell ⟨E, 2, none⟩ (.int .i64 (1 + u50)) := ⟨_, rfl⟩
  have HE9 : Hid (X9.heap[E]? = some (.cells #[.int .i64 (1 + u5), .string (bs s.rval), .int .i64 (1 + u50), .slice s.ao s.ks.length s.cc] 45 (0, 0))) := by
    show _ = _
    rw [hX9]
    have h8 := blk_set (blk_set HE8.out 0 (.int .i64 (1 + u5))) 2 (.int .i64 (1 + u50))
    simpa using h8
  have HX9 : Hid (MO w X9 b c2 l an cn ko kc ∧ X9.heap[Q]? = some (.cells #[.int .i64 ak2, .string (bs akey2), .string (bs aval2), .int .i64 ai2] 30 (0, 0)) ∧ X9.heap[A18]? = some (.cells (askV c1 n1) 34 (0, 0))) := by
    rw [hX9]
    exact ⟨((HX7.out.1.next KX8.out).set HE8.out (by decide) hEb hEn _).set (blk_set HE8.out 0 _) (by decide) hEb hEn _, blk_other (a := ⟨E, 2, none⟩) (blk_other (a := ⟨E, 0, none⟩) (KX8.out.block _ _ HX7.out.2.1 (fun x => x.elim)) hEQ _) hEQ _, blk_other (a := ⟨E, 2, none⟩) (blk_other (a := ⟨E, 0, none⟩) (KX8.out.block _ _ HX7.out.2.2 (fun x => x.elim)) hEA _) hEA _⟩
  go_upto_region 48 with (go_at_call 14; first | (go_fit (PK5 _); rintro _ w9 ⟨rfl, h9⟩; rw [h9]; clear h9) | (go_fit (PK50 _); rintro _ w9 ⟨rfl, h9⟩; rw [h9]; clear h9))
  rw [← hX9]
  clear hX9 e0 e2 f0 f2 HE8 KX8 HX7
  have hcX := (HCX.out X9 HX9.out.1.kept).1
  have HSP : Hid (X9.cell? (a.add (k * 6)) = some (.int .i64 s.tk) ∧ X9.cell? ⟨(a.add (k * 6)).block, (a.add (k * 6)).off + 1, none⟩ = some (.int .i64 s.er) ∧ X9.cell? ⟨E, 0, none⟩ = some (.int .i64 (1 + u5)) ∧ X9.cell? ⟨E, 1, none⟩ = some (.string (bs s.rval)) ∧ X9.cell? ⟨E, 2, none⟩ = some (.int .i64 (1 + u50)) ∧ X9.cell? ⟨E, 3, none⟩ = some (.slice s.ao s.ks.length s.cc)) := ⟨hcX.1, hcX.2.1, blk_at HE9.out 0 rfl, blk_at HE9.out 1 rfl, blk_at HE9.out 2 rfl, blk_at HE9.out 3 rfl⟩
  have sD : X9.drew.cell? (a.add (k * 6)) = some (.int .i64 s.tk) ∧ X9.drew.cell? ⟨(a.add (k * 6)).block, (a.add (k * 6)).off + 1, none⟩ = some (.int .i64 s.er) ∧ X9.drew.cell? ⟨E, 0, none⟩ = some (.int .i64 (1 + u5)) ∧ X9.drew.cell? ⟨E, 1, none⟩ = some (.string (bs s.rval)) ∧ X9.drew.cell? ⟨E, 2, none⟩ = some (.int .i64 (1 + u50)) ∧ X9.drew.cell? ⟨E, 3, none⟩ = some (.slice s.ao s.ks.length s.cc) := HSP.out
  clear hcX
  have hbw : ¬ b < w.heap.size := by have := HX9.out.1.newb; omega
  have AN := answer_any b l.length cn kc c2 an ko (fun k => k < w.heap.size) (c2.la - t3) s.er (1 + u5) (1 + u50) s.rval s.ks s.ao s.cc X9.drew HX9.out.1.cl.drew hx2 (by omega) P2.out.nu0 (by have := P2.out.nu1; omega) ((HCX.out X9.drew (HX9.out.1.next (Kept.refl _ _).drew).kept).2) hbw
  obtain ⟨c3, HC3⟩ : ∃ c3, Hid (c3 = (ansC c2 l.length (c2.la - t3) s.er (1 + u5) s.rval (1 + u50) s.ks)) := ⟨_, rfl⟩
  rw [← HC3.out] at AN
  have hwl : IntKind.i64.wrap (c2.la - t3) = c2.la - t3 := by rw [IntKind.wrap_i64]; omega
  have haE : (a.add (k * 6)).block ≠ b := by
    have e : (a.add (k * 6)).block = a.block := by unfold Addr.add; split <;> rfl
    rw [e]; have := HX9.out.1.newb; omega
  have hEb2 : E ≠ b := fun e => hEb e.symm
  go_region_held3 (fun w' => w'.cell? (a.add (k * 6)) = some (.int .i64 s.tk) ∧ w'.cell? ⟨(a.add (k * 6)).block, (a.add (k * 6)).off + 1, none⟩ = some (.int .i64 s.er) ∧ w'.cell? ⟨E, 0, none⟩ = some (.int .i64 (1 + u5)) ∧ w'.cell? ⟨E, 1, none⟩ = some (.string (bs s.rval)) ∧ w'.cell? ⟨E, 2, none⟩ = some (.int .i64 (1 + u50)) ∧ w'.cell? ⟨E, 3, none⟩ = some (.slice s.ao s.ks.length s.cc)) (first | (with_reducible assumption)) (first | (go_at_call 14; go_fit (PK3 _); rintro _ w9 ⟨rfl, h9⟩; rw [h9]; clear h9) | (go_at_call 15; go_fit AN; rintro _ w10 ⟨ko2, kc2, rfl, h10, _, _, k10⟩; have H10 : Hid (MO w w10 b c3 l an cn ko2 kc2 ∧ Kept (One b) X9.drew w10) := ⟨(HX9.out.1.next (Kept.refl _ _).drew).call k10 h10, k10⟩; have s10 : w10.cell? (a.add (k * 6)) = some (.int .i64 s.tk) ∧ w10.cell? ⟨(a.add (k * 6)).block, (a.add (k * 6)).off + 1, none⟩ = some (.int .i64 s.er) ∧ w10.cell? ⟨E, 0, none⟩ = some (.int .i64 (1 + u5)) ∧ w10.cell? ⟨E, 1, none⟩ = some (.string (bs s.rval)) ∧ w10.cell? ⟨E, 2, none⟩ = some (.int .i64 (1 + u50)) ∧ w10.cell? ⟨E, 3, none⟩ = some (.slice s.ao s.ks.length s.cc) := ⟨cell_kept k10 (fun _ => haE) HSP.out.1, cell_kept k10 (fun _ => haE) HSP.out.2.1, cell_kept k10 (fun _ => hEb2) HSP.out.2.2.1, cell_kept k10 (fun _ => hEb2) HSP.out.2.2.2.1, cell_kept k10 (fun _ => hEb2) HSP.out.2.2.2.2.1, cell_kept k10 (fun _ => hEb2) HSP.out.2.2.2.2.2⟩; clear h10 k10))
  all_goals
    have K10 : Hid (Kept (One b) X9 w10) := (Kept.refl _ _).drew.trans H10.out.2
    have HQ10 : Hid (w10.heap[Q]? = some (.cells #[.int .i64 ak2, .string (bs akey2), .string (bs aval2), .int .i64 ai2] 30 (0, 0))) := K10.out.block _ _ HX9.out.2.1 (fun e => hbQ (show Q = b from e).symm)
    have HA10 : Hid (w10.heap[A18]? = some (.cells (askV c1 n1) 34 (0, 0))) := K10.out.block _ _ HX9.out.2.2 (fun e => hAb e)
    have P3 : Hid (PC (2 * (k : Int) + 2) l.length c3) := by
      rw [HC3.out]
      have h8 := P2.out.ans (by omega) (c2.la - t3) s.er (1 + u5) s.rval (1 + u50) HKl.out.1 HKl.out.2
      exact h8.mono (by omega)
    have OI3 : Hid (OI c3 sv2 nv2 ak2 akey2 aval2 ai2) := by rw [HC3.out]; exact OI2.out.ans _ _ _ _ (by omega) (by omega)
    have LA3 : Hid (c3.la = c2.la) := by show _ = _; rw [HC3.out, ansC_la]
    have HFR : Hid (tv = false → c1.se ≠ 0 → t3 = 0 → s.er = 0 → (tickC c3 l.length).st = 2) := fun e1 e2 e3 e4 => by
      rw [HC3.out, e3, Int.sub_zero]
      exact HFR0.out e1 e2 _ _ _ _ _ e4
    apply_assumption
    refine coTail49 w w10 b cn kc2 Q A18 k cs c1 c3 l an ko2 a ss s tv n1 t3 c2.la sv2 nv2 ak2 ai2 akey2 aval2 _ _ _ _ _ _ _ _ _ _ _ _ _ _ _ _ _ _ _ _ _ _ _ _ _ _ _ _ _ _ _ _ _ _ _ _ _ _ _ _ _ _ _ _ _ _ _ _ _ _ _ _ _ _ _ _ _ _ _ _ _ _ _ _ _ _ _ _ _ _ _ _ _ _ _ _ _ _ _ _ _ _ _ _ _ _ _ _ _ _ _ _ _ _ _ _ _ _ _ _ _ _ _ _ _ _ _ _ _ _ _ _ _ _ _ _ _ _ _ _ _ _ _ _ _ _ _ _ _ _ _ _ _ _ _ _ _ _ _ _ _ _ _ _ _ _ _ _ _ _ _ _ _ _ _ _ _ _ _ _ _ _ _ _ _ _ _ _ _ _ _ _ _ _ _ _ _ _ _ _ _ _ _ _ _ _ _ _ _ _ _ _ _ _ _ _ _ _ _ _ _ _ _ _ _ _ _ _ _ _ _ _ _ _ _ _ _ _ _ _ _ _ _ _ _ _ _ _ _ _ _ _ _ _ _ _ _ _ _ _ _ _ _ _ _ _ _ _ _ _ _ _ _ _ _ _ _ _ _ _ _ _ _ _ _ _ ?_ ⟨H10.out.1.cl, H10.out.1.nb, H10.out.1.kept, H10.out.1.newb⟩ HQ10 HA10 HCX P3 OI3 LA3 HGO HFR HT3 hbQ hAb hl5 hki
    intro u4 u24 u25 u26 u27 u28 u217 u218 u219 u220 u221 u222 u223 u224 u225 u226 u227 u228 u229 u230 u231 u232 u233 u234 u235 u236 u237 u238 u239 u240 u241 u242 u243 u244 u245 u246 u247 u248 u249 u250 u251 u252 u253 u254 u255 u256 u257 u258 u259 u260 u261 u262 u263 u264 u265 u266 u267 u268 c5 wz h1
    exact HKK.out _ _ _ _ _ _ _ _ _ _ _ _ _ _ _ _ _ _ _ _ _ _ _ _ _ _ _ _ _ _ _ _ _ _ _ _ _ _ _ _ _ _ _ _ _ _ _ _ _ _ _ _ _ _ _ _ _ _ _ _ _ _ _ _ _ _ _ _ _ _ _ _ _ _ _ _ _ _ _ _ _ _ _ _ _ _ _ _ _ _ _ _ _ _ _ _ _ _ c5 wz h1.out

end Go.Proofs.Ytbfleeilpccmcaa
