/-
  ClientOnce: a round from the question on whether it is fresh.
-/
import Derived.Test.YtbfleeilpccmcaaWCoG
import Derived.Deep.DeepCutAuto
import Derived.Deep.DeepFit
import Derived.Deep.RegionHeld3
namespace Go.Proofs.Ytbfleeilpccmcaa
open Go.RowKit

set_option maxRecDepth 1000000 in
set_option maxHeartbeats 40000000 in
theorem coTail51 (w w12 : World) (b cn kc5 Q A18 k cs : Nat) (c1 c5 : Cl) (l : List Int) (an ko5 : Option Addr) (a : Addr) (ss : List An) (s : An) (tv dn : Bool) (n1 t3 la2 sv2 nv2 ak2 ai2 : Int) (akey2 aval2 : List UInt8) (fv0 fv2 fv3 fv4 fv5 fv6 fv8 fv9 fv10 fv11 fv12 fv14 fv15 fv16 fv17 fv20 fv21 fv22 fv23 fv24 fv26 fv27 fv28 fv29 fv30 fv31 fv32 fv33 fv34 fv35 fv36 fv37 fv38 fv39 fv40 fv41 fv42 fv43 fv44 fv45 fv46 fv47 fv48 fv49 fv50 fv51 fv52 fv53 fv54 fv55 fv56 fv57 fv58 fv59 fv60 fv61 fv62 fv63 fv64 fv65 fv66 fv67 fv68 fv69 fv70 fv71 fv72 fv73 fv74 fv75 fv76 fv77 fv78 fv79 fv80 fv81 fv82 fv83 fv84 fv85 fv86 fv87 fv88 fv89 fv90 fv91 fv92 fv93 fv94 fv95 fv96 fv97 fv98 fv99 fv100 fv101 fv102 fv103 fv104 fv105 fv106 fv107 fv108 fv109 fv110 fv111 fv112 fv113 fv114 fv115 fv116 fv117 fv118 fv119 fv120 fv121 fv122 fv123 fv124 fv125 fv126 fv127 fv128 fv129 fv130 fv131 fv132 fv133 fv134 fv135 fv136 fv137 fv138 fv139 fv140 fv141 fv142 fv143 fv144 fv145 fv146 fv147 fv148 fv149 fv150 fv151 fv152 fv153 fv154 fv155 fv156 fv157 fv158 fv159 fv160 fv161 fv162 fv163 fv164 fv165 fv166 fv167 fv168 fv169 fv170 fv171 fv172 fv173 fv174 fv175 fv176 fv177 fv178 fv179 fv180 fv181 fv182 fv183 fv184 fv185 fv186 fv187 fv188 fv189 fv190 fv191 fv192 fv193 fv194 fv195 fv196 fv197 fv198 fv199 fv200 fv201 fv202 fv203 fv204 fv205 fv206 fv207 fv208 fv209 fv210 fv211 fv212 fv213 fv214 fv215 fv216 fv217 fv218 fv219 fv220 fv221 fv222 fv223 fv224 fv225 fv226 fv227 fv228 fv229 fv230 fv231 fv232 fv233 fv234 fv235 fv236 fv237 fv238 fv239 fv240 fv241 fv242 fv243 fv244 fv245 fv246 fv247 fv248 fv249 fv250 fv251 fv252 fv253 fv254 fv255 fv256 fv257 fv258 fv259 fv260 fv261 fv262 fv263 fv264 fv265 fv266 fv267 fv268 : Value) (K1 : Act → World → Prop) (Q9 : Exit → Act → World → Prop)
    (hK : ∀ (u4 u26 u27 u28 u224 u225 u226 u227 u228 u229 u230 u231 u232 u233 u234 u235 u236 u237 u238 u239 u240 u241 u242 u243 u244 u245 u246 u247 u248 u249 u250 u251 u252 u253 u254 u255 u256 u257 u258 u259 u260 u261 u262 u263 u264 u265 u266 u267 u268 : Value) (wc : World), Hid (∃ ko kc ak akey aval ai, MO w wc b c5 l an cn ko kc ∧ PC (2 * ((k + 1 : Nat) : Int)) l.length c5 ∧ OI c5 sv2 nv2 ak akey aval ai ∧ (c5.st = 0 ∨ c5.st = 1) ∧ wc.heap[Q]? = some (.cells #[.int .i64 ak, .string (bs akey), .string (bs aval), .int .i64 ai] 30 (0, 0)) ∧ c5.la = la2) → K1 ⟨#[fv0, .slice (some a) ss.length cs, fv2, fv3, u4, fv5, fv6, .pointer (some ⟨b, 0, none⟩), fv8, fv9, fv10, fv11, fv12, .int .i64 k, fv14, fv15, fv16, fv17, .pointer (some ⟨A18, 0, none⟩), .bool (!tv), fv20, fv21, fv22, fv23, fv24, .bool dn, u26, u27, u28, fv29, fv30, fv31, fv32, fv33, fv34, fv35, fv36, fv37, fv38, fv39, fv40, fv41, fv42, fv43, fv44, fv45, fv46, fv47, fv48, fv49, fv50, fv51, fv52, fv53, fv54, fv55, fv56, fv57, fv58, fv59, fv60, fv61, fv62, fv63, fv64, fv65, fv66, fv67, fv68, fv69, fv70, fv71, fv72, fv73, fv74, fv75, fv76, fv77, fv78, fv79, fv80, fv81, fv82, fv83, fv84, fv85, fv86, fv87, fv88, fv89, fv90, fv91, fv92, fv93, fv94, fv95, fv96, fv97, fv98, fv99, fv100, fv101, fv102, fv103, fv104, fv105, fv106, fv107, fv108, fv109, fv110, fv111, fv112, fv113, fv114, fv115, fv116, fv117, fv118, fv119, fv120, fv121, fv122, fv123, fv124, fv125, fv126, fv127, fv128, fv129, fv130, fv131, fv132, fv133, fv134, fv135, fv136, fv137, fv138, fv139, fv140, fv141, fv142, fv143, fv144, fv145, fv146, fv147, fv148, fv149, fv150, fv151, fv152, fv153, fv154, fv155, fv156, fv157, fv158, fv159, fv160, fv161, fv162, fv163, fv164, fv165, fv166, fv167, fv168, fv169, fv170, fv171, fv172, fv173, fv174, fv175, fv176, fv177, fv178, fv179, fv180, fv181, fv182, fv183, fv184, fv185, fv186, fv187, fv188, fv189, fv190, fv191, fv192, fv193, fv194, fv195, fv196, fv197, fv198, fv199, fv200, fv201, fv202, fv203, fv204, fv205, fv206, fv207, fv208, fv209, fv210, fv211, fv212, fv213, fv214, fv215, fv216, fv217, fv218, fv219, fv220, fv221, fv222, fv223, u224, u225, u226, u227, u228, u229, u230, u231, u232, u233, u234, u235, u236, u237, u238, u239, u240, u241, u242, u243, u244, u245, u246, u247, u248, u249, u250, u251, u252, u253, u254, u255, u256, u257, u258, u259, u260, u261, u262, u263, u264, u265, u266, u267, u268], []⟩ wc)
    (M12 : Hid (MO w w12 b c5 l an cn ko5 kc5)) (HQ12 : Hid (w12.heap[Q]? = some (.cells #[.int .i64 ak2, .string (bs akey2), .string (bs aval2), .int .i64 ai2] 30 (0, 0)))) (ST5 : Hid (c5.st ≠ 2)) (HD0 : Hid (dn = true → c5.st = 0)) (P5 : Hid (PC (2 * (k : Int) + 2) l.length c5)) (OI5 : Hid (OI c5 sv2 nv2 ak2 akey2 aval2 ai2)) (LA5 : Hid (c5.la = la2)) (HA12 : Hid (w12.heap[A18]? = some (.cells (askV c1 n1) 34 (0, 0)))) (HCX : Hid (∀ X, Kept Nil w X → (X.cell? (a.add (k * 6)) = some (.int .i64 s.tk) ∧ X.cell? ⟨(a.add (k * 6)).block, (a.add (k * 6)).off + 1, none⟩ = some (.int .i64 s.er) ∧ X.cell? ⟨(a.add (k * 6)).block, (a.add (k * 6)).off + 2, none⟩ = some (.int .i64 s.rk) ∧ X.cell? ⟨(a.add (k * 6)).block, (a.add (k * 6)).off + 3, none⟩ = some (.string (bs s.rval)) ∧ X.cell? ⟨(a.add (k * 6)).block, (a.add (k * 6)).off + 4, none⟩ = some (.int .i64 s.rver) ∧ X.cell? ⟨(a.add (k * 6)).block, (a.add (k * 6)).off + 5, none⟩ = some (.slice s.ao s.ks.length s.cc)) ∧ KIn (fun k => k < w.heap.size) X s.ao s.cc s.ks)) (HGO : Hid (goes c1 = !tv)) (hfr : Hid (tv = false → c1.se ≠ 0 → t3 = 0 → s.er = 0 → dn = true)) (HT3 : Hid (t3 = s.tk % 3)) (hbQ : b ≠ Q) (hki : (k : Int) < ss.length) :
    Code.wp Try.prog cT51 (Exit.inBlock 3 (Exit.then K1 Q9)) ⟨#[fv0, .slice (some a) ss.length cs, fv2, fv3, fv4, fv5, fv6, .pointer (some ⟨b, 0, none⟩), fv8, fv9, fv10, fv11, fv12, .int .i64 k, fv14, fv15, fv16, fv17, .pointer (some ⟨A18, 0, none⟩), .bool (!tv), fv20, fv21, fv22, fv23, fv24, .bool dn, fv26, fv27, fv28, fv29, fv30, fv31, fv32, fv33, fv34, fv35, fv36, fv37, fv38, fv39, fv40, fv41, fv42, fv43, fv44, fv45, fv46, fv47, fv48, fv49, fv50, fv51, fv52, fv53, fv54, fv55, fv56, fv57, fv58, fv59, fv60, fv61, fv62, fv63, fv64, fv65, fv66, fv67, fv68, fv69, fv70, fv71, fv72, fv73, fv74, fv75, fv76, fv77, fv78, fv79, fv80, fv81, fv82, fv83, fv84, fv85, fv86, fv87, fv88, fv89, fv90, fv91, fv92, fv93, fv94, fv95, fv96, fv97, fv98, fv99, fv100, fv101, fv102, fv103, fv104, fv105, fv106, fv107, fv108, fv109, fv110, fv111, fv112, fv113, fv114, fv115, fv116, fv117, fv118, fv119, fv120, fv121, fv122, fv123, fv124, fv125, fv126, fv127, fv128, fv129, fv130, fv131, fv132, fv133, fv134, fv135, fv136, fv137, fv138, fv139, fv140, fv141, fv142, fv143, fv144, fv145, fv146, fv147, fv148, fv149, fv150, fv151, fv152, fv153, fv154, fv155, fv156, fv157, fv158, fv159, fv160, fv161, fv162, fv163, fv164, fv165, fv166, fv167, fv168, fv169, fv170, fv171, fv172, fv173, fv174, fv175, fv176, fv177, fv178, fv179, fv180, fv181, fv182, fv183, fv184, fv185, fv186, fv187, fv188, fv189, fv190, fv191, fv192, fv193, fv194, fv195, fv196, fv197, fv198, fv199, fv200, fv201, fv202, fv203, fv204, fv205, fv206, fv207, fv208, fv209, fv210, fv211, fv212, fv213, fv214, fv215, fv216, fv217, fv218, fv219, fv220, fv221, fv222, fv223, fv224, fv225, fv226, fv227, fv228, fv229, fv230, fv231, fv232, fv233, fv234, fv235, fv236, fv237, fv238, fv239, fv240, fv241, fv242, fv243, fv244, fv245, fv246, fv247, fv248, fv249, fv250, fv251, fv252, fv253, fv254, fv255, fv256, fv257, fv258, fv259, fv260, fv261, fv262, fv263, fv264, fv265, fv266, fv267, fv268], []⟩ w12 := by
  have HKK : Hid (∀ (u4 u26 u27 u28 u224 u225 u226 u227 u228 u229 u230 u231 u232 u233 u234 u235 u236 u237 u238 u239 u240 u241 u242 u243 u244 u245 u246 u247 u248 u249 u250 u251 u252 u253 u254 u255 u256 u257 u258 u259 u260 u261 u262 u263 u264 u265 u266 u267 u268 : Value) (wc : World), Hid (∃ ko kc ak akey aval ai, MO w wc b c5 l an cn ko kc ∧ PC (2 * ((k + 1 : Nat) : Int)) l.length c5 ∧ OI c5 sv2 nv2 ak akey aval ai ∧ (c5.st = 0 ∨ c5.st = 1) ∧ wc.heap[Q]? = some (.cells #[.int .i64 ak, .string (bs akey), .string (bs aval), .int .i64 ai] 30 (0, 0)) ∧ c5.la = la2) → K1 ⟨#[fv0, .slice (some a) ss.length cs, fv2, fv3, u4, fv5, fv6, .pointer (some ⟨b, 0, none⟩), fv8, fv9, fv10, fv11, fv12, .int .i64 k, fv14, fv15, fv16, fv17, .pointer (some ⟨A18, 0, none⟩), .bool (!tv), fv20, fv21, fv22, fv23, fv24, .bool dn, u26, u27, u28, fv29, fv30, fv31, fv32, fv33, fv34, fv35, fv36, fv37, fv38, fv39, fv40, fv41, fv42, fv43, fv44, fv45, fv46, fv47, fv48, fv49, fv50, fv51, fv52, fv53, fv54, fv55, fv56, fv57, fv58, fv59, fv60, fv61, fv62, fv63, fv64, fv65, fv66, fv67, fv68, fv69, fv70, fv71, fv72, fv73, fv74, fv75, fv76, fv77, fv78, fv79, fv80, fv81, fv82, fv83, fv84, fv85, fv86, fv87, fv88, fv89, fv90, fv91, fv92, fv93, fv94, fv95, fv96, fv97, fv98, fv99, fv100, fv101, fv102, fv103, fv104, fv105, fv106, fv107, fv108, fv109, fv110, fv111, fv112, fv113, fv114, fv115, fv116, fv117, fv118, fv119, fv120, fv121, fv122, fv123, fv124, fv125, fv126, fv127, fv128, fv129, fv130, fv131, fv132, fv133, fv134, fv135, fv136, fv137, fv138, fv139, fv140, fv141, fv142, fv143, fv144, fv145, fv146, fv147, fv148, fv149, fv150, fv151, fv152, fv153, fv154, fv155, fv156, fv157, fv158, fv159, fv160, fv161, fv162, fv163, fv164, fv165, fv166, fv167, fv168, fv169, fv170, fv171, fv172, fv173, fv174, fv175, fv176, fv177, fv178, fv179, fv180, fv181, fv182, fv183, fv184, fv185, fv186, fv187, fv188, fv189, fv190, fv191, fv192, fv193, fv194, fv195, fv196, fv197, fv198, fv199, fv200, fv201, fv202, fv203, fv204, fv205, fv206, fv207, fv208, fv209, fv210, fv211, fv212, fv213, fv214, fv215, fv216, fv217, fv218, fv219, fv220, fv221, fv222, fv223, u224, u225, u226, u227, u228, u229, u230, u231, u232, u233, u234, u235, u236, u237, u238, u239, u240, u241, u242, u243, u244, u245, u246, u247, u248, u249, u250, u251, u252, u253, u254, u255, u256, u257, u258, u259, u260, u261, u262, u263, u264, u265, u266, u267, u268], []⟩ wc) := hK
  clear hK
  conv => arg 2; whnf
  dsimp only
  have PK3 := fun X => pickC_any s.tk 3 X (by decide) (by decide)
  rw [← HT3.out] at PK3
  go_upto_region 51 with fail
  have hcX := (HCX.out w12 M12.out.kept).1
  have v0 : w12.cell? (a.add (k * 6)) = some (.int .i64 s.tk) := hcX.1
  have v1 : w12.cell? ⟨(a.add (k * 6)).block, (a.add (k * 6)).off + 1, none⟩ = some (.int .i64 s.er) := hcX.2.1
  clear hcX
  go_cut [26] from 224 to 268 (fun s26 wc => ∃ f : Bool, s26 = .bool f ∧ Hid (f = true → dn = true) ∧ wc = w12)
  case first =>
    cases tv with
    | true =>
      go_wp2
      go_meet
      exact ⟨false, rfl, (fun e => by cases e), rfl⟩
    | false =>
      have x2 : w12.cell? ⟨A18, 2, none⟩ = some (.int .i64 c1.se) := by
        have h8 := HA12.out
        by_cases hz : c1.se = 0
        · have HA : askV c1 n1 = #[.int .i64 (c1.la + 1), .int .i64 n1, .int .i64 0, .int .i64 0, .int .i64 0, .string ⟨#[]⟩, .string ⟨#[]⟩, .int .i64 0, .int .i64 0] := by unfold askV; rw [HGO.out, if_pos (by rfl), if_pos hz]; rfl
          rw [HA] at h8
          rw [hz]
          exact blk_at h8 2 rfl
        · have HA : askV c1 n1 = #[.int .i64 (c1.la + 1), .int .i64 n1, .int .i64 c1.se, .int .i64 (c1.nu + 1), .int .i64 c1.ck, .string (bs c1.ckey), .string (bs c1.cval), .int .i64 c1.ci, .int .i64 0] := by unfold askV; rw [HGO.out, if_pos (by rfl), if_neg hz]
          rw [HA] at h8
          exact blk_at h8 2 rfl
      by_cases hz : c1.se = 0
      · rw [hz] at x2
        go_wp2
        go_meet
        exact ⟨false, rfl, (fun e => by cases e), rfl⟩
      · have hz2 : (c1.se != 0) = true := by simpa using hz
        by_cases h3 : t3 = 0
        · have h3b : (t3 == 0) = true := by simpa using h3
          by_cases h4 : s.er = 0
          · have h4b : (s.er == 0) = true := by simpa using h4
            have HD1 : Hid (dn = true) := hfr.out rfl hz h3 h4
            clear h3 h4 hz
            go_wp2_with (go_at_call 14; go_fit (PK3 _); rintro _ w9 ⟨rfl, h9⟩; rw [h9]; clear h9)
            go_meet
            exact ⟨true, by simp, (fun _ => HD1.out), rfl⟩
          · have h4b : (s.er == 0) = false := by simpa using h4
            clear h3 h4 hz
            go_wp2_with (go_at_call 14; go_fit (PK3 _); rintro _ w9 ⟨rfl, h9⟩; rw [h9]; clear h9)
            go_meet
            exact ⟨false, by simp, (fun e => by cases e), rfl⟩
        · have h3b : (t3 == 0) = false := by simpa using h3
          clear h3 hz
          go_wp2_with (go_at_call 14; go_fit (PK3 _); rintro _ w9 ⟨rfl, h9⟩; rw [h9]; clear h9)
          go_meet
          exact ⟨false, by simp, (fun e => by cases e), rfl⟩
  case rest =>
    obtain ⟨f, rfl, HF, hw12⟩ := hcut
    rw [hw12]
    clear hw12 v0 v1
    go_upto_region 52 with fail
    go_cut [252] from 248 to 268 (fun s252 wc => s252 = .bool false ∧ wc = w12)
    case first =>
      cases f with
      | false =>
        go_wp2
        go_meet
        exact ⟨rfl, rfl⟩
      | true =>
        have hd := HF.out rfl
        subst hd
        go_wp2
        go_meet
        exact ⟨rfl, rfl⟩
    case rest =>
      obtain ⟨rfl, hw12⟩ := hcut
      rw [hw12]
      clear hw12
      go_upto_if 252 with fail
      go_cut [] from 253 to 268 (fun wc => wc = w12)
      case first =>
        go_wp2
        go_meet
        rfl
      case rest =>
        rw [hcut]
        apply_assumption
        refine coTail54 w w12 b cn kc5 Q k c5 l an ko5 dn la2 sv2 nv2 ak2 ai2 akey2 aval2 _ _ _ _ _ _ _ _ _ _ _ _ _ _ _ _ _ _ _ _ _ _ _ _ _ _ _ _ _ _ _ _ _ _ _ _ _ _ _ _ _ _ _ _ _ _ _ _ _ _ _ _ _ _ _ _ _ _ _ _ _ _ _ _ _ _ _ _ _ _ _ _ _ _ _ _ _ _ _ _ _ _ _ _ _ _ _ _ _ _ _ _ _ _ _ _ _ _ _ _ _ _ _ _ _ _ _ _ _ _ _ _ _ _ _ _ _ _ _ _ _ _ _ _ _ _ _ _ _ _ _ _ _ _ _ _ _ _ _ _ _ _ _ _ _ _ _ _ _ _ _ _ _ _ _ _ _ _ _ _ _ _ _ _ _ _ _ _ _ _ _ _ _ _ _ _ _ _ _ _ _ _ _ _ _ _ _ _ _ _ _ _ _ _ _ _ _ _ _ _ _ _ _ _ _ _ _ _ _ _ _ _ _ _ _ _ _ _ _ _ _ _ _ _ _ _ _ _ _ _ _ _ _ _ _ _ _ _ _ _ _ _ _ _ _ _ _ _ _ _ _ _ _ _ _ _ _ _ _ _ _ _ _ _ _ _ _ _ _ ?_ M12 HQ12 ST5 HD0 P5 OI5 LA5 hbQ
        intro u27 u28 u253 u254 u255 u256 u257 u258 u259 u260 u261 u262 u263 u264 u265 u266 u267 u268 wz h1
        exact HKK.out _ _ _ _ _ _ _ _ _ _ _ _ _ _ _ _ _ _ _ _ _ _ _ _ _ _ _ _ _ _ _ _ _ _ _ _ _ _ _ _ _ _ _ _ _ _ _ _ _ wz h1.out

end Go.Proofs.Ytbfleeilpccmcaa
