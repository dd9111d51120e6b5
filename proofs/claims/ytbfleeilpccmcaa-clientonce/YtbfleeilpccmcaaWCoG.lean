/-
  ClientOnce: a round from the second taking on.
-/
import Derived.Test.YtbfleeilpccmcaaWCoA
import Derived.Deep.DeepCutAuto
import Derived.Deep.DeepFit
import Derived.Deep.RegionHeld3
namespace Go.Proofs.Ytbfleeilpccmcaa
open Go.RowKit

set_option maxRecDepth 1000000 in
set_option maxHeartbeats 40000000 in
theorem coTail54 (w w12 : World) (b cn kc5 Q k : Nat) (c5 : Cl) (l : List Int) (an ko5 : Option Addr) (dn : Bool) (la2 sv2 nv2 ak2 ai2 : Int) (akey2 aval2 : List UInt8) (fv0 fv1 fv2 fv3 fv4 fv5 fv6 fv8 fv9 fv10 fv11 fv12 fv13 fv14 fv15 fv16 fv17 fv18 fv19 fv20 fv21 fv22 fv23 fv24 fv26 fv27 fv28 fv29 fv30 fv31 fv32 fv33 fv34 fv35 fv36 fv37 fv38 fv39 fv40 fv41 fv42 fv43 fv44 fv45 fv46 fv47 fv48 fv49 fv50 fv51 fv52 fv53 fv54 fv55 fv56 fv57 fv58 fv59 fv60 fv61 fv62 fv63 fv64 fv65 fv66 fv67 fv68 fv69 fv70 fv71 fv72 fv73 fv74 fv75 fv76 fv77 fv78 fv79 fv80 fv81 fv82 fv83 fv84 fv85 fv86 fv87 fv88 fv89 fv90 fv91 fv92 fv93 fv94 fv95 fv96 fv97 fv98 fv99 fv100 fv101 fv102 fv103 fv104 fv105 fv106 fv107 fv108 fv109 fv110 fv111 fv112 fv113 fv114 fv115 fv116 fv117 fv118 fv119 fv120 fv121 fv122 fv123 fv124 fv125 fv126 fv127 fv128 fv129 fv130 fv131 fv132 fv133 fv134 fv135 fv136 fv137 fv138 fv139 fv140 fv141 fv142 fv143 fv144 fv145 fv146 fv147 fv148 fv149 fv150 fv151 fv152 fv153 fv154 fv155 fv156 fv157 fv158 fv159 fv160 fv161 fv162 fv163 fv164 fv165 fv166 fv167 fv168 fv169 fv170 fv171 fv172 fv173 fv174 fv175 fv176 fv177 fv178 fv179 fv180 fv181 fv182 fv183 fv184 fv185 fv186 fv187 fv188 fv189 fv190 fv191 fv192 fv193 fv194 fv195 fv196 fv197 fv198 fv199 fv200 fv201 fv202 fv203 fv204 fv205 fv206 fv207 fv208 fv209 fv210 fv211 fv212 fv213 fv214 fv215 fv216 fv217 fv218 fv219 fv220 fv221 fv222 fv223 fv224 fv225 fv226 fv227 fv228 fv229 fv230 fv231 fv232 fv233 fv234 fv235 fv236 fv237 fv238 fv239 fv240 fv241 fv242 fv243 fv244 fv245 fv246 fv247 fv248 fv249 fv250 fv251 fv252 fv253 fv254 fv255 fv256 fv257 fv258 fv259 fv260 fv261 fv262 fv263 fv264 fv265 fv266 fv267 fv268 : Value) (K1 : Act → World → Prop) (Q9 : Exit → Act → World → Prop)
    (hK : ∀ (u27 u28 u253 u254 u255 u256 u257 u258 u259 u260 u261 u262 u263 u264 u265 u266 u267 u268 : Value) (wc : World), Hid (∃ ko kc ak akey aval ai, MO w wc b c5 l an cn ko kc ∧ PC (2 * ((k + 1 : Nat) : Int)) l.length c5 ∧ OI c5 sv2 nv2 ak akey aval ai ∧ (c5.st = 0 ∨ c5.st = 1) ∧ wc.heap[Q]? = some (.cells #[.int .i64 ak, .string (bs akey), .string (bs aval), .int .i64 ai] 30 (0, 0)) ∧ c5.la = la2) → K1 ⟨#[fv0, fv1, fv2, fv3, fv4, fv5, fv6, .pointer (some ⟨b, 0, none⟩), fv8, fv9, fv10, fv11, fv12, fv13, fv14, fv15, fv16, fv17, fv18, fv19, fv20, fv21, fv22, fv23, fv24, .bool dn, fv26, u27, u28, fv29, fv30, fv31, fv32, fv33, fv34, fv35, fv36, fv37, fv38, fv39, fv40, fv41, fv42, fv43, fv44, fv45, fv46, fv47, fv48, fv49, fv50, fv51, fv52, fv53, fv54, fv55, fv56, fv57, fv58, fv59, fv60, fv61, fv62, fv63, fv64, fv65, fv66, fv67, fv68, fv69, fv70, fv71, fv72, fv73, fv74, fv75, fv76, fv77, fv78, fv79, fv80, fv81, fv82, fv83, fv84, fv85, fv86, fv87, fv88, fv89, fv90, fv91, fv92, fv93, fv94, fv95, fv96, fv97, fv98, fv99, fv100, fv101, fv102, fv103, fv104, fv105, fv106, fv107, fv108, fv109, fv110, fv111, fv112, fv113, fv114, fv115, fv116, fv117, fv118, fv119, fv120, fv121, fv122, fv123, fv124, fv125, fv126, fv127, fv128, fv129, fv130, fv131, fv132, fv133, fv134, fv135, fv136, fv137, fv138, fv139, fv140, fv141, fv142, fv143, fv144, fv145, fv146, fv147, fv148, fv149, fv150, fv151, fv152, fv153, fv154, fv155, fv156, fv157, fv158, fv159, fv160, fv161, fv162, fv163, fv164, fv165, fv166, fv167, fv168, fv169, fv170, fv171, fv172, fv173, fv174, fv175, fv176, fv177, fv178, fv179, fv180, fv181, fv182, fv183, fv184, fv185, fv186, fv187, fv188, fv189, fv190, fv191, fv192, fv193, fv194, fv195, fv196, fv197, fv198, fv199, fv200, fv201, fv202, fv203, fv204, fv205, fv206, fv207, fv208, fv209, fv210, fv211, fv212, fv213, fv214, fv215, fv216, fv217, fv218, fv219, fv220, fv221, fv222, fv223, fv224, fv225, fv226, fv227, fv228, fv229, fv230, fv231, fv232, fv233, fv234, fv235, fv236, fv237, fv238, fv239, fv240, fv241, fv242, fv243, fv244, fv245, fv246, fv247, fv248, fv249, fv250, fv251, fv252, u253, u254, u255, u256, u257, u258, u259, u260, u261, u262, u263, u264, u265, u266, u267, u268], []⟩ wc)
    (M12 : Hid (MO w w12 b c5 l an cn ko5 kc5)) (HQ12 : Hid (w12.heap[Q]? = some (.cells #[.int .i64 ak2, .string (bs akey2), .string (bs aval2), .int .i64 ai2] 30 (0, 0)))) (ST5 : Hid (c5.st ≠ 2)) (HD0 : Hid (dn = true → c5.st = 0)) (P5 : Hid (PC (2 * (k : Int) + 2) l.length c5)) (OI5 : Hid (OI c5 sv2 nv2 ak2 akey2 aval2 ai2)) (LA5 : Hid (c5.la = la2)) (hbQ : b ≠ Q) :
    Code.wp Try.prog cT54 (Exit.inBlock 3 (Exit.then K1 Q9)) ⟨#[fv0, fv1, fv2, fv3, fv4, fv5, fv6, .pointer (some ⟨b, 0, none⟩), fv8, fv9, fv10, fv11, fv12, fv13, fv14, fv15, fv16, fv17, fv18, fv19, fv20, fv21, fv22, fv23, fv24, .bool dn, fv26, fv27, fv28, fv29, fv30, fv31, fv32, fv33, fv34, fv35, fv36, fv37, fv38, fv39, fv40, fv41, fv42, fv43, fv44, fv45, fv46, fv47, fv48, fv49, fv50, fv51, fv52, fv53, fv54, fv55, fv56, fv57, fv58, fv59, fv60, fv61, fv62, fv63, fv64, fv65, fv66, fv67, fv68, fv69, fv70, fv71, fv72, fv73, fv74, fv75, fv76, fv77, fv78, fv79, fv80, fv81, fv82, fv83, fv84, fv85, fv86, fv87, fv88, fv89, fv90, fv91, fv92, fv93, fv94, fv95, fv96, fv97, fv98, fv99, fv100, fv101, fv102, fv103, fv104, fv105, fv106, fv107, fv108, fv109, fv110, fv111, fv112, fv113, fv114, fv115, fv116, fv117, fv118, fv119, fv120, fv121, fv122, fv123, fv124, fv125, fv126, fv127, fv128, fv129, fv130, fv131, fv132, fv133, fv134, fv135, fv136, fv137, fv138, fv139, fv140, fv141, fv142, fv143, fv144, fv145, fv146, fv147, fv148, fv149, fv150, fv151, fv152, fv153, fv154, fv155, fv156, fv157, fv158, fv159, fv160, fv161, fv162, fv163, fv164, fv165, fv166, fv167, fv168, fv169, fv170, fv171, fv172, fv173, fv174, fv175, fv176, fv177, fv178, fv179, fv180, fv181, fv182, fv183, fv184, fv185, fv186, fv187, fv188, fv189, fv190, fv191, fv192, fv193, fv194, fv195, fv196, fv197, fv198, fv199, fv200, fv201, fv202, fv203, fv204, fv205, fv206, fv207, fv208, fv209, fv210, fv211, fv212, fv213, fv214, fv215, fv216, fv217, fv218, fv219, fv220, fv221, fv222, fv223, fv224, fv225, fv226, fv227, fv228, fv229, fv230, fv231, fv232, fv233, fv234, fv235, fv236, fv237, fv238, fv239, fv240, fv241, fv242, fv243, fv244, fv245, fv246, fv247, fv248, fv249, fv250, fv251, fv252, fv253, fv254, fv255, fv256, fv257, fv258, fv259, fv260, fv261, fv262, fv263, fv264, fv265, fv266, fv267, fv268], []⟩ w12 := by
  have HKK : Hid (∀ (u27 u28 u253 u254 u255 u256 u257 u258 u259 u260 u261 u262 u263 u264 u265 u266 u267 u268 : Value) (wc : World), Hid (∃ ko kc ak akey aval ai, MO w wc b c5 l an cn ko kc ∧ PC (2 * ((k + 1 : Nat) : Int)) l.length c5 ∧ OI c5 sv2 nv2 ak akey aval ai ∧ (c5.st = 0 ∨ c5.st = 1) ∧ wc.heap[Q]? = some (.cells #[.int .i64 ak, .string (bs akey), .string (bs aval), .int .i64 ai] 30 (0, 0)) ∧ c5.la = la2) → K1 ⟨#[fv0, fv1, fv2, fv3, fv4, fv5, fv6, .pointer (some ⟨b, 0, none⟩), fv8, fv9, fv10, fv11, fv12, fv13, fv14, fv15, fv16, fv17, fv18, fv19, fv20, fv21, fv22, fv23, fv24, .bool dn, fv26, u27, u28, fv29, fv30, fv31, fv32, fv33, fv34, fv35, fv36, fv37, fv38, fv39, fv40, fv41, fv42, fv43, fv44, fv45, fv46, fv47, fv48, fv49, fv50, fv51, fv52, fv53, fv54, fv55, fv56, fv57, fv58, fv59, fv60, fv61, fv62, fv63, fv64, fv65, fv66, fv67, fv68, fv69, fv70, fv71, fv72, fv73, fv74, fv75, fv76, fv77, fv78, fv79, fv80, fv81, fv82, fv83, fv84, fv85, fv86, fv87, fv88, fv89, fv90, fv91, fv92, fv93, fv94, fv95, fv96, fv97, fv98, fv99, fv100, fv101, fv102, fv103, fv104, fv105, fv106, fv107, fv108, fv109, fv110, fv111, fv112, fv113, fv114, fv115, fv116, fv117, fv118, fv119, fv120, fv121, fv122, fv123, fv124, fv125, fv126, fv127, fv128, fv129, fv130, fv131, fv132, fv133, fv134, fv135, fv136, fv137, fv138, fv139, fv140, fv141, fv142, fv143, fv144, fv145, fv146, fv147, fv148, fv149, fv150, fv151, fv152, fv153, fv154, fv155, fv156, fv157, fv158, fv159, fv160, fv161, fv162, fv163, fv164, fv165, fv166, fv167, fv168, fv169, fv170, fv171, fv172, fv173, fv174, fv175, fv176, fv177, fv178, fv179, fv180, fv181, fv182, fv183, fv184, fv185, fv186, fv187, fv188, fv189, fv190, fv191, fv192, fv193, fv194, fv195, fv196, fv197, fv198, fv199, fv200, fv201, fv202, fv203, fv204, fv205, fv206, fv207, fv208, fv209, fv210, fv211, fv212, fv213, fv214, fv215, fv216, fv217, fv218, fv219, fv220, fv221, fv222, fv223, fv224, fv225, fv226, fv227, fv228, fv229, fv230, fv231, fv232, fv233, fv234, fv235, fv236, fv237, fv238, fv239, fv240, fv241, fv242, fv243, fv244, fv245, fv246, fv247, fv248, fv249, fv250, fv251, fv252, u253, u254, u255, u256, u257, u258, u259, u260, u261, u262, u263, u264, u265, u266, u267, u268], []⟩ wc) := hK
  clear hK
  conv => arg 2; whnf
  dsimp only
  have D2 := done_any b l.length cn kc5 c5 an ko5 w12 M12.out.cl
  have HD5 : Hid (doneV c5 ko5 kc5 = #[.agg #[.int .i64 0, .string ⟨#[]⟩, .int .i64 0, .slice none 0 0], .bool false] ∧ doneC c5 = c5) := by
    constructor
    · unfold doneV; rw [if_neg ST5.out]
    · unfold doneC; rw [if_neg ST5.out]
  rw [HD5.out.1, HD5.out.2, if_neg ST5.out, if_neg ST5.out] at D2
  go_upto_region 55 with (go_at_call 17; go_fit D2; rintro _ w13 ⟨rfl, h13, k13⟩; have H13 : Hid (MO w w13 b c5 l an cn ko5 kc5 ∧ Kept (One b) w12 w13) := ⟨M12.out.call k13 h13, k13⟩; clear h13 k13)
  obtain ⟨R27, HRe⟩ : ∃ R27, Hid (R27 = w13.heap.size) := ⟨_, rfl⟩
  obtain ⟨X13, hX13⟩ : ∃ X13, X13 = w13.alloc (.cells #[.int .i64 0, .string ⟨#[]⟩, .int .i64 0, .slice none 0 0] 45) := ⟨_, rfl⟩
  have HX13 : Hid (MO w X13 b c5 l an cn ko5 kc5 ∧ X13.heap[Q]? = some (.cells #[.int .i64 ak2, .string (bs akey2), .string (bs aval2), .int .i64 ai2] 30 (0, 0)) ∧ X13.heap[R27]? = some (.cells #[.int .i64 0, .string ⟨#[]⟩, .int .i64 0, .slice none 0 0] 45 (0, 0))) := by
    rw [hX13, HRe.out]
    exact ⟨H13.out.1.next ((Kept.refl _ _).alloc _), blk_past (H13.out.2.block _ _ HQ12.out (fun e => hbQ (show Q = b from e).symm)) _, blk_new _ _⟩
  rw [← HRe.out, ← hX13]
  clear hX13 D2 H13
  have z0 : X13.cell? ⟨R27, 0, none⟩ = some (.int .i64 0) := blk_at HX13.out.2.2 0 rfl
  have hx5 : c5.nx < l.length := P5.out.nx
  obtain ⟨n5, hn5⟩ : ∃ n5, l[c5.nx] = n5 := ⟨_, rfl⟩
  have LK5 := look_any b l.length cn kc5 c5 an ko5 l X13.heap.size X13 HX13.out.1.cl HX13.out.1.row rfl hx5
  rw [hn5] at LK5
  go_cut [268] from 253 to 268 (fun s268 wc => s268 = .bool false ∧ Hid (Kept Nil X13 wc))
  case first =>
    cases dn with
    | false =>
      go_wp2
      go_meet
      exact ⟨rfl, Kept.refl _ _⟩
    | true =>
      have h50 : (c5.st == 1) = false := by rw [HD0.out rfl]; rfl
      rw [h50] at LK5
      have hfd5 : ∀ X : World, (Instr.field 49 (.agg #[.int .i64 c5.se, .int .i64 c5.nu, .int .i64 n5, .bool c5.wt, .bool false]) 4).run Try.prog X = .ok (.bool false) X := fun _ => by kernel_rfl
      go_wp2_with (go_at_call 12; go_fit LK5; rintro _ w14 ⟨rfl, k14⟩; have K14b : Hid (Kept Nil X13 w14) := k14; clear k14)
      go_meet
      exact ⟨rfl, K14b.out⟩
  case rest =>
    obtain ⟨rfl, K15⟩ := hcut
    rename World => w15
    have HF5 : Hid (∃ ko kc ak akey aval ai, MO w w15 b c5 l an cn ko kc ∧ PC (2 * ((k + 1 : Nat) : Int)) l.length c5 ∧ OI c5 sv2 nv2 ak akey aval ai ∧ (c5.st = 0 ∨ c5.st = 1) ∧ w15.heap[Q]? = some (.cells #[.int .i64 ak, .string (bs akey), .string (bs aval), .int .i64 ai] 30 (0, 0)) ∧ c5.la = la2) := by
      refine ⟨ko5, kc5, ak2, akey2, aval2, ai2, HX13.out.1.next K15.out, P5.out.mono (by omega), OI5.out, ?_, K15.out.block _ _ HX13.out.2.1 (fun x => x.elim), LA5.out⟩
      rcases P5.out.st with e | e | e
      · exact .inl e
      · exact .inr e
      · exact absurd e ST5.out
    clear HX13 LK5 z0
    go_wp2
    exact HKK.out _ _ _ _ _ _ _ _ _ _ _ _ _ _ _ _ _ _ w15 HF5.out

end Go.Proofs.Ytbfleeilpccmcaa
