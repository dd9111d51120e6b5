/-
  KvMap: a round from the kinds on.
-/
import Derived.Test.YtblmmbghnkplkaaWKmU
import Derived.Deep.DeepCutAuto
import Derived.Deep.DeepFit
namespace Go.Proofs.Ytblmmbghnkplkaa
open Go.RowKit

noncomputable def cT18 : Code := (Try.f6.body.bind (findTail 18)).getD .skip

set_option maxRecDepth 1000000 in
set_option maxHeartbeats 40000000 in
theorem kmTail18 (w wr W4 : World) (cb cp ck cv : Nat) (k kn : Int) (ps : List Pr) (ks vs : List (List UInt8)) (k2 v2 : List UInt8) (ap ak av : Option Addr) (sv0 sv1 sv2 sv3 sv4 sv8 sv10 sv11 sv12 sv13 sv14 sv15 sv16 sv17 sv18 sv19 sv20 sv21 sv22 sv23 sv24 sv25 sv26 sv27 sv28 sv29 sv30 sv31 sv32 sv33 sv34 sv35 sv36 sv37 sv38 sv39 sv40 sv41 sv42 sv43 sv44 sv45 sv46 sv47 sv48 sv49 sv50 sv51 sv52 sv53 sv54 sv55 sv56 sv57 sv58 sv59 sv60 sv61 sv62 sv63 sv64 sv65 sv66 sv67 sv68 sv69 sv70 sv71 sv72 sv73 sv74 sv75 sv76 sv77 sv78 sv79 sv80 sv81 sv82 sv83 sv84 sv85 sv86 sv87 sv88 sv89 sv90 sv91 sv92 sv93 sv94 sv95 sv96 sv97 sv98 sv99 sv100 sv101 sv102 sv103 sv104 sv105 sv106 sv107 sv108 sv109 sv110 sv111 sv112 sv113 sv114 sv115 sv116 sv117 sv118 sv119 sv120 sv121 sv122 sv123 sv124 sv125 sv126 sv127 sv128 sv129 sv130 sv131 sv132 sv133 sv134 sv135 sv136 sv137 sv138 sv139 sv140 sv141 sv142 sv143 sv144 sv145 sv146 sv147 sv148 sv149 sv150 sv151 sv152 sv153 sv154 sv155 sv156 sv157 sv158 sv159 sv160 sv161 sv162 sv163 sv164 sv165 sv166 sv167 sv168 sv169 sv170 sv171 sv172 sv173 sv174 sv175 sv176 sv177 sv178 sv179 sv180 sv181 sv182 sv183 sv184 sv185 sv186 sv187 sv188 sv189 sv190 sv191 sv192 sv193 sv194 sv195 sv196 sv197 sv198 sv199 sv200 sv201 sv202 sv203 sv204 sv205 sv206 sv207 sv208 sv209 sv210 sv211 sv212 sv213 sv214 sv215 sv216 sv217 sv218 sv219 sv220 sv221 sv222 sv223 sv224 sv225 sv226 sv227 sv228 sv229 sv230 sv231 sv232 sv233 sv234 sv235 sv236 sv237 sv238 sv239 sv240 sv241 sv242 sv243 : Value) (K1 K2 K4 : Act → World → Prop) (R : Ending → World → Prop)
    (hK : ∀ (u2 u11 u12 u13 u14 u15 u16 u17 u18 u19 u20 u39 u40 u41 u42 u43 u44 u45 u46 u47 u48 u49 u50 u51 u52 u53 u54 u55 u56 u57 u58 u59 u60 u61 u62 u63 u64 u65 u66 u67 u68 u69 u70 u71 u72 u73 u74 u75 u76 u77 u78 u79 u80 u81 u82 u83 u84 u85 u86 u87 u88 u89 u90 u91 u92 u93 u94 u95 u96 u97 u98 u99 u100 u101 u102 u103 u104 u105 u106 u107 u108 u109 u110 u111 u112 u113 u114 u115 u116 u117 u118 u119 u120 u121 u122 u123 u124 u125 u126 u127 u128 u129 u130 u131 u132 u133 u134 u135 u136 u137 u138 u139 u140 u141 u142 u143 u144 u145 u146 u147 u148 u149 u150 u151 u152 u153 u154 u155 u156 u157 u158 u159 u160 u161 u162 u163 u164 u165 u166 u167 u168 u169 u170 u171 u172 u173 u174 u175 u176 u177 u178 u179 u180 u181 u182 u183 u184 u185 u186 u187 u188 u189 u190 u191 u192 u193 u194 u195 u196 u197 u198 u199 u200 u201 u202 u203 u204 u205 u206 u207 u208 u209 u210 u211 u212 u213 u214 u215 u216 u217 u218 u219 u220 u221 u222 u223 u224 u225 u226 u227 u228 u229 u230 u231 u232 u233 u234 u235 u236 u237 u238 u239 u240 u241 u242 u243 : Value) (PS : List Pr) (na : Option Addr) (nc : Nat) (ks3 vs3 : List (List UInt8)) (ak3 av3 : Option Addr) (ck3 cv3 n1 n2 : Nat) (wc : World), Hid (n1 = ks3.length ∧ n2 = vs3.length) → Hid (KM w (k + 1) PS ks3 vs3 na ak3 av3 nc ck3 cv3 wc) → K1 ⟨#[sv0, sv1, u2, sv3, sv4, .slice na PS.length nc, .slice ak3 n1 ck3, .slice av3 n2 cv3, sv8, .pointer (some ⟨cb, 0, none⟩), .slice na PS.length nc, u11, u12, u13, u14, u15, u16, u17, u18, u19, u20, sv21, sv22, sv23, sv24, sv25, sv26, sv27, sv28, sv29, sv30, sv31, sv32, sv33, sv34, sv35, sv36, sv37, sv38, u39, u40, u41, u42, u43, u44, u45, u46, u47, u48, u49, u50, u51, u52, u53, u54, u55, u56, u57, u58, u59, u60, u61, u62, u63, u64, u65, u66, u67, u68, u69, u70, u71, u72, u73, u74, u75, u76, u77, u78, u79, u80, u81, u82, u83, u84, u85, u86, u87, u88, u89, u90, u91, u92, u93, u94, u95, u96, u97, u98, u99, u100, u101, u102, u103, u104, u105, u106, u107, u108, u109, u110, u111, u112, u113, u114, u115, u116, u117, u118, u119, u120, u121, u122, u123, u124, u125, u126, u127, u128, u129, u130, u131, u132, u133, u134, u135, u136, u137, u138, u139, u140, u141, u142, u143, u144, u145, u146, u147, u148, u149, u150, u151, u152, u153, u154, u155, u156, u157, u158, u159, u160, u161, u162, u163, u164, u165, u166, u167, u168, u169, u170, u171, u172, u173, u174, u175, u176, u177, u178, u179, u180, u181, u182, u183, u184, u185, u186, u187, u188, u189, u190, u191, u192, u193, u194, u195, u196, u197, u198, u199, u200, u201, u202, u203, u204, u205, u206, u207, u208, u209, u210, u211, u212, u213, u214, u215, u216, u217, u218, u219, u220, u221, u222, u223, u224, u225, u226, u227, u228, u229, u230, u231, u232, u233, u234, u235, u236, u237, u238, u239, u240, u241, u242, u243], []⟩ wc)
    (HM : Hid (KM w k ps ks vs ap ak av cp ck cv wr)) (HX4 : Hid (W4.heap[cb]? = some (.cells #[.int .i64 kn, .string (bs (107 :: k2)), .string (bs v2), .int .i64 0] 59 (0, 0)))) (HV2 : Hid (v2.length ≤ 20)) (HK2 : Hid (k2.length ≤ 3)) (KX4 : Hid (Kept Nil wr W4)) (HCB2 : Hid (wr.heap.size ≤ cb)) (HKn : Hid (1 ≤ kn ∧ kn ≤ 6)) (HKT : Hid (0 ≤ k ∧ k < 1099511627775)) :
    Code.wp Try.prog cT18 (Exit.inBlock 1 (Exit.then K1 (Exit.then K2 (Exit.inBlock 0 (Exit.then K4 (bodyPost Try.prog Try.f6 R)))))) ⟨#[sv0, sv1, sv2, sv3, sv4, .slice ap ps.length cp, .slice ak ks.length ck, .slice av vs.length cv, sv8, .pointer (some ⟨cb, 0, none⟩), sv10, sv11, sv12, sv13, sv14, sv15, sv16, sv17, sv18, sv19, sv20, sv21, sv22, sv23, sv24, sv25, sv26, sv27, sv28, sv29, sv30, sv31, sv32, sv33, sv34, sv35, sv36, sv37, sv38, sv39, sv40, sv41, sv42, sv43, sv44, sv45, sv46, sv47, sv48, sv49, sv50, sv51, sv52, sv53, sv54, sv55, sv56, sv57, sv58, sv59, sv60, sv61, sv62, sv63, sv64, sv65, sv66, sv67, sv68, sv69, sv70, sv71, sv72, sv73, sv74, sv75, sv76, sv77, sv78, sv79, sv80, sv81, sv82, sv83, sv84, sv85, sv86, sv87, sv88, sv89, sv90, sv91, sv92, sv93, sv94, sv95, sv96, sv97, sv98, sv99, sv100, sv101, sv102, sv103, sv104, sv105, sv106, sv107, sv108, sv109, sv110, sv111, sv112, sv113, sv114, sv115, sv116, sv117, sv118, sv119, sv120, sv121, sv122, sv123, sv124, sv125, sv126, sv127, sv128, sv129, sv130, sv131, sv132, sv133, sv134, sv135, sv136, sv137, sv138, sv139, sv140, sv141, sv142, sv143, sv144, sv145, sv146, sv147, sv148, sv149, sv150, sv151, sv152, sv153, sv154, sv155, sv156, sv157, sv158, sv159, sv160, sv161, sv162, sv163, sv164, sv165, sv166, sv167, sv168, sv169, sv170, sv171, sv172, sv173, sv174, sv175, sv176, sv177, sv178, sv179, sv180, sv181, sv182, sv183, sv184, sv185, sv186, sv187, sv188, sv189, sv190, sv191, sv192, sv193, sv194, sv195, sv196, sv197, sv198, sv199, sv200, sv201, sv202, sv203, sv204, sv205, sv206, sv207, sv208, sv209, sv210, sv211, sv212, sv213, sv214, sv215, sv216, sv217, sv218, sv219, sv220, sv221, sv222, sv223, sv224, sv225, sv226, sv227, sv228, sv229, sv230, sv231, sv232, sv233, sv234, sv235, sv236, sv237, sv238, sv239, sv240, sv241, sv242, sv243], []⟩ W4 := by
  have HKK : Hid (∀ (u2 u11 u12 u13 u14 u15 u16 u17 u18 u19 u20 u39 u40 u41 u42 u43 u44 u45 u46 u47 u48 u49 u50 u51 u52 u53 u54 u55 u56 u57 u58 u59 u60 u61 u62 u63 u64 u65 u66 u67 u68 u69 u70 u71 u72 u73 u74 u75 u76 u77 u78 u79 u80 u81 u82 u83 u84 u85 u86 u87 u88 u89 u90 u91 u92 u93 u94 u95 u96 u97 u98 u99 u100 u101 u102 u103 u104 u105 u106 u107 u108 u109 u110 u111 u112 u113 u114 u115 u116 u117 u118 u119 u120 u121 u122 u123 u124 u125 u126 u127 u128 u129 u130 u131 u132 u133 u134 u135 u136 u137 u138 u139 u140 u141 u142 u143 u144 u145 u146 u147 u148 u149 u150 u151 u152 u153 u154 u155 u156 u157 u158 u159 u160 u161 u162 u163 u164 u165 u166 u167 u168 u169 u170 u171 u172 u173 u174 u175 u176 u177 u178 u179 u180 u181 u182 u183 u184 u185 u186 u187 u188 u189 u190 u191 u192 u193 u194 u195 u196 u197 u198 u199 u200 u201 u202 u203 u204 u205 u206 u207 u208 u209 u210 u211 u212 u213 u214 u215 u216 u217 u218 u219 u220 u221 u222 u223 u224 u225 u226 u227 u228 u229 u230 u231 u232 u233 u234 u235 u236 u237 u238 u239 u240 u241 u242 u243 : Value) (PS : List Pr) (na : Option Addr) (nc : Nat) (ks3 vs3 : List (List UInt8)) (ak3 av3 : Option Addr) (ck3 cv3 n1 n2 : Nat) (wc : World), Hid (n1 = ks3.length ∧ n2 = vs3.length) → Hid (KM w (k + 1) PS ks3 vs3 na ak3 av3 nc ck3 cv3 wc) → K1 ⟨#[sv0, sv1, u2, sv3, sv4, .slice na PS.length nc, .slice ak3 n1 ck3, .slice av3 n2 cv3, sv8, .pointer (some ⟨cb, 0, none⟩), .slice na PS.length nc, u11, u12, u13, u14, u15, u16, u17, u18, u19, u20, sv21, sv22, sv23, sv24, sv25, sv26, sv27, sv28, sv29, sv30, sv31, sv32, sv33, sv34, sv35, sv36, sv37, sv38, u39, u40, u41, u42, u43, u44, u45, u46, u47, u48, u49, u50, u51, u52, u53, u54, u55, u56, u57, u58, u59, u60, u61, u62, u63, u64, u65, u66, u67, u68, u69, u70, u71, u72, u73, u74, u75, u76, u77, u78, u79, u80, u81, u82, u83, u84, u85, u86, u87, u88, u89, u90, u91, u92, u93, u94, u95, u96, u97, u98, u99, u100, u101, u102, u103, u104, u105, u106, u107, u108, u109, u110, u111, u112, u113, u114, u115, u116, u117, u118, u119, u120, u121, u122, u123, u124, u125, u126, u127, u128, u129, u130, u131, u132, u133, u134, u135, u136, u137, u138, u139, u140, u141, u142, u143, u144, u145, u146, u147, u148, u149, u150, u151, u152, u153, u154, u155, u156, u157, u158, u159, u160, u161, u162, u163, u164, u165, u166, u167, u168, u169, u170, u171, u172, u173, u174, u175, u176, u177, u178, u179, u180, u181, u182, u183, u184, u185, u186, u187, u188, u189, u190, u191, u192, u193, u194, u195, u196, u197, u198, u199, u200, u201, u202, u203, u204, u205, u206, u207, u208, u209, u210, u211, u212, u213, u214, u215, u216, u217, u218, u219, u220, u221, u222, u223, u224, u225, u226, u227, u228, u229, u230, u231, u232, u233, u234, u235, u236, u237, u238, u239, u240, u241, u242, u243], []⟩ wc) := hK
  clear hK
  have hds := bs_size
  have ht := bs_toList
  conv => arg 2; whnf
  dsimp only
  have x0 : W4.cell? ⟨cb, 0, none⟩ = some (.int .i64 kn) := blk_at HX4.out 0 rfl
  go_upto_region 18 with fail
  go_cut [92] (fun s wc => s = .bool (decide (kn = 2 ∨ kn = 3 ∨ kn = 6)) ∧ wc = W4)
  case first =>
    by_cases e2 : kn = 2
    · subst e2
      go_wp2
      go_meet
      exact ⟨by simp, rfl⟩
    · have b2 : (kn == 2) = false := beq_eq_false_iff_ne.2 e2
      by_cases e3 : kn = 3
      · subst e3
        go_wp2
        go_meet
        exact ⟨by simp, rfl⟩
      · have b3 : (kn == 3) = false := beq_eq_false_iff_ne.2 e3
        by_cases e6 : kn = 6
        · subst e6
          go_wp2
          go_meet
          exact ⟨by simp, rfl⟩
        · have b6 : (kn == 6) = false := beq_eq_false_iff_ne.2 e6
          have HE : Hid (decide (kn = 2 ∨ kn = 3 ∨ kn = 6) = false) := decide_eq_false (by omega)
          clear e2 e3 e6
          go_wp2
          go_meet
          exact ⟨by rw [HE.out], rfl⟩
  case rest =>
    obtain ⟨rfl, rfl⟩ := hcut
    rename World => W4
    go_upto_if 92 with fail
    go_cut [] (fun wc => ∃ v3 : List UInt8, Hid (wc.heap[cb]? = some (.cells #[.int .i64 kn, .string (bs (107 :: k2)), .string (bs v3), .int .i64 0] 59 (0, 0))) ∧ Hid (v3.length ≤ 20 ∧ (kn = 2 ∨ kn = 3 ∨ kn = 6 → v3 = [])) ∧ Hid (Kept Nil wr wc))
    case first =>
      by_cases e : kn = 2 ∨ kn = 3 ∨ kn = 6
      · rw [decide_eq_true e]
        have x2 : W4.cell? ⟨cb, 2, none⟩ = some (.string (bs v2)) := blk_at HX4.out 2 rfl
        have f2 : W4.frozen? ⟨cb, 2, none⟩ = false := blk_free HX4.out 2
        clear e
        go_wp2
        go_meet
        exact ⟨[], blk_set HX4.out 2 _, ⟨by simp, fun _ => rfl⟩, KX4.out.setNew (p := ⟨cb, 2, none⟩) HCB2.out _⟩
      · rw [decide_eq_false e]
        have HE : Hid (¬ (kn = 2 ∨ kn = 3 ∨ kn = 6)) := e
        clear e
        go_wp2
        go_meet
        exact ⟨v2, HX4.out, ⟨HV2.out, fun x => absurd x HE.out⟩, KX4.out⟩
    case rest =>
      obtain ⟨v3, HX5, HV3, KX5⟩ := hcut
      rename World => W5
      clear HX4 KX4 x0 HV2
      have HM5 : Hid (KM w k ps ks vs ap ak av cp ck cv W5) := HM.out.next KX5.out
      have HSM : Hid (ps.length ≤ 32 ∧ ks.length ≤ 32 ∧ vs.length ≤ 32) := HM.out.mi.small
      obtain ⟨key2, HKY⟩ : ∃ key2, Hid (key2 = 107 :: k2) := ⟨_, rfl⟩
      rw [← HKY.out] at HX5
      have HKY2 : Hid (key2 ≠ [] ∧ key2.length ≤ 16) := by rw [HKY.out]; exact ⟨by simp, by have := HK2.out; simp; omega⟩
      clear HKY HK2
      have hps : (ps.length : Int) ≤ 32 := by have := HSM.out; omega
      have AP := apply_any W5.heap.size cp ap ps key2 v3 kn 0 W5 HM5.out.row HM5.out.nil (by omega) (by have := HKY2.out.2; unfold maxLen; omega) (by have := HV3.out.1; unfold maxLen; omega)
      obtain ⟨PS, HPS⟩ : ∃ PS, Hid (PS = apP kn key2 v3 0 ps) := ⟨_, rfl⟩
      obtain ⟨RR, HRR⟩ : ∃ RR, Hid (RR = apR kn key2 v3 0 ps) := ⟨_, rfl⟩
      rw [← HPS.out, ← HRR.out] at AP
      obtain ⟨rk, rv, rn, rks⟩ := RR
      have x0 : W5.cell? ⟨cb, 0, none⟩ = some (.int .i64 kn) := blk_at HX5.out 0 rfl
      have x1 : W5.cell? ⟨cb, 1, none⟩ = some (.string (bs key2)) := blk_at HX5.out 1 rfl
      have x2 : W5.cell? ⟨cb, 2, none⟩ = some (.string (bs v3)) := blk_at HX5.out 2 rfl
      have x3 : W5.cell? ⟨cb, 3, none⟩ = some (.int .i64 0) := blk_at HX5.out 3 rfl
      go_upto_region 20 with fail
      go_cut [10, 11] (fun s10 s11 wc => ∃ na nc ko2 kc2 rb, s10 = .slice na PS.length nc ∧ s11 = .pointer (some ⟨rb, 0, none⟩) ∧ Hid (wc.heap[rb]? = some (.cells #[.int .i64 rk, .string (bs rv), .int .i64 rn, .slice ko2 rks.length kc2] 55 (0, 0))) ∧ Hid (OwnP W5.heap.size wc na nc PS) ∧ Hid (Kept Nil W5 wc))
      case first =>
        go_wp2_with fail
        go_fit AP
        rintro _ w6 ⟨na, nc, ko2, kc2, rfl, o6, _, k6⟩
        have HO6 : Hid (OwnP W5.heap.size w6 na nc PS) := o6
        have K6 : Hid (Kept Nil W5 w6) := k6
        clear o6 k6 AP
        unfold rrV
        dsimp only
        go_wp2_with fail
        go_meet
        exact ⟨na, nc, ko2, kc2, w6.heap.size, rfl, rfl, blk_new _ _, HO6.out.kept ((Kept.refl _ _).alloc _), K6.out.alloc _⟩
      case rest =>
        obtain ⟨na, nc, ko2, kc2, rb, rfl, rfl, HRb, HO7, K7⟩ := hcut
        rename World => W7
        clear AP x0 x1 x2 x3
        have HM7 : Hid (KM w k ps ks vs ap ak av cp ck cv W7) := HM5.out.next K7.out
        have HX7 : Hid (W7.heap[cb]? = some (.cells #[.int .i64 kn, .string (bs key2), .string (bs v3), .int .i64 0] 59 (0, 0))) := K7.out.block _ _ HX5.out (fun x => x.elim)
        clear HX5 HM5
        apply_assumption
        refine kmTail21 w W5 W7 cb rb cp ck cv nc kc2 k kn rk rn ps PS ks vs rks key2 v3 rv ap ak av na ko2 _ _ _ _ _ _ _ _ _ _ _ _ _ _ _ _ _ _ _ _ _ _ _ _ _ _ _ _ _ _ _ _ _ _ _ _ _ _ _ _ _ _ _ _ _ _ _ _ _ _ _ _ _ _ _ _ _ _ _ _ _ _ _ _ _ _ _ _ _ _ _ _ _ _ _ _ _ _ _ _ _ _ _ _ _ _ _ _ _ _ _ _ _ _ _ _ _ _ _ _ _ _ _ _ _ _ _ _ _ _ _ _ _ _ _ _ _ _ _ _ _ _ _ _ _ _ _ _ _ _ _ _ _ _ _ _ _ _ _ _ _ _ _ _ _ _ _ _ _ _ _ _ _ _ _ _ _ _ _ _ _ _ _ _ _ _ _ _ _ _ _ _ _ _ _ _ _ _ _ _ _ _ _ _ _ _ _ _ _ _ _ _ _ _ _ _ _ _ _ _ _ _ _ _ _ _ _ _ _ _ _ _ _ _ _ _ _ _ _ _ _ _ _ _ _ _ _ _ _ _ _ _ _ _ _ _ _ _ _ _ _ _ ?_ HM7 HX7 HRb HO7 HSM HKT HKY2 HV3 HKn HPS HRR
        intro u2 u12 u13 u14 u15 u16 u17 u18 u19 u20 u39 u40 u41 u42 u43 u44 u45 u46 u47 u48 u49 u50 u51 u52 u53 u54 u55 u56 u57 u58 u59 u60 u61 u62 u63 u64 u65 u66 u67 u68 u69 u70 u71 u72 u73 u74 u75 u76 u77 u78 u79 u80 u81 u82 u83 u84 u85 u86 u87 u88 u89 u90 u91 u92 u93 u94 u95 u96 u97 u98 u99 u100 u101 u102 u103 u104 u105 u106 u107 u108 u109 u110 u111 u112 u113 u114 u115 u116 u117 u118 u119 u120 u121 u122 u123 u124 u125 u126 u127 u128 u129 u130 u131 u132 u133 u134 u135 u136 u137 u138 u139 u140 u141 u142 u143 u144 u145 u146 u147 u148 u149 u150 u151 u152 u153 u154 u155 u156 u157 u158 u159 u160 u161 u162 u163 u164 u165 u166 u167 u168 u169 u170 u171 u172 u173 u174 u175 u176 u177 u178 u179 u180 u181 u182 u183 u184 u185 u186 u187 u188 u189 u190 u191 u192 u193 u194 u195 u196 u197 u198 u199 u200 u201 u202 u203 u204 u205 u206 u207 u208 u209 u210 u211 u212 u213 u214 u215 u216 u217 u218 u219 u220 u221 u222 u223 u224 u225 u226 u227 u228 u229 u230 u231 u232 u233 u234 u235 u236 u237 u238 u239 u240 u241 u242 u243 ks3 vs3 ak3 av3 ck3 cv3 n1 n2 wz h0 h1
        exact HKK.out _ _ _ _ _ _ _ _ _ _ _ _ _ _ _ _ _ _ _ _ _ _ _ _ _ _ _ _ _ _ _ _ _ _ _ _ _ _ _ _ _ _ _ _ _ _ _ _ _ _ _ _ _ _ _ _ _ _ _ _ _ _ _ _ _ _ _ _ _ _ _ _ _ _ _ _ _ _ _ _ _ _ _ _ _ _ _ _ _ _ _ _ _ _ _ _ _ _ _ _ _ _ _ _ _ _ _ _ _ _ _ _ _ _ _ _ _ _ _ _ _ _ _ _ _ _ _ _ _ _ _ _ _ _ _ _ _ _ _ _ _ _ _ _ _ _ _ _ _ _ _ _ _ _ _ _ _ _ _ _ _ _ _ _ _ _ _ _ _ _ _ _ _ _ _ _ _ _ _ _ _ _ _ _ _ _ _ _ _ _ _ _ _ _ _ _ _ _ _ _ _ _ _ _ _ _ _ _ _ _ _ _ _ _ _ _ PS na nc ks3 vs3 ak3 av3 ck3 cv3 n1 n2 wz h0.out h1.out

end Go.Proofs.Ytblmmbghnkplkaa
