/-
  KvMap: a round from the question on whether it is put.
-/
import Derived.Test.YtblmmbghnkplkaaWKmP
import Derived.Test.YtblmmbghnkplkaaWKmT
import Derived.Deep.DeepCutAuto
import Derived.Deep.DeepFit
namespace Go.Proofs.Ytblmmbghnkplkaa
open Go.RowKit

noncomputable def cT35 : Code := (Try.f6.body.bind (findTail 35)).getD .skip

set_option maxRecDepth 1000000 in
set_option maxHeartbeats 40000000 in
theorem kmTail35 (w W5 wq : World) (cb rb cp ck cv nc kc2 : Nat) (k kn rk rn at' : Int) (ps PS : List Pr) (ks vs rks : List (List UInt8)) (key2 v3 rv old : List UInt8) (ap ak av na ko2 : Option Addr) (b1 b2 : Bool) (nv : List UInt8) (sv0 sv1 sv2 sv3 sv4 sv8 sv13 sv14 sv18 sv19 sv20 sv21 sv22 sv23 sv24 sv25 sv26 sv27 sv28 sv29 sv30 sv31 sv32 sv33 sv34 sv35 sv36 sv37 sv38 sv39 sv40 sv41 sv42 sv43 sv44 sv45 sv46 sv47 sv48 sv49 sv50 sv51 sv52 sv53 sv54 sv55 sv56 sv57 sv58 sv59 sv60 sv61 sv62 sv63 sv64 sv65 sv66 sv67 sv68 sv69 sv70 sv71 sv72 sv73 sv74 sv75 sv76 sv77 sv78 sv79 sv80 sv81 sv82 sv83 sv84 sv85 sv86 sv87 sv88 sv89 sv90 sv91 sv92 sv93 sv94 sv95 sv96 sv97 sv98 sv99 sv100 sv101 sv102 sv103 sv104 sv105 sv106 sv107 sv108 sv109 sv110 sv111 sv112 sv113 sv114 sv115 sv116 sv117 sv118 sv119 sv120 sv121 sv122 sv123 sv124 sv125 sv126 sv127 sv128 sv129 sv130 sv131 sv132 sv133 sv134 sv135 sv136 sv137 sv138 sv139 sv140 sv141 sv142 sv143 sv144 sv145 sv146 sv147 sv148 sv149 sv150 sv151 sv152 sv153 sv154 sv155 sv156 sv157 sv158 sv159 sv160 sv161 sv162 sv163 sv164 sv165 sv166 sv167 sv168 sv169 sv170 sv171 sv172 sv173 sv174 sv175 sv176 sv177 sv178 sv179 sv180 sv181 sv182 sv183 sv184 sv185 sv186 sv187 sv188 sv189 sv190 sv191 sv192 sv193 sv194 sv195 sv196 sv197 sv198 sv199 sv200 sv201 sv202 sv203 sv204 sv205 sv206 sv207 sv208 sv209 sv210 sv211 sv212 sv213 sv214 sv215 sv216 sv217 sv218 sv219 sv220 sv221 sv222 sv223 sv224 sv225 sv226 sv227 sv228 sv229 sv230 sv231 sv232 sv233 sv234 sv235 sv236 sv237 sv238 sv239 sv240 sv241 sv242 sv243 : Value) (K1 K2 K4 : Act → World → Prop) (R : Ending → World → Prop)
    (hK : ∀ (u2 u12 u18 u19 u20 u39 u40 u41 u42 u43 u44 u45 u46 u47 u48 u49 u50 u51 u52 u53 u54 u55 u56 u57 u58 u59 u60 u61 u62 u63 u64 u65 u66 u67 u68 u69 u70 u71 u72 u73 u74 u75 u76 u77 u78 u79 u80 u81 u82 u83 u84 u85 u86 u87 u88 u89 u90 u91 u92 u93 u94 u95 u96 u97 u98 u99 u100 u101 u102 u103 u104 u105 u106 u107 u108 u109 u110 u111 u112 u113 u114 u115 u116 u117 u118 u119 u120 u121 u122 u123 u124 u125 u126 u127 u128 u129 u130 u131 u132 u133 u134 u135 u136 u137 u138 u139 u140 u141 u142 u143 u144 u145 u146 u147 u148 u149 u150 u151 u152 u153 u154 u155 u156 u157 u158 u159 u160 u161 u162 u163 u164 u165 u166 u167 u168 u169 u170 u171 u172 u173 u174 u175 u176 u177 u178 u179 u180 u181 u182 u183 u184 u185 u186 u187 u188 u189 u190 u191 u192 u193 u194 u195 u196 u197 u198 u199 u200 u201 u202 u203 u204 u205 u206 u207 u208 u209 u210 u211 u212 u213 u214 u215 u216 u217 u218 u219 u220 u221 u222 u223 u224 u225 u226 u227 u228 u229 u230 u231 u232 u233 u234 u235 u236 u237 u238 u239 u240 u241 u242 u243 : Value) (ks3 vs3 : List (List UInt8)) (ak3 av3 : Option Addr) (ck3 cv3 n1 n2 : Nat) (wc : World), Hid (n1 = ks3.length ∧ n2 = vs3.length) → Hid (KM w (k + 1) PS ks3 vs3 na ak3 av3 nc ck3 cv3 wc) → K1 ⟨#[sv0, sv1, u2, sv3, sv4, .slice na PS.length nc, .slice ak3 n1 ck3, .slice av3 n2 cv3, sv8, .pointer (some ⟨cb, 0, none⟩), .slice na PS.length nc, .pointer (some ⟨rb, 0, none⟩), u12, sv13, sv14, .bool b2, .bool b1, .string (bs nv), u18, u19, u20, sv21, sv22, sv23, sv24, sv25, sv26, sv27, sv28, sv29, sv30, sv31, sv32, sv33, sv34, sv35, sv36, sv37, sv38, u39, u40, u41, u42, u43, u44, u45, u46, u47, u48, u49, u50, u51, u52, u53, u54, u55, u56, u57, u58, u59, u60, u61, u62, u63, u64, u65, u66, u67, u68, u69, u70, u71, u72, u73, u74, u75, u76, u77, u78, u79, u80, u81, u82, u83, u84, u85, u86, u87, u88, u89, u90, u91, u92, u93, u94, u95, u96, u97, u98, u99, u100, u101, u102, u103, u104, u105, u106, u107, u108, u109, u110, u111, u112, u113, u114, u115, u116, u117, u118, u119, u120, u121, u122, u123, u124, u125, u126, u127, u128, u129, u130, u131, u132, u133, u134, u135, u136, u137, u138, u139, u140, u141, u142, u143, u144, u145, u146, u147, u148, u149, u150, u151, u152, u153, u154, u155, u156, u157, u158, u159, u160, u161, u162, u163, u164, u165, u166, u167, u168, u169, u170, u171, u172, u173, u174, u175, u176, u177, u178, u179, u180, u181, u182, u183, u184, u185, u186, u187, u188, u189, u190, u191, u192, u193, u194, u195, u196, u197, u198, u199, u200, u201, u202, u203, u204, u205, u206, u207, u208, u209, u210, u211, u212, u213, u214, u215, u216, u217, u218, u219, u220, u221, u222, u223, u224, u225, u226, u227, u228, u229, u230, u231, u232, u233, u234, u235, u236, u237, u238, u239, u240, u241, u242, u243], []⟩ wc)
    (HM8 : Hid (KM w k ps ks vs ap ak av cp ck cv wq)) (HX8 : Hid (wq.heap[cb]? = some (.cells #[.int .i64 kn, .string (bs key2), .string (bs v3), .int .i64 0] 59 (0, 0)))) (HR8 : Hid (wq.heap[rb]? = some (.cells #[.int .i64 rk, .string (bs rv), .int .i64 rn, .slice ko2 rks.length kc2] 55 (0, 0)))) (HO8 : Hid (OwnP W5.heap.size wq na nc PS)) (HAt : Hid (AtK key2 ks at')) (HLV : Hid (vs.length = ks.length)) (HOLD : Hid (old = spotV key2 ps)) (_HOL : Hid (old.length ≤ 64)) (HSM : Hid (ps.length ≤ 32 ∧ ks.length ≤ 32 ∧ vs.length ≤ 32)) (HKT : Hid (0 ≤ k ∧ k < 1099511627775)) (HKY2 : Hid (key2 ≠ [] ∧ key2.length ≤ 16)) (HV3 : Hid (v3.length ≤ 20 ∧ (kn = 2 ∨ kn = 3 ∨ kn = 6 → v3 = []))) (HKn : Hid (1 ≤ kn ∧ kn ≤ 6)) (HPS : Hid (PS = apP kn key2 v3 0 ps)) (HRR : Hid ((⟨rk, rv, rn, rks⟩ : Rr) = apR kn key2 v3 0 ps)) (HB1 : Hid (b1 = putB kn at')) (HB2 : Hid (b2 = (decide (0 ≤ at') || decide (ks.length < 32)))) (HNV : Hid (nv = newV kn old v3)) :
    Code.wp Try.prog cT35 (Exit.inBlock 1 (Exit.then K1 (Exit.then K2 (Exit.inBlock 0 (Exit.then K4 (bodyPost Try.prog Try.f6 R)))))) ⟨#[sv0, sv1, sv2, sv3, sv4, .slice ap ps.length cp, .slice ak ks.length ck, .slice av vs.length cv, sv8, .pointer (some ⟨cb, 0, none⟩), .slice na PS.length nc, .pointer (some ⟨rb, 0, none⟩), .int .i64 at', sv13, sv14, .bool b2, .bool b1, .string (bs nv), sv18, sv19, sv20, sv21, sv22, sv23, sv24, sv25, sv26, sv27, sv28, sv29, sv30, sv31, sv32, sv33, sv34, sv35, sv36, sv37, sv38, sv39, sv40, sv41, sv42, sv43, sv44, sv45, sv46, sv47, sv48, sv49, sv50, sv51, sv52, sv53, sv54, sv55, sv56, sv57, sv58, sv59, sv60, sv61, sv62, sv63, sv64, sv65, sv66, sv67, sv68, sv69, sv70, sv71, sv72, sv73, sv74, sv75, sv76, sv77, sv78, sv79, sv80, sv81, sv82, sv83, sv84, sv85, sv86, sv87, sv88, sv89, sv90, sv91, sv92, sv93, sv94, sv95, sv96, sv97, sv98, sv99, sv100, sv101, sv102, sv103, sv104, sv105, sv106, sv107, sv108, sv109, sv110, sv111, sv112, sv113, sv114, sv115, sv116, sv117, sv118, sv119, sv120, sv121, sv122, sv123, sv124, sv125, sv126, sv127, sv128, sv129, sv130, sv131, sv132, sv133, sv134, sv135, sv136, sv137, sv138, sv139, sv140, sv141, sv142, sv143, sv144, sv145, sv146, sv147, sv148, sv149, sv150, sv151, sv152, sv153, sv154, sv155, sv156, sv157, sv158, sv159, sv160, sv161, sv162, sv163, sv164, sv165, sv166, sv167, sv168, sv169, sv170, sv171, sv172, sv173, sv174, sv175, sv176, sv177, sv178, sv179, sv180, sv181, sv182, sv183, sv184, sv185, sv186, sv187, sv188, sv189, sv190, sv191, sv192, sv193, sv194, sv195, sv196, sv197, sv198, sv199, sv200, sv201, sv202, sv203, sv204, sv205, sv206, sv207, sv208, sv209, sv210, sv211, sv212, sv213, sv214, sv215, sv216, sv217, sv218, sv219, sv220, sv221, sv222, sv223, sv224, sv225, sv226, sv227, sv228, sv229, sv230, sv231, sv232, sv233, sv234, sv235, sv236, sv237, sv238, sv239, sv240, sv241, sv242, sv243], []⟩ wq := by
  have HKK : Hid (∀ (u2 u12 u18 u19 u20 u39 u40 u41 u42 u43 u44 u45 u46 u47 u48 u49 u50 u51 u52 u53 u54 u55 u56 u57 u58 u59 u60 u61 u62 u63 u64 u65 u66 u67 u68 u69 u70 u71 u72 u73 u74 u75 u76 u77 u78 u79 u80 u81 u82 u83 u84 u85 u86 u87 u88 u89 u90 u91 u92 u93 u94 u95 u96 u97 u98 u99 u100 u101 u102 u103 u104 u105 u106 u107 u108 u109 u110 u111 u112 u113 u114 u115 u116 u117 u118 u119 u120 u121 u122 u123 u124 u125 u126 u127 u128 u129 u130 u131 u132 u133 u134 u135 u136 u137 u138 u139 u140 u141 u142 u143 u144 u145 u146 u147 u148 u149 u150 u151 u152 u153 u154 u155 u156 u157 u158 u159 u160 u161 u162 u163 u164 u165 u166 u167 u168 u169 u170 u171 u172 u173 u174 u175 u176 u177 u178 u179 u180 u181 u182 u183 u184 u185 u186 u187 u188 u189 u190 u191 u192 u193 u194 u195 u196 u197 u198 u199 u200 u201 u202 u203 u204 u205 u206 u207 u208 u209 u210 u211 u212 u213 u214 u215 u216 u217 u218 u219 u220 u221 u222 u223 u224 u225 u226 u227 u228 u229 u230 u231 u232 u233 u234 u235 u236 u237 u238 u239 u240 u241 u242 u243 : Value) (ks3 vs3 : List (List UInt8)) (ak3 av3 : Option Addr) (ck3 cv3 n1 n2 : Nat) (wc : World), Hid (n1 = ks3.length ∧ n2 = vs3.length) → Hid (KM w (k + 1) PS ks3 vs3 na ak3 av3 nc ck3 cv3 wc) → K1 ⟨#[sv0, sv1, u2, sv3, sv4, .slice na PS.length nc, .slice ak3 n1 ck3, .slice av3 n2 cv3, sv8, .pointer (some ⟨cb, 0, none⟩), .slice na PS.length nc, .pointer (some ⟨rb, 0, none⟩), u12, sv13, sv14, .bool b2, .bool b1, .string (bs nv), u18, u19, u20, sv21, sv22, sv23, sv24, sv25, sv26, sv27, sv28, sv29, sv30, sv31, sv32, sv33, sv34, sv35, sv36, sv37, sv38, u39, u40, u41, u42, u43, u44, u45, u46, u47, u48, u49, u50, u51, u52, u53, u54, u55, u56, u57, u58, u59, u60, u61, u62, u63, u64, u65, u66, u67, u68, u69, u70, u71, u72, u73, u74, u75, u76, u77, u78, u79, u80, u81, u82, u83, u84, u85, u86, u87, u88, u89, u90, u91, u92, u93, u94, u95, u96, u97, u98, u99, u100, u101, u102, u103, u104, u105, u106, u107, u108, u109, u110, u111, u112, u113, u114, u115, u116, u117, u118, u119, u120, u121, u122, u123, u124, u125, u126, u127, u128, u129, u130, u131, u132, u133, u134, u135, u136, u137, u138, u139, u140, u141, u142, u143, u144, u145, u146, u147, u148, u149, u150, u151, u152, u153, u154, u155, u156, u157, u158, u159, u160, u161, u162, u163, u164, u165, u166, u167, u168, u169, u170, u171, u172, u173, u174, u175, u176, u177, u178, u179, u180, u181, u182, u183, u184, u185, u186, u187, u188, u189, u190, u191, u192, u193, u194, u195, u196, u197, u198, u199, u200, u201, u202, u203, u204, u205, u206, u207, u208, u209, u210, u211, u212, u213, u214, u215, u216, u217, u218, u219, u220, u221, u222, u223, u224, u225, u226, u227, u228, u229, u230, u231, u232, u233, u234, u235, u236, u237, u238, u239, u240, u241, u242, u243], []⟩ wc) := hK
  clear hK
  have x0 : wq.cell? ⟨cb, 0, none⟩ = some (.int .i64 kn) := blk_at HX8.out 0 rfl
  have x1 : wq.cell? ⟨cb, 1, none⟩ = some (.string (bs key2)) := blk_at HX8.out 1 rfl
  have x2 : wq.cell? ⟨cb, 2, none⟩ = some (.string (bs v3)) := blk_at HX8.out 2 rfl
  conv => arg 2; whnf
  dsimp only
  obtain ⟨t, HT⟩ : ∃ t : Bool, Hid (t = (b1 && b2 && decide (nv.length ≤ 64))) := ⟨_, rfl⟩
  have HTC : Hid (t = condB kn at' ks.length (newV kn (spotV key2 ps) v3)) := by show _ = _; rw [HT.out, HB1.out, HB2.out, HNV.out, HOLD.out]; rfl
  go_upto_region 35 with fail
  go_cut [161] (fun s wc => s = .bool t ∧ wc = wq)
  case first =>
    have hnz : (bs nv).size = nv.length := bs_size _
    have HTd : Hid (t = (b1 && b2 && decide ((nv.length : Int) ≤ 64))) := by
      show _ = _
      rw [HT.out]
      congr 1
      by_cases h : nv.length ≤ 64
      · rw [decide_eq_true h, decide_eq_true (by omega)]
      · rw [decide_eq_false h, decide_eq_false (by omega)]
    cases b1 with
    | false =>
      go_wp2
      go_meet
      exact ⟨by rw [HTd.out]; rfl, rfl⟩
    | true =>
      cases b2 with
      | false =>
        go_wp2
        go_meet
        exact ⟨by rw [HTd.out]; rfl, rfl⟩
      | true =>
        go_wp2
        go_meet
        exact ⟨by rw [HTd.out]; rfl, rfl⟩
  case rest =>
    obtain ⟨rfl, rfl⟩ := hcut
    rename World => wq
    clear HT HB1 HB2
    have HS8 : Hid (KS w ks vs ak av ck cv wq) := HM8.out.ks
    have HCM : Hid (isCmd kn key2 v3 0 = true) := cmd_ok HKn.out HKY2.out (by have := HV3.out.1; omega) HV3.out.2
    go_upto_if 161 with fail
    go_cut [6, 7, 12] (fun s6 s7 s12 wc => ∃ ks2 vs2 : List (List UInt8), ∃ ak2 av2 ck2 cv2, ∃ at2 : Int, s6 = .slice ak2 ks2.length ck2 ∧ s7 = .slice av2 vs2.length cv2 ∧ s12 = .int .i64 at2 ∧ Hid (if t = true then MI (k + 1) PS ks2 vs2 else (ks2 = ks ∧ vs2 = vs ∧ at2 = at')) ∧ Hid (KS w ks2 vs2 ak2 av2 ck2 cv2 wc) ∧ Hid (wc.heap[cb]? = some (.cells #[.int .i64 kn, .string (bs key2), .string (bs v3), .int .i64 0] 59 (0, 0))) ∧ Hid (wc.heap[rb]? = some (.cells #[.int .i64 rk, .string (bs rv), .int .i64 rn, .slice ko2 rks.length kc2] 55 (0, 0))) ∧ Hid (OwnP W5.heap.size wc na nc PS))
    case first =>
      cases t with
      | false =>
        skip
        go_wp2
        go_meet
        exact ⟨ks, vs, ak, av, ck, cv, at', rfl, rfl, rfl, by rw [if_neg (by simp)]; exact ⟨rfl, rfl, rfl⟩, HS8.out, HX8.out, HR8.out, HO8.out⟩
      | true =>
        have NP := next_put HM8.out.mi HAt.out HKT.out HKY2.out HCM.out HTC.out.symm
        rw [← HPS.out, ← HRR.out, ← HOLD.out, ← HNV.out] at NP
        refine kmPut w W5 wq cb rb ck cv nc kc2 k at' kn rk rn ks vs rks PS key2 v3 nv rv ak av na ko2 _ _ _ _ _ _ _ _ _ _ _ _ _ _ _ _ _ _ _ _ _ _ _ _ _ _ _ _ _ _ _ _ _ _ _ _ _ _ _ _ _ _ _ _ _ _ _ _ _ _ _ _ _ _ _ _ _ _ _ _ _ _ _ _ _ _ _ _ _ _ _ _ _ _ _ _ _ _ _ _ _ _ _ _ _ _ _ _ _ _ _ _ _ _ _ _ _ _ _ _ _ _ _ _ _ _ _ _ _ _ _ _ _ _ _ _ _ _ _ _ _ _ _ _ _ _ _ _ _ _ _ _ _ _ _ _ _ _ _ _ _ _ _ _ _ _ _ _ _ _ _ _ _ _ _ _ _ _ _ _ _ _ _ _ _ _ _ _ _ _ _ _ _ _ _ _ _ _ _ _ _ _ _ _ _ _ _ _ _ _ _ _ _ _ _ _ _ _ _ _ _ _ _ _ _ _ _ _ _ _ _ _ _ _ _ _ _ _ _ _ _ _ _ _ _ _ _ _ _ _ _ _ _ _ _ _ _ _ _ _ _ _ ?_ NP HAt HLV ⟨HSM.out.2.1, HSM.out.2.2⟩ HS8 HX8 HR8 HO8
        intro u162 u163 u164 u165 u166 u167 u168 u169 u170 u171 u172 u173 u174 u175 u176 u177 u178 u179 u180 u181 ks2 vs2 ak2 av2 ck2 cv2 n1 n2 at2 wc h0 h1 h2 h3 h4 h5
        obtain ⟨rfl, rfl⟩ := h0.out
        clear NP h0
        (try dsimp only)
        go_wp2
        go_meet
        exact ⟨ks2, vs2, ak2, av2, ck2, cv2, at2, rfl, rfl, rfl, by rw [if_pos rfl]; exact h1.out, h2.out, h3.out, h4.out, h5.out⟩
    case rest =>
      obtain ⟨ks2, vs2, ak2, av2, ck2, cv2, at2, rfl, rfl, rfl, HI2, HS2, HXd, HRd, HOd⟩ := hcut
      rename World => wd
      have HMo : Hid (MI k ps ks vs) := HM8.out.mi
      apply_assumption
      refine kmTail43 w W5 wd cb rb ck2 cv2 nc kc2 k kn rk rn at' at2 t ps PS ks vs ks2 vs2 rks key2 v3 rv ak2 av2 na ko2 _ _ _ _ _ _ _ _ _ _ _ _ _ _ _ _ _ _ _ _ _ _ _ _ _ _ _ _ _ _ _ _ _ _ _ _ _ _ _ _ _ _ _ _ _ _ _ _ _ _ _ _ _ _ _ _ _ _ _ _ _ _ _ _ _ _ _ _ _ _ _ _ _ _ _ _ _ _ _ _ _ _ _ _ _ _ _ _ _ _ _ _ _ _ _ _ _ _ _ _ _ _ _ _ _ _ _ _ _ _ _ _ _ _ _ _ _ _ _ _ _ _ _ _ _ _ _ _ _ _ _ _ _ _ _ _ _ _ _ _ _ _ _ _ _ _ _ _ _ _ _ _ _ _ _ _ _ _ _ _ _ _ _ _ _ _ _ _ _ _ _ _ _ _ _ _ _ _ _ _ _ _ _ _ _ _ _ _ _ _ _ _ _ _ _ _ _ _ _ _ _ _ _ _ _ _ _ _ _ _ _ _ _ _ _ _ _ _ _ _ _ _ _ _ _ _ _ _ _ _ _ _ _ _ _ _ _ _ _ _ _ _ ?_ HI2 HS2 HXd HRd HOd HMo HAt HLV HSM HKT HCM HTC HPS HRR
      intro u2 u18 u19 u20 u39 u40 u41 u42 u43 u44 u45 u46 u47 u48 u49 u50 u51 u52 u53 u54 u55 u56 u57 u58 u59 u60 u61 u62 u63 u64 u65 u66 u67 u68 u69 u70 u71 u72 u73 u74 u75 u76 u77 u78 u79 u80 u81 u82 u83 u84 u85 u86 u87 u88 u89 u90 u91 u92 u93 u94 u95 u96 u97 u98 u99 u100 u101 u102 u103 u104 u105 u106 u107 u108 u109 u110 u111 u112 u113 u114 u115 u116 u117 u118 u119 u120 u121 u122 u123 u124 u125 u126 u127 u128 u129 u130 u131 u132 u133 u134 u135 u136 u137 u138 u139 u140 u141 u142 u143 u144 u145 u146 u147 u148 u149 u150 u151 u152 u153 u154 u155 u156 u157 u158 u159 u160 u161 u162 u163 u164 u165 u166 u167 u168 u169 u170 u171 u172 u173 u174 u175 u176 u177 u178 u179 u180 u181 u182 u183 u184 u185 u186 u187 u188 u189 u190 u191 u192 u193 u194 u195 u196 u197 u198 u199 u200 u201 u202 u203 u204 u205 u206 u207 u208 u209 u210 u211 u212 u213 u214 u215 u216 u217 u218 u219 u220 u221 u222 u223 u224 u225 u226 u227 u228 u229 u230 u231 u232 u233 u234 u235 u236 u237 u238 u239 u240 u241 u242 u243 ks3 vs3 ak3 av3 ck3 cv3 n1 n2 wz h0 h1
      exact HKK.out _ _ _ _ _ _ _ _ _ _ _ _ _ _ _ _ _ _ _ _ _ _ _ _ _ _ _ _ _ _ _ _ _ _ _ _ _ _ _ _ _ _ _ _ _ _ _ _ _ _ _ _ _ _ _ _ _ _ _ _ _ _ _ _ _ _ _ _ _ _ _ _ _ _ _ _ _ _ _ _ _ _ _ _ _ _ _ _ _ _ _ _ _ _ _ _ _ _ _ _ _ _ _ _ _ _ _ _ _ _ _ _ _ _ _ _ _ _ _ _ _ _ _ _ _ _ _ _ _ _ _ _ _ _ _ _ _ _ _ _ _ _ _ _ _ _ _ _ _ _ _ _ _ _ _ _ _ _ _ _ _ _ _ _ _ _ _ _ _ _ _ _ _ _ _ _ _ _ _ _ _ _ _ _ _ _ _ _ _ _ _ _ _ _ _ _ _ _ _ _ _ _ _ _ _ _ _ _ _ _ ks3 vs3 ak3 av3 ck3 cv3 n1 n2 wz h0.out h1.out

end Go.Proofs.Ytblmmbghnkplkaa
