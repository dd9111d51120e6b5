/-
  KvMap: a round from the delete on.
-/
import Derived.Test.YtblmmbghnkplkaaWKmX
import Derived.Test.YtblmmbghnkplkaaWKmZ
import Derived.Deep.DeepCutAuto
import Derived.Deep.DeepFit
namespace Go.Proofs.Ytblmmbghnkplkaa
open Go.RowKit

noncomputable def cT43 : Code := (Try.f6.body.bind (findTail 43)).getD .skip

set_option maxRecDepth 1000000 in
set_option maxHeartbeats 40000000 in
theorem kmTail43 (w W5 wd : World) (cb rb ck2 cv2 nc kc2 : Nat) (k kn rk rn at' at2 : Int) (t : Bool) (ps PS : List Pr) (ks vs ks2 vs2 rks : List (List UInt8)) (key2 v3 rv : List UInt8) (ak2 av2 na ko2 : Option Addr) (sv0 sv1 sv2 sv3 sv4 sv5 sv8 sv13 sv14 sv15 sv16 sv17 sv18 sv19 sv20 sv21 sv22 sv23 sv24 sv25 sv26 sv27 sv28 sv29 sv30 sv31 sv32 sv33 sv34 sv35 sv36 sv37 sv38 sv39 sv40 sv41 sv42 sv43 sv44 sv45 sv46 sv47 sv48 sv49 sv50 sv51 sv52 sv53 sv54 sv55 sv56 sv57 sv58 sv59 sv60 sv61 sv62 sv63 sv64 sv65 sv66 sv67 sv68 sv69 sv70 sv71 sv72 sv73 sv74 sv75 sv76 sv77 sv78 sv79 sv80 sv81 sv82 sv83 sv84 sv85 sv86 sv87 sv88 sv89 sv90 sv91 sv92 sv93 sv94 sv95 sv96 sv97 sv98 sv99 sv100 sv101 sv102 sv103 sv104 sv105 sv106 sv107 sv108 sv109 sv110 sv111 sv112 sv113 sv114 sv115 sv116 sv117 sv118 sv119 sv120 sv121 sv122 sv123 sv124 sv125 sv126 sv127 sv128 sv129 sv130 sv131 sv132 sv133 sv134 sv135 sv136 sv137 sv138 sv139 sv140 sv141 sv142 sv143 sv144 sv145 sv146 sv147 sv148 sv149 sv150 sv151 sv152 sv153 sv154 sv155 sv156 sv157 sv158 sv159 sv160 sv161 sv162 sv163 sv164 sv165 sv166 sv167 sv168 sv169 sv170 sv171 sv172 sv173 sv174 sv175 sv176 sv177 sv178 sv179 sv180 sv181 sv182 sv183 sv184 sv185 sv186 sv187 sv188 sv189 sv190 sv191 sv192 sv193 sv194 sv195 sv196 sv197 sv198 sv199 sv200 sv201 sv202 sv203 sv204 sv205 sv206 sv207 sv208 sv209 sv210 sv211 sv212 sv213 sv214 sv215 sv216 sv217 sv218 sv219 sv220 sv221 sv222 sv223 sv224 sv225 sv226 sv227 sv228 sv229 sv230 sv231 sv232 sv233 sv234 sv235 sv236 sv237 sv238 sv239 sv240 sv241 sv242 sv243 : Value) (K1 K2 K4 : Act → World → Prop) (R : Ending → World → Prop)
    (hK : ∀ (u2 u18 u19 u20 u39 u40 u41 u42 u43 u44 u45 u46 u47 u48 u49 u50 u51 u52 u53 u54 u55 u56 u57 u58 u59 u60 u61 u62 u63 u64 u65 u66 u67 u68 u69 u70 u71 u72 u73 u74 u75 u76 u77 u78 u79 u80 u81 u82 u83 u84 u85 u86 u87 u88 u89 u90 u91 u92 u93 u94 u95 u96 u97 u98 u99 u100 u101 u102 u103 u104 u105 u106 u107 u108 u109 u110 u111 u112 u113 u114 u115 u116 u117 u118 u119 u120 u121 u122 u123 u124 u125 u126 u127 u128 u129 u130 u131 u132 u133 u134 u135 u136 u137 u138 u139 u140 u141 u142 u143 u144 u145 u146 u147 u148 u149 u150 u151 u152 u153 u154 u155 u156 u157 u158 u159 u160 u161 u162 u163 u164 u165 u166 u167 u168 u169 u170 u171 u172 u173 u174 u175 u176 u177 u178 u179 u180 u181 u182 u183 u184 u185 u186 u187 u188 u189 u190 u191 u192 u193 u194 u195 u196 u197 u198 u199 u200 u201 u202 u203 u204 u205 u206 u207 u208 u209 u210 u211 u212 u213 u214 u215 u216 u217 u218 u219 u220 u221 u222 u223 u224 u225 u226 u227 u228 u229 u230 u231 u232 u233 u234 u235 u236 u237 u238 u239 u240 u241 u242 u243 : Value) (ks3 vs3 : List (List UInt8)) (ak3 av3 : Option Addr) (ck3 cv3 n1 n2 : Nat) (wc : World), Hid (n1 = ks3.length ∧ n2 = vs3.length) → Hid (KM w (k + 1) PS ks3 vs3 na ak3 av3 nc ck3 cv3 wc) → K1 ⟨#[sv0, sv1, u2, sv3, sv4, .slice na PS.length nc, .slice ak3 n1 ck3, .slice av3 n2 cv3, sv8, .pointer (some ⟨cb, 0, none⟩), .slice na PS.length nc, .pointer (some ⟨rb, 0, none⟩), .int .i64 at2, sv13, sv14, sv15, sv16, sv17, u18, u19, u20, sv21, sv22, sv23, sv24, sv25, sv26, sv27, sv28, sv29, sv30, sv31, sv32, sv33, sv34, sv35, sv36, sv37, sv38, u39, u40, u41, u42, u43, u44, u45, u46, u47, u48, u49, u50, u51, u52, u53, u54, u55, u56, u57, u58, u59, u60, u61, u62, u63, u64, u65, u66, u67, u68, u69, u70, u71, u72, u73, u74, u75, u76, u77, u78, u79, u80, u81, u82, u83, u84, u85, u86, u87, u88, u89, u90, u91, u92, u93, u94, u95, u96, u97, u98, u99, u100, u101, u102, u103, u104, u105, u106, u107, u108, u109, u110, u111, u112, u113, u114, u115, u116, u117, u118, u119, u120, u121, u122, u123, u124, u125, u126, u127, u128, u129, u130, u131, u132, u133, u134, u135, u136, u137, u138, u139, u140, u141, u142, u143, u144, u145, u146, u147, u148, u149, u150, u151, u152, u153, u154, u155, u156, u157, u158, u159, u160, u161, u162, u163, u164, u165, u166, u167, u168, u169, u170, u171, u172, u173, u174, u175, u176, u177, u178, u179, u180, u181, u182, u183, u184, u185, u186, u187, u188, u189, u190, u191, u192, u193, u194, u195, u196, u197, u198, u199, u200, u201, u202, u203, u204, u205, u206, u207, u208, u209, u210, u211, u212, u213, u214, u215, u216, u217, u218, u219, u220, u221, u222, u223, u224, u225, u226, u227, u228, u229, u230, u231, u232, u233, u234, u235, u236, u237, u238, u239, u240, u241, u242, u243], []⟩ wc)
    (HI2 : Hid (if t = true then MI (k + 1) PS ks2 vs2 else (ks2 = ks ∧ vs2 = vs ∧ at2 = at'))) (HS2 : Hid (KS w ks2 vs2 ak2 av2 ck2 cv2 wd)) (HXd : Hid (wd.heap[cb]? = some (.cells #[.int .i64 kn, .string (bs key2), .string (bs v3), .int .i64 0] 59 (0, 0)))) (HRd : Hid (wd.heap[rb]? = some (.cells #[.int .i64 rk, .string (bs rv), .int .i64 rn, .slice ko2 rks.length kc2] 55 (0, 0)))) (HOd : Hid (OwnP W5.heap.size wd na nc PS)) (HMo : Hid (MI k ps ks vs)) (HAt : Hid (AtK key2 ks at')) (HLV : Hid (vs.length = ks.length)) (HSM : Hid (ps.length ≤ 32 ∧ ks.length ≤ 32 ∧ vs.length ≤ 32)) (HKT : Hid (0 ≤ k ∧ k < 1099511627775)) (HCM : Hid (isCmd kn key2 v3 0 = true)) (HTC : Hid (t = condB kn at' ks.length (newV kn (spotV key2 ps) v3))) (HPS : Hid (PS = apP kn key2 v3 0 ps)) (HRR : Hid ((⟨rk, rv, rn, rks⟩ : Rr) = apR kn key2 v3 0 ps)) :
    Code.wp Try.prog cT43 (Exit.inBlock 1 (Exit.then K1 (Exit.then K2 (Exit.inBlock 0 (Exit.then K4 (bodyPost Try.prog Try.f6 R)))))) ⟨#[sv0, sv1, sv2, sv3, sv4, sv5, .slice ak2 ks2.length ck2, .slice av2 vs2.length cv2, sv8, .pointer (some ⟨cb, 0, none⟩), .slice na PS.length nc, .pointer (some ⟨rb, 0, none⟩), .int .i64 at2, sv13, sv14, sv15, sv16, sv17, sv18, sv19, sv20, sv21, sv22, sv23, sv24, sv25, sv26, sv27, sv28, sv29, sv30, sv31, sv32, sv33, sv34, sv35, sv36, sv37, sv38, sv39, sv40, sv41, sv42, sv43, sv44, sv45, sv46, sv47, sv48, sv49, sv50, sv51, sv52, sv53, sv54, sv55, sv56, sv57, sv58, sv59, sv60, sv61, sv62, sv63, sv64, sv65, sv66, sv67, sv68, sv69, sv70, sv71, sv72, sv73, sv74, sv75, sv76, sv77, sv78, sv79, sv80, sv81, sv82, sv83, sv84, sv85, sv86, sv87, sv88, sv89, sv90, sv91, sv92, sv93, sv94, sv95, sv96, sv97, sv98, sv99, sv100, sv101, sv102, sv103, sv104, sv105, sv106, sv107, sv108, sv109, sv110, sv111, sv112, sv113, sv114, sv115, sv116, sv117, sv118, sv119, sv120, sv121, sv122, sv123, sv124, sv125, sv126, sv127, sv128, sv129, sv130, sv131, sv132, sv133, sv134, sv135, sv136, sv137, sv138, sv139, sv140, sv141, sv142, sv143, sv144, sv145, sv146, sv147, sv148, sv149, sv150, sv151, sv152, sv153, sv154, sv155, sv156, sv157, sv158, sv159, sv160, sv161, sv162, sv163, sv164, sv165, sv166, sv167, sv168, sv169, sv170, sv171, sv172, sv173, sv174, sv175, sv176, sv177, sv178, sv179, sv180, sv181, sv182, sv183, sv184, sv185, sv186, sv187, sv188, sv189, sv190, sv191, sv192, sv193, sv194, sv195, sv196, sv197, sv198, sv199, sv200, sv201, sv202, sv203, sv204, sv205, sv206, sv207, sv208, sv209, sv210, sv211, sv212, sv213, sv214, sv215, sv216, sv217, sv218, sv219, sv220, sv221, sv222, sv223, sv224, sv225, sv226, sv227, sv228, sv229, sv230, sv231, sv232, sv233, sv234, sv235, sv236, sv237, sv238, sv239, sv240, sv241, sv242, sv243], []⟩ wd := by
  have HKK : Hid (∀ (u2 u18 u19 u20 u39 u40 u41 u42 u43 u44 u45 u46 u47 u48 u49 u50 u51 u52 u53 u54 u55 u56 u57 u58 u59 u60 u61 u62 u63 u64 u65 u66 u67 u68 u69 u70 u71 u72 u73 u74 u75 u76 u77 u78 u79 u80 u81 u82 u83 u84 u85 u86 u87 u88 u89 u90 u91 u92 u93 u94 u95 u96 u97 u98 u99 u100 u101 u102 u103 u104 u105 u106 u107 u108 u109 u110 u111 u112 u113 u114 u115 u116 u117 u118 u119 u120 u121 u122 u123 u124 u125 u126 u127 u128 u129 u130 u131 u132 u133 u134 u135 u136 u137 u138 u139 u140 u141 u142 u143 u144 u145 u146 u147 u148 u149 u150 u151 u152 u153 u154 u155 u156 u157 u158 u159 u160 u161 u162 u163 u164 u165 u166 u167 u168 u169 u170 u171 u172 u173 u174 u175 u176 u177 u178 u179 u180 u181 u182 u183 u184 u185 u186 u187 u188 u189 u190 u191 u192 u193 u194 u195 u196 u197 u198 u199 u200 u201 u202 u203 u204 u205 u206 u207 u208 u209 u210 u211 u212 u213 u214 u215 u216 u217 u218 u219 u220 u221 u222 u223 u224 u225 u226 u227 u228 u229 u230 u231 u232 u233 u234 u235 u236 u237 u238 u239 u240 u241 u242 u243 : Value) (ks3 vs3 : List (List UInt8)) (ak3 av3 : Option Addr) (ck3 cv3 n1 n2 : Nat) (wc : World), Hid (n1 = ks3.length ∧ n2 = vs3.length) → Hid (KM w (k + 1) PS ks3 vs3 na ak3 av3 nc ck3 cv3 wc) → K1 ⟨#[sv0, sv1, u2, sv3, sv4, .slice na PS.length nc, .slice ak3 n1 ck3, .slice av3 n2 cv3, sv8, .pointer (some ⟨cb, 0, none⟩), .slice na PS.length nc, .pointer (some ⟨rb, 0, none⟩), .int .i64 at2, sv13, sv14, sv15, sv16, sv17, u18, u19, u20, sv21, sv22, sv23, sv24, sv25, sv26, sv27, sv28, sv29, sv30, sv31, sv32, sv33, sv34, sv35, sv36, sv37, sv38, u39, u40, u41, u42, u43, u44, u45, u46, u47, u48, u49, u50, u51, u52, u53, u54, u55, u56, u57, u58, u59, u60, u61, u62, u63, u64, u65, u66, u67, u68, u69, u70, u71, u72, u73, u74, u75, u76, u77, u78, u79, u80, u81, u82, u83, u84, u85, u86, u87, u88, u89, u90, u91, u92, u93, u94, u95, u96, u97, u98, u99, u100, u101, u102, u103, u104, u105, u106, u107, u108, u109, u110, u111, u112, u113, u114, u115, u116, u117, u118, u119, u120, u121, u122, u123, u124, u125, u126, u127, u128, u129, u130, u131, u132, u133, u134, u135, u136, u137, u138, u139, u140, u141, u142, u143, u144, u145, u146, u147, u148, u149, u150, u151, u152, u153, u154, u155, u156, u157, u158, u159, u160, u161, u162, u163, u164, u165, u166, u167, u168, u169, u170, u171, u172, u173, u174, u175, u176, u177, u178, u179, u180, u181, u182, u183, u184, u185, u186, u187, u188, u189, u190, u191, u192, u193, u194, u195, u196, u197, u198, u199, u200, u201, u202, u203, u204, u205, u206, u207, u208, u209, u210, u211, u212, u213, u214, u215, u216, u217, u218, u219, u220, u221, u222, u223, u224, u225, u226, u227, u228, u229, u230, u231, u232, u233, u234, u235, u236, u237, u238, u239, u240, u241, u242, u243], []⟩ wc) := hK
  clear hK
  have x0 : wd.cell? ⟨cb, 0, none⟩ = some (.int .i64 kn) := blk_at HXd.out 0 rfl
  conv => arg 2; whnf
  dsimp only
  obtain ⟨t3, HT3⟩ : ∃ t3 : Bool, Hid (t3 = (decide (kn = 3) && decide (0 ≤ at2))) := ⟨_, rfl⟩
  go_upto_region 43 with fail
  go_cut [188] (fun s wc => s = .bool t3 ∧ wc = wd)
  case first =>
    by_cases e3 : kn = 3
    · have HE : Hid (t3 = decide (0 ≤ at2)) := by show _ = _; rw [HT3.out, e3]; simp
      have q3 : (kn == 3) = true := beq_iff_eq.2 e3
      clear e3
      go_wp2
      go_meet
      exact ⟨by rw [HE.out], rfl⟩
    · have HE : Hid (t3 = false) := by show _ = _; rw [HT3.out, decide_eq_false e3]; rfl
      have q3 : (kn == 3) = false := beq_eq_false_iff_ne.2 e3
      clear e3
      go_wp2
      go_meet
      exact ⟨by rw [HE.out], rfl⟩
  case rest =>
    obtain ⟨rfl, rfl⟩ := hcut
    rename World => wd
    go_upto_if 188 with fail
    go_cut [6, 7] (fun s6 s7 wc => ∃ ks3 vs3 : List (List UInt8), ∃ ak3 av3 ck3 cv3, s6 = .slice ak3 ks3.length ck3 ∧ s7 = .slice av3 vs3.length cv3 ∧ Hid (MI (k + 1) PS ks3 vs3) ∧ Hid (KS w ks3 vs3 ak3 av3 ck3 cv3 wc) ∧ Hid (OwnP W5.heap.size wc na nc PS))
    case first =>
      cases t3 with
      | false =>
        skip
        have HMI : Hid (MI (k + 1) PS ks2 vs2) := by
          have h := HI2.out
          cases t with
          | true => rw [if_pos rfl] at h; exact h
          | false =>
            rw [if_neg (by simp)] at h
            obtain ⟨e1, e2, e3⟩ := h
            rw [e1, e2, HPS.out]
            refine next_same HMo.out HAt.out HKT.out HCM.out HTC.out.symm (fun x => ?_)
            have h3 := HT3.out
            rw [e3, decide_eq_true x.1, decide_eq_true x.2] at h3
            cases h3
        go_wp2
        go_meet
        exact ⟨ks2, vs2, ak2, av2, ck2, cv2, rfl, rfl, HMI.out, HS2.out, HOd.out⟩
      | true =>
        skip
        have h3 : kn = 3 ∧ 0 ≤ at2 := by
          have h := HT3.out
          simpa using h.symm
        have ht : t = false := by rw [HTC.out, h3.1]; simp [condB, putB]
        have HE2 : Hid (ks2 = ks ∧ vs2 = vs ∧ at2 = at') := by have h := HI2.out; rw [ht, if_neg (by simp)] at h; exact h
        obtain ⟨e1, e2, e3⟩ := HE2.out
        obtain ⟨h31, h32⟩ := h3
        subst h31 e1 e2 e3
        clear HE2 HI2 HT3 HTC ht
        have ND := next_del HMo.out HAt.out HCM.out h32
        rw [← HPS.out, ← HRR.out] at ND
        have HND : Hid (_) := ND
        clear ND
        have r0 : wd.cell? ⟨rb, 0, none⟩ = some (.int .i64 1) := by rw [← show rk = 1 from HND.out.1]; exact blk_at HRd.out 0 rfl
        rcases HAt.out with ⟨e, hn⟩ | ⟨q, hq, e, hh⟩
        · exfalso
          omega
        · have HMI : Hid (MI (k + 1) PS (ks2.take q ++ ks2.drop (q + 1)) (vs2.take q ++ vs2.drop (q + 1))) := HND.out.2 q hq e hh
          have hqv : q < vs2.length := by rw [HLV.out]; exact hq
          obtain ⟨g2, eak, hlk1, hck⟩ := HS2.out.ok.blockM (by omega)
          obtain ⟨g3, eav, hlv1, hcv⟩ := HS2.out.ov.blockM (by omega)
          subst eak eav e
          unfold maxLen at hck hcv
          have HRd1 : Hid (wd.heap[rb]? = some (.cells #[.int .i64 1, .string (bs rv), .int .i64 rn, .slice ko2 rks.length kc2] 55 (0, 0))) := by rw [← show rk = 1 from HND.out.1]; exact HRd.out
          clear hh h32 r0
          refine kmDel w W5 wd g2 g3 rb ck2 cv2 nc kc2 q k rn ks2 vs2 rks PS rv na ko2 _ _ _ _ _ _ _ _ _ _ _ _ _ _ _ _ _ _ _ _ _ _ _ _ _ _ _ _ _ _ _ _ _ _ _ _ _ _ _ _ _ _ _ _ _ _ _ _ _ _ _ _ _ _ _ _ _ _ _ _ _ _ _ _ _ _ _ _ _ _ _ _ _ _ _ _ _ _ _ _ _ _ _ _ _ _ _ _ _ _ _ _ _ _ _ _ _ _ _ _ _ _ _ _ _ _ _ _ _ _ _ _ _ _ _ _ _ _ _ _ _ _ _ _ _ _ _ _ _ _ _ _ _ _ _ _ _ _ _ _ _ _ _ _ _ _ _ _ _ _ _ _ _ _ _ _ _ _ _ _ _ _ _ _ _ _ _ _ _ _ _ _ _ _ _ _ _ _ _ _ _ _ _ _ _ _ _ _ _ _ _ _ _ _ _ _ _ _ _ _ _ _ _ _ _ _ _ _ _ _ _ _ _ _ _ _ _ _ _ _ _ _ _ _ _ _ _ _ _ _ _ _ _ _ _ _ _ _ _ _ _ _ _ _ ?_ HMI hq HLV HSM.out.2.1 HS2 HRd1 HOd hlk1 (by omega) hlv1 (by omega)
          intro u189 u190 u191 u192 u193 u194 u195 u196 u197 u198 u199 u200 u201 u202 u203 u204 u205 u206 u207 u208 u209 ks3 vs3 ak3 av3 ck3 cv3 n1 n2 wc h0 h1 h2 h3
          obtain ⟨rfl, rfl⟩ := h0.out
          (try dsimp only)
          go_wp2
          go_meet
          exact ⟨ks3, vs3, ak3, av3, ck3, cv3, rfl, rfl, h1.out, h2.out, h3.out⟩
    case rest =>
      obtain ⟨ks3, vs3, ak3, av3, ck3, cv3, rfl, rfl, HI3, HS3, HO3⟩ := hcut
      rename World => wf
      clear HS2 HXd HRd HOd HI2 x0
      apply_assumption
      refine kmEnd w W5 wf nc ck3 cv3 k ks3 vs3 PS na ak3 av3 _ _ _ _ _ _ _ _ _ _ _ _ _ _ _ _ _ _ _ _ _ _ _ _ _ _ _ _ _ _ _ _ _ _ _ _ _ _ _ _ _ _ _ _ _ _ _ _ _ _ _ _ _ _ _ _ _ _ _ _ _ _ _ _ _ _ _ _ _ _ _ _ _ _ _ _ _ _ _ _ _ _ _ _ _ _ _ _ _ _ _ _ _ _ _ _ _ _ _ _ _ _ _ _ _ _ _ _ _ _ _ _ _ _ _ _ _ _ _ _ _ _ _ _ _ _ _ _ _ _ _ _ _ _ _ _ _ _ _ _ _ _ _ _ _ _ _ _ _ _ _ _ _ _ _ _ _ _ _ _ _ _ _ _ _ _ _ _ _ _ _ _ _ _ _ _ _ _ _ _ _ _ _ _ _ _ _ _ _ _ _ _ _ _ _ _ _ _ _ _ _ _ _ _ _ _ _ _ _ _ _ _ _ _ _ _ _ _ _ _ _ _ _ _ _ _ _ _ _ _ _ _ _ _ _ _ _ _ _ _ _ _ _ _ _ ?_ HI3 HS3 HO3
      intro u2 u18 u19 u20 u210 u211 u212 u213 u214 u215 u216 u217 u218 u219 u220 u221 u222 u223 u224 u225 u226 u227 u228 u229 u230 u231 u232 u233 u234 u235 u236 u237 u238 u239 u240 u241 u242 u243 wz h1
      exact HKK.out _ _ _ _ _ _ _ _ _ _ _ _ _ _ _ _ _ _ _ _ _ _ _ _ _ _ _ _ _ _ _ _ _ _ _ _ _ _ _ _ _ _ _ _ _ _ _ _ _ _ _ _ _ _ _ _ _ _ _ _ _ _ _ _ _ _ _ _ _ _ _ _ _ _ _ _ _ _ _ _ _ _ _ _ _ _ _ _ _ _ _ _ _ _ _ _ _ _ _ _ _ _ _ _ _ _ _ _ _ _ _ _ _ _ _ _ _ _ _ _ _ _ _ _ _ _ _ _ _ _ _ _ _ _ _ _ _ _ _ _ _ _ _ _ _ _ _ _ _ _ _ _ _ _ _ _ _ _ _ _ _ _ _ _ _ _ _ _ _ _ _ _ _ _ _ _ _ _ _ _ _ _ _ _ _ _ _ _ _ _ _ _ _ _ _ _ _ _ _ _ _ _ _ _ _ _ _ _ _ ks3 vs3 ak3 av3 ck3 cv3 _ _ wz ⟨rfl, rfl⟩ h1.out

end Go.Proofs.Ytblmmbghnkplkaa
