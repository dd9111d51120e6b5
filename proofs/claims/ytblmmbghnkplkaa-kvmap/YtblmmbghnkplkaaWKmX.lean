/-
  KvMap: a delete.
-/
import Derived.Test.YtblmmbghnkplkaaWKmR
import Derived.Test.YtblmmbghnkplkaaWKmS
import Derived.Deep.DeepCutAuto
import Derived.Deep.DeepFit
namespace Go.Proofs.Ytblmmbghnkplkaa
open Go.RowKit

set_option maxRecDepth 1000000 in
set_option maxHeartbeats 40000000 in
theorem kmDel (w W5 wd : World) (g2 g3 rb ck2 cv2 nc kc2 q : Nat) (k rn : Int) (ks2 vs2 rks : List (List UInt8)) (PS : List Pr) (rv : List UInt8) (na ko2 : Option Addr) (sv0 sv1 sv2 sv3 sv4 sv5 sv8 sv9 sv10 sv13 sv14 sv15 sv16 sv17 sv18 sv19 sv20 sv21 sv22 sv23 sv24 sv25 sv26 sv27 sv28 sv29 sv30 sv31 sv32 sv33 sv34 sv35 sv36 sv37 sv38 sv39 sv40 sv41 sv42 sv43 sv44 sv45 sv46 sv47 sv48 sv49 sv50 sv51 sv52 sv53 sv54 sv55 sv56 sv57 sv58 sv59 sv60 sv61 sv62 sv63 sv64 sv65 sv66 sv67 sv68 sv69 sv70 sv71 sv72 sv73 sv74 sv75 sv76 sv77 sv78 sv79 sv80 sv81 sv82 sv83 sv84 sv85 sv86 sv87 sv88 sv89 sv90 sv91 sv92 sv93 sv94 sv95 sv96 sv97 sv98 sv99 sv100 sv101 sv102 sv103 sv104 sv105 sv106 sv107 sv108 sv109 sv110 sv111 sv112 sv113 sv114 sv115 sv116 sv117 sv118 sv119 sv120 sv121 sv122 sv123 sv124 sv125 sv126 sv127 sv128 sv129 sv130 sv131 sv132 sv133 sv134 sv135 sv136 sv137 sv138 sv139 sv140 sv141 sv142 sv143 sv144 sv145 sv146 sv147 sv148 sv149 sv150 sv151 sv152 sv153 sv154 sv155 sv156 sv157 sv158 sv159 sv160 sv161 sv162 sv163 sv164 sv165 sv166 sv167 sv168 sv169 sv170 sv171 sv172 sv173 sv174 sv175 sv176 sv177 sv178 sv179 sv180 sv181 sv182 sv183 sv184 sv185 sv186 sv187 sv189 sv190 sv191 sv192 sv193 sv194 sv195 sv196 sv197 sv198 sv199 sv200 sv201 sv202 sv203 sv204 sv205 sv206 sv207 sv208 sv209 sv210 sv211 sv212 sv213 sv214 sv215 sv216 sv217 sv218 sv219 sv220 sv221 sv222 sv223 sv224 sv225 sv226 sv227 sv228 sv229 sv230 sv231 sv232 sv233 sv234 sv235 sv236 sv237 sv238 sv239 sv240 sv241 sv242 sv243 : Value) (K' : Act → World → Prop) (K1 K2 K4 : Act → World → Prop) (R : Ending → World → Prop)
    (hK : ∀ (u189 u190 u191 u192 u193 u194 u195 u196 u197 u198 u199 u200 u201 u202 u203 u204 u205 u206 u207 u208 u209 : Value) (ks3 vs3 : List (List UInt8)) (ak3 av3 : Option Addr) (ck3 cv3 n1 n2 : Nat) (wc : World), Hid (n1 = ks3.length ∧ n2 = vs3.length) → Hid (MI (k + 1) PS ks3 vs3) → Hid (KS w ks3 vs3 ak3 av3 ck3 cv3 wc) → Hid (OwnP W5.heap.size wc na nc PS) → K' ⟨#[sv0, sv1, sv2, sv3, sv4, sv5, .slice ak3 n1 ck3, .slice av3 n2 cv3, sv8, sv9, sv10, .pointer (some ⟨rb, 0, none⟩), .int .i64 q, sv13, sv14, sv15, sv16, sv17, sv18, sv19, sv20, sv21, sv22, sv23, sv24, sv25, sv26, sv27, sv28, sv29, sv30, sv31, sv32, sv33, sv34, sv35, sv36, sv37, sv38, sv39, sv40, sv41, sv42, sv43, sv44, sv45, sv46, sv47, sv48, sv49, sv50, sv51, sv52, sv53, sv54, sv55, sv56, sv57, sv58, sv59, sv60, sv61, sv62, sv63, sv64, sv65, sv66, sv67, sv68, sv69, sv70, sv71, sv72, sv73, sv74, sv75, sv76, sv77, sv78, sv79, sv80, sv81, sv82, sv83, sv84, sv85, sv86, sv87, sv88, sv89, sv90, sv91, sv92, sv93, sv94, sv95, sv96, sv97, sv98, sv99, sv100, sv101, sv102, sv103, sv104, sv105, sv106, sv107, sv108, sv109, sv110, sv111, sv112, sv113, sv114, sv115, sv116, sv117, sv118, sv119, sv120, sv121, sv122, sv123, sv124, sv125, sv126, sv127, sv128, sv129, sv130, sv131, sv132, sv133, sv134, sv135, sv136, sv137, sv138, sv139, sv140, sv141, sv142, sv143, sv144, sv145, sv146, sv147, sv148, sv149, sv150, sv151, sv152, sv153, sv154, sv155, sv156, sv157, sv158, sv159, sv160, sv161, sv162, sv163, sv164, sv165, sv166, sv167, sv168, sv169, sv170, sv171, sv172, sv173, sv174, sv175, sv176, sv177, sv178, sv179, sv180, sv181, sv182, sv183, sv184, sv185, sv186, sv187, .bool true, u189, u190, u191, u192, u193, u194, u195, u196, u197, u198, u199, u200, u201, u202, u203, u204, u205, u206, u207, u208, u209, sv210, sv211, sv212, sv213, sv214, sv215, sv216, sv217, sv218, sv219, sv220, sv221, sv222, sv223, sv224, sv225, sv226, sv227, sv228, sv229, sv230, sv231, sv232, sv233, sv234, sv235, sv236, sv237, sv238, sv239, sv240, sv241, sv242, sv243], []⟩ wc)
    (HMI : Hid (MI (k + 1) PS (ks2.take q ++ ks2.drop (q + 1)) (vs2.take q ++ vs2.drop (q + 1)))) (hq : q < ks2.length) (HLV : Hid (vs2.length = ks2.length)) (hm1 : ks2.length ≤ 32)
    (HS2 : Hid (KS w ks2 vs2 (some ⟨g2, 0, none⟩) (some ⟨g3, 0, none⟩) ck2 cv2 wd)) (HRd : Hid (wd.heap[rb]? = some (.cells #[.int .i64 1, .string (bs rv), .int .i64 rn, .slice ko2 rks.length kc2] 55 (0, 0)))) (HOd : Hid (OwnP W5.heap.size wd na nc PS)) (hlk1 : ks2.length ≤ ck2) (hck : ck2 ≤ 9223372036854775807) (hlv1 : vs2.length ≤ cv2) (hcv : cv2 ≤ 9223372036854775807) :
    Code.wp Try.prog cDel (Exit.then K' (Exit.inBlock 1 (Exit.then K1 (Exit.then K2 (Exit.inBlock 0 (Exit.then K4 (bodyPost Try.prog Try.f6 R))))))) ⟨#[sv0, sv1, sv2, sv3, sv4, sv5, .slice (some ⟨g2, 0, none⟩) ks2.length ck2, .slice (some ⟨g3, 0, none⟩) vs2.length cv2, sv8, sv9, sv10, .pointer (some ⟨rb, 0, none⟩), .int .i64 q, sv13, sv14, sv15, sv16, sv17, sv18, sv19, sv20, sv21, sv22, sv23, sv24, sv25, sv26, sv27, sv28, sv29, sv30, sv31, sv32, sv33, sv34, sv35, sv36, sv37, sv38, sv39, sv40, sv41, sv42, sv43, sv44, sv45, sv46, sv47, sv48, sv49, sv50, sv51, sv52, sv53, sv54, sv55, sv56, sv57, sv58, sv59, sv60, sv61, sv62, sv63, sv64, sv65, sv66, sv67, sv68, sv69, sv70, sv71, sv72, sv73, sv74, sv75, sv76, sv77, sv78, sv79, sv80, sv81, sv82, sv83, sv84, sv85, sv86, sv87, sv88, sv89, sv90, sv91, sv92, sv93, sv94, sv95, sv96, sv97, sv98, sv99, sv100, sv101, sv102, sv103, sv104, sv105, sv106, sv107, sv108, sv109, sv110, sv111, sv112, sv113, sv114, sv115, sv116, sv117, sv118, sv119, sv120, sv121, sv122, sv123, sv124, sv125, sv126, sv127, sv128, sv129, sv130, sv131, sv132, sv133, sv134, sv135, sv136, sv137, sv138, sv139, sv140, sv141, sv142, sv143, sv144, sv145, sv146, sv147, sv148, sv149, sv150, sv151, sv152, sv153, sv154, sv155, sv156, sv157, sv158, sv159, sv160, sv161, sv162, sv163, sv164, sv165, sv166, sv167, sv168, sv169, sv170, sv171, sv172, sv173, sv174, sv175, sv176, sv177, sv178, sv179, sv180, sv181, sv182, sv183, sv184, sv185, sv186, sv187, .bool true, sv189, sv190, sv191, sv192, sv193, sv194, sv195, sv196, sv197, sv198, sv199, sv200, sv201, sv202, sv203, sv204, sv205, sv206, sv207, sv208, sv209, sv210, sv211, sv212, sv213, sv214, sv215, sv216, sv217, sv218, sv219, sv220, sv221, sv222, sv223, sv224, sv225, sv226, sv227, sv228, sv229, sv230, sv231, sv232, sv233, sv234, sv235, sv236, sv237, sv238, sv239, sv240, sv241, sv242, sv243], []⟩ wd := by
  have HKK : Hid (∀ (u189 u190 u191 u192 u193 u194 u195 u196 u197 u198 u199 u200 u201 u202 u203 u204 u205 u206 u207 u208 u209 : Value) (ks3 vs3 : List (List UInt8)) (ak3 av3 : Option Addr) (ck3 cv3 n1 n2 : Nat) (wc : World), Hid (n1 = ks3.length ∧ n2 = vs3.length) → Hid (MI (k + 1) PS ks3 vs3) → Hid (KS w ks3 vs3 ak3 av3 ck3 cv3 wc) → Hid (OwnP W5.heap.size wc na nc PS) → K' ⟨#[sv0, sv1, sv2, sv3, sv4, sv5, .slice ak3 n1 ck3, .slice av3 n2 cv3, sv8, sv9, sv10, .pointer (some ⟨rb, 0, none⟩), .int .i64 q, sv13, sv14, sv15, sv16, sv17, sv18, sv19, sv20, sv21, sv22, sv23, sv24, sv25, sv26, sv27, sv28, sv29, sv30, sv31, sv32, sv33, sv34, sv35, sv36, sv37, sv38, sv39, sv40, sv41, sv42, sv43, sv44, sv45, sv46, sv47, sv48, sv49, sv50, sv51, sv52, sv53, sv54, sv55, sv56, sv57, sv58, sv59, sv60, sv61, sv62, sv63, sv64, sv65, sv66, sv67, sv68, sv69, sv70, sv71, sv72, sv73, sv74, sv75, sv76, sv77, sv78, sv79, sv80, sv81, sv82, sv83, sv84, sv85, sv86, sv87, sv88, sv89, sv90, sv91, sv92, sv93, sv94, sv95, sv96, sv97, sv98, sv99, sv100, sv101, sv102, sv103, sv104, sv105, sv106, sv107, sv108, sv109, sv110, sv111, sv112, sv113, sv114, sv115, sv116, sv117, sv118, sv119, sv120, sv121, sv122, sv123, sv124, sv125, sv126, sv127, sv128, sv129, sv130, sv131, sv132, sv133, sv134, sv135, sv136, sv137, sv138, sv139, sv140, sv141, sv142, sv143, sv144, sv145, sv146, sv147, sv148, sv149, sv150, sv151, sv152, sv153, sv154, sv155, sv156, sv157, sv158, sv159, sv160, sv161, sv162, sv163, sv164, sv165, sv166, sv167, sv168, sv169, sv170, sv171, sv172, sv173, sv174, sv175, sv176, sv177, sv178, sv179, sv180, sv181, sv182, sv183, sv184, sv185, sv186, sv187, .bool true, u189, u190, u191, u192, u193, u194, u195, u196, u197, u198, u199, u200, u201, u202, u203, u204, u205, u206, u207, u208, u209, sv210, sv211, sv212, sv213, sv214, sv215, sv216, sv217, sv218, sv219, sv220, sv221, sv222, sv223, sv224, sv225, sv226, sv227, sv228, sv229, sv230, sv231, sv232, sv233, sv234, sv235, sv236, sv237, sv238, sv239, sv240, sv241, sv242, sv243], []⟩ wc) := hK
  clear hK
  have r0 : wd.cell? ⟨rb, 0, none⟩ = some (.int .i64 1) := blk_at HRd.out 0 rfl
  have hqv : q < vs2.length := by rw [HLV.out]; exact hq
  have hm2 : vs2.length ≤ 32 := by rw [HLV.out]; exact hm1
  obtain ⟨i, HI⟩ : ∃ i : Nat, Hid (i = q + 1) := ⟨_, rfl⟩
  rw [← HI.out] at HMI
  have hone : ((1 : Int) != 1) = false := by decide
  conv => arg 2; whnf
  dsimp only
  go_upto_if 191 with fail
  try rw [hone]
  go_upto_region 46 with fail
  go_cut [6] from 189 to 209 (fun s6 wc => ∃ a2 c2, s6 = .slice a2 (q + (ks2.length - i)) c2 ∧ Hid (OwnK wd.heap.size wc a2 c2 (ks2.take q ++ ks2.drop i)) ∧ Hid (Kept Nil wd wc))
  case first =>
    refine kmKeys w wd g2 ck2 q i ks2 _ _ _ _ _ _ _ _ _ _ _ _ _ _ _ _ _ _ _ _ _ _ _ _ _ _ _ _ _ _ _ _ _ _ _ _ _ _ _ _ _ _ _ _ _ _ _ _ _ _ _ _ _ _ _ _ _ _ _ _ _ _ _ _ _ _ _ _ _ _ _ _ _ _ _ _ _ _ _ _ _ _ _ _ _ _ _ _ _ _ _ _ _ _ _ _ _ _ _ _ _ _ _ _ _ _ _ _ _ _ _ _ _ _ _ _ _ _ _ _ _ _ _ _ _ _ _ _ _ _ _ _ _ _ _ _ _ _ _ _ _ _ _ _ _ _ _ _ _ _ _ _ _ _ _ _ _ _ _ _ _ _ _ _ _ _ _ _ _ _ _ _ _ _ _ _ _ _ _ _ _ _ _ _ _ _ _ _ _ _ _ _ _ _ _ _ _ _ _ _ _ _ _ _ _ _ _ _ _ _ _ _ _ _ _ _ _ _ _ _ _ _ _ _ _ _ _ _ _ _ _ _ _ _ _ _ _ _ _ _ _ _ _ _ _ _ _ _ ?_ HS2.out.ok hq HI hm1 hlk1 hck
    intro u192 u193 u194 u195 u196 u197 u198 u199 u200 a2 c2 n wc h0 h1 h2
    obtain rfl := h0.out
    (try dsimp only)
    go_wp2
    go_meet
    exact ⟨a2, c2, rfl, h1.out, h2.out⟩
  case rest =>
    obtain ⟨a2, c2, rfl, HO4, K4⟩ := hcut
    rename World => we
    have HOV : Hid (OwnK w.heap.size we (some ⟨g3, 0, none⟩) cv2 vs2) := HS2.out.ov.kept K4.out
    go_upto_region 47 with fail
    go_cut [7] from 189 to 209 (fun s7 wc => ∃ a3 c3, s7 = .slice a3 (q + (vs2.length - i)) c3 ∧ Hid (OwnK we.heap.size wc a3 c3 (vs2.take q ++ vs2.drop i)) ∧ Hid (Kept Nil we wc))
    case first =>
      refine kmVals w we g3 cv2 q i vs2 _ _ _ _ _ _ _ _ _ _ _ _ _ _ _ _ _ _ _ _ _ _ _ _ _ _ _ _ _ _ _ _ _ _ _ _ _ _ _ _ _ _ _ _ _ _ _ _ _ _ _ _ _ _ _ _ _ _ _ _ _ _ _ _ _ _ _ _ _ _ _ _ _ _ _ _ _ _ _ _ _ _ _ _ _ _ _ _ _ _ _ _ _ _ _ _ _ _ _ _ _ _ _ _ _ _ _ _ _ _ _ _ _ _ _ _ _ _ _ _ _ _ _ _ _ _ _ _ _ _ _ _ _ _ _ _ _ _ _ _ _ _ _ _ _ _ _ _ _ _ _ _ _ _ _ _ _ _ _ _ _ _ _ _ _ _ _ _ _ _ _ _ _ _ _ _ _ _ _ _ _ _ _ _ _ _ _ _ _ _ _ _ _ _ _ _ _ _ _ _ _ _ _ _ _ _ _ _ _ _ _ _ _ _ _ _ _ _ _ _ _ _ _ _ _ _ _ _ _ _ _ _ _ _ _ _ _ _ _ _ _ _ _ _ _ _ _ ?_ HOV.out hqv HI hm2 hlv1 hcv
      intro u201 u202 u203 u204 u205 u206 u207 u208 u209 a3 c3 n wc h0 h1 h2
      obtain rfl := h0.out
      (try dsimp only)
      go_wp2
      go_meet
      exact ⟨a3, c3, rfl, h1.out, h2.out⟩
    case rest =>
      obtain ⟨a3, c3, rfl, HO5, K5⟩ := hcut
      rename World => wf
      have HLk : Hid ((ks2.take q ++ ks2.drop i).length = q + (ks2.length - i)) := by show _ = _; rw [List.length_append, List.length_take, List.length_drop, Nat.min_eq_left (by omega)]
      have HLv : Hid ((vs2.take q ++ vs2.drop i).length = q + (vs2.length - i)) := by show _ = _; rw [List.length_append, List.length_take, List.length_drop, Nat.min_eq_left (by omega)]
      have HSN : Hid (KS w (ks2.take q ++ ks2.drop i) (vs2.take q ++ vs2.drop i) a2 a3 c2 c3 wf) := KS.anew HS2.out HO4.out K4.out HO5.out K5.out
      have HON : Hid (OwnP W5.heap.size wf na nc PS) := (HOd.out.kept K4.out).kept K5.out
      go_wp2
      (try show K' _ _)
      exact HKK.out _ _ _ _ _ _ _ _ _ _ _ _ _ _ _ _ _ _ _ _ _ (ks2.take q ++ ks2.drop i) (vs2.take q ++ vs2.drop i) a2 a3 c2 c3 _ _ wf ⟨HLk.out.symm, HLv.out.symm⟩ HMI.out HSN.out HON.out

end Go.Proofs.Ytblmmbghnkplkaa
