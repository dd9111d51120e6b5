/-
  KvMap: a put.
-/
import Derived.Test.YtblmmbghnkplkaaWKmA
import Derived.Deep.DeepCutAuto
import Derived.Deep.DeepFit
namespace Go.Proofs.Ytblmmbghnkplkaa
open Go.RowKit

set_option maxRecDepth 1000000 in
set_option maxHeartbeats 40000000 in
theorem kmPut (w W5 wq : World) (cb rb ck cv nc kc2 : Nat) (k at' kn rk rn : Int) (ks vs rks : List (List UInt8)) (PS : List Pr) (key2 v3 nv rv : List UInt8) (ak av na ko2 : Option Addr) (sv0 sv1 sv2 sv3 sv4 sv5 sv8 sv10 sv13 sv14 sv15 sv16 sv18 sv19 sv20 sv21 sv22 sv23 sv24 sv25 sv26 sv27 sv28 sv29 sv30 sv31 sv32 sv33 sv34 sv35 sv36 sv37 sv38 sv39 sv40 sv41 sv42 sv43 sv44 sv45 sv46 sv47 sv48 sv49 sv50 sv51 sv52 sv53 sv54 sv55 sv56 sv57 sv58 sv59 sv60 sv61 sv62 sv63 sv64 sv65 sv66 sv67 sv68 sv69 sv70 sv71 sv72 sv73 sv74 sv75 sv76 sv77 sv78 sv79 sv80 sv81 sv82 sv83 sv84 sv85 sv86 sv87 sv88 sv89 sv90 sv91 sv92 sv93 sv94 sv95 sv96 sv97 sv98 sv99 sv100 sv101 sv102 sv103 sv104 sv105 sv106 sv107 sv108 sv109 sv110 sv111 sv112 sv113 sv114 sv115 sv116 sv117 sv118 sv119 sv120 sv121 sv122 sv123 sv124 sv125 sv126 sv127 sv128 sv129 sv130 sv131 sv132 sv133 sv134 sv135 sv136 sv137 sv138 sv139 sv140 sv141 sv142 sv143 sv144 sv145 sv146 sv147 sv148 sv149 sv150 sv151 sv152 sv153 sv154 sv155 sv156 sv157 sv158 sv159 sv160 sv162 sv163 sv164 sv165 sv166 sv167 sv168 sv169 sv170 sv171 sv172 sv173 sv174 sv175 sv176 sv177 sv178 sv179 sv180 sv181 sv182 sv183 sv184 sv185 sv186 sv187 sv188 sv189 sv190 sv191 sv192 sv193 sv194 sv195 sv196 sv197 sv198 sv199 sv200 sv201 sv202 sv203 sv204 sv205 sv206 sv207 sv208 sv209 sv210 sv211 sv212 sv213 sv214 sv215 sv216 sv217 sv218 sv219 sv220 sv221 sv222 sv223 sv224 sv225 sv226 sv227 sv228 sv229 sv230 sv231 sv232 sv233 sv234 sv235 sv236 sv237 sv238 sv239 sv240 sv241 sv242 sv243 : Value) (K' : Act → World → Prop) (K1 K2 K4 : Act → World → Prop) (R : Ending → World → Prop)
    (hK : ∀ (u162 u163 u164 u165 u166 u167 u168 u169 u170 u171 u172 u173 u174 u175 u176 u177 u178 u179 u180 u181 : Value) (ks2 vs2 : List (List UInt8)) (ak2 av2 : Option Addr) (ck2 cv2 n1 n2 : Nat) (at2 : Int) (wc : World), Hid (n1 = ks2.length ∧ n2 = vs2.length) → Hid (MI (k + 1) PS ks2 vs2) → Hid (KS w ks2 vs2 ak2 av2 ck2 cv2 wc) → Hid (wc.heap[cb]? = some (.cells #[.int .i64 kn, .string (bs key2), .string (bs v3), .int .i64 0] 59 (0, 0))) → Hid (wc.heap[rb]? = some (.cells #[.int .i64 rk, .string (bs rv), .int .i64 rn, .slice ko2 rks.length kc2] 55 (0, 0))) → Hid (OwnP W5.heap.size wc na nc PS) → K' ⟨#[sv0, sv1, sv2, sv3, sv4, sv5, .slice ak2 n1 ck2, .slice av2 n2 cv2, sv8, .pointer (some ⟨cb, 0, none⟩), sv10, .pointer (some ⟨rb, 0, none⟩), .int .i64 at2, sv13, sv14, sv15, sv16, .string (bs nv), sv18, sv19, sv20, sv21, sv22, sv23, sv24, sv25, sv26, sv27, sv28, sv29, sv30, sv31, sv32, sv33, sv34, sv35, sv36, sv37, sv38, sv39, sv40, sv41, sv42, sv43, sv44, sv45, sv46, sv47, sv48, sv49, sv50, sv51, sv52, sv53, sv54, sv55, sv56, sv57, sv58, sv59, sv60, sv61, sv62, sv63, sv64, sv65, sv66, sv67, sv68, sv69, sv70, sv71, sv72, sv73, sv74, sv75, sv76, sv77, sv78, sv79, sv80, sv81, sv82, sv83, sv84, sv85, sv86, sv87, sv88, sv89, sv90, sv91, sv92, sv93, sv94, sv95, sv96, sv97, sv98, sv99, sv100, sv101, sv102, sv103, sv104, sv105, sv106, sv107, sv108, sv109, sv110, sv111, sv112, sv113, sv114, sv115, sv116, sv117, sv118, sv119, sv120, sv121, sv122, sv123, sv124, sv125, sv126, sv127, sv128, sv129, sv130, sv131, sv132, sv133, sv134, sv135, sv136, sv137, sv138, sv139, sv140, sv141, sv142, sv143, sv144, sv145, sv146, sv147, sv148, sv149, sv150, sv151, sv152, sv153, sv154, sv155, sv156, sv157, sv158, sv159, sv160, .bool true, u162, u163, u164, u165, u166, u167, u168, u169, u170, u171, u172, u173, u174, u175, u176, u177, u178, u179, u180, u181, sv182, sv183, sv184, sv185, sv186, sv187, sv188, sv189, sv190, sv191, sv192, sv193, sv194, sv195, sv196, sv197, sv198, sv199, sv200, sv201, sv202, sv203, sv204, sv205, sv206, sv207, sv208, sv209, sv210, sv211, sv212, sv213, sv214, sv215, sv216, sv217, sv218, sv219, sv220, sv221, sv222, sv223, sv224, sv225, sv226, sv227, sv228, sv229, sv230, sv231, sv232, sv233, sv234, sv235, sv236, sv237, sv238, sv239, sv240, sv241, sv242, sv243], []⟩ wc)
    (HNP : Hid (rk = 1 ∧ (at' < 0 → MI (k + 1) PS (ks ++ [key2]) (vs ++ [nv])) ∧ (∀ j, (hj : j < ks.length) → at' = (j : Int) → ks[j] = key2 → MI (k + 1) PS ks (vs.set j nv))))
    (HAt : Hid (AtK key2 ks at')) (HLV : Hid (vs.length = ks.length)) (HSM : Hid (ks.length ≤ 32 ∧ vs.length ≤ 32)) (HS8 : Hid (KS w ks vs ak av ck cv wq)) (HX8 : Hid (wq.heap[cb]? = some (.cells #[.int .i64 kn, .string (bs key2), .string (bs v3), .int .i64 0] 59 (0, 0)))) (HR8 : Hid (wq.heap[rb]? = some (.cells #[.int .i64 rk, .string (bs rv), .int .i64 rn, .slice ko2 rks.length kc2] 55 (0, 0)))) (HO8 : Hid (OwnP W5.heap.size wq na nc PS)) :
    Code.wp Try.prog cPut (Exit.then K' (Exit.inBlock 1 (Exit.then K1 (Exit.then K2 (Exit.inBlock 0 (Exit.then K4 (bodyPost Try.prog Try.f6 R))))))) ⟨#[sv0, sv1, sv2, sv3, sv4, sv5, .slice ak ks.length ck, .slice av vs.length cv, sv8, .pointer (some ⟨cb, 0, none⟩), sv10, .pointer (some ⟨rb, 0, none⟩), .int .i64 at', sv13, sv14, sv15, sv16, .string (bs nv), sv18, sv19, sv20, sv21, sv22, sv23, sv24, sv25, sv26, sv27, sv28, sv29, sv30, sv31, sv32, sv33, sv34, sv35, sv36, sv37, sv38, sv39, sv40, sv41, sv42, sv43, sv44, sv45, sv46, sv47, sv48, sv49, sv50, sv51, sv52, sv53, sv54, sv55, sv56, sv57, sv58, sv59, sv60, sv61, sv62, sv63, sv64, sv65, sv66, sv67, sv68, sv69, sv70, sv71, sv72, sv73, sv74, sv75, sv76, sv77, sv78, sv79, sv80, sv81, sv82, sv83, sv84, sv85, sv86, sv87, sv88, sv89, sv90, sv91, sv92, sv93, sv94, sv95, sv96, sv97, sv98, sv99, sv100, sv101, sv102, sv103, sv104, sv105, sv106, sv107, sv108, sv109, sv110, sv111, sv112, sv113, sv114, sv115, sv116, sv117, sv118, sv119, sv120, sv121, sv122, sv123, sv124, sv125, sv126, sv127, sv128, sv129, sv130, sv131, sv132, sv133, sv134, sv135, sv136, sv137, sv138, sv139, sv140, sv141, sv142, sv143, sv144, sv145, sv146, sv147, sv148, sv149, sv150, sv151, sv152, sv153, sv154, sv155, sv156, sv157, sv158, sv159, sv160, .bool true, sv162, sv163, sv164, sv165, sv166, sv167, sv168, sv169, sv170, sv171, sv172, sv173, sv174, sv175, sv176, sv177, sv178, sv179, sv180, sv181, sv182, sv183, sv184, sv185, sv186, sv187, sv188, sv189, sv190, sv191, sv192, sv193, sv194, sv195, sv196, sv197, sv198, sv199, sv200, sv201, sv202, sv203, sv204, sv205, sv206, sv207, sv208, sv209, sv210, sv211, sv212, sv213, sv214, sv215, sv216, sv217, sv218, sv219, sv220, sv221, sv222, sv223, sv224, sv225, sv226, sv227, sv228, sv229, sv230, sv231, sv232, sv233, sv234, sv235, sv236, sv237, sv238, sv239, sv240, sv241, sv242, sv243], []⟩ wq := by
  have HKK : Hid (∀ (u162 u163 u164 u165 u166 u167 u168 u169 u170 u171 u172 u173 u174 u175 u176 u177 u178 u179 u180 u181 : Value) (ks2 vs2 : List (List UInt8)) (ak2 av2 : Option Addr) (ck2 cv2 n1 n2 : Nat) (at2 : Int) (wc : World), Hid (n1 = ks2.length ∧ n2 = vs2.length) → Hid (MI (k + 1) PS ks2 vs2) → Hid (KS w ks2 vs2 ak2 av2 ck2 cv2 wc) → Hid (wc.heap[cb]? = some (.cells #[.int .i64 kn, .string (bs key2), .string (bs v3), .int .i64 0] 59 (0, 0))) → Hid (wc.heap[rb]? = some (.cells #[.int .i64 rk, .string (bs rv), .int .i64 rn, .slice ko2 rks.length kc2] 55 (0, 0))) → Hid (OwnP W5.heap.size wc na nc PS) → K' ⟨#[sv0, sv1, sv2, sv3, sv4, sv5, .slice ak2 n1 ck2, .slice av2 n2 cv2, sv8, .pointer (some ⟨cb, 0, none⟩), sv10, .pointer (some ⟨rb, 0, none⟩), .int .i64 at2, sv13, sv14, sv15, sv16, .string (bs nv), sv18, sv19, sv20, sv21, sv22, sv23, sv24, sv25, sv26, sv27, sv28, sv29, sv30, sv31, sv32, sv33, sv34, sv35, sv36, sv37, sv38, sv39, sv40, sv41, sv42, sv43, sv44, sv45, sv46, sv47, sv48, sv49, sv50, sv51, sv52, sv53, sv54, sv55, sv56, sv57, sv58, sv59, sv60, sv61, sv62, sv63, sv64, sv65, sv66, sv67, sv68, sv69, sv70, sv71, sv72, sv73, sv74, sv75, sv76, sv77, sv78, sv79, sv80, sv81, sv82, sv83, sv84, sv85, sv86, sv87, sv88, sv89, sv90, sv91, sv92, sv93, sv94, sv95, sv96, sv97, sv98, sv99, sv100, sv101, sv102, sv103, sv104, sv105, sv106, sv107, sv108, sv109, sv110, sv111, sv112, sv113, sv114, sv115, sv116, sv117, sv118, sv119, sv120, sv121, sv122, sv123, sv124, sv125, sv126, sv127, sv128, sv129, sv130, sv131, sv132, sv133, sv134, sv135, sv136, sv137, sv138, sv139, sv140, sv141, sv142, sv143, sv144, sv145, sv146, sv147, sv148, sv149, sv150, sv151, sv152, sv153, sv154, sv155, sv156, sv157, sv158, sv159, sv160, .bool true, u162, u163, u164, u165, u166, u167, u168, u169, u170, u171, u172, u173, u174, u175, u176, u177, u178, u179, u180, u181, sv182, sv183, sv184, sv185, sv186, sv187, sv188, sv189, sv190, sv191, sv192, sv193, sv194, sv195, sv196, sv197, sv198, sv199, sv200, sv201, sv202, sv203, sv204, sv205, sv206, sv207, sv208, sv209, sv210, sv211, sv212, sv213, sv214, sv215, sv216, sv217, sv218, sv219, sv220, sv221, sv222, sv223, sv224, sv225, sv226, sv227, sv228, sv229, sv230, sv231, sv232, sv233, sv234, sv235, sv236, sv237, sv238, sv239, sv240, sv241, sv242, sv243], []⟩ wc) := hK
  clear hK
  have r0 : wq.cell? ⟨rb, 0, none⟩ = some (.int .i64 1) := by rw [← show rk = 1 from HNP.out.1]; exact blk_at HR8.out 0 rfl
  have x1 : wq.cell? ⟨cb, 1, none⟩ = some (.string (bs key2)) := blk_at HX8.out 1 rfl
  conv => arg 2; whnf
  dsimp only
  rcases HAt.out with ⟨e, hn⟩ | ⟨q, hq, e, hh⟩
  · skip
    have HMI : Hid (MI (k + 1) PS (ks ++ [key2]) (vs ++ [nv])) := HNP.out.2.1 (by omega)
    subst e
    obtain ⟨i0, hi, hz0, hz1, hz2⟩ := info_parts Try.infoSt
    have hk32 : ks.length ≤ 32 := HSM.out.1
    have hv32 : vs.length ≤ 32 := HSM.out.2
    have HLL : Hid (ks.length + 1 ≤ maxLen ∧ (ks.length + 1) * 16 ≤ 140737488355328) := by constructor <;> (try unfold maxLen) <;> omega
    have HL2 : Hid (vs.length + 1 ≤ maxLen ∧ (vs.length + 1) * 16 ≤ 140737488355328) := by constructor <;> (try unfold maxLen) <;> omega
    have HSZ : Hid (w.heap.size ≤ wq.heap.size) := HS8.out.kept.size
    have HOk : Hid (wq.ownsRow w.heap.size 9 1 (.slice ak ks.length ck) ks.length (kyCells ks)) := HS8.out.ok
    have hidx : ((ks.length + 1 : Nat) : Int) - 1 = (ks.length : Int) := by omega
    have hwrp : IntKind.i64.wrap (ks.length : Int) = (ks.length : Int) := by rw [IntKind.wrap_i64]; omega
    have hlv2 : (ks.length : Int) < ((vs.length + 1 : Nat) : Int) := by have := HLV.out; omega
    clear hn
    go_upto_if 164 with fail
    go_upto_if 166 with fail
    go_upto_region 39 with fail
    obtain ⟨WA, HWA⟩ : ∃ WA, Hid (WA = wq.alloc (.cells #[.string (bs key2)] 9)) := ⟨_, rfl⟩
    have KA : Hid (Kept Nil wq (wq.alloc (.cells #[.string (bs key2)] 9))) := (Kept.refl _ _).alloc _
    have HOA : Hid ((wq.alloc (.cells #[.string (bs key2)] 9)).ownsRow w.heap.size 9 1 (.slice ak ks.length ck) ks.length (kyCells ks)) := World.ownsRow.alloc HOk.out _
    have HXA : Hid ((wq.alloc (.cells #[.string (bs key2)] 9)).heap[cb]? = some (.cells #[.int .i64 kn, .string (bs key2), .string (bs v3), .int .i64 0] 59 (0, 0))) := blk_past HX8.out _
    have HRA : Hid ((wq.alloc (.cells #[.string (bs key2)] 9)).heap[rb]? = some (.cells #[.int .i64 rk, .string (bs rv), .int .i64 rn, .slice ko2 rks.length kc2] 55 (0, 0))) := blk_past HR8.out _
    have HPA : Hid (OwnP W5.heap.size (wq.alloc (.cells #[.string (bs key2)] 9)) na nc PS) := HO8.out.kept KA.out
    have HNX : Hid ((Value.slice ak ks.length ck).ownBlock ≠ some cb) := own_neTy HOA.out HXA.out (by decide)
    have HNR : Hid ((Value.slice ak ks.length ck).ownBlock ≠ some rb) := own_neTy HOA.out HRA.out (by decide)
    have HSRC : Hid (Src Try.prog 1 53 (.slice (some ⟨wq.heap.size, 0, none⟩) 1 1) 1 [.string (bs key2)] (wq.alloc (.cells #[.string (bs key2)] 9))) := src_ky key2
    have HLE : Hid (w.heap.size ≤ (wq.alloc (.cells #[.string (bs key2)] 9)).heap.size) := le_alloc HSZ.out _
    clear HWA WA
    go_upto_region 40 with (at_builtin; go_must (refine wpList_append_at _ rfl _ _ 53 53 rfl w.heap.size 9 i0 (.string ⟨#[]⟩) 1 16 Try.underlying53 hi hz0 hz1 hz2 rfl _ _ _ rfl HOA.out (.slice (some ⟨wq.heap.size, 0, none⟩) 1 1) 1 [.string (bs key2)] rfl HSRC.out HLL.out.1 HLL.out.2 HLE.out ?_); intro a2 c2 w9 ho' hg' hl'; have HKY9 : Hid (KS w (ks ++ [key2]) vs a2 av c2 cv w9) := KS.keyApp HS8.out ho' hg' hl'; have HX9 : Hid (w9.heap[cb]? = some (.cells #[.int .i64 kn, .string (bs key2), .string (bs v3), .int .i64 0] 59 (0, 0))) := grown_blk hg' HXA.out HNX.out; have HR9 : Hid (w9.heap[rb]? = some (.cells #[.int .i64 rk, .string (bs rv), .int .i64 rn, .slice ko2 rks.length kc2] 55 (0, 0))) := grown_blk hg' HRA.out HNR.out; have HO9 : Hid (OwnP W5.heap.size w9 na nc PS) := OwnP.farK (ko := ak) (ks := ks) (kc := ck) (B' := w.heap.size) HPA.out HOA.out hg'; clear ho' hg' hl')
    clear HOA HXA HRA HPA HNX HNR HSRC HLE KA HOk HS8 HX8 HR8 HO8 r0
    have KB : Hid (Kept Nil w9 (w9.alloc (.cells #[.string (bs [])] 9))) := (Kept.refl _ _).alloc _
    have HOB : Hid ((w9.alloc (.cells #[.string (bs [])] 9)).ownsRow w.heap.size 9 1 (.slice av vs.length cv) vs.length (kyCells vs)) := World.ownsRow.alloc HKY9.out.ov _
    have HXB : Hid ((w9.alloc (.cells #[.string (bs [])] 9)).heap[cb]? = some (.cells #[.int .i64 kn, .string (bs key2), .string (bs v3), .int .i64 0] 59 (0, 0))) := blk_past HX9.out _
    have HRB : Hid ((w9.alloc (.cells #[.string (bs [])] 9)).heap[rb]? = some (.cells #[.int .i64 rk, .string (bs rv), .int .i64 rn, .slice ko2 rks.length kc2] 55 (0, 0))) := blk_past HR9.out _
    have HPB : Hid (OwnP W5.heap.size (w9.alloc (.cells #[.string (bs [])] 9)) na nc PS) := HO9.out.kept KB.out
    have HNX : Hid ((Value.slice av vs.length cv).ownBlock ≠ some cb) := own_neTy HOB.out HXB.out (by decide)
    have HNR : Hid ((Value.slice av vs.length cv).ownBlock ≠ some rb) := own_neTy HOB.out HRB.out (by decide)
    have HSRC : Hid (Src Try.prog 1 53 (.slice (some ⟨w9.heap.size, 0, none⟩) 1 1) 1 [.string (bs [])] (w9.alloc (.cells #[.string (bs [])] 9))) := src_ky []
    have HLE : Hid (w.heap.size ≤ (w9.alloc (.cells #[.string (bs [])] 9)).heap.size) := le_alloc HKY9.out.kept.size _
    go_upto_region 41 with (at_builtin; go_must (refine wpList_append_at _ rfl _ _ 53 53 rfl w.heap.size 9 i0 (.string ⟨#[]⟩) 1 16 Try.underlying53 hi hz0 hz1 hz2 rfl _ _ _ rfl HOB.out (.slice (some ⟨w9.heap.size, 0, none⟩) 1 1) 1 [.string (bs [])] rfl HSRC.out HL2.out.1 HL2.out.2 HLE.out ?_); intro a3 c3 w10 ho' hg' hl'; have HKY10 : Hid (KS w (ks ++ [key2]) (vs ++ [[]]) a2 a3 c2 c3 w10) := KS.valApp HKY9.out ho' hg' hl'; have HX10 : Hid (w10.heap[cb]? = some (.cells #[.int .i64 kn, .string (bs key2), .string (bs v3), .int .i64 0] 59 (0, 0))) := grown_blk hg' HXB.out HNX.out; have HR10 : Hid (w10.heap[rb]? = some (.cells #[.int .i64 rk, .string (bs rv), .int .i64 rn, .slice ko2 rks.length kc2] 55 (0, 0))) := grown_blk hg' HRB.out HNR.out; have HO10 : Hid (OwnP W5.heap.size w10 na nc PS) := OwnP.farK (ko := av) (ks := vs) (kc := cv) (B' := w.heap.size) HPB.out HOB.out hg'; clear ho' hg' hl')
    clear HOB HXB HRB HPB HNX HNR HSRC HLE KB HKY9 HX9 HR9 HO9
    obtain ⟨g3, cs3, e3, hb3, hc3⟩ := HKY10.out.ov.freesM (by simp)
    subst e3
    obtain ⟨uu, y0⟩ : ∃ uu, w10.cell? ⟨g3, ks.length, none⟩ = some uu := ⟨_, by rw [blk_cell hb3, Array.getElem?_eq_getElem (by have := HLV.out; rw [List.length_append] at hc3; simp at hc3; omega)]⟩
    have y1 : w10.frozen? ⟨g3, ks.length, none⟩ = false := blk_free hb3 _
    have HSE : Hid ((vs ++ [[]]).set ks.length nv = vs ++ [nv]) := by show _ = _; rw [← HLV.out]; simp
    have HKY11 : Hid (KS w (ks ++ [key2]) (vs ++ [nv]) a2 (some ⟨g3, 0, none⟩) c2 c3 (w10.setCell ⟨g3, ks.length, none⟩ (.string (bs nv)))) := by rw [← HSE.out]; exact HKY10.out.setVal (by simp)
    have HX11 : Hid ((w10.setCell ⟨g3, ks.length, none⟩ (.string (bs nv))).heap[cb]? = some (.cells #[.int .i64 kn, .string (bs key2), .string (bs v3), .int .i64 0] 59 (0, 0))) := blk_other HX10.out (a := ⟨g3, ks.length, none⟩) (fun ee => by have e9 : cb = g3 := ee; rw [← e9, HX10.out] at hb3; simp at hb3) _
    have HR11 : Hid ((w10.setCell ⟨g3, ks.length, none⟩ (.string (bs nv))).heap[rb]? = some (.cells #[.int .i64 rk, .string (bs rv), .int .i64 rn, .slice ko2 rks.length kc2] 55 (0, 0))) := blk_other HR10.out (a := ⟨g3, ks.length, none⟩) (fun ee => by have e9 : rb = g3 := ee; rw [← e9, HR10.out] at hb3; simp at hb3) _
    have HO11 : Hid (OwnP W5.heap.size (w10.setCell ⟨g3, ks.length, none⟩ (.string (bs nv))) na nc PS) := ownsRow_setCell_other HO10.out (own_neTy HO10.out hb3 (by decide)) _
    clear hb3 hc3 HKY10 HX10 HR10 HO10
    go_wp2
    (try show K' _ _)
    exact HKK.out _ _ _ _ _ _ _ _ _ _ _ _ _ _ _ _ _ _ _ _ (ks ++ [key2]) (vs ++ [nv]) a2 (some ⟨g3, 0, none⟩) c2 c3 _ _ ks.length _ ⟨by rw [List.length_append]; rfl, by rw [List.length_append]; rfl⟩ HMI.out HKY11.out HX11.out HR11.out HO11.out
  · skip
    have HMI : Hid (MI (k + 1) PS ks (vs.set q nv)) := HNP.out.2.2 q hq e hh
    have hqv : q < vs.length := by rw [HLV.out]; exact hq
    obtain ⟨g3, cs3, rfl, hb3, hc3⟩ := HS8.out.ov.freesM (by omega)
    obtain ⟨uu, y0⟩ : ∃ uu, wq.cell? ⟨g3, q, none⟩ = some uu := ⟨_, by rw [blk_cell hb3, Array.getElem?_eq_getElem (by omega)]⟩
    have y1 : wq.frozen? ⟨g3, q, none⟩ = false := blk_free hb3 _
    have hqi : (q : Int) < vs.length := by omega
    have HS9 : Hid (KS w ks (vs.set q nv) ak (some ⟨g3, 0, none⟩) ck cv (wq.setCell ⟨g3, q, none⟩ (.string (bs nv)))) := HS8.out.setVal (by omega)
    have HX9 : Hid ((wq.setCell ⟨g3, q, none⟩ (.string (bs nv))).heap[cb]? = some (.cells #[.int .i64 kn, .string (bs key2), .string (bs v3), .int .i64 0] 59 (0, 0))) := blk_other HX8.out (a := ⟨g3, q, none⟩) (fun ee => by have e9 : cb = g3 := ee; rw [← e9, HX8.out] at hb3; simp at hb3) _
    have HR9 : Hid ((wq.setCell ⟨g3, q, none⟩ (.string (bs nv))).heap[rb]? = some (.cells #[.int .i64 rk, .string (bs rv), .int .i64 rn, .slice ko2 rks.length kc2] 55 (0, 0))) := blk_other HR8.out (a := ⟨g3, q, none⟩) (fun ee => by have e9 : rb = g3 := ee; rw [← e9, HR8.out] at hb3; simp at hb3) _
    have HO9 : Hid (OwnP W5.heap.size (wq.setCell ⟨g3, q, none⟩ (.string (bs nv))) na nc PS) := ownsRow_setCell_other HO8.out (own_neTy HO8.out hb3 (by decide)) _
    subst e
    clear hb3 hc3 hh
    have hq0 : ¬ (q : Int) < 0 := by omega
    have hqb : decide ((q : Int) < 0) = false := decide_eq_false hq0
    have hone : ((1 : Int) != 1) = false := by decide
    go_upto_if 164 with fail
    go_upto_if 166 with fail
    go_wp2
    (try show K' _ _)
    exact HKK.out _ _ _ _ _ _ _ _ _ _ _ _ _ _ _ _ _ _ _ _ ks (vs.set q nv) ak (some ⟨g3, 0, none⟩) ck cv _ _ q _ ⟨rfl, by rw [List.length_set]⟩ HMI.out HS9.out HX9.out HR9.out HO9.out

end Go.Proofs.Ytblmmbghnkplkaa
