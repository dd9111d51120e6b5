/-
  KvMap: the end of a round.
-/
import Derived.Test.YtblmmbghnkplkaaWKmA
import Derived.Deep.DeepCutAuto
import Derived.Deep.DeepFit
namespace Go.Proofs.Ytblmmbghnkplkaa
open Go.RowKit

set_option maxRecDepth 1000000 in
set_option maxHeartbeats 40000000 in
theorem kmEnd (w W5 wf : World) (nc ck3 cv3 : Nat) (k : Int) (ks3 vs3 : List (List UInt8)) (PS : List Pr) (na ak3 av3 : Option Addr) (sv0 sv1 sv2 sv3 sv4 sv5 sv8 sv9 sv11 sv12 sv13 sv14 sv15 sv16 sv17 sv18 sv19 sv20 sv21 sv22 sv23 sv24 sv25 sv26 sv27 sv28 sv29 sv30 sv31 sv32 sv33 sv34 sv35 sv36 sv37 sv38 sv39 sv40 sv41 sv42 sv43 sv44 sv45 sv46 sv47 sv48 sv49 sv50 sv51 sv52 sv53 sv54 sv55 sv56 sv57 sv58 sv59 sv60 sv61 sv62 sv63 sv64 sv65 sv66 sv67 sv68 sv69 sv70 sv71 sv72 sv73 sv74 sv75 sv76 sv77 sv78 sv79 sv80 sv81 sv82 sv83 sv84 sv85 sv86 sv87 sv88 sv89 sv90 sv91 sv92 sv93 sv94 sv95 sv96 sv97 sv98 sv99 sv100 sv101 sv102 sv103 sv104 sv105 sv106 sv107 sv108 sv109 sv110 sv111 sv112 sv113 sv114 sv115 sv116 sv117 sv118 sv119 sv120 sv121 sv122 sv123 sv124 sv125 sv126 sv127 sv128 sv129 sv130 sv131 sv132 sv133 sv134 sv135 sv136 sv137 sv138 sv139 sv140 sv141 sv142 sv143 sv144 sv145 sv146 sv147 sv148 sv149 sv150 sv151 sv152 sv153 sv154 sv155 sv156 sv157 sv158 sv159 sv160 sv161 sv162 sv163 sv164 sv165 sv166 sv167 sv168 sv169 sv170 sv171 sv172 sv173 sv174 sv175 sv176 sv177 sv178 sv179 sv180 sv181 sv182 sv183 sv184 sv185 sv186 sv187 sv188 sv189 sv190 sv191 sv192 sv193 sv194 sv195 sv196 sv197 sv198 sv199 sv200 sv201 sv202 sv203 sv204 sv205 sv206 sv207 sv208 sv209 sv210 sv211 sv212 sv213 sv214 sv215 sv216 sv217 sv218 sv219 sv220 sv221 sv222 sv223 sv224 sv225 sv226 sv227 sv228 sv229 sv230 sv231 sv232 sv233 sv234 sv235 sv236 sv237 sv238 sv239 sv240 sv241 sv242 sv243 : Value) (K1 K2 K4 : Act → World → Prop) (R : Ending → World → Prop)
    (hK : ∀ (u2 u18 u19 u20 u210 u211 u212 u213 u214 u215 u216 u217 u218 u219 u220 u221 u222 u223 u224 u225 u226 u227 u228 u229 u230 u231 u232 u233 u234 u235 u236 u237 u238 u239 u240 u241 u242 u243 : Value) (wc : World), Hid (KM w (k + 1) PS ks3 vs3 na ak3 av3 nc ck3 cv3 wc) → K1 ⟨#[sv0, sv1, u2, sv3, sv4, .slice na PS.length nc, .slice ak3 ks3.length ck3, .slice av3 vs3.length cv3, sv8, sv9, .slice na PS.length nc, sv11, sv12, sv13, sv14, sv15, sv16, sv17, u18, u19, u20, sv21, sv22, sv23, sv24, sv25, sv26, sv27, sv28, sv29, sv30, sv31, sv32, sv33, sv34, sv35, sv36, sv37, sv38, sv39, sv40, sv41, sv42, sv43, sv44, sv45, sv46, sv47, sv48, sv49, sv50, sv51, sv52, sv53, sv54, sv55, sv56, sv57, sv58, sv59, sv60, sv61, sv62, sv63, sv64, sv65, sv66, sv67, sv68, sv69, sv70, sv71, sv72, sv73, sv74, sv75, sv76, sv77, sv78, sv79, sv80, sv81, sv82, sv83, sv84, sv85, sv86, sv87, sv88, sv89, sv90, sv91, sv92, sv93, sv94, sv95, sv96, sv97, sv98, sv99, sv100, sv101, sv102, sv103, sv104, sv105, sv106, sv107, sv108, sv109, sv110, sv111, sv112, sv113, sv114, sv115, sv116, sv117, sv118, sv119, sv120, sv121, sv122, sv123, sv124, sv125, sv126, sv127, sv128, sv129, sv130, sv131, sv132, sv133, sv134, sv135, sv136, sv137, sv138, sv139, sv140, sv141, sv142, sv143, sv144, sv145, sv146, sv147, sv148, sv149, sv150, sv151, sv152, sv153, sv154, sv155, sv156, sv157, sv158, sv159, sv160, sv161, sv162, sv163, sv164, sv165, sv166, sv167, sv168, sv169, sv170, sv171, sv172, sv173, sv174, sv175, sv176, sv177, sv178, sv179, sv180, sv181, sv182, sv183, sv184, sv185, sv186, sv187, sv188, sv189, sv190, sv191, sv192, sv193, sv194, sv195, sv196, sv197, sv198, sv199, sv200, sv201, sv202, sv203, sv204, sv205, sv206, sv207, sv208, sv209, u210, u211, u212, u213, u214, u215, u216, u217, u218, u219, u220, u221, u222, u223, u224, u225, u226, u227, u228, u229, u230, u231, u232, u233, u234, u235, u236, u237, u238, u239, u240, u241, u242, u243], []⟩ wc)
    (HI3 : Hid (MI (k + 1) PS ks3 vs3)) (HS3 : Hid (KS w ks3 vs3 ak3 av3 ck3 cv3 wf)) (HO3 : Hid (OwnP W5.heap.size wf na nc PS)) :
    Code.wp Try.prog cEnd (Exit.inBlock 1 (Exit.then K1 (Exit.then K2 (Exit.inBlock 0 (Exit.then K4 (bodyPost Try.prog Try.f6 R)))))) ⟨#[sv0, sv1, sv2, sv3, sv4, sv5, .slice ak3 ks3.length ck3, .slice av3 vs3.length cv3, sv8, sv9, .slice na PS.length nc, sv11, sv12, sv13, sv14, sv15, sv16, sv17, sv18, sv19, sv20, sv21, sv22, sv23, sv24, sv25, sv26, sv27, sv28, sv29, sv30, sv31, sv32, sv33, sv34, sv35, sv36, sv37, sv38, sv39, sv40, sv41, sv42, sv43, sv44, sv45, sv46, sv47, sv48, sv49, sv50, sv51, sv52, sv53, sv54, sv55, sv56, sv57, sv58, sv59, sv60, sv61, sv62, sv63, sv64, sv65, sv66, sv67, sv68, sv69, sv70, sv71, sv72, sv73, sv74, sv75, sv76, sv77, sv78, sv79, sv80, sv81, sv82, sv83, sv84, sv85, sv86, sv87, sv88, sv89, sv90, sv91, sv92, sv93, sv94, sv95, sv96, sv97, sv98, sv99, sv100, sv101, sv102, sv103, sv104, sv105, sv106, sv107, sv108, sv109, sv110, sv111, sv112, sv113, sv114, sv115, sv116, sv117, sv118, sv119, sv120, sv121, sv122, sv123, sv124, sv125, sv126, sv127, sv128, sv129, sv130, sv131, sv132, sv133, sv134, sv135, sv136, sv137, sv138, sv139, sv140, sv141, sv142, sv143, sv144, sv145, sv146, sv147, sv148, sv149, sv150, sv151, sv152, sv153, sv154, sv155, sv156, sv157, sv158, sv159, sv160, sv161, sv162, sv163, sv164, sv165, sv166, sv167, sv168, sv169, sv170, sv171, sv172, sv173, sv174, sv175, sv176, sv177, sv178, sv179, sv180, sv181, sv182, sv183, sv184, sv185, sv186, sv187, sv188, sv189, sv190, sv191, sv192, sv193, sv194, sv195, sv196, sv197, sv198, sv199, sv200, sv201, sv202, sv203, sv204, sv205, sv206, sv207, sv208, sv209, sv210, sv211, sv212, sv213, sv214, sv215, sv216, sv217, sv218, sv219, sv220, sv221, sv222, sv223, sv224, sv225, sv226, sv227, sv228, sv229, sv230, sv231, sv232, sv233, sv234, sv235, sv236, sv237, sv238, sv239, sv240, sv241, sv242, sv243], []⟩ wf := by
  have HKK : Hid (∀ (u2 u18 u19 u20 u210 u211 u212 u213 u214 u215 u216 u217 u218 u219 u220 u221 u222 u223 u224 u225 u226 u227 u228 u229 u230 u231 u232 u233 u234 u235 u236 u237 u238 u239 u240 u241 u242 u243 : Value) (wc : World), Hid (KM w (k + 1) PS ks3 vs3 na ak3 av3 nc ck3 cv3 wc) → K1 ⟨#[sv0, sv1, u2, sv3, sv4, .slice na PS.length nc, .slice ak3 ks3.length ck3, .slice av3 vs3.length cv3, sv8, sv9, .slice na PS.length nc, sv11, sv12, sv13, sv14, sv15, sv16, sv17, u18, u19, u20, sv21, sv22, sv23, sv24, sv25, sv26, sv27, sv28, sv29, sv30, sv31, sv32, sv33, sv34, sv35, sv36, sv37, sv38, sv39, sv40, sv41, sv42, sv43, sv44, sv45, sv46, sv47, sv48, sv49, sv50, sv51, sv52, sv53, sv54, sv55, sv56, sv57, sv58, sv59, sv60, sv61, sv62, sv63, sv64, sv65, sv66, sv67, sv68, sv69, sv70, sv71, sv72, sv73, sv74, sv75, sv76, sv77, sv78, sv79, sv80, sv81, sv82, sv83, sv84, sv85, sv86, sv87, sv88, sv89, sv90, sv91, sv92, sv93, sv94, sv95, sv96, sv97, sv98, sv99, sv100, sv101, sv102, sv103, sv104, sv105, sv106, sv107, sv108, sv109, sv110, sv111, sv112, sv113, sv114, sv115, sv116, sv117, sv118, sv119, sv120, sv121, sv122, sv123, sv124, sv125, sv126, sv127, sv128, sv129, sv130, sv131, sv132, sv133, sv134, sv135, sv136, sv137, sv138, sv139, sv140, sv141, sv142, sv143, sv144, sv145, sv146, sv147, sv148, sv149, sv150, sv151, sv152, sv153, sv154, sv155, sv156, sv157, sv158, sv159, sv160, sv161, sv162, sv163, sv164, sv165, sv166, sv167, sv168, sv169, sv170, sv171, sv172, sv173, sv174, sv175, sv176, sv177, sv178, sv179, sv180, sv181, sv182, sv183, sv184, sv185, sv186, sv187, sv188, sv189, sv190, sv191, sv192, sv193, sv194, sv195, sv196, sv197, sv198, sv199, sv200, sv201, sv202, sv203, sv204, sv205, sv206, sv207, sv208, sv209, u210, u211, u212, u213, u214, u215, u216, u217, u218, u219, u220, u221, u222, u223, u224, u225, u226, u227, u228, u229, u230, u231, u232, u233, u234, u235, u236, u237, u238, u239, u240, u241, u242, u243], []⟩ wc) := hK
  clear hK
  have hds := bs_size
  have ht := bs_toList
  conv => arg 2; whnf
  dsimp only
  have hlk : ((PS.length : Int) != (ks3.length : Int)) = false := by rw [bne_eq_false_iff_eq, HI3.out.lk]
  have HSM3 : Hid (PS.length ≤ 32 ∧ ks3.length ≤ 32 ∧ vs3.length ≤ 32) := HI3.out.small
  have HFP : Hid (Fit PS) := fun p hp => by
    obtain ⟨_, g2, g3, _, _⟩ := prOk_iff ((pairs_ok HI3.out.ok).2.2 p hp)
    unfold maxLen
    exact ⟨by omega, by omega⟩
  have HKM : Hid (KM w (k + 1) PS ks3 vs3 na ak3 av3 nc ck3 cv3 wf) := ⟨HI3.out, HO3.out.row HFP.out, fun e => by have h := HO3.out; rw [e] at h; exact ownP_nil h, HS3.out.ok, HS3.out.ov, HS3.out.far, HS3.out.kept⟩
  have HSK : Hid (∀ x ∈ ks3, x.length ≤ maxLen) := fun x hx => by
    obtain ⟨q, hq, e⟩ := List.getElem_of_mem hx
    obtain ⟨p, hp, e1, _⟩ := HI3.out.has q hq (by rw [HI3.out.lv, ← HI3.out.lk]; exact hq)
    have := (prOk_iff ((pairs_ok HI3.out.ok).2.2 p hp)).2.1
    rw [e1, e] at this
    unfold maxLen
    omega
  have HSV3 : Hid (∀ x ∈ vs3, x.length ≤ maxLen) := fun x hx => by
    obtain ⟨q, hq, e⟩ := List.getElem_of_mem hx
    obtain ⟨p, hp, _, e1⟩ := HI3.out.has q (by rw [HI3.out.lk, ← HI3.out.lv]; exact hq) hq
    have := (prOk_iff ((pairs_ok HI3.out.ok).2.2 p hp)).2.2.1
    rw [e1, e] at this
    unfold maxLen
    omega
  go_upto_if 215 with fail
  try rw [hlk]
  go_wp2_with fail
  go_loopg [18] ks3.length (fun g s18 wz => ∃ j : Nat, j ≤ ks3.length ∧ g = ks3.length - j ∧ s18 = .int .i64 j ∧ Hid (Kept Nil wf wz))
  case atStart => exact ⟨0, Nat.zero_le _, rfl, rfl, Kept.refl _ _⟩
  case round =>
    obtain ⟨j3, hj3, rfl, rfl, HKz⟩ := hrel
    rename World => wz
    have h32 : ks3.length ≤ 32 := HSM3.out.2.1
    have HKz2 : Hid (KM w (k + 1) PS ks3 vs3 na ak3 av3 nc ck3 cv3 wz) := HKM.out.next HKz.out
    by_cases hlt3 : j3 < ks3.length
    · skip
      have hj3i : (j3 : Int) < ks3.length := by omega
      have hv3 : j3 < vs3.length := by rw [HI3.out.lv, ← HI3.out.lk]; exact hlt3
      have hv3i : (j3 : Int) < vs3.length := by omega
      have GO := get_ok HI3.out hlt3 hv3
      have GA := apply_any wz.heap.size nc na PS ks3[j3] [] 2 0 wz HKz2.out.row HKz2.out.nil (by have := HSM3.out.1; omega) (HSK.out _ (List.getElem_mem hlt3)) (by simp)
      obtain ⟨a8, ha8, _, hc8, _⟩ := HKz2.out.ok.row HSK.out j3 hlt3
      obtain ⟨a9, ha9, _, hc9, _⟩ := HKz2.out.ov.row HSV3.out j3 hv3
      subst ha8 ha9
      generalize apR 2 ks3[j3] [] 0 PS = GR at *
      generalize apP 2 ks3[j3] [] 0 PS = GP at *
      generalize ks3[j3] = yk at *
      generalize vs3[j3] = yv at *
      obtain ⟨gk, gv, gn, gks⟩ := GR
      dsimp only at GO
      obtain ⟨eg, ev⟩ := GO
      subst eg
      rw [← ev] at hc9
      clear ev
      go_upto_region 54 with fail
      go_wp2_with fail
      go_fit GA
      rintro _ wy ⟨_, _, ko9, kc9, rfl, _, _, ky⟩
      have KY : Hid (Kept Nil wz wy) := ky
      have hc9y := cell_kept ky (fun _ x => x) hc9
      clear ky GA hc8 hc9
      unfold rrV
      dsimp only
      obtain ⟨WY, hWY⟩ : ∃ WY, WY = wy.alloc (.cells #[.int .i64 1, .string (bs gv), .int .i64 gn, .slice ko9 gks.length kc9] 55) := ⟨_, rfl⟩
      obtain ⟨yb, HYB⟩ : ∃ yb, Hid (yb = wy.heap.size) := ⟨_, rfl⟩
      have HY : Hid (WY.heap[yb]? = some (.cells #[.int .i64 1, .string (bs gv), .int .i64 gn, .slice ko9 gks.length kc9] 55 (0, 0))) := by rw [hWY, HYB.out]; exact blk_new _ _
      have KWY : Hid (Kept Nil wz WY) := by rw [hWY]; exact KY.out.alloc _
      have hc9z : WY.cell? (a9.add j3) = some (.string (bs gv)) := by rw [hWY]; exact cell_kept (X := Nil) ((Kept.refl _ _).alloc _) (fun _ x => x) hc9y
      clear hc9y
      go_upto_region 55 with fail
      rw [← hWY, ← HYB.out]
      clear hWY
      have r0 : WY.cell? ⟨yb, 0, none⟩ = some (.int .i64 1) := blk_at HY.out 0 rfl
      have r1 : WY.cell? ⟨yb, 1, none⟩ = some (.string (bs gv)) := blk_at HY.out 1 rfl
      go_quiet (fail)
      go_wp2
      go_roundg (ks3.length - (j3 + 1))
      case measure => omega
      case rel => exact ⟨j3 + 1, by omega, rfl, by go_num, (HKz.out.trans KWY.out).drewN _⟩
    · obtain rfl : j3 = ks3.length := by omega
      go_wp2
      (try show K1 _ _)
      exact HKK.out _ _ _ _ _ _ _ _ _ _ _ _ _ _ _ _ _ _ _ _ _ _ _ _ _ _ _ _ _ _ _ _ _ _ _ _ _ _ _ HKz2.out

end Go.Proofs.Ytblmmbghnkplkaa
