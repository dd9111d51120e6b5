/-
  WireFrames holds for every body and every text: Frame and Unframe answer what the document's answer does, of the body, of the text, and of the body's frame with the text behind it; Sum is the document's sum; and the frame of 123456789 is as the document writes it.
  Conditions: none (each string takes at most 2^47 - 4096 bytes, as the form itself says).
-/
import Derived.Test.YtihgefdpnokoeaaRows
import Derived.Test.YtihgefdpnokoeaaWFrame3
import Derived.ProofKit
import Derived.OpenShut
import Derived.ShutString
import Derived.ChangeOld
import Derived.SizedLaws
namespace Go.Proofs.Ytihgefdpnokoeaa
open Go.ChangeShapes Go.WideShapes Go.ChangeAt Go.RowKit
open Go.ChangeMaps (open_string shut_string)

theorem hidTrans {X : Nat → Obj → Prop} {a b c : World} (h : Hid (Kept X a b)) (k : Kept X b c) : Hid (Kept X a c) := h.out.trans k

def nine : List UInt8 := [49, 50, 51, 52, 53, 54, 55, 56, 57]
theorem nine_crc : crc nine = 3808858755 := by decide +kernel
theorem nine_frame : putFrame nine = ([9, 49, 50, 51, 52, 53, 54, 55, 56, 57, 131, 146, 6, 227], 0) := by
  unfold putFrame encFrame encText
  rw [nine_crc, if_pos (by decide), enc_small (by decide)]
  rfl

theorem putFrame_len (s : List UInt8) : (putFrame s).1.length ≤ 65550 := by
  unfold putFrame
  split
  · rename_i h
    have := enc_len6 (n := s.length) (by omega)
    simp only [encFrame, encText, le4, List.length_append, List.length_cons, List.length_nil]
    omega
  · simp

set_option maxRecDepth 100000 in
set_option maxHeartbeats 1000000 in
theorem wireFrames_walk (body s : List UInt8) (w : World) (hb : body.length ≤ 140737488351232) (hs : s.length ≤ 140737488351232) :
    Calls Try.prog 3 #[.string (bs body), .string (bs s)] w fun e w' => e = .returned (.bool true) ∧ Kept Nil w w' := by
  have hpl := putFrame_len body
  have L1 : Hid (body.length ≤ maxLen) := by show body.length ≤ maxLen; unfold maxLen; omega
  have L2 : Hid (s.length ≤ maxLen) := by show s.length ≤ maxLen; unfold maxLen; omega
  have L3 : Hid (((putFrame body).1 ++ s).length ≤ maxLen) := by show ((putFrame body).1 ++ s).length ≤ maxLen; rw [List.length_append]; unfold maxLen; omega
  have L4 : Hid (nine.length ≤ maxLen) := by show nine.length ≤ maxLen; decide
  have hap := bs_append
  have hz1 : (bs (putFrame body).1).size ≤ 65550 := by rw [bs_size]; exact hpl
  have hz2 : (bs s).size ≤ 140737488351232 := by rw [bs_size]; exact hs
  have hcl := crc_lt s
  have hn1 : (putFrame nine).1 = [9, 49, 50, 51, 52, 53, 54, 55, 56, 57, 131, 146, 6, 227] := by rw [nine_frame]
  have hn2 : (putFrame nine).2 = 0 := by rw [nine_frame]
  have HK : Hid (Kept Nil w w) := Kept.refl _ _
  have F1 := fun w => frame_any body w L1.out
  have F2 := fun w => frame_any nine w L4.out
  rw [hn1, hn2, show bs nine = ⟨#[49, 50, 51, 52, 53, 54, 55, 56, 57]⟩ from rfl] at F2
  have G1 := fun w => refFrame_any body w L1.out
  have U1 := fun w => unframe_any s w L2.out
  have U2 := fun w => unframe_any ((putFrame body).1 ++ s) w L3.out
  have V1 := fun w => refUnframe_any s w L2.out
  have V2 := fun w => refUnframe_any ((putFrame body).1 ++ s) w L3.out
  have S1 := fun w => sum_any s w L2.out
  have S2 := fun w => refSum_any s w L2.out
  have ht := bs_toList
  generalize unF ((putFrame body).1 ++ s) = u2 at U2 V2
  obtain ⟨x1, x2, x3⟩ := u2
  generalize unF s = u1 at U1 V1
  obtain ⟨y1, y2, y3⟩ := u1
  generalize putFrame body = pf at *
  obtain ⟨pf1, pf2⟩ := pf
  generalize crc s = cs at *
  simp only at *
  clear hb hs hpl hn1 hn2
  go_enter Try.func3, Try.ntmps3
  have tF : True := trivial
  have tU : True := trivial
  have tV : True := trivial
  go_wp2_with (first | (go_at_call 10; have _t := tF; clear _t tF; go_must (refine (F1 _).mono ?_); rintro e w' ⟨rfl, hk⟩; replace HK := hidTrans HK hk; clear hk) | (go_at_call 10; go_must (refine (F2 _).mono ?_); rintro e w' ⟨rfl, hk⟩; replace HK := hidTrans HK hk; clear hk) | (go_at_call 11; go_must (refine (G1 _).mono ?_); rintro e w' ⟨rfl, hk⟩; replace HK := hidTrans HK hk; clear hk) | (go_at_call 12; have _t := tU; clear _t tU; go_must (refine (U1 _).mono ?_); rintro e w' ⟨rfl, hk⟩; replace HK := hidTrans HK hk; clear hk) | (go_at_call 12; go_must (refine (U2 _).mono ?_); rintro e w' ⟨rfl, hk⟩; replace HK := hidTrans HK hk; clear hk) | (go_at_call 13; have _t := tV; clear _t tV; go_must (refine (V1 _).mono ?_); rintro e w' ⟨rfl, hk⟩; replace HK := hidTrans HK hk; clear hk) | (go_at_call 13; go_must (refine (V2 _).mono ?_); rintro e w' ⟨rfl, hk⟩; replace HK := hidTrans HK hk; clear hk) | (go_at_call 14; go_must (refine (S1 _).mono ?_); rintro e w' ⟨rfl, rfl⟩) | (go_at_call 15; go_must (refine (S2 _).mono ?_); rintro e w' ⟨rfl, rfl⟩))
  go_ret
  exact ⟨rfl, HK.out⟩

theorem Try.own : ownKnob Try.prog.godebug = none := by kernel_rfl

set_option maxRecDepth 100000 in
theorem wireFrames_lifted (os : Os) (started : os.Started) (H : Type) (enc : TypeId × Value → H) :
    ReturnsInHanded {} Try.checked os 3 .any (Rows.wireFramesSpec.pre6 enc Try.prog Try.f3 Rows.wireFramesRow.domain false) (Rows.wireFramesSpec.post enc Try.prog Try.f3 false true false false) := by
  refine returnsInHanded_of_change_sized (C := Try.checked) Try.own started (by kernel_rfl) Try.func3
    (ChangeSpec.witness6 (enc := enc) (C := Try.checked) false ⟨#[], #[.string ByteArray.empty, .string ByteArray.empty], []⟩ 8 (by kernel_rfl) (by kernel_rfl) (by kernel_rfl) (by kernel_rfl)) ?_
  intro W base args ds gs before hval0 hW _ hsz0 _
  have hsz : (DataW.weightsEach Try.prog (Try.f3.params.toList ++ Rows.wireFramesSpec.plain.varTypes Try.prog) (ds ++ gs)).all (· ≤ reachBytes) = true := hsz0
  clear hsz0
  have hval : ∀ (j : Nat) t v, Try.f3.params[j]? = some t → args[j]? = some v → Value.okWide Try.prog W .any base t v := hval0
  have hW' := hW
  obtain ⟨p, q, hA0, hV, rfl, _, _⟩ := hW
  have hA : DataW.TrodAll enc Try.prog W 0 (fun _ => true) true Try.f3.params.toList args.toList ds p := hA0
  rw [Try.params3] at hA hval hsz
  obtain ⟨v0, v1, d0, d1, p0, p1, hargs, rfl, rfl, h0, h1⟩ := trodAll_two hA
  obtain rfl : args = #[v0, v1] := by cases args; simp_all
  obtain ⟨rfl, rfl⟩ := trodVars_none hV
  obtain ⟨a0, rfl, rfl, rfl, w0⟩ := open_string Try.underlying9 (hval 0 9 v0 rfl rfl) h0
  obtain ⟨a1, rfl, rfl, rfl, w1⟩ := open_string Try.underlying9 (hval 1 9 v1 rfl rfl) h1
  have z0 : a0.data.toList.length ≤ 140737488351232 := by
    have := sized_string hsz (j := 0) (t := 9) rfl rfl
    simpa only [reachBytes] using this
  have z1 : a1.data.toList.length ≤ 140737488351232 := by
    have := sized_string hsz (j := 1) (t := 9) rfl rfl
    simpa only [reachBytes] using this
  have hw := wireFrames_walk a0.data.toList a1.data.toList W z0 z1
  rw [bs_self, bs_self] at hw
  clear hA0 hval0
  refine hw.mono fun e W' ⟨he, hk⟩ => ?_
  subst he
  have bel := hk.below (B := W.heap.size) (fun _ _ x => x.elim) (Nat.le_refl _)
  exact ⟨_, rfl, _, _, _, [], [], [], hW', trodAll_mk1 (shut_bool Try.underlying4 _), trodAll_mk2 (shut_string Try.underlying9 w0) (shut_string Try.underlying9 w1), rfl, bel.frame _, fun h => by cases h⟩

theorem wireFrames_holds : Rows.WireFramesSaid :=
  OpenClaim.holds_of_wide 3 Try.f3 rfl rfl rfl rfl rfl rfl rfl ⟨rfl, rfl, rfl, rfl, rfl⟩ rfl rfl rfl rfl rfl (by kernel_rfl) Try.func3 (by kernel_rfl)
    (of_decide_eq_true (by kernel_rfl)) (by unfold Func.isWrapper; first | (rw [if_pos (by decide +kernel)]; kernel_rfl) | (rw [if_neg (by decide +kernel)]; exact ⟨rfl, rfl⟩))
    (fun os started H enc _ => wireFrames_lifted os started H enc)
#print axioms wireFrames_holds

end Go.Proofs.Ytihgefdpnokoeaa
