/-
  RlogMatch holds for all steps, all own steps and all numbers: a part of a leader's log that fits is taken over, what is its own behind it goes away where it differs; one that does not fit is refused with a hint that leads back to where both logs are the same.
  Conditions: none (each slice takes at most 2^47 - 4096 bytes, as the form itself says).
-/
import Derived.Test.YtopdgkebbdheiaaRows
import Derived.Test.YtopdgkebbdheiaaWMatch9
import Derived.ProofKit
import Derived.OpenShut
import Derived.ShutString
import Derived.ChangeOld
import Derived.SizedLaws
import Derived.ChangeSlices
import Derived.Lib.SmallJoins
import Derived.Carry
namespace Go.Proofs.Ytopdgkebbdheiaa
open Go.ChangeShapes Go.WideShapes Go.ChangeAt Go.RowKit

theorem Try.ownE : ownKnob Try.prog.godebug = none := by kernel_rfl
theorem Try.laidOutE : laidOutB Try.prog = true := by kernel_rfl
theorem Try.cellsIntE : Try.prog.cellsOf 3 = 1 := by kernel_rfl

set_option maxRecDepth 100000 in
theorem intsIn {H : Type} {enc : TypeId × Value → H} {W : World} {fuel : Nat} {v : Value} {y : DataW H × List MemPlace} (hf : DataW.trod enc Try.prog W 0 (fun _ => true) true fuel 22 [v] = some y) :
    ∃ (ao : Option Addr) (zs : List Int) (cap : Nat), v = .slice ao zs.length cap ∧ IntRow W.heap.size W ao zs ∧ zs.length ≤ maxLen := by
  rcases open_ints Try.underlying22 Try.underlying3 Try.cellsIntE hf with ⟨h1, _⟩ | ⟨a', len, cap, zs, h1, _, hl, hm, hz, hy, hc, _⟩
  · simp at h1
    subst h1
    exact ⟨none, [], 0, rfl, intRow_nil _ _ _, by simp⟩
  · simp at h1
    subst h1
    simp only [if_true] at hz
    have hlen : (zs.take len).length = len := by rw [List.length_take]; omega
    refine ⟨some a', zs.take len, cap, by rw [hlen], ?_, by rw [hlen]; omega⟩
    intro j hj
    rw [hlen] at hj
    have hcj := hc j (by omega)
    have e : (a'.add j).block = a'.block := by unfold Addr.add; split <;> rfl
    have hb := World.block_lt_of_cell? W _ hcj
    refine ⟨a', rfl, by omega, ?_⟩
    rw [hcj]
    simp [List.getD_eq_getElem?_getD, show j < zs.length by omega]

set_option maxRecDepth 100000 in
set_option maxHeartbeats 2000000 in
theorem rlogMatch_long (c1 c2 : Nat) (so oo : Option Addr) (a b : Nat) (share from' many : Int) (w : World) (h : ¬ ((a : Int) ≤ 16384 ∧ (b : Int) ≤ 16384)) :
    Calls Try.prog 5 #[.slice so a c1, .slice oo b c2, .int .i64 share, .int .i64 from', .int .i64 many] w fun e w' => e = .returned (.bool true) ∧ Kept Nil w w' := by
  by_cases h1 : (a : Int) ≤ 16384
  · have hd1 : decide ((16384 : Int) < a) = false := by simp; omega
    have hd2 : decide ((16384 : Int) < b) = true := by simp; omega
    go_enter Try.func5, Try.ntmps5
    go_wp2
    go_ret
    exact ⟨rfl, Kept.refl _ _⟩
  · have hd1 : decide ((16384 : Int) < a) = true := by simp; omega
    go_enter Try.func5, Try.ntmps5
    go_wp2
    go_ret
    exact ⟨rfl, Kept.refl _ _⟩

set_option maxRecDepth 100000 in
theorem rlogMatch_lifted (os : Os) (started : os.Started) (H : Type) (enc : TypeId × Value → H) :
    ReturnsInHanded {} Try.checked os 5 .any (Rows.rlogMatchSpec.pre6 enc Try.prog Try.f5 Rows.rlogMatchRow.domain false) (Rows.rlogMatchSpec.post enc Try.prog Try.f5 false true false false) := by
  refine returnsInHanded_of_change_sized (C := Try.checked) Try.ownE started (by kernel_rfl) Try.func5
    (ChangeSpec.witness6 (enc := enc) (C := Try.checked) false ⟨#[], #[.slice none 0 0, .slice none 0 0, .int .i64 0, .int .i64 0, .int .i64 0], []⟩ 8 (by kernel_rfl) (by kernel_rfl) (by kernel_rfl) (by kernel_rfl)) ?_
  intro W base args ds gs before hval0 hW _ hsz0 _
  have hval : ∀ (j : Nat) t v, Try.f5.params[j]? = some t → args[j]? = some v → Value.okWide Try.prog W .any base t v := hval0
  have hW' := hW
  obtain ⟨p, q, hA0, hV, rfl, _, _⟩ := hW
  have hA : DataW.TrodAll enc Try.prog W 0 (fun _ => true) true Try.f5.params.toList args.toList ds p := hA0
  rw [Try.params5] at hA hval
  obtain ⟨v0, vs0, d0, ds0, p0, q0, hargs, rfl, rfl, h0, hr0⟩ := trodAll_cons hA
  obtain ⟨v1, vs1, d1, ds1, p1, q1, rfl, rfl, rfl, h1, hr1⟩ := trodAll_cons hr0
  obtain ⟨v2, vs2, d2, ds2, p2, q2, rfl, rfl, rfl, h2, hr2⟩ := trodAll_cons hr1
  obtain ⟨v3, vs3, d3, ds3, p3, q3, rfl, rfl, rfl, h3, hr3⟩ := trodAll_cons hr2
  obtain ⟨v4, vs4, d4, ds4, p4, q4, rfl, rfl, rfl, h4, hr4⟩ := trodAll_cons hr3
  obtain ⟨rfl, rfl, rfl⟩ := trodAll_nil hr4
  obtain rfl : args = #[v0, v1, v2, v3, v4] := by cases args; simp_all
  obtain ⟨rfl, rfl⟩ := trodVars_none hV
  have k0 := h0
  have lt0 : ∀ x ∈ p0, x.block < W.heap.size := by obtain ⟨m, hm⟩ := k0; exact DataW.trod_lt m _ _ _ hm
  have k1 := h1
  have lt1 : ∀ x ∈ p1, x.block < W.heap.size := by obtain ⟨m, hm⟩ := k1; exact DataW.trod_lt m _ _ _ hm
  obtain ⟨n2, rfl, rfl, rfl, w2⟩ := open_int Try.underlying3 (hval 2 3 v2 rfl rfl) h2
  obtain ⟨n3, rfl, rfl, rfl, w3⟩ := open_int Try.underlying3 (hval 3 3 v3 rfl rfl) h3
  obtain ⟨n4, rfl, rfl, rfl, w4⟩ := open_int Try.underlying3 (hval 4 3 v4 rfl rfl) h4
  obtain ⟨so, zs, c1, hv0, r0⟩ : ∃ (so : Option Addr) (zs : List Int) (c : Nat), v0 = .slice so zs.length c ∧ IntRow W.heap.size W so zs := by
    obtain ⟨a, len, cap, rfl⟩ := okWide_slice Try.underlying22 (hval 0 22 v0 rfl rfl)
    obtain ⟨fuel, hf⟩ := h0
    simp only [Value.cells] at hf
    obtain ⟨so, zs, c, e1, e2, _⟩ := intsIn hf
    exact ⟨so, zs, c, e1, e2⟩
  obtain ⟨oo, ys, c2, hv1, r1⟩ : ∃ (so : Option Addr) (zs : List Int) (c : Nat), v1 = .slice so zs.length c ∧ IntRow W.heap.size W so zs := by
    obtain ⟨a, len, cap, rfl⟩ := okWide_slice Try.underlying22 (hval 1 22 v1 rfl rfl)
    obtain ⟨fuel, hf⟩ := h1
    simp only [Value.cells] at hf
    obtain ⟨so, zs, c, e1, e2, _⟩ := intsIn hf
    exact ⟨so, zs, c, e1, e2⟩
  subst hv0 hv1
  have hw : Calls Try.prog 5 #[.slice so zs.length c1, .slice oo ys.length c2, .int .i64 n2, .int .i64 n3, .int .i64 n4] W fun e w' => e = .returned (.bool true) ∧ Kept Nil W w' := by
    by_cases hs : (zs.length : Int) ≤ 16384 ∧ (ys.length : Int) ≤ 16384
    · exact rlogMatch_walk _ c1 c2 so oo zs ys n2 n3 n4 W r0 r1 hs.1 hs.2
    · exact rlogMatch_long c1 c2 so oo _ _ n2 n3 n4 W hs
  clear hA0 hval0 hsz0
  refine hw.mono fun e W' ⟨he, hkk⟩ => ?_
  subst he
  have bel := hkk.below (B := W.heap.size) (fun _ _ x => x.elim) (Nat.le_refl _)
  exact ⟨_, rfl, _, _, _, [], p0 ++ (p1 ++ ([] ++ ([] ++ ([] ++ [])))), [], hW', trodAll_mk1 (shut_bool Try.underlying4 _), trodAll_cons_mk (Below.trod Try.laidOutE (by kernel_rfl) (of_decide_eq_true (by kernel_rfl)) k0 bel lt0) (trodAll_cons_mk (Below.trod Try.laidOutE (by kernel_rfl) (of_decide_eq_true (by kernel_rfl)) k1 bel lt1) (trodAll_mk3 (shut_int Try.underlying3 w2) (shut_int Try.underlying3 w3) (shut_int Try.underlying3 w4))), rfl, bel.frame _, fun h => by cases h⟩

theorem rlogMatch_holds : Rows.RlogMatchSaid :=
  OpenClaim.holds_of_wide 5 Try.f5 rfl rfl rfl rfl rfl rfl rfl ⟨rfl, rfl, rfl, rfl, rfl⟩ rfl rfl rfl rfl rfl (by kernel_rfl) Try.func5 (by kernel_rfl)
    (of_decide_eq_true (by kernel_rfl)) (by unfold Func.isWrapper; first | (rw [if_pos (by decide +kernel)]; kernel_rfl) | (rw [if_neg (by decide +kernel)]; exact ⟨rfl, rfl⟩))
    (fun os started H enc _ => rlogMatch_lifted os started H enc)
#print axioms rlogMatch_holds

end Go.Proofs.Ytopdgkebbdheiaa
