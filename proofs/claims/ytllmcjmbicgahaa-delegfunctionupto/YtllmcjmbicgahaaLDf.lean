/-
  DelegFunction holds for all ranges that are given one behind the other, and all keys, whose values together number at most 1,048,576: each key has the host to which a range with it was given last, the bounds may be, each host has all keys of its own bounds, and to give them to it anew changes nothing.
  Conditions: the arguments are together of bulk at most 1,048,576 (the given 'Upto' form).
-/
import Derived.Test.YtllmcjmbicgahaaRows
import Derived.Test.YtllmcjmbicgahaaWDIn
import Derived.Test.YtllmcjmbicgahaaWDfB
namespace Go.Proofs.Ytllmcjmbicgahaa
open Go.ChangeShapes Go.WideShapes Go.ChangeAt Go.RowKit

set_option maxRecDepth 100000 in
theorem delegFunction_lifted (os : Os) (started : os.Started) (H : Type) (enc : TypeId × Value → H) (F : Stop.Interp) :
    ReturnsInHanded {} Try.checked os 4 .any ((Rows.OpenSpec.upto Rows.delegFunctionSpec).pre6 enc Try.prog Try.f4 Rows.delegFunctionUptoRow.domain false) (((Rows.OpenSpec.upto Rows.delegFunctionSpec).at F).post enc Try.prog Try.f4 false true false false) := by
  refine returnsInHanded_of_cond (C := Try.checked) (s := Rows.OpenSpec.upto Rows.delegFunctionSpec) (k := Rows.uptoSmall) rfl Try.ownE started (by kernel_rfl) Try.func4
    (OpenSpec.witness (enc := enc) (C := Try.checked) (s := Rows.OpenSpec.upto Rows.delegFunctionSpec) (k := Rows.uptoSmall) rfl false ⟨#[], #[.slice none 0 0, .slice none 0 0], []⟩ 8 (by kernel_rfl) (by kernel_rfl) (by kernel_rfl)
      (x := ([.nil, .nil], [], [])) (by kernel_rfl) rfl (by kernel_rfl)) ?_
  intro W base args ds gs before hval0 hW _ hk0 _
  have hk : Rows.uptoBulkAll (ds ++ gs) ≤ 1048576 := of_decide_eq_true hk0
  clear hk0
  have hval : ∀ (j : Nat) t v, Try.f4.params[j]? = some t → args[j]? = some v → Value.okWide Try.prog W .any base t v := hval0
  have hW' := hW
  obtain ⟨p, q, hA0, hV, rfl, _, _⟩ := hW
  have hA : DataW.TrodAll enc Try.prog W 0 (fun _ => true) true Try.f4.params.toList args.toList ds p := hA0
  rw [Try.params4] at hA hval
  obtain ⟨v0, vs0, d0, ds0, p0, q0, hargs, rfl, rfl, h0, hr0⟩ := trodAll_cons hA
  obtain ⟨v1, vs1, d1, ds1, p1, q1, rfl, rfl, rfl, h1, hr1⟩ := trodAll_cons hr0
  obtain ⟨rfl, rfl, rfl⟩ := trodAll_nil hr1
  obtain rfl : args = #[v0, v1] := by cases args; simp_all
  obtain ⟨rfl, rfl⟩ := trodVars_none hV
  have k0 := h0
  have k1 := h1
  have lt0 : ∀ x ∈ p0, x.block < W.heap.size := by obtain ⟨m, hm⟩ := k0; exact DataW.trod_lt m _ _ _ hm
  have lt1 : ∀ x ∈ p1, x.block < W.heap.size := by obtain ⟨m, hm⟩ := k1; exact DataW.trod_lt m _ _ _ hm
  simp only [List.cons_append, List.nil_append, Rows.uptoBulkAll] at hk
  obtain ⟨ro, raw, ck, hv0, hr0', hl0⟩ : ∃ (ro : Option Addr) (raw : List Pr) (c : Nat), v0 = .slice ro raw.length c ∧ PairRow W.heap.size W ro raw ∧ raw.length ≤ Rows.uptoBulk d0 := by
    obtain ⟨b2, len2, cap2, rfl⟩ := okWide_slice Try.underlying32 (hval 0 32 v0 rfl rfl)
    obtain ⟨fuel, hf⟩ := h0
    simp only [Value.cells] at hf
    obtain ⟨ro, raw, c, e1, e2, _, e3⟩ := givensIn hf
    exact ⟨ro, raw, c, e1, e2, bulk_slice e3 (Nat.le_refl _)⟩
  subst hv0
  obtain ⟨mo, hs, cm, hv1, hr1', hl1⟩ : ∃ (mo : Option Addr) (hs : List (List UInt8)) (c : Nat), v1 = .slice mo hs.length c ∧ StrRow W.heap.size W mo hs ∧ hs.length ≤ Rows.uptoBulk d1 := by
    obtain ⟨b2, len2, cap2, rfl⟩ := okWide_slice Try.underlying33 (hval 1 33 v1 rfl rfl)
    obtain ⟨fuel, hf⟩ := h1
    simp only [Value.cells] at hf
    obtain ⟨mo, hs, c, e1, e2, e3⟩ := keysIn hf
    exact ⟨mo, hs, c, e1, e2, bulk_slice e3 (Nat.le_refl _)⟩
  subst hv1
  have hw := delegFunction_any W W.heap.size ck cm ro mo raw hs hr0' hr1' (by omega) (by omega)
  clear hA0 hval0
  refine hw.mono fun e W' ⟨he, hkk⟩ => ?_
  subst he
  have bel := hkk.below (B := W.heap.size) (fun _ _ x => x.elim) (Nat.le_refl _)
  exact ⟨_, rfl, _, _, _, [], p0 ++ (p1 ++ []), [], hW', trodAll_mk1 (shut_bool Try.underlying4 _), trodAll_cons_mk (Below.trod Try.laidOutE (by kernel_rfl) (of_decide_eq_true (by kernel_rfl)) k0 bel lt0) (trodAll_cons_mk (Below.trod Try.laidOutE (by kernel_rfl) (of_decide_eq_true (by kernel_rfl)) k1 bel lt1) trodAll_mk0), rfl, bel.frame _, fun h => by cases h⟩

theorem delegFunction_holds : Rows.DelegFunctionUptoSaid :=
  OpenClaim.holds_of_cond 4 Try.f4 rfl rfl rfl rfl rfl rfl rfl ⟨rfl, rfl, rfl, rfl, rfl⟩ rfl rfl rfl rfl rfl (by kernel_rfl) Try.func4 (by kernel_rfl)
    (of_decide_eq_true (by kernel_rfl)) (by unfold Func.isWrapper; first | (rw [if_pos (by decide +kernel)]; kernel_rfl) | (rw [if_neg (by decide +kernel)]; exact ⟨rfl, rfl⟩))
    (fun os started H enc _ F => delegFunction_lifted os started H enc F)
#print axioms delegFunction_holds

end Go.Proofs.Ytllmcjmbicgahaa
