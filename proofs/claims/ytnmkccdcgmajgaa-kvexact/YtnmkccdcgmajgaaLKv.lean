/-
  KvExact holds for all pairs and all commands, one behind the other: Apply answers what the document's answer does, what is handed in stays as it is, also when what came out is overwritten, and the first command on no pairs is done.
  Conditions: none (each string and slice takes at most 2^47 - 4096 bytes, as the form itself says).
-/
import Derived.Test.YtnmkccdcgmajgaaRows
import Derived.Test.YtnmkccdcgmajgaaWKvIn
import Derived.Test.YtnmkccdcgmajgaaWKv23
namespace Go.Proofs.Ytnmkccdcgmajgaa
open Go.ChangeShapes Go.WideShapes Go.ChangeAt Go.RowKit

set_option maxRecDepth 100000 in
theorem kvExact_lifted (os : Os) (started : os.Started) (H : Type) (enc : TypeId × Value → H) :
    ReturnsInHanded {} Try.checked os 5 .any (Rows.kvExactSpec.pre6 enc Try.prog Try.f5 Rows.kvExactRow.domain false) (Rows.kvExactSpec.post enc Try.prog Try.f5 false true false false) := by
  refine returnsInHanded_of_change_sized (C := Try.checked) Try.ownE started (by kernel_rfl) Try.func5
    (ChangeSpec.witness6 (enc := enc) (C := Try.checked) false ⟨#[], #[.slice none 0 0, .slice none 0 0], []⟩ 8 (by kernel_rfl) (by kernel_rfl) (by kernel_rfl) (by kernel_rfl)) ?_
  intro W base args ds gs before hval0 hW _ hsz0 _
  have hsz : (DataW.weightsEach Try.prog (Try.f5.params.toList ++ Rows.kvExactSpec.plain.varTypes Try.prog) (ds ++ gs)).all (· ≤ reachBytes) = true := hsz0
  clear hsz0
  have hval : ∀ (j : Nat) t v, Try.f5.params[j]? = some t → args[j]? = some v → Value.okWide Try.prog W .any base t v := hval0
  have hW' := hW
  obtain ⟨p, q, hA0, hV, rfl, _, _⟩ := hW
  have hA : DataW.TrodAll enc Try.prog W 0 (fun _ => true) true Try.f5.params.toList args.toList ds p := hA0
  rw [Try.params5] at hA hval hsz
  obtain ⟨v0, vs0, d0, ds0, p0, q0, hargs, rfl, rfl, h0, hr0⟩ := trodAll_cons hA
  obtain ⟨v1, vs1, d1, ds1, p1, q1, rfl, rfl, rfl, h1, hr1⟩ := trodAll_cons hr0
  obtain ⟨rfl, rfl, rfl⟩ := trodAll_nil hr1
  obtain rfl : args = #[v0, v1] := by cases args; simp_all
  obtain ⟨rfl, rfl⟩ := trodVars_none hV
  have k0 := h0
  have k1 := h1
  have lt0 : ∀ x ∈ p0, x.block < W.heap.size := by obtain ⟨m, hm⟩ := k0; exact DataW.trod_lt m _ _ _ hm
  have lt1 : ∀ x ∈ p1, x.block < W.heap.size := by obtain ⟨m, hm⟩ := k1; exact DataW.trod_lt m _ _ _ hm
  have hs0 : ∀ x ∈ d0.weights Try.prog 51, x ≤ 140737488351232 := fun x hx => by
    have := List.all_eq_true.1 hsz x (DataW.weights_mem_each (j := 0) (t := 51) rfl rfl x hx)
    simp only [reachBytes] at this
    exact of_decide_eq_true this
  obtain ⟨ao, ps, c, hv0, hr, hn, hl⟩ : ∃ (ao : Option Addr) (ps : List Pr) (c : Nat), v0 = .slice ao ps.length c ∧ PairRow W.heap.size W ao ps ∧ (ao = none → ps = [] ∧ c = 0) ∧ ps.length ≤ 3518437208780 := by
    obtain ⟨b2, len2, cap2, rfl⟩ := okWide_slice Try.underlying51 (hval 0 51 v0 rfl rfl)
    obtain ⟨fuel, hf⟩ := h0
    simp only [Value.cells] at hf
    obtain ⟨ao, ps, c, e1, e2, e3, e4⟩ := pairsIn hf
    exact ⟨ao, ps, c, e1, e2, e3, pairsSize e4 hs0⟩
  subst hv0
  obtain ⟨co, cs, cc, hv1, hc, hcl⟩ : ∃ (co : Option Addr) (cs : List Cm) (c : Nat), v1 = .slice co cs.length c ∧ CmRow W.heap.size W co cs ∧ cs.length ≤ 9000000000000000000 := by
    obtain ⟨b2, len2, cap2, rfl⟩ := okWide_slice Try.underlying52 (hval 1 52 v1 rfl rfl)
    have hs1 : ∀ x ∈ d1.weights Try.prog 52, x ≤ 140737488351232 := fun x hx => by
      have := List.all_eq_true.1 hsz x (DataW.weights_mem_each (j := 1) (t := 52) rfl rfl x hx)
      simp only [reachBytes] at this
      exact of_decide_eq_true this
    obtain ⟨fuel, hf⟩ := h1
    simp only [Value.cells] at hf
    obtain ⟨co, cs, c, e1, e2, e3, _⟩ := cmdsIn hf
    exact ⟨co, cs, c, e1, e2, cmdsSize e3 hs1⟩
  subst hv1
  have hw := kvExact_any _ c cc ao co ps cs W hr hn hl hc (by omega) (Nat.le_refl _)
  clear hA0 hval0
  refine hw.mono fun e W' ⟨he, hkk⟩ => ?_
  subst he
  have bel := hkk.below (B := W.heap.size) (fun _ _ x => x.elim) (Nat.le_refl _)
  exact ⟨_, rfl, _, _, _, [], p0 ++ (p1 ++ []), [], hW', trodAll_mk1 (shut_bool Try.underlying4 _), trodAll_cons_mk (Below.trod Try.laidOutE (by kernel_rfl) (of_decide_eq_true (by kernel_rfl)) k0 bel lt0) (trodAll_cons_mk (Below.trod Try.laidOutE (by kernel_rfl) (of_decide_eq_true (by kernel_rfl)) k1 bel lt1) trodAll_mk0), rfl, bel.frame _, fun h => by cases h⟩

theorem kvExact_holds : Rows.KvExactSaid :=
  OpenClaim.holds_of_wide 5 Try.f5 rfl rfl rfl rfl rfl rfl rfl ⟨rfl, rfl, rfl, rfl, rfl⟩ rfl rfl rfl rfl rfl (by kernel_rfl) Try.func5 (by kernel_rfl)
    (of_decide_eq_true (by kernel_rfl)) (by unfold Func.isWrapper; first | (rw [if_pos (by decide +kernel)]; kernel_rfl) | (rw [if_neg (by decide +kernel)]; exact ⟨rfl, rfl⟩))
    (fun os started H enc _ => kvExact_lifted os started H enc)
#print axioms kvExact_holds

end Go.Proofs.Ytnmkccdcgmajgaa
