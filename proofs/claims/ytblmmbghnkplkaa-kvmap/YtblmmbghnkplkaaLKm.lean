/-
  KvMap holds for all commands, one behind the other: behind any puts, appends, deletes and swaps a key has the value that was put there last, unless it was refused, and no other key has changed.
  Conditions: none (each string and slice takes at most 2^47 - 4096 bytes, as the form itself says).
-/
import Derived.Test.YtblmmbghnkplkaaRows
import Derived.Test.YtblmmbghnkplkaaWKvIn
import Derived.Test.YtblmmbghnkplkaaWKm3
namespace Go.Proofs.Ytblmmbghnkplkaa
open Go.ChangeShapes Go.WideShapes Go.ChangeAt Go.RowKit

set_option maxRecDepth 100000 in
theorem kvMap_lifted (os : Os) (started : os.Started) (H : Type) (enc : TypeId × Value → H) :
    ReturnsInHanded {} Try.checked os 6 .any (Rows.kvMapSpec.pre6 enc Try.prog Try.f6 Rows.kvMapRow.domain false) (Rows.kvMapSpec.post enc Try.prog Try.f6 false true false false) := by
  refine returnsInHanded_of_change_sized (C := Try.checked) Try.ownE started (by kernel_rfl) Try.func6
    (ChangeSpec.witness6 (enc := enc) (C := Try.checked) false ⟨#[], #[.slice none 0 0], []⟩ 8 (by kernel_rfl) (by kernel_rfl) (by kernel_rfl) (by kernel_rfl)) ?_
  intro W base args ds gs before hval0 hW _ hsz0 _
  have hsz : (DataW.weightsEach Try.prog (Try.f6.params.toList ++ Rows.kvMapSpec.plain.varTypes Try.prog) (ds ++ gs)).all (· ≤ reachBytes) = true := hsz0
  clear hsz0
  have hval : ∀ (j : Nat) t v, Try.f6.params[j]? = some t → args[j]? = some v → Value.okWide Try.prog W .any base t v := hval0
  have hW' := hW
  obtain ⟨p, q, hA0, hV, rfl, _, _⟩ := hW
  have hA : DataW.TrodAll enc Try.prog W 0 (fun _ => true) true Try.f6.params.toList args.toList ds p := hA0
  rw [Try.params6] at hA hval hsz
  obtain ⟨v1, vs1, d1, ds1, p1, q1, hargs, rfl, rfl, h1, hr1⟩ := trodAll_cons hA
  obtain ⟨rfl, rfl, rfl⟩ := trodAll_nil hr1
  obtain rfl : args = #[v1] := by cases args; simp_all
  obtain ⟨rfl, rfl⟩ := trodVars_none hV
  have k1 := h1
  have lt1 : ∀ x ∈ p1, x.block < W.heap.size := by obtain ⟨m, hm⟩ := k1; exact DataW.trod_lt m _ _ _ hm
  obtain ⟨co, cs, cc, hv1, hc, hcl⟩ : ∃ (co : Option Addr) (cs : List Cm) (c : Nat), v1 = .slice co cs.length c ∧ CmRow W.heap.size W co cs ∧ cs.length ≤ 9000000000000000000 := by
    obtain ⟨b2, len2, cap2, rfl⟩ := okWide_slice Try.underlying52 (hval 0 52 v1 rfl rfl)
    have hs1 : ∀ x ∈ d1.weights Try.prog 52, x ≤ 140737488351232 := fun x hx => by
      have := List.all_eq_true.1 hsz x (DataW.weights_mem_each (j := 0) (t := 52) rfl rfl x hx)
      simp only [reachBytes] at this
      exact of_decide_eq_true this
    obtain ⟨fuel, hf⟩ := h1
    simp only [Value.cells] at hf
    obtain ⟨co, cs, c, e1, e2, e3, _⟩ := cmdsIn hf
    exact ⟨co, cs, c, e1, e2, cmdsSize e3 hs1⟩
  subst hv1
  have hw := kvMap_any _ cc co cs W hc (by omega) (Nat.le_refl _)
  clear hA0 hval0
  refine hw.mono fun e W' ⟨he, hkk⟩ => ?_
  subst he
  have bel := hkk.below (B := W.heap.size) (fun _ _ x => x.elim) (Nat.le_refl _)
  exact ⟨_, rfl, _, _, _, [], p1 ++ [], [], hW', trodAll_mk1 (shut_bool Try.underlying4 _), trodAll_cons_mk (Below.trod Try.laidOutE (by kernel_rfl) (of_decide_eq_true (by kernel_rfl)) k1 bel lt1) trodAll_mk0, rfl, bel.frame _, fun h => by cases h⟩

theorem kvMap_holds : Rows.KvMapSaid :=
  OpenClaim.holds_of_wide 6 Try.f6 rfl rfl rfl rfl rfl rfl rfl ⟨rfl, rfl, rfl, rfl, rfl⟩ rfl rfl rfl rfl rfl (by kernel_rfl) Try.func6 (by kernel_rfl)
    (of_decide_eq_true (by kernel_rfl)) (by unfold Func.isWrapper; first | (rw [if_pos (by decide +kernel)]; kernel_rfl) | (rw [if_neg (by decide +kernel)]; exact ⟨rfl, rfl⟩))
    (fun os started H enc _ => kvMap_lifted os started H enc)
#print axioms kvMap_holds

end Go.Proofs.Ytblmmbghnkplkaa
