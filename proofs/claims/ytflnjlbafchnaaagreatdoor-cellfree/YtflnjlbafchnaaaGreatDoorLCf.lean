/-
  CellFree holds for all lists of jobs and turns, and any job: of any jobs that have stopped anywhere, one that goes on alone ends within forty commands, with the result that a single map gives; a key that it hands over is where it was to be.
  Conditions: none of ours (each string and slice takes at most 2^47 - 4096 bytes, as the form itself says); the library's own tables and sentinels, and the package's table of words, hold what the program's text lays in them, to which the card ties them.
-/
import Derived.Test.YtflnjlbafchnaaaGreatDoorRows
import Derived.Test.YtflnjlbafchnaaaGreatDoorCards
import Derived.Test.YtflnjlbafchnaaaGreatDoorTie
import Derived.Test.YtflnjlbafchnaaaGreatDoorWCIn
import Derived.Test.YtflnjlbafchnaaaGreatDoorWCLd
import Derived.Test.YtflnjlbafchnaaaGreatDoorWCnB
import Derived.ProofKit
import Derived.OpenShut
import Derived.Lay
import Derived.LaidMore
import Derived.SevenTiedAt
import Derived.Stop.LaidErr
import Derived.Stop.Joined
import Derived.Deep.DeepHandedRow
import Derived.SizedLaws
import Derived.Lib.LaidTab
namespace Go.Proofs.YtflnjlbafchnaaaGreatDoor
open Go.ChangeShapes Go.WideShapes Go.ChangeAt Go.RowKit
open Go.ChangeMaps (open_string shut_string)

set_option maxRecDepth 100000 in
theorem cellFree_contract (H : Type) (enc : TypeId × Value → H) (W : World) (base : Nat) (args : Array Value) (ds gs : List (DataW H)) (before : List MemPlace)
    (hval0 : ∀ (j : Nat) t v, Tryz.f9.params[j]? = some t → args[j]? = some v → Value.okWide Tryz.prog W .any base t v)
    (hW : DataW.Whole enc Tryz.prog Tryz.f9.params.toList Rows.cellFreeSpec.vars false W args.toList ds gs before)
    (hsz0 : (DataW.weightsEach Tryz.prog (Tryz.f9.params.toList ++ Rows.cellFreeSpec.plain.varTypes Tryz.prog) (ds ++ gs)).all (· ≤ reachBytes) = true)
    (hL : LW W) (h14 : 14 ≤ W.heap.size) :
    Calls Tryz.prog 9 args W fun e W' => ∃ v, e = .returned v ∧ Rows.cellFreeSpec.post enc Tryz.prog Tryz.f9 false true false false W args v W' := by
  have hsz := hsz0
  clear hsz0
  have hval : ∀ (j : Nat) t v, Tryz.f9.params[j]? = some t → args[j]? = some v → Value.okWide Tryz.prog W .any base t v := hval0
  have hW' := hW
  obtain ⟨p, q, hA0, hV, rfl, _, _⟩ := hW
  have hA : DataW.TrodAll enc Tryz.prog W 0 (fun _ => true) true Tryz.f9.params.toList args.toList ds p := hA0
  rw [Tryz.params9] at hA hval hsz
  obtain ⟨v0, vs0, d0, ds0, p0, q0, hargs, rfl, rfl, h0, hr0⟩ := trodAll_cons hA
  obtain ⟨v1, vs1, d1, ds1, p1, q1, rfl, rfl, rfl, h1, hr1⟩ := trodAll_cons hr0
  obtain ⟨v2, vs2, d2, ds2, p2, q2, rfl, rfl, rfl, h2, hr2⟩ := trodAll_cons hr1
  obtain ⟨rfl, rfl, rfl⟩ := trodAll_nil hr2
  obtain rfl : args = #[v0, v1, v2] := by cases args; simp_all
  obtain ⟨rfl, rfl⟩ := trodVars_none hV
  have k0 := h0
  have k1 := h1
  have k2 := h2
  have lt0 : ∀ x ∈ p0, x.block < W.heap.size := by obtain ⟨m, hm⟩ := k0; exact DataW.trod_lt m _ _ _ hm
  have lt1 : ∀ x ∈ p1, x.block < W.heap.size := by obtain ⟨m, hm⟩ := k1; exact DataW.trod_lt m _ _ _ hm
  have lt2 : ∀ x ∈ p2, x.block < W.heap.size := by obtain ⟨m, hm⟩ := k2; exact DataW.trod_lt m _ _ _ hm
  have hs0 : ∀ x ∈ d0.weights Tryz.prog 87, x ≤ 140737488351232 := fun x hx => by
    have := List.all_eq_true.1 hsz x (DataW.weights_mem_each (j := 0) (t := 87) rfl rfl x hx)
    simp only [reachBytes] at this
    exact of_decide_eq_true this
  have hs2 : ∀ x ∈ d2.weights Tryz.prog 91, x ≤ 140737488351232 := fun x hx => by
    have := List.all_eq_true.1 hsz x (DataW.weights_mem_each (j := 2) (t := 91) rfl rfl x hx)
    simp only [reachBytes] at this
    exact of_decide_eq_true this
  obtain ⟨ao0, xs0, c0, hv0, hq0⟩ : ∃ (ao0 : Option Addr) (xs0 : List Br) (c0 : Nat), v0 = .slice ao0 xs0.length c0 ∧ BrRow W.heap.size W ao0 xs0 := by
    obtain ⟨b2, len2, cap2, rfl⟩ := okWide_slice Tryz.underlying87 (hval 0 87 v0 rfl rfl)
    obtain ⟨fuel, hf⟩ := h0
    simp only [Value.cells] at hf
    exact begunsIn hf hs0
  subst hv0
  obtain ⟨ao1, xs1, c1, hv1, hq1⟩ : ∃ (ao1 : Option Addr) (xs1 : List Int) (c1 : Nat), v1 = .slice ao1 xs1.length c1 ∧ IntRow W.heap.size W ao1 xs1 := by
    obtain ⟨b2, len2, cap2, rfl⟩ := okWide_slice Tryz.underlying37 (hval 1 37 v1 rfl rfl)
    obtain ⟨fuel, hf⟩ := h1
    simp only [Value.cells] at hf
    exact intsInC hf
  subst hv1
  obtain ⟨mine2, hv2, mk2, ml2⟩ := begunIn (hval 2 91 v2 rfl rfl) h2 hs2
  subst hv2
  have hw := cellFree_any W ao0 ao1 c0 c1 xs0 xs1 mine2 hL h14 hq0 hq1 mk2 ml2
  clear hA0 hval0
  refine hw.mono fun e W' ⟨he, hkk⟩ => ?_
  subst he
  have bel := hkk.below (B := W.heap.size) (fun _ _ x => x.elim) (Nat.le_refl _)
  exact ⟨_, rfl, _, _, _, [], _, [], hW', trodAll_mk1 (shut_bool Tryz.underlying4 _), trodAll_cons_mk (Below.trod Tryz.laidOutE (by kernel_rfl) (of_decide_eq_true (by kernel_rfl)) k0 bel lt0) (trodAll_cons_mk (Below.trod Tryz.laidOutE (by kernel_rfl) (of_decide_eq_true (by kernel_rfl)) k1 bel lt1) (trodAll_cons_mk (Below.trod Tryz.laidOutE (by kernel_rfl) (of_decide_eq_true (by kernel_rfl)) k2 bel lt2) trodAll_mk0)), rfl, bel.frame _, fun h => by cases h⟩

theorem cellFree_reads (os : Os) {H : Type} (enc : TypeId × Value → H) : ∃ places, DataW.whole enc Tryz.prog ((World.laidAll Tryz.prog os Rows.cellFreeRow.laid).forCall (fun _ _ => 0) ⟨#[], #[.slice none 0 0, .slice none 0 0, .agg #[.int .i64 0, .string ⟨#[]⟩, .string ⟨#[]⟩, .int .i64 0, .int .i64 0, .int .i64 0]], []⟩).memory Tryz.f9.params.toList Rows.cellFreeSpec.vars false #[Value.slice none 0 0, .slice none 0 0, .agg #[.int .i64 0, .string ⟨#[]⟩, .string ⟨#[]⟩, .int .i64 0, .int .i64 0, .int .i64 0]].toList 8 = some ([.nil, .nil, .agg [.agg [.agg [.lit (.int .i64 0), .lit (.string []), .lit (.string []), .lit (.int .i64 0)], .lit (.int .i64 0)], .lit (.int .i64 0)]], [], places) :=
  ⟨[], by kernel_rfl⟩
set_option maxRecDepth 100000 in
theorem cellFree_lifted (os : Os) (started : os.Started) (H : Type) (enc : TypeId × Value → H) (F : Stop.Interp) :
    ReturnsInHanded {} Tryz.checked os 9 .any ((OpenSpec.ofChange Rows.cellFreeSpec).preRow enc Tryz.prog Tryz.f9 Rows.cellFreeRow.domain false Rows.cellFreeRow.laid) (((OpenSpec.ofChange Rows.cellFreeSpec).at F).post enc Tryz.prog Tryz.f9 false true false false) := by
  obtain ⟨places, hx⟩ := cellFree_reads os enc
  refine returnsInHanded_of_row (C := Tryz.checked) (s := OpenSpec.ofChange Rows.cellFreeSpec) Tryz.ownE started (by kernel_rfl) Tryz.func9
    ⟨World.laidAll Tryz.prog os Rows.cellFreeRow.laid, fun _ _ => 0, ⟨#[], #[.slice none 0 0, .slice none 0 0, .agg #[.int .i64 0, .string ⟨#[]⟩, .string ⟨#[]⟩, .int .i64 0, .int .i64 0, .int .i64 0]], []⟩, World.laidAll_os _ _ _, World.shaped_of_ZipB (by kernel_rfl) (by kernel_rfl), rfl, (Input.okWide_of_okWideB (by kernel_rfl)).2,
      OpenSpec.preRow_of_cond 8 hx (by kernel_rfl) (fun k hk => by cases hk) (by kernel_rfl) (by rw [MakeChecks.laidMetH_plain _ _ _ (by kernel_rfl)]; exact laidMet_laidAll _ (by kernel_rfl) (by kernel_rfl)),
      by simp only [Assume.holds]; exact ⟨by simp, by simp, fun _ => Modest.zero, by simp, by simp⟩⟩ ?_
  intro W base args ds gs before hval hW _ _ hsz hL hS _
  exact cellFree_contract H enc W base args ds gs before hval hW hsz (lw_of rfl hL hS) (heap14 hS)
theorem cellFree_said : Rows.CellFreeSaid :=
  OpenClaim.holds_of_cond 9 Tryz.f9 rfl rfl rfl rfl rfl rfl rfl ⟨rfl, rfl, rfl, rfl, rfl⟩ rfl rfl rfl rfl rfl (by kernel_rfl) Tryz.func9 (by kernel_rfl)
    (of_decide_eq_true (by kernel_rfl)) (by unfold Func.isWrapper; first | (rw [if_pos (by decide +kernel)]; kernel_rfl) | (rw [if_neg (by decide +kernel)]; exact ⟨rfl, rfl⟩))
    (fun os started H enc _ F => by rw [OpenClaim.pre_eq_preRow]; exact cellFree_lifted os started H enc F)
theorem cellFree_plain (f : FuncId) (fn : Func) (hf : Tryz.pinned.checked.prog.funcNamed "quorate/quoratekeep.CellFree" = some f) (hfn : Tryz.pinned.checked.prog.funcs[f]? = some fn) :
    true = Tryz.pinned.checked.prog.looks [] ∧ ∀ (j : Nat) t, fn.params[j]? = some t → Tryz.pinned.checked.prog.wantsStandIn t = false := by
  obtain rfl : f = 9 := Option.some.inj ((show Tryz.prog.funcNamed "quorate/quoratekeep.CellFree" = some 9 by kernel_rfl).symm.trans hf) |>.symm
  obtain rfl : fn = Tryz.f9 := (Option.some.inj (Tryz.func9.symm.trans hfn)).symm
  refine ⟨by kernel_rfl, fun j t ht => ?_⟩
  rw [Tryz.params9] at ht
  have hm : t ∈ [87, 37, 91] := by simpa using Array.mem_of_getElem? ht
  have hall : ([87, 37, 91].all fun u => !Tryz.prog.wantsStandIn u) = true := by kernel_rfl
  exact (show Tryz.prog.wantsStandIn t = false by simpa using List.all_eq_true.1 hall t hm)
/-- The card. -/
theorem cellFree_holds : Rows.CellFreeCardSaid :=
  Claim7.holds_tied_plain_at .later [] _ _ _ _ cellFree_said (fun _ h => by cases h) (by kernel_rfl) (fun _ h => by cases h) cellFree_row_tie rfl ⟨rfl, rfl⟩ (by kernel_rfl) rfl cellFree_plain (by kernel_rfl)
#print axioms cellFree_holds
end Go.Proofs.YtflnjlbafchnaaaGreatDoor
