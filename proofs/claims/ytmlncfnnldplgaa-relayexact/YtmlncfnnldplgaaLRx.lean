/-
  RelayExact holds for all hosts and all scripts: the program's relay answers what the document's answer does, step by step, and what it answers may be overwritten.
  Conditions: none (each string and slice takes at most 2^47 - 4096 bytes, as the form itself says).
-/
import Derived.Test.YtmlncfnnldplgaaRows
import Derived.Test.YtmlncfnnldplgaaWRx5
import Derived.ProofKit
import Derived.OpenShut
import Derived.ShutString
import Derived.ChangeOld
import Derived.SizedLaws
import Derived.ChangeSlices
import Derived.Lib.SmallJoins
import Derived.Carry
import Derived.Deep.Strs
import Derived.Deep.Slices
namespace Go.Proofs.Ytmlncfnnldplgaa
open Go.ChangeShapes Go.WideShapes Go.ChangeAt Go.RowKit
open Go.ChangeMaps (open_string shut_string)

theorem Try.ownE : ownKnob Try.prog.godebug = none := by kernel_rfl
theorem Try.laidOutE : laidOutB Try.prog = true := by kernel_rfl
theorem Try.cellsIntE : Try.prog.cellsOf 3 = 1 := by kernel_rfl
theorem Try.cellsStrE : Try.prog.cellsOf 9 = 1 := by kernel_rfl
theorem Try.cellsBoolE : Try.prog.cellsOf 4 = 1 := by kernel_rfl
theorem add_pos (a : Addr) {i : Nat} (h : 0 < i) : a.add i = ⟨a.block, a.off + i, none⟩ := by unfold Addr.add; rw [if_neg (by omega)]
theorem add_zero (a : Addr) : a.add 0 = a := rfl
theorem list8 {α : Type} {cs : List α} (h : cs.length = 8) : ∃ a0 a1 a2 a3 a4 a5 a6 a7, cs = [a0, a1, a2, a3, a4, a5, a6, a7] := by
  match cs, h with
  | [a0, a1, a2, a3, a4, a5, a6, a7], _ => exact ⟨a0, a1, a2, a3, a4, a5, a6, a7, rfl⟩
theorem list4 {α : Type} {cs : List α} (h : cs.length = 4) : ∃ a0 a1 a2 a3, cs = [a0, a1, a2, a3] := by
  match cs, h with
  | [a0, a1, a2, a3], _ => exact ⟨a0, a1, a2, a3, rfl⟩
theorem list5 {α : Type} {cs : List α} (h : cs.length = 5) : ∃ a0 a1 a2 a3 a4, cs = [a0, a1, a2, a3, a4] := by
  match cs, h with
  | [a0, a1, a2, a3, a4], _ => exact ⟨a0, a1, a2, a3, a4, rfl⟩
theorem Try.cellsStepE : Try.prog.cellsOf 36 = 8 := by kernel_rfl
theorem Try.bytesStepE : Try.prog.bytesOf 36 = 80 := by kernel_rfl
theorem Try.cellsInPacketE : Try.prog.cellsOf 34 = 5 := by kernel_rfl
instance : Inhabited Rs := ⟨⟨0, 0, [], ⟨0, 0, 0, false, []⟩⟩⟩

set_option maxRecDepth 100000 in
theorem stepsIn {H : Type} {enc : TypeId × Value → H} {W : World} {fuel : Nat} {v : Value} {y : DataW H × List MemPlace} (hf : DataW.trod enc Try.prog W 0 (fun _ => true) true fuel 22 [v] = some y) (hw : ∀ x ∈ y.1.weights Try.prog 22, x ≤ 140737488351232) :
    ∃ (ao : Option Addr) (ss : List Rs) (cap : Nat), v = .slice ao ss.length cap ∧ RsRow W.heap.size W ao ss ∧ (ss.length : Int) ≤ 1759218604390 ∧ cap ≤ maxLen := by
  rcases Go.Deep.open_slice Try.underlying22 hf with ⟨h1, _⟩ | ⟨a, len, cap, m, n, D, Pl, h1, _, hl, hm, hmm, hy, hx⟩
  · simp at h1
    subst h1
    exact ⟨none, [], 0, rfl, fun j hj => by simp at hj, by simp, by unfold maxLen; omega⟩
  · simp at h1
    subst h1
    simp only [if_true] at hmm
    have hb9 : len ≤ 1759218604390 := by
      have := hw ((len + (m - len)) * 80) (by rw [hy]; simp only [DataW.weights, Try.underlying22, Try.bytesStepE, List.length_map, List.length_range]; exact List.mem_cons_self)
      omega
    obtain ⟨f, hF⟩ := Go.Deep.choose_lt (α := Rs) (n := len) (p := fun j s => a.block < W.heap.size ∧ W.cell? (a.add (j * 8)) = some (.int .i64 s.kd) ∧ W.cell? ⟨(a.add (j * 8)).block, (a.add (j * 8)).off + 1, none⟩ = some (.int .i64 s.dst) ∧ W.cell? ⟨(a.add (j * 8)).block, (a.add (j * 8)).off + 2, none⟩ = some (.string (bs s.bd)) ∧ W.cell? ⟨(a.add (j * 8)).block, (a.add (j * 8)).off + 3, none⟩ = some (.int .i64 s.p.fr) ∧ W.cell? ⟨(a.add (j * 8)).block, (a.add (j * 8)).off + 4, none⟩ = some (.int .i64 s.p.ds) ∧ W.cell? ⟨(a.add (j * 8)).block, (a.add (j * 8)).off + 5, none⟩ = some (.int .i64 s.p.nu) ∧ W.cell? ⟨(a.add (j * 8)).block, (a.add (j * 8)).off + 6, none⟩ = some (.bool s.p.ak) ∧ W.cell? ⟨(a.add (j * 8)).block, (a.add (j * 8)).off + 7, none⟩ = some (.string (bs s.p.bd)) ∧ s.p.nu ≤ 9223372036854775807) (fun j hj => by
      obtain ⟨cs, h1, h2⟩ := hx j (by omega)
      rw [Try.cellsStepE] at h1
      obtain ⟨_, hlen, hc⟩ := World.cells?_some h1
      obtain ⟨c0, c1, c2, c3, c4, c5, c6, c7, rfl⟩ := list8 hlen
      obtain ⟨ys, n', _, hD, _, hyl, hg⟩ := DataW.trod_struct Try.underlying36 h2
      obtain ⟨y0, y1, y2, y3, rfl⟩ := list4 hyl
      have g0 := hg 0 _ rfl
      have g1 := hg 1 _ rfl
      have g2 := hg 2 _ rfl
      have g3 := hg 3 _ rfl
      simp [Try.cellsIntE, Try.cellsStrE, Try.cellsInPacketE] at g0 g1 g2 g3
      obtain ⟨z0, e0, _, w0⟩ := DataW.trod_int Try.underlying3 g0
      obtain ⟨z1, e1, _, w1⟩ := DataW.trod_int Try.underlying3 g1
      obtain ⟨z2, e2, _, w2⟩ := DataW.trod_string Try.underlying9 g2
      obtain ⟨xs3, n3, _, hD3, _, hyl3, hg3⟩ := DataW.trod_struct Try.underlying34 g3
      obtain ⟨x3_0, x3_1, x3_2, x3_3, x3_4, rfl⟩ := list5 hyl3
      have g3_0 := hg3 0 _ rfl
      have g3_1 := hg3 1 _ rfl
      have g3_2 := hg3 2 _ rfl
      have g3_3 := hg3 3 _ rfl
      have g3_4 := hg3 4 _ rfl
      simp [Try.cellsIntE, Try.cellsStrE, Try.cellsBoolE] at g3_0 g3_1 g3_2 g3_3 g3_4
      obtain ⟨z3, e3, _, w3⟩ := DataW.trod_int Try.underlying3 g3_0
      obtain ⟨z4, e4, _, w4⟩ := DataW.trod_int Try.underlying3 g3_1
      obtain ⟨z5, e5, _, w5⟩ := DataW.trod_int Try.underlying3 g3_2
      obtain ⟨z6, e6, _⟩ := DataW.trod_bool Try.underlying4 g3_3
      obtain ⟨z7, e7, _, w7⟩ := DataW.trod_string Try.underlying9 g3_4
      simp at e0 e1 e2 e3 e4 e5 e6 e7
      subst e0 e1 e2 e3 e4 e5 e6 e7
      have q0 := hc 0 (by omega)
      have q1 := hc 1 (by omega)
      have q2 := hc 2 (by omega)
      have q3 := hc 3 (by omega)
      have q4 := hc 4 (by omega)
      have q5 := hc 5 (by omega)
      have q6 := hc 6 (by omega)
      have q7 := hc 7 (by omega)
      rw [add_zero] at q0
      rw [add_pos _ (by omega)] at q1 q2 q3 q4 q5 q6 q7
      have e : (a.add (j * 8)).block = a.block := by unfold Addr.add; split <;> rfl
      have hb := World.block_lt_of_cell? W _ q0
      exact ⟨⟨z0, z1, z2.data.toList, ⟨z3, z4, z5, z6, z7.data.toList⟩⟩, by omega, q0, q1, (by rw [bs_self]; exact q2), q3, q4, q5, q6, (by rw [bs_self]; exact q7), (show z5 ≤ 9223372036854775807 from (show IntKind.i64.min ≤ z5 ∧ z5 ≤ 9223372036854775807 by simpa [Lit.wf] using w5).2)⟩)
    have hlen : ((List.range len).map f).length = len := by simp
    refine ⟨some a, (List.range len).map f, cap, by rw [hlen], ?_, by rw [hlen]; omega, by omega⟩
    intro j hj
    rw [hlen] at hj
    obtain ⟨h0, h⟩ := hF j hj
    simp only [List.getElem_map, List.getElem_range]
    exact ⟨a, rfl, h0, h⟩

set_option maxRecDepth 100000 in
theorem relayExact_lifted (os : Os) (started : os.Started) (H : Type) (enc : TypeId × Value → H) :
    ReturnsInHanded {} Try.checked os 3 .any (Rows.relayExactSpec.pre6 enc Try.prog Try.f3 Rows.relayExactRow.domain false) (Rows.relayExactSpec.post enc Try.prog Try.f3 false true false false) := by
  refine returnsInHanded_of_change_sized (C := Try.checked) Try.ownE started (by kernel_rfl) Try.func3
    (ChangeSpec.witness6 (enc := enc) (C := Try.checked) false ⟨#[], #[.int .i64 0, .slice none 0 0], []⟩ 8 (by kernel_rfl) (by kernel_rfl) (by kernel_rfl) (by kernel_rfl)) ?_
  intro W base args ds gs before hval0 hW _ hsz0 _
  have hsz : (DataW.weightsEach Try.prog (Try.f3.params.toList ++ Rows.relayExactSpec.plain.varTypes Try.prog) (ds ++ gs)).all (· ≤ reachBytes) = true := hsz0
  clear hsz0
  have hval : ∀ (j : Nat) t v, Try.f3.params[j]? = some t → args[j]? = some v → Value.okWide Try.prog W .any base t v := hval0
  have hW' := hW
  obtain ⟨p, q, hA0, hV, rfl, _, _⟩ := hW
  have hA : DataW.TrodAll enc Try.prog W 0 (fun _ => true) true Try.f3.params.toList args.toList ds p := hA0
  rw [Try.params3] at hA hval hsz
  obtain ⟨v0, vs0, d0, ds0, p0, q0, hargs, rfl, rfl, h0, hr0⟩ := trodAll_cons hA
  obtain ⟨v1, vs1, d1, ds1, p1, q1, rfl, rfl, rfl, h1, hr1⟩ := trodAll_cons hr0
  obtain ⟨rfl, rfl, rfl⟩ := trodAll_nil hr1
  obtain rfl : args = #[v0, v1] := by cases args; simp_all
  obtain ⟨rfl, rfl⟩ := trodVars_none hV
  have k0 := h1
  have lt0 : ∀ x ∈ p1, x.block < W.heap.size := by obtain ⟨m, hm⟩ := k0; exact DataW.trod_lt m _ _ _ hm
  have hs0 : ∀ x ∈ d1.weights Try.prog 22, x ≤ 140737488351232 := fun x hx => by
    have := List.all_eq_true.1 hsz x (DataW.weights_mem_each (j := 1) (t := 22) rfl rfl x hx)
    simp only [reachBytes] at this
    exact of_decide_eq_true this
  obtain ⟨ao, ss, c, hv0, hr, hl, hcap⟩ : ∃ (ao : Option Addr) (ss : List Rs) (c : Nat), v1 = .slice ao ss.length c ∧ RsRow W.heap.size W ao ss ∧ (ss.length : Int) ≤ 1759218604390 ∧ c ≤ maxLen := by
    obtain ⟨b2, len2, cap2, rfl⟩ := okWide_slice Try.underlying22 (hval 1 22 v1 rfl rfl)
    obtain ⟨fuel, hf⟩ := h1
    simp only [Value.cells] at hf
    exact stepsIn hf hs0
  subst hv0
  obtain ⟨i0, rfl, rfl, rfl, w0⟩ := open_int Try.underlying3 (hval 0 3 v0 rfl rfl) h0
  have hw := relayExact_any W W.heap.size c i0 ao ss hr (Nat.le_refl _) (by omega)
  clear hA0 hval0
  refine hw.mono fun e W' ⟨he, hkk⟩ => ?_
  subst he
  have bel := hkk.below (B := W.heap.size) (fun _ _ x => x.elim) (Nat.le_refl _)
  exact ⟨_, rfl, _, _, _, [], ([] ++ (p1 ++ [])), [], hW', trodAll_mk1 (shut_bool Try.underlying4 _), (trodAll_cons_mk (shut_int Try.underlying3 w0) (trodAll_cons_mk (Below.trod Try.laidOutE (by kernel_rfl) (of_decide_eq_true (by kernel_rfl)) k0 bel lt0) trodAll_mk0)), rfl, bel.frame _, fun h => by cases h⟩

theorem relayExact_holds : Rows.RelayExactSaid :=
  OpenClaim.holds_of_wide 3 Try.f3 rfl rfl rfl rfl rfl rfl rfl ⟨rfl, rfl, rfl, rfl, rfl⟩ rfl rfl rfl rfl rfl (by kernel_rfl) Try.func3 (by kernel_rfl)
    (of_decide_eq_true (by kernel_rfl)) (by unfold Func.isWrapper; first | (rw [if_pos (by decide +kernel)]; kernel_rfl) | (rw [if_neg (by decide +kernel)]; exact ⟨rfl, rfl⟩))
    (fun os started H enc _ => relayExact_lifted os started H enc)
#print axioms relayExact_holds

end Go.Proofs.Ytmlncfnnldplgaa
