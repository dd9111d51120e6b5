/-
  ShardMap holds for all numbers of hosts and all scripts: shared by many, it is one map: no key has two hosts, who has a range may hand it over and nobody else, each answer is what one map would give, and once packets come each key has a host, whom one finds in as many steps as there are hosts.
  Conditions: none (each string and slice takes at most 2^47 - 4096 bytes, as the form itself says).
-/
import Derived.Test.YtpfgnhockfofhaaRows
import Derived.Test.YtpfgnhockfofhaaM36
import Derived.ProofKit
import Derived.OpenShut
import Derived.ShutString
import Derived.ChangeOld
import Derived.SizedLaws
import Derived.ChangeSlices
import Derived.Lib.SmallJoins
import Derived.Carry
import Derived.Deep.Strs
import Derived.Deep.Slices
namespace Go.Proofs.Ytpfgnhockfofhaa
open Go.ChangeShapes Go.WideShapes Go.ChangeAt Go.RowKit
open Go.ChangeMaps (open_string shut_string)

theorem Try.ownE : ownKnob Try.prog.godebug = none := by kernel_rfl
theorem Try.laidOutE : laidOutB Try.prog = true := by kernel_rfl
theorem Try.cellsIntE : Try.prog.cellsOf 3 = 1 := by kernel_rfl
theorem Try.cellsStrE : Try.prog.cellsOf 9 = 1 := by kernel_rfl
theorem Try.cellsBoolE : Try.prog.cellsOf 4 = 1 := by kernel_rfl
theorem add_pos (a : Addr) {i : Nat} (h : 0 < i) : a.add i = ⟨a.block, a.off + i, none⟩ := by unfold Addr.add; rw [if_neg (by omega)]
theorem add_zero (a : Addr) : a.add 0 = a := rfl
theorem Try.cellsShE : Try.prog.cellsOf 74 = 7 := by kernel_rfl
theorem Try.bytesShE : Try.prog.bytesOf 74 = 80 := by kernel_rfl
theorem listS {α : Type} {cs : List α} (h : cs.length = 7) : ∃ a0 a1 a2 a3 a4 a5 a6, cs = [a0, a1, a2, a3, a4, a5, a6] := by
  match cs, h with
  | [a0, a1, a2, a3, a4, a5, a6], _ => exact ⟨a0, a1, a2, a3, a4, a5, a6, rfl⟩
instance : Inhabited Sp := ⟨⟨0, 0, 0, 0, [], [], []⟩⟩

set_option maxRecDepth 100000 in
theorem stepsIn {H : Type} {enc : TypeId × Value → H} {W : World} {fuel : Nat} {v : Value} {y : DataW H × List MemPlace} (hf : DataW.trod enc Try.prog W 0 (fun _ => true) true fuel 62 [v] = some y) (hw : ∀ x ∈ y.1.weights Try.prog 62, x ≤ 140737488351232) :
    ∃ (ao : Option Addr) (ss : List Sp) (cap : Nat), v = .slice ao ss.length cap ∧ SpRow W.heap.size W ao ss ∧ (ss.length : Int) ≤ 1759218604390 ∧ ∀ s ∈ ss, s.up.length ≤ 9223372036854775807 ∧ s.vl.length ≤ 9223372036854775807 := by
  rcases Go.Deep.open_slice Try.underlying62 hf with ⟨h1, _⟩ | ⟨a, len, cap, m, n, D, Pl, h1, _, hl, hm, hmm, hy, hx⟩
  · simp at h1
    subst h1
    exact ⟨none, [], 0, rfl, fun j hj => by simp at hj, by simp, fun s hs => by cases hs⟩
  · simp at h1
    subst h1
    simp only [if_true] at hmm
    have hbl : len ≤ 1759218604390 := by
      have := hw ((len + (m - len)) * 80) (by rw [hy]; simp only [DataW.weights, Try.underlying62, Try.bytesShE, List.length_map, List.length_range]; exact List.mem_cons_self)
      omega
    obtain ⟨f, hF⟩ := Go.Deep.choose_lt (α := Sp) (n := len) (p := fun j s => a.block < W.heap.size ∧ (∀ (r : Nat) u, (stC s).toList[r]? = some u → W.cell? ((a.add (j * 7)).add r) = some u) ∧ s.up.length ≤ 9223372036854775807 ∧ s.vl.length ≤ 9223372036854775807) (fun j hj => by
      obtain ⟨cs, h1, h2⟩ := hx j (by omega)
      rw [Try.cellsShE] at h1
      obtain ⟨_, hlen, hc⟩ := World.cells?_some h1
      obtain ⟨c0, c1, c2, c3, c4, c5, c6, rfl⟩ := listS hlen
      obtain ⟨ys, n', _, hD, _, hyl, hg⟩ := DataW.trod_struct Try.underlying74 h2
      obtain ⟨y0, y1, y2, y3, y4, y5, y6, rfl⟩ := listS hyl
      have g0 := hg 0 _ rfl
      have g1 := hg 1 _ rfl
      have g2 := hg 2 _ rfl
      have g3 := hg 3 _ rfl
      have g4 := hg 4 _ rfl
      have g5 := hg 5 _ rfl
      have g6 := hg 6 _ rfl
      simp [Try.cellsIntE, Try.cellsStrE] at g0 g1 g2 g3 g4 g5 g6
      obtain ⟨z0, e0, _, _⟩ := DataW.trod_int Try.underlying3 g0
      obtain ⟨z1, e1, _, _⟩ := DataW.trod_int Try.underlying3 g1
      obtain ⟨z2, e2, _, _⟩ := DataW.trod_int Try.underlying3 g2
      obtain ⟨z3, e3, _, _⟩ := DataW.trod_int Try.underlying3 g3
      obtain ⟨z4, e4, d4, _⟩ := DataW.trod_string Try.underlying9 g4
      obtain ⟨z5, e5, d5, w5⟩ := DataW.trod_string Try.underlying9 g5
      obtain ⟨z6, e6, d6, w6⟩ := DataW.trod_string Try.underlying9 g6
      simp at e0 e1 e2 e3 e4 e5 e6
      subst e0 e1 e2 e3 e4 e5 e6
      have l5 : z5.data.toList.length ≤ 9223372036854775807 := by
        have h1 : z5.data.toList.length = z5.size := by rw [← bs_size, bs_self]
        have h2 := w5
        rw [h1]
        unfold maxLen at h2
        omega
      have l6 : z6.data.toList.length ≤ 9223372036854775807 := by
        have h1 : z6.data.toList.length = z6.size := by rw [← bs_size, bs_self]
        have h2 := w6
        rw [h1]
        unfold maxLen at h2
        omega
      have q0 := hc 0 (by omega)
      have e : ((a.add (j * 7)).add 0).block = a.block := by rw [add_block, add_block]
      have hb := World.block_lt_of_cell? W _ q0
      refine ⟨⟨z0, z1, z2, z3, z4.data.toList, z5.data.toList, z6.data.toList⟩, by omega, fun r u hu => ?_, l5, l6⟩
      simp only [stC, bs_self] at hu
      match r, hu with
      | 0, hu => rw [← Option.some.inj hu]; exact hc 0 (by omega)
      | 1, hu => rw [← Option.some.inj hu]; exact hc 1 (by omega)
      | 2, hu => rw [← Option.some.inj hu]; exact hc 2 (by omega)
      | 3, hu => rw [← Option.some.inj hu]; exact hc 3 (by omega)
      | 4, hu => rw [← Option.some.inj hu]; exact hc 4 (by omega)
      | 5, hu => rw [← Option.some.inj hu]; exact hc 5 (by omega)
      | 6, hu => rw [← Option.some.inj hu]; exact hc 6 (by omega)
      | r + 7, hu => simp at hu)
    have hlen : ((List.range len).map f).length = len := by simp
    refine ⟨some a, (List.range len).map f, cap, by rw [hlen], ?_, by rw [hlen]; omega, ?_⟩
    · intro j hj
      rw [hlen] at hj
      obtain ⟨h0, h1, _⟩ := hF j hj
      simp only [List.getElem_map, List.getElem_range]
      exact ⟨a, rfl, h0, h1⟩
    · intro s hs
      obtain ⟨j, hj, rfl⟩ := List.mem_map.1 hs
      exact (hF j (List.mem_range.1 hj)).2.2
set_option maxRecDepth 100000 in
theorem shardMap_lifted (os : Os) (started : os.Started) (H : Type) (enc : TypeId × Value → H) :
    ReturnsInHanded {} Try.checked os 5 .any (Rows.shardMapSpec.pre6 enc Try.prog Try.f5 Rows.shardMapRow.domain false) (Rows.shardMapSpec.post enc Try.prog Try.f5 false true false false) := by
  refine returnsInHanded_of_change_sized (C := Try.checked) Try.ownE started (by kernel_rfl) Try.func5
    (ChangeSpec.witness6 (enc := enc) (C := Try.checked) false ⟨#[], #[.int .i64 0, .slice none 0 0], []⟩ 8 (by kernel_rfl) (by kernel_rfl) (by kernel_rfl) (by kernel_rfl)) ?_
  intro W base args ds gs before hval0 hW _ hsz0 _
  have hsz : (DataW.weightsEach Try.prog (Try.f5.params.toList ++ Rows.shardMapSpec.plain.varTypes Try.prog) (ds ++ gs)).all (· ≤ reachBytes) = true := hsz0
  clear hsz0
  have hval : ∀ (j : Nat) t v, Try.f5.params[j]? = some t → args[j]? = some v → Value.okWide Try.prog W .any base t v := hval0
  have hW' := hW
  obtain ⟨p, q, hA0, hV, rfl, _, _⟩ := hW
  have hA : DataW.TrodAll enc Try.prog W 0 (fun _ => true) true Try.f5.params.toList args.toList ds p := hA0
  rw [Try.params5] at hA hval hsz
  obtain ⟨v0, vs0, d0, ds0, p0, q0, hargs, rfl, rfl, h0, hr0⟩ := trodAll_cons hA
  obtain ⟨v1, vs1, d1, ds1, p1, q1, rfl, rfl, rfl, h1, hr1⟩ := trodAll_cons hr0
  obtain ⟨rfl, rfl, rfl⟩ := trodAll_nil hr1
  obtain rfl : args = #[v0, v1] := by cases args; simp_all
  obtain ⟨rfl, rfl⟩ := trodVars_none hV
  have k0 := h1
  have lt0 : ∀ x ∈ p1, x.block < W.heap.size := by obtain ⟨m, hm⟩ := k0; exact DataW.trod_lt m _ _ _ hm
  have hs0 : ∀ x ∈ d1.weights Try.prog 62, x ≤ 140737488351232 := fun x hx => by
    have := List.all_eq_true.1 hsz x (DataW.weights_mem_each (j := 1) (t := 62) rfl rfl x hx)
    simp only [reachBytes] at this
    exact of_decide_eq_true this
  obtain ⟨ao, ss, c, hv0, hr, hl, hle⟩ : ∃ (ao : Option Addr) (ss : List Sp) (c : Nat), v1 = .slice ao ss.length c ∧ SpRow W.heap.size W ao ss ∧ (ss.length : Int) ≤ 1759218604390 ∧ ∀ s ∈ ss, s.up.length ≤ 9223372036854775807 ∧ s.vl.length ≤ 9223372036854775807 := by
    obtain ⟨b2, len2, cap2, rfl⟩ := okWide_slice Try.underlying62 (hval 1 62 v1 rfl rfl)
    obtain ⟨fuel, hf⟩ := h1
    simp only [Value.cells] at hf
    exact stepsIn hf hs0
  subst hv0
  obtain ⟨i0, rfl, rfl, rfl, w0⟩ := open_int Try.underlying3 (hval 0 3 v0 rfl rfl) h0
  have hw := shardMap_any W c i0 ao ss hr hl hle
  clear hA0 hval0
  refine hw.mono fun e W' ⟨he, hkk⟩ => ?_
  subst he
  have bel := hkk.below (B := W.heap.size) (fun _ _ x => x.elim) (Nat.le_refl _)
  exact ⟨_, rfl, _, _, _, [], ([] ++ (p1 ++ [])), [], hW', trodAll_mk1 (shut_bool Try.underlying4 _), (trodAll_cons_mk (shut_int Try.underlying3 w0) (trodAll_cons_mk (Below.trod Try.laidOutE (by kernel_rfl) (of_decide_eq_true (by kernel_rfl)) k0 bel lt0) trodAll_mk0)), rfl, bel.frame _, fun h => by cases h⟩

theorem shardMap_holds : Rows.ShardMapSaid :=
  OpenClaim.holds_of_wide 5 Try.f5 rfl rfl rfl rfl rfl rfl rfl ⟨rfl, rfl, rfl, rfl, rfl⟩ rfl rfl rfl rfl rfl (by kernel_rfl) Try.func5 (by kernel_rfl)
    (of_decide_eq_true (by kernel_rfl)) (by unfold Func.isWrapper; first | (rw [if_pos (by decide +kernel)]; kernel_rfl) | (rw [if_neg (by decide +kernel)]; exact ⟨rfl, rfl⟩))
    (fun os started H enc _ => shardMap_lifted os started H enc)
#print axioms shardMap_holds

end Go.Proofs.Ytpfgnhockfofhaa
