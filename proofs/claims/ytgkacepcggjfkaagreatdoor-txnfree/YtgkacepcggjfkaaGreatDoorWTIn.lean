/-
  Lists of parts that are handed in: what the form says of them.
-/
import Derived.Test.YtgkacepcggjfkaaGreatDoorWKvIn
import Derived.Test.YtgkacepcggjfkaaGreatDoorWTsE
namespace Go.Proofs.YtgkacepcggjfkaaGreatDoor
open Go.ChangeShapes Go.WideShapes Go.ChangeAt Go.RowKit
open Go.ChangeMaps (open_string shut_string)

theorem Tryz.cellsPtE : Tryz.prog.cellsOf 29 = 2 := by kernel_rfl
theorem Tryz.bytesPtE : Tryz.prog.bytesOf 29 = 24 := by kernel_rfl
theorem Tryz.cellsPsE : Tryz.prog.cellsOf 22 = 1 := by kernel_rfl
theorem Tryz.bytesPsE : Tryz.prog.bytesOf 22 = 24 := by kernel_rfl
instance : Inhabited Pt := ⟨⟨[], 0⟩⟩
theorem list2T {α : Type} {cs : List α} (h : cs.length = 2) : ∃ a b, cs = [a, b] := by
  match cs, h with
  | [a, b], _ => exact ⟨a, b, rfl⟩
theorem wAllT {H : Type} {e : TypeId} {d : DataW H} {x : Nat} : ∀ {l : List (DataW H)}, d ∈ l → x ∈ d.weights Tryz.prog e → x ∈ DataW.weightsAll Tryz.prog e l
  | [], h, _ => by cases h
  | c :: l, h, hx => by
    rw [DataW.weightsAll]
    rcases List.mem_cons.1 h with rfl | h
    · exact List.mem_append_left _ hx
    · exact List.mem_append_right _ (wAllT h hx)
section
variable {H : Type} {enc : TypeId × Value → H} {W : World} {fuel : Nat} {v : Value} {y : DataW H × List MemPlace}
theorem intsInT (hf : DataW.trod enc Tryz.prog W 0 (fun _ => true) true fuel 37 [v] = some y) :
    ∃ (ao : Option Addr) (zs : List Int) (cap : Nat), v = .slice ao zs.length cap ∧ IntRow W.heap.size W ao zs := by
  rcases open_ints Tryz.underlying37 Tryz.underlying3 Tryz.cellsIntE hf with ⟨h1, _⟩ | ⟨a', len, cap, zs, h1, _, hl, hm, hz, hy, hc, _⟩
  · simp at h1
    subst h1
    exact ⟨none, [], 0, rfl, fun j hj => by simp at hj⟩
  · simp at h1
    subst h1
    simp only [if_true] at hz
    have hlen : (zs.take len).length = len := by rw [List.length_take]; omega
    refine ⟨some a', zs.take len, cap, by rw [hlen], ?_⟩
    intro j hj
    rw [hlen] at hj
    have hcj := hc j (by omega)
    have e : (a'.add j).block = a'.block := by unfold Addr.add; split <;> rfl
    have hb := World.block_lt_of_cell? W _ hcj
    refine ⟨a', rfl, by omega, ?_⟩
    rw [hcj]
    have hz2 : j < zs.length := by omega
    simp [List.getElem_take, hz2]
set_option maxRecDepth 100000 in
theorem partsIn (hf : DataW.trod enc Tryz.prog W 0 (fun _ => true) true fuel 22 [v] = some y) (hw : ∀ x ∈ y.1.weights Tryz.prog 22, x ≤ 140737488351232) :
    ∃ (ao : Option Addr) (ps : List Pt) (cap : Nat), v = .slice ao ps.length cap ∧ PtRow W.heap.size W ao ps ∧ ps.length ≤ 140737488355328 ∧ ∀ p ∈ ps, p.k.length ≤ 140737488355328 := by
  rcases Go.Deep.open_slice Tryz.underlying22 hf with ⟨h1, _⟩ | ⟨a, len, cap, m, n, D, Pl, h1, _, hl, hm, hmm, hy, hx⟩
  · simp at h1
    subst h1
    exact ⟨none, [], 0, rfl, fun j hj => by simp at hj, by simp, fun p hp => by cases hp⟩
  · simp at h1
    subst h1
    simp only [if_true] at hmm
    have hwt : y.1.weights Tryz.prog 22 = (len + (m - len)) * 24 :: (DataW.weightsAll Tryz.prog 29 ((List.range len).map D) ++ DataW.weightsAll Tryz.prog 29 ((List.range (m - len)).map fun j => D (len + j))) := by
      rw [hy]
      simp only [DataW.weights, Tryz.underlying22, Tryz.bytesPtE, List.length_map, List.length_range]
    have hb9 : len ≤ 140737488351232 := by
      have := hw ((len + (m - len)) * 24) (by rw [hwt]; exact List.mem_cons_self)
      omega
    have hwD : ∀ j, j < len → ∀ x ∈ (D j).weights Tryz.prog 29, x ≤ 140737488351232 := fun j hj x hx => hw x (by
      rw [hwt]
      exact List.mem_cons_of_mem _ (List.mem_append_left _ (wAllT (List.mem_map_of_mem (List.mem_range.2 hj)) hx)))
    obtain ⟨f, hF⟩ := Go.Deep.choose_lt (α := Pt) (n := len) (p := fun j p => a.block < W.heap.size ∧ W.cell? (a.add (j * 2)) = some (.string (bs p.k)) ∧ W.cell? ⟨(a.add (j * 2)).block, (a.add (j * 2)).off + 1, none⟩ = some (.int .i64 p.a) ∧ p.k.length ≤ 140737488355328) (fun j hj => by
      obtain ⟨cs, h1, h2⟩ := hx j (by omega)
      rw [Tryz.cellsPtE] at h1
      obtain ⟨_, hlen, hc⟩ := World.cells?_some h1
      obtain ⟨c0, c1, rfl⟩ := list2T hlen
      obtain ⟨ys, n', _, hD, _, hyl, hg⟩ := DataW.trod_struct Tryz.underlying29 h2
      obtain ⟨y0, y1, rfl⟩ := list2T hyl
      have g0 := hg 0 _ rfl
      have g1 := hg 1 _ rfl
      simp [Tryz.cellsIntE, Tryz.cellsStrE] at g0 g1
      obtain ⟨s0, e0, d0, k0⟩ := DataW.trod_string Tryz.underlying9 g0
      obtain ⟨z, e1, _, _⟩ := DataW.trod_int Tryz.underlying3 g1
      simp at e0 e1
      subst e0 e1
      have q0 := hc 0 (by omega)
      have q1 := hc 1 (by omega)
      rw [add_zero] at q0
      rw [add_pos _ (by omega)] at q1
      have e : (a.add (j * 2)).block = a.block := by unfold Addr.add; split <;> rfl
      have hb := World.block_lt_of_cell? W _ q0
      have hks : s0.data.toList.length ≤ 140737488351232 := hwD j hj _ (by
        have hDj : D j = .agg [y0.1, y1.1] := congrArg Prod.fst hD
        rw [hDj]
        simp only [DataW.weights, Tryz.underlying29]
        refine DataW.weights_mem_each (j := 0) (t := 9) rfl rfl _ ?_
        have hd0 := congrArg Prod.fst d0
        simp only at hd0
        rw [hd0]
        simp [DataW.weights])
      exact ⟨⟨s0.data.toList, z⟩, by omega, by rw [bs_self]; exact q0, q1, by show s0.data.toList.length ≤ _; omega⟩)
    have hlen : ((List.range len).map f).length = len := by simp
    refine ⟨some a, (List.range len).map f, cap, by rw [hlen], ?_, by rw [hlen]; omega, fun p hp => ?_⟩
    · intro j hj
      rw [hlen] at hj
      obtain ⟨h0, h1, h2, _⟩ := hF j hj
      simp only [List.getElem_map, List.getElem_range]
      exact ⟨a, rfl, h0, h1, h2⟩
    · obtain ⟨j, hj, rfl⟩ := List.mem_map.1 hp
      exact (hF j (List.mem_range.1 hj)).2.2.2
set_option maxRecDepth 100000 in
theorem rawIn (hf : DataW.trod enc Tryz.prog W 0 (fun _ => true) true fuel 52 [v] = some y) (hw : ∀ x ∈ y.1.weights Tryz.prog 52, x ≤ 140737488351232) :
    ∃ (ao : Option Addr) (rs : List (List Pt)) (cap : Nat), v = .slice ao rs.length cap ∧ RawRow W.heap.size W ao rs := by
  rcases Go.Deep.open_slice Tryz.underlying52 hf with ⟨h1, _⟩ | ⟨a, len, cap, m, n, D, Pl, h1, _, hl, hm, hmm, hy, hx⟩
  · simp at h1
    subst h1
    exact ⟨none, [], 0, rfl, fun j hj => by simp at hj⟩
  · simp at h1
    subst h1
    simp only [if_true] at hmm
    have hwt : y.1.weights Tryz.prog 52 = (len + (m - len)) * 24 :: (DataW.weightsAll Tryz.prog 22 ((List.range len).map D) ++ DataW.weightsAll Tryz.prog 22 ((List.range (m - len)).map fun j => D (len + j))) := by
      rw [hy]
      simp only [DataW.weights, Tryz.underlying52, Tryz.bytesPsE, List.length_map, List.length_range]
    have hwD : ∀ j, j < len → ∀ x ∈ (D j).weights Tryz.prog 22, x ≤ 140737488351232 := fun j hj x hx => hw x (by
      rw [hwt]
      exact List.mem_cons_of_mem _ (List.mem_append_left _ (wAllT (List.mem_map_of_mem (List.mem_range.2 hj)) hx)))
    obtain ⟨f, hF⟩ := Go.Deep.choose_lt (α := List Pt) (n := len) (p := fun j l => a.block < W.heap.size ∧ ∃ qa qc, W.cell? (a.add j) = some (.slice qa l.length qc) ∧ PtRow W.heap.size W qa l ∧ l.length ≤ 140737488355328 ∧ ∀ p ∈ l, p.k.length ≤ 140737488355328) (fun j hj => by
      obtain ⟨cs, h1, h2⟩ := hx j (by omega)
      rw [Tryz.cellsPsE, Nat.mul_one] at h1
      obtain ⟨_, hlen, hc⟩ := World.cells?_some h1
      obtain ⟨c0, rfl⟩ := List.length_eq_one_iff.1 hlen
      obtain ⟨ao, ps, c, rfl, e1, e2, e3⟩ := partsIn h2 (hwD j hj)
      have q0 := hc 0 (by omega)
      rw [add_zero] at q0
      have e : (a.add j).block = a.block := by unfold Addr.add; split <;> rfl
      have hb := World.block_lt_of_cell? W _ q0
      exact ⟨ps, by omega, ao, c, q0, e1, e2, e3⟩)
    have hlen : ((List.range len).map f).length = len := by simp
    refine ⟨some a, (List.range len).map f, cap, by rw [hlen], ?_⟩
    intro j hj
    rw [hlen] at hj
    obtain ⟨h0, qa, qc, h1, h2, h3, h4⟩ := hF j hj
    simp only [List.getElem_map, List.getElem_range]
    exact ⟨a, rfl, h0, qa, qc, h1, h2, h3, h4⟩
end
end Go.Proofs.YtgkacepcggjfkaaGreatDoor
