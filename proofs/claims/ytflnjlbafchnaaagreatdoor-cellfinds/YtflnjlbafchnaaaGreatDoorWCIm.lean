/-
  Maps, and a text, that are handed in: what the form says of them.
-/
import Derived.Test.YtflnjlbafchnaaaGreatDoorWKvIn
import Derived.Test.YtflnjlbafchnaaaGreatDoorWCh3
namespace Go.Proofs.YtflnjlbafchnaaaGreatDoor
open Go.ChangeShapes Go.WideShapes Go.ChangeAt Go.RowKit
open Go.ChangeMaps (open_string shut_string)

theorem wAllC {H : Type} {e : TypeId} {d : DataW H} {x : Nat} : ∀ {l : List (DataW H)}, d ∈ l → x ∈ d.weights Tryz.prog e → x ∈ DataW.weightsAll Tryz.prog e l
  | [], h, _ => by cases h
  | c :: l, h, hx => by
    rw [DataW.weightsAll]
    rcases List.mem_cons.1 h with rfl | h
    · exact List.mem_append_left _ hx
    · exact List.mem_append_right _ (wAllC h hx)
theorem Tryz.cellsPlE : Tryz.prog.cellsOf 55 = 1 := by kernel_rfl
theorem Tryz.bytesPlE : Tryz.prog.bytesOf 55 = 24 := by kernel_rfl
section
variable {H : Type} {enc : TypeId × Value → H} {W : World} {v : Value} {d : DataW H} {p : List MemPlace}
set_option maxRecDepth 100000 in
theorem strIn {r : Reach} {b0 : Nat} (hv : Value.okWide Tryz.prog W r b0 9 v) (h : DataW.Trod enc Tryz.prog W 0 (fun _ => true) true 9 v d p) (hsz : ∀ x ∈ d.weights Tryz.prog 9, x ≤ 140737488351232) :
    ∃ l : List UInt8, v = .string (bs l) ∧ (l.length : Int) ≤ 140737488351232 := by
  obtain ⟨s, rfl, rfl, rfl, _⟩ := open_string Tryz.underlying9 hv h
  have := hsz s.data.toList.length (by simp [DataW.weights])
  exact ⟨s.data.toList, by rw [bs_self], by omega⟩
set_option maxRecDepth 100000 in
theorem mapsIn {r : Reach} {b0 : Nat} (hv : Value.okWide Tryz.prog W r b0 81 v) (h : DataW.Trod enc Tryz.prog W 0 (fun _ => true) true 81 v d p) (hw : ∀ x ∈ d.weights Tryz.prog 81, x ≤ 140737488351232) :
    ∃ (ao : Option Addr) (ms : List (List Pr)) (cap : Nat), v = .slice ao ms.length cap ∧ MRow W ao ms ∧ (ms.length : Int) ≤ 5864062014634 := by
  obtain ⟨b2, len2, cap2, rfl⟩ := okWide_slice Tryz.underlying81 hv
  obtain ⟨fuel, hf⟩ := h
  simp only [Value.cells] at hf
  rcases Go.Deep.open_slice Tryz.underlying81 hf with ⟨h1, _⟩ | ⟨a, len, cap, m, n, D, Pl, h1, _, hl, hm, hmm, hy, hx⟩
  · simp at h1
    obtain ⟨rfl, rfl, rfl⟩ := h1
    exact ⟨none, [], 0, rfl, fun j hj => by simp at hj, by simp⟩
  · simp at h1
    obtain ⟨rfl, rfl, rfl⟩ := h1
    simp only [if_true] at hmm
    have hwt : d.weights Tryz.prog 81 = (len2 + (m - len2)) * 24 :: (DataW.weightsAll Tryz.prog 55 ((List.range len2).map D) ++ DataW.weightsAll Tryz.prog 55 ((List.range (m - len2)).map fun j => D (len2 + j))) := by
      have hy1 := congrArg Prod.fst hy
      simp only at hy1
      rw [hy1]
      simp only [DataW.weights, Tryz.underlying81, Tryz.bytesPlE, List.length_map, List.length_range]
    have hwD : ∀ j, j < len2 → ∀ x ∈ (D j).weights Tryz.prog 55, x ≤ 140737488351232 := fun j hj x hx => hw x (by
      rw [hwt]
      exact List.mem_cons_of_mem _ (List.mem_append_left _ (wAllC (List.mem_map_of_mem (List.mem_range.2 hj)) hx)))
    have hb9 : len2 ≤ 5864062014634 := by
      have := hw ((len2 + (m - len2)) * 24) (by rw [hwt]; exact List.mem_cons_self)
      omega
    obtain ⟨f, hF⟩ := Go.Deep.choose_lt (α := List Pr) (n := len2) (p := fun j l => a.block < W.heap.size ∧ ∃ qa qc, W.cell? (a.add j) = some (.slice qa l.length qc) ∧ PairRow W.heap.size W qa l ∧ (qa = none → l = [] ∧ qc = 0) ∧ (l.length : Int) ≤ 3518437208780) (fun j hj => by
      obtain ⟨cs, h1, h2⟩ := hx j (by omega)
      rw [Tryz.cellsPlE, Nat.mul_one] at h1
      obtain ⟨_, hlen, hc⟩ := World.cells?_some h1
      obtain ⟨c0, rfl⟩ := List.length_eq_one_iff.1 hlen
      obtain ⟨ao, ps, c, rfl, e1, e2, e3⟩ := pairsIn h2
      have e4 := pairsSize e3 (hwD j hj)
      have q0 := hc 0 (by omega)
      rw [add_zero] at q0
      have e : (a.add j).block = a.block := by unfold Addr.add; split <;> rfl
      have hb := World.block_lt_of_cell? W _ q0
      exact ⟨ps, by omega, ao, c, q0, e1, e2, by omega⟩)
    have hlen : ((List.range len2).map f).length = len2 := by simp
    refine ⟨some a, (List.range len2).map f, _, by rw [hlen], ?_, by rw [hlen]; omega⟩
    intro j hj
    rw [hlen] at hj
    obtain ⟨h0, qa, qc, h1, h2, h3, h4⟩ := hF j hj
    simp only [List.getElem_map, List.getElem_range]
    exact ⟨a, qa, qc, rfl, h0, h1, h2, h3, h4⟩
end
end Go.Proofs.YtflnjlbafchnaaaGreatDoor
