/-
  Jobs that are handed in: what the form says of them.
-/
import Derived.Test.YtflnjlbafchnaaaGreatDoorWKvIn
import Derived.Test.YtflnjlbafchnaaaGreatDoorWCkA
namespace Go.Proofs.YtflnjlbafchnaaaGreatDoor
open Go.ChangeShapes Go.WideShapes Go.ChangeAt Go.RowKit
open Go.ChangeMaps (open_string shut_string)

theorem Tryz.cellsBgE : Tryz.prog.cellsOf 91 = 6 := by kernel_rfl
theorem Tryz.bytesBgE : Tryz.prog.bytesOf 91 = 64 := by kernel_rfl
theorem Tryz.cellsJoE : Tryz.prog.cellsOf 66 = 5 := by kernel_rfl
instance : Inhabited Br := ⟨⟨0, [], [], 0, 0, 0⟩⟩
theorem list2C {α : Type} {cs : List α} (h : cs.length = 2) : ∃ a b, cs = [a, b] := by
  match cs, h with
  | [a, b], _ => exact ⟨a, b, rfl⟩
theorem list6C {α : Type} {cs : List α} (h : cs.length = 6) : ∃ a b c d e f, cs = [a, b, c, d, e, f] := by
  match cs, h with
  | [a, b, c, d, e, f], _ => exact ⟨a, b, c, d, e, f, rfl⟩
theorem array6C {α : Type} {cs : Array α} (h : cs.size = 6) : ∃ a b c d e f, cs = #[a, b, c, d, e, f] := by
  obtain ⟨l⟩ := cs
  obtain ⟨a, b, c, d, e, f, rfl⟩ := list6C (cs := l) h
  exact ⟨a, b, c, d, e, f, rfl⟩
theorem wAllC {H : Type} {e : TypeId} {d : DataW H} {x : Nat} : ∀ {l : List (DataW H)}, d ∈ l → x ∈ d.weights Tryz.prog e → x ∈ DataW.weightsAll Tryz.prog e l
  | [], h, _ => by cases h
  | c :: l, h, hx => by
    rw [DataW.weightsAll]
    rcases List.mem_cons.1 h with rfl | h
    · exact List.mem_append_left _ hx
    · exact List.mem_append_right _ (wAllC h hx)
section
variable {H : Type} {enc : TypeId × Value → H} {W : World} {fuel : Nat} {v : Value} {y : DataW H × List MemPlace}
theorem intsInC (hf : DataW.trod enc Tryz.prog W 0 (fun _ => true) true fuel 37 [v] = some y) :
    ∃ (ao : Option Addr) (zs : List Int) (cap : Nat), v = .slice ao zs.length cap ∧ IntRow W.heap.size W ao zs := by
  rcases open_ints Tryz.underlying37 Tryz.underlying3 Tryz.cellsIntE hf with ⟨h1, _⟩ | ⟨a', len, cap, zs, h1, _, hl, hm, hz, hy, hc, _⟩
  · simp at h1
    subst h1
    exact ⟨none, [], 0, rfl, fun j hj => by simp at hj⟩
  · simp at h1
    subst h1
    simp only [if_true] at hz
    have hlen : (zs.take len).length = len := by rw [List.length_take]; omega
    refine ⟨some a', zs.take len, cap, by rw [hlen], ?_⟩
    intro j hj
    rw [hlen] at hj
    have hcj := hc j (by omega)
    have e : (a'.add j).block = a'.block := by unfold Addr.add; split <;> rfl
    have hb := World.block_lt_of_cell? W _ hcj
    refine ⟨a', rfl, by omega, ?_⟩
    rw [hcj]
    have hz2 : j < zs.length := by omega
    simp [List.getElem_take, hz2]
set_option maxRecDepth 100000 in
theorem brOpen {c0 c1 c2 c3 c4 c5 : Value} (h2 : DataW.trod enc Tryz.prog W 0 (fun _ => true) true fuel 91 [c0, c1, c2, c3, c4, c5] = some y) (hw : ∀ x ∈ y.1.weights Tryz.prog 91, x ≤ 140737488351232) :
    ∃ r : Br, c0 = .int .i64 r.kd ∧ c1 = .string (bs r.k) ∧ c2 = .string (bs r.v) ∧ c3 = .int .i64 r.m ∧ c4 = .int .i64 r.tg ∧ c5 = .int .i64 r.at' ∧ (r.k.length : Int) ≤ 140737488355328 ∧ (r.v.length : Int) ≤ 140737488355328 := by
  obtain ⟨ys, n', _, hD, _, hyl, hg⟩ := DataW.trod_struct Tryz.underlying91 h2
  obtain ⟨y0, y1, rfl⟩ := list2C hyl
  have g0 := hg 0 _ rfl
  have g1 := hg 1 _ rfl
  simp [Tryz.cellsIntE, Tryz.cellsJoE] at g0 g1
  obtain ⟨yj, nj, _, hDj, _, hylj, hgj⟩ := DataW.trod_struct Tryz.underlying66 g0
  obtain ⟨j0, j1, rfl⟩ := list2C hylj
  have gj0 := hgj 0 _ rfl
  have gj1 := hgj 1 _ rfl
  simp [Tryz.cellsIntE, Tryz.cellsCmE] at gj0 gj1
  obtain ⟨yc, nc, _, hDc, _, hylc, hgc⟩ := DataW.trod_struct Tryz.underlying31 gj0
  obtain ⟨q0, q1, q2, q3, rfl⟩ := list4 hylc
  have k0 := hgc 0 _ rfl
  have k1 := hgc 1 _ rfl
  have k2 := hgc 2 _ rfl
  have k3 := hgc 3 _ rfl
  simp [Tryz.cellsIntE, Tryz.cellsStrE] at k0 k1 k2 k3
  obtain ⟨z0, e0, _, _⟩ := DataW.trod_int Tryz.underlying3 k0
  obtain ⟨s1, e1, d1, _⟩ := DataW.trod_string Tryz.underlying9 k1
  obtain ⟨s2, e2, d2, _⟩ := DataW.trod_string Tryz.underlying9 k2
  obtain ⟨z3, e3, _, _⟩ := DataW.trod_int Tryz.underlying3 k3
  obtain ⟨z4, e4, _, _⟩ := DataW.trod_int Tryz.underlying3 gj1
  obtain ⟨z5, e5, _, _⟩ := DataW.trod_int Tryz.underlying3 g1
  simp at e0 e1 e2 e3 e4 e5
  subst e0 e1 e2 e3 e4 e5
  have w0 : ∀ x ∈ y0.1.weights Tryz.prog 66, x ≤ 140737488351232 := fun x hx => hw x (by
    have e : y.1 = .agg [y0.1, y1.1] := congrArg Prod.fst hD
    rw [e]
    simp only [DataW.weights, Tryz.underlying91]
    exact DataW.weights_mem_each (j := 0) (t := 66) rfl rfl _ hx)
  have w1 : ∀ x ∈ j0.1.weights Tryz.prog 31, x ≤ 140737488351232 := fun x hx => w0 x (by
    have e : y0.1 = .agg [j0.1, j1.1] := congrArg Prod.fst hDj
    rw [e]
    simp only [DataW.weights, Tryz.underlying66]
    exact DataW.weights_mem_each (j := 0) (t := 31) rfl rfl _ hx)
  have ec : j0.1 = .agg [q0.1, q1.1, q2.1, q3.1] := congrArg Prod.fst hDc
  have l1 : s1.data.toList.length ≤ 140737488351232 := w1 _ (by
    rw [ec]
    simp only [DataW.weights, Tryz.underlying31]
    refine DataW.weights_mem_each (j := 1) (t := 9) rfl rfl _ ?_
    have hd := congrArg Prod.fst d1
    simp only at hd
    rw [hd]
    simp [DataW.weights])
  have l2 : s2.data.toList.length ≤ 140737488351232 := w1 _ (by
    rw [ec]
    simp only [DataW.weights, Tryz.underlying31]
    refine DataW.weights_mem_each (j := 2) (t := 9) rfl rfl _ ?_
    have hd := congrArg Prod.fst d2
    simp only at hd
    rw [hd]
    simp [DataW.weights])
  exact ⟨⟨z0, s1.data.toList, s2.data.toList, z3, z4, z5⟩, rfl, by rw [bs_self], by rw [bs_self], rfl, rfl, rfl, by show (s1.data.toList.length : Int) ≤ _; omega, by show (s2.data.toList.length : Int) ≤ _; omega⟩
set_option maxRecDepth 100000 in
theorem begunsIn (hf : DataW.trod enc Tryz.prog W 0 (fun _ => true) true fuel 87 [v] = some y) (hw : ∀ x ∈ y.1.weights Tryz.prog 87, x ≤ 140737488351232) :
    ∃ (ao : Option Addr) (rs : List Br) (cap : Nat), v = .slice ao rs.length cap ∧ BrRow W.heap.size W ao rs := by
  rcases Go.Deep.open_slice Tryz.underlying87 hf with ⟨h1, _⟩ | ⟨a, len, cap, m, n, D, Pl, h1, _, hl, hm, hmm, hy, hx⟩
  · simp at h1
    subst h1
    exact ⟨none, [], 0, rfl, fun j hj => by simp at hj⟩
  · simp at h1
    subst h1
    simp only [if_true] at hmm
    have hwt : y.1.weights Tryz.prog 87 = (len + (m - len)) * 64 :: (DataW.weightsAll Tryz.prog 91 ((List.range len).map D) ++ DataW.weightsAll Tryz.prog 91 ((List.range (m - len)).map fun j => D (len + j))) := by
      rw [hy]
      simp only [DataW.weights, Tryz.underlying87, Tryz.bytesBgE, List.length_map, List.length_range]
    have hwD : ∀ j, j < len → ∀ x ∈ (D j).weights Tryz.prog 91, x ≤ 140737488351232 := fun j hj x hx => hw x (by
      rw [hwt]
      exact List.mem_cons_of_mem _ (List.mem_append_left _ (wAllC (List.mem_map_of_mem (List.mem_range.2 hj)) hx)))
    obtain ⟨f, hF⟩ := Go.Deep.choose_lt (α := Br) (n := len) (p := fun j r => a.block < W.heap.size ∧ W.cell? (a.add (j * 6)) = some (.int .i64 r.kd) ∧ W.cell? ⟨(a.add (j * 6)).block, (a.add (j * 6)).off + 1, none⟩ = some (.string (bs r.k)) ∧ W.cell? ⟨(a.add (j * 6)).block, (a.add (j * 6)).off + 2, none⟩ = some (.string (bs r.v)) ∧ W.cell? ⟨(a.add (j * 6)).block, (a.add (j * 6)).off + 3, none⟩ = some (.int .i64 r.m) ∧ W.cell? ⟨(a.add (j * 6)).block, (a.add (j * 6)).off + 4, none⟩ = some (.int .i64 r.tg) ∧ W.cell? ⟨(a.add (j * 6)).block, (a.add (j * 6)).off + 5, none⟩ = some (.int .i64 r.at') ∧ (r.k.length : Int) ≤ 140737488355328 ∧ (r.v.length : Int) ≤ 140737488355328) (fun j hj => by
      obtain ⟨cs, h1, h2⟩ := hx j (by omega)
      rw [Tryz.cellsBgE] at h1
      obtain ⟨_, hlen, hc⟩ := World.cells?_some h1
      obtain ⟨c0, c1, c2, c3, c4, c5, rfl⟩ := list6C hlen
      obtain ⟨r, e0, e1, e2, e3, e4, e5, l1, l2⟩ := brOpen h2 (hwD j hj)
      subst e0 e1 e2 e3 e4 e5
      have q0 := hc 0 (by omega)
      have q1 := hc 1 (by omega)
      have q2 := hc 2 (by omega)
      have q3 := hc 3 (by omega)
      have q4 := hc 4 (by omega)
      have q5 := hc 5 (by omega)
      rw [add_zero] at q0
      rw [add_pos _ (by omega)] at q1 q2 q3 q4 q5
      have e : (a.add (j * 6)).block = a.block := by unfold Addr.add; split <;> rfl
      have hb := World.block_lt_of_cell? W _ q0
      exact ⟨r, by omega, q0, q1, q2, q3, q4, q5, l1, l2⟩)
    have hlen : ((List.range len).map f).length = len := by simp
    refine ⟨some a, (List.range len).map f, cap, by rw [hlen], ?_⟩
    intro j hj
    rw [hlen] at hj
    have h := hF j hj
    simp only [List.getElem_map, List.getElem_range]
    exact ⟨a, rfl, h⟩
set_option maxRecDepth 100000 in
theorem begunIn {b0 : Nat} {d : DataW H} {p : List MemPlace} {r : Reach} (hv : Value.okWide Tryz.prog W r b0 91 v) (h : DataW.Trod enc Tryz.prog W 0 (fun _ => true) true 91 v d p) (hsz : ∀ x ∈ d.weights Tryz.prog 91, x ≤ 140737488351232) :
    ∃ m : Br, v = brV m ∧ (m.k.length : Int) ≤ 140737488355328 ∧ (m.v.length : Int) ≤ 140737488355328 := by
  obtain ⟨cs, rfl, hsize⟩ := okWide_struct Tryz.underlying91 hv
  obtain ⟨c0, c1, c2, c3, c4, c5, rfl⟩ := array6C (hsize.trans Tryz.cellsBgE)
  obtain ⟨fuel, hf⟩ := h
  obtain ⟨m, e0, e1, e2, e3, e4, e5, l1, l2⟩ := brOpen hf hsz
  subst e0 e1 e2 e3 e4 e5
  exact ⟨m, rfl, l1, l2⟩
end
end Go.Proofs.YtflnjlbafchnaaaGreatDoor
