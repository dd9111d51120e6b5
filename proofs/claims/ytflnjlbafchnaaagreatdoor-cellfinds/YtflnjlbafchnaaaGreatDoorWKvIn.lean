/-
  Pairs and commands that are handed in: what the form says of them.
-/
import Derived.Test.YtflnjlbafchnaaaGreatDoorRows
import Derived.Test.YtflnjlbafchnaaaGreatDoorWKvC
import Derived.ProofKit
import Derived.OpenShut
import Derived.ShutString
import Derived.ChangeOld
import Derived.SizedLaws
import Derived.ChangeSlices
import Derived.Lib.SmallJoins
import Derived.Deep.Strs
import Derived.Deep.Slices
namespace Go.Proofs.YtflnjlbafchnaaaGreatDoor
open Go.ChangeShapes Go.WideShapes Go.ChangeAt Go.RowKit
open Go.ChangeMaps (open_string shut_string)

theorem Tryz.ownE : ownKnob Tryz.prog.godebug = none := by kernel_rfl
theorem Tryz.laidOutE : laidOutB Tryz.prog = true := by kernel_rfl
theorem Tryz.cellsIntE : Tryz.prog.cellsOf 3 = 1 := by kernel_rfl
theorem Tryz.cellsStrE : Tryz.prog.cellsOf 9 = 1 := by kernel_rfl
theorem Tryz.cellsPrE : Tryz.prog.cellsOf 63 = 3 := by kernel_rfl
theorem Tryz.cellsCmE : Tryz.prog.cellsOf 31 = 4 := by kernel_rfl
theorem Tryz.bytesPrE : Tryz.prog.bytesOf 63 = 40 := by kernel_rfl
theorem Tryz.bytesCmE : Tryz.prog.bytesOf 31 = 48 := by kernel_rfl
theorem list3 {α : Type} {cs : List α} (h : cs.length = 3) : ∃ a b c, cs = [a, b, c] := by
  match cs, h with
  | [a, b, c], _ => exact ⟨a, b, c, rfl⟩
theorem list4 {α : Type} {cs : List α} (h : cs.length = 4) : ∃ a b c d, cs = [a, b, c, d] := by
  match cs, h with
  | [a, b, c, d], _ => exact ⟨a, b, c, d, rfl⟩
theorem add_pos (a : Addr) {i : Nat} (h : 0 < i) : a.add i = ⟨a.block, a.off + i, none⟩ := by unfold Addr.add; rw [if_neg (by omega)]
theorem add_zero (a : Addr) : a.add 0 = a := rfl
instance : Inhabited Pr := ⟨⟨[], [], 0⟩⟩
instance : Inhabited Cm := ⟨⟨0, [], [], 0⟩⟩

section
variable {H : Type} {enc : TypeId × Value → H} {W : World} {fuel : Nat} {v : Value} {y : DataW H × List MemPlace}

set_option maxRecDepth 100000 in
theorem pairsIn (hf : DataW.trod enc Tryz.prog W 0 (fun _ => true) true fuel 55 [v] = some y) :
    ∃ (ao : Option Addr) (ps : List Pr) (cap : Nat), v = .slice ao ps.length cap ∧ PairRow W.heap.size W ao ps ∧ (ao = none → ps = [] ∧ cap = 0) ∧ (ps = [] ∨ ∃ sp el : List (DataW H), y.1 = .slice el sp ∧ el.length = ps.length) := by
  rcases Go.Deep.open_slice Tryz.underlying55 hf with ⟨h1, _⟩ | ⟨a, len, cap, m, n, D, Pl, h1, _, hl, hm, hmm, hy, hx⟩
  · simp at h1
    subst h1
    exact ⟨none, [], 0, rfl, pairRow_nil _ _ _, fun _ => ⟨rfl, rfl⟩, .inl rfl⟩
  · simp at h1
    subst h1
    simp only [if_true] at hmm
    obtain ⟨f, hF⟩ := Go.Deep.choose_lt (α := Pr) (n := len) (p := fun j p => a.block < W.heap.size ∧ W.cell? (a.add (j * 3)) = some (.string (bs p.k)) ∧ W.cell? ⟨(a.add (j * 3)).block, (a.add (j * 3)).off + 1, none⟩ = some (.string (bs p.v)) ∧ W.cell? ⟨(a.add (j * 3)).block, (a.add (j * 3)).off + 2, none⟩ = some (.int .i64 p.n) ∧ p.k.length ≤ maxLen ∧ p.v.length ≤ maxLen) (fun j hj => by
      obtain ⟨cs, h1, h2⟩ := hx j (by omega)
      rw [Tryz.cellsPrE] at h1
      obtain ⟨_, hlen, hc⟩ := World.cells?_some h1
      obtain ⟨c0, c1, c2, rfl⟩ := list3 hlen
      obtain ⟨y0, y1, y2, n', _, _, g0, g1, g2⟩ := Go.Deep.trod_struct3 Tryz.underlying63 h2
      obtain ⟨s0, e0, _, k0⟩ := DataW.trod_string Tryz.underlying9 g0
      obtain ⟨s1, e1, _, k1⟩ := DataW.trod_string Tryz.underlying9 g1
      obtain ⟨z, e2, _, _⟩ := DataW.trod_int Tryz.underlying3 g2
      simp [Tryz.cellsIntE, Tryz.cellsStrE] at e0 e1 e2
      subst e0 e1 e2
      have q0 := hc 0 (by omega)
      have q1 := hc 1 (by omega)
      have q2 := hc 2 (by omega)
      rw [add_zero] at q0
      rw [add_pos _ (by omega)] at q1 q2
      have e : (a.add (j * 3)).block = a.block := by unfold Addr.add; split <;> rfl
      have hb := World.block_lt_of_cell? W _ q0
      exact ⟨⟨s0.data.toList, s1.data.toList, z⟩, by omega, by rw [bs_self]; exact q0, by rw [bs_self]; exact q1, q2, by rw [← bs_size, bs_self]; exact k0, by rw [← bs_size, bs_self]; exact k1⟩)
    have hlen : ((List.range len).map f).length = len := by simp
    refine ⟨some a, (List.range len).map f, cap, by rw [hlen], ?_, (fun e => by cases e), .inr ⟨_, _, by rw [hy], by simp⟩⟩
    intro j hj
    rw [hlen] at hj
    obtain ⟨h0, h1, h2, h3, h4, h5⟩ := hF j hj
    simp only [List.getElem_map, List.getElem_range]
    exact ⟨a, rfl, h0, h1, h2, h3, h4, h5⟩

end
theorem pairsSize {H : Type} {ps : List Pr} {y : DataW H} (h : ps = [] ∨ ∃ sp el : List (DataW H), y = .slice el sp ∧ el.length = ps.length) (hw : ∀ x ∈ y.weights Tryz.prog 55, x ≤ 140737488351232) : ps.length ≤ 3518437208780 := by
  rcases h with rfl | ⟨sp, el, he, hl⟩
  · simp
  · have := hw ((el.length + sp.length) * 40) (by rw [he]; simp only [DataW.weights, Tryz.underlying55, Tryz.bytesPrE]; exact List.mem_cons_self)
    omega
end Go.Proofs.YtflnjlbafchnaaaGreatDoor
