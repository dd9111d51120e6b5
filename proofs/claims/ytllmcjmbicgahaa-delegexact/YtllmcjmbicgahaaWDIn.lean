/-
  What is handed in to the laws of delegations: what the form says of it.
-/
import Derived.Test.YtllmcjmbicgahaaRows
import Derived.Test.YtllmcjmbicgahaaWDf0
import Derived.ProofKit
import Derived.OpenShut
import Derived.ShutString
import Derived.ChangeOld
import Derived.SizedLaws
import Derived.ChangeSlices
import Derived.JoinedCond
import Derived.Lib.SmallJoins
import Derived.Carry
import Derived.Deep.Slices
import Derived.Deep.Strs
namespace Go.Proofs.Ytllmcjmbicgahaa
open Go.ChangeShapes Go.WideShapes Go.ChangeAt Go.RowKit
open Go.ChangeMaps (open_string shut_string)

theorem Try.ownE : ownKnob Try.prog.godebug = none := by kernel_rfl
theorem Try.laidOutE : laidOutB Try.prog = true := by kernel_rfl
theorem Try.cellsIntE : Try.prog.cellsOf 3 = 1 := by kernel_rfl
theorem Try.cellsStrE : Try.prog.cellsOf 9 = 1 := by kernel_rfl
theorem Try.cellsGvE : Try.prog.cellsOf 36 = 3 := by kernel_rfl
theorem Try.cellsBdE : Try.prog.cellsOf 26 = 2 := by kernel_rfl
theorem Try.bytesBdE : Try.prog.bytesOf 26 = 24 := by kernel_rfl
theorem list2 {α : Type} {cs : List α} (h : cs.length = 2) : ∃ a b, cs = [a, b] := by
  match cs, h with
  | [a, b], _ => exact ⟨a, b, rfl⟩
theorem list3 {α : Type} {cs : List α} (h : cs.length = 3) : ∃ a b c, cs = [a, b, c] := by
  match cs, h with
  | [a, b, c], _ => exact ⟨a, b, c, rfl⟩
theorem add_pos (a : Addr) {i : Nat} (h : 0 < i) : a.add i = ⟨a.block, a.off + i, none⟩ := by unfold Addr.add; rw [if_neg (by omega)]
theorem add_zero (a : Addr) : a.add 0 = a := rfl
instance : Inhabited Pr := ⟨⟨[], [], 0⟩⟩
instance : Inhabited Bd := ⟨⟨[], 0⟩⟩

/-! how much a datum holds -/
theorem bulk_pos {H : Type} (d : DataW H) : 0 < Rows.uptoBulk d := by
  cases d with
  | lit l => cases l <;> simp [Rows.uptoBulk]
  | _ => simp [Rows.uptoBulk]
theorem bulk_all {H : Type} : ∀ l : List (DataW H), l.length ≤ Rows.uptoBulkAll l
  | [] => Nat.zero_le _
  | d :: l => by
    have h1 := bulk_pos d
    have h2 := bulk_all l
    simp only [Rows.uptoBulkAll, List.length_cons]
    omega
theorem bulk_slice {H α : Type} {zs : List α} {d : DataW H} (h : zs = [] ∨ ∃ sp el : List (DataW H), d = .slice el sp ∧ el.length = zs.length) {k : Nat} (hk : Rows.uptoBulk d ≤ k) : zs.length ≤ k := by
  rcases h with rfl | ⟨sp, el, rfl, hl⟩
  · simp
  · have := bulk_all el
    simp only [Rows.uptoBulk] at hk
    omega


section
variable {H : Type} {enc : TypeId × Value → H} {W : World} {fuel : Nat} {v : Value} {y : DataW H × List MemPlace}

set_option maxRecDepth 100000 in
theorem keysIn (hf : DataW.trod enc Try.prog W 0 (fun _ => true) true fuel 33 [v] = some y) :
    ∃ (ao : Option Addr) (ks : List (List UInt8)) (cap : Nat), v = .slice ao ks.length cap ∧ StrRow W.heap.size W ao ks ∧ (ks = [] ∨ ∃ sp el : List (DataW H), y.1 = .slice el sp ∧ el.length = ks.length) := by
  rcases Go.Deep.open_strs Try.underlying33 Try.underlying9 Try.cellsStrE hf with ⟨h1, _⟩ | ⟨a, len, cap, m, Sx, h1, _, hl, hm, hmm, hy, hx⟩
  · simp at h1
    subst h1
    exact ⟨none, [], 0, rfl, fun j hj => by simp at hj, .inl rfl⟩
  · simp at h1
    subst h1
    simp only [if_true] at hmm
    have hlen : ((List.range len).map fun i => (Sx i).data.toList).length = len := by simp
    refine ⟨some a, (List.range len).map fun i => (Sx i).data.toList, cap, by rw [hlen], ?_, .inr ⟨_, _, by rw [hy], by simp⟩⟩
    intro j hj
    rw [hlen] at hj
    obtain ⟨h1, h2⟩ := hx j (by omega)
    have e : (a.add j).block = a.block := by unfold Addr.add; split <;> rfl
    have hb := World.block_lt_of_cell? W _ h1
    refine ⟨a, rfl, by omega, ?_, ?_⟩
    · rw [h1]; simp [bs_self]
    · have : (Sx j).data.toList.length = (Sx j).size := by rw [← bs_size, bs_self]
      simp only [List.getElem_map, List.getElem_range]
      omega

instance : Inhabited Pr := ⟨⟨[], [], 0⟩⟩


set_option maxRecDepth 100000 in
theorem givensIn (hf : DataW.trod enc Try.prog W 0 (fun _ => true) true fuel 32 [v] = some y) :
    ∃ (ao : Option Addr) (ps : List Pr) (cap : Nat), v = .slice ao ps.length cap ∧ PairRow W.heap.size W ao ps ∧ (ao = none → ps = [] ∧ cap = 0) ∧ (ps = [] ∨ ∃ sp el : List (DataW H), y.1 = .slice el sp ∧ el.length = ps.length) := by
  rcases Go.Deep.open_slice Try.underlying32 hf with ⟨h1, _⟩ | ⟨a, len, cap, m, n, D, Pl, h1, _, hl, hm, hmm, hy, hx⟩
  · simp at h1
    subst h1
    exact ⟨none, [], 0, rfl, pairRow_nil _ _ _, fun _ => ⟨rfl, rfl⟩, .inl rfl⟩
  · simp at h1
    subst h1
    simp only [if_true] at hmm
    obtain ⟨f, hF⟩ := Go.Deep.choose_lt (α := Pr) (n := len) (p := fun j p => a.block < W.heap.size ∧ W.cell? (a.add (j * 3)) = some (.string (bs p.k)) ∧ W.cell? ⟨(a.add (j * 3)).block, (a.add (j * 3)).off + 1, none⟩ = some (.string (bs p.v)) ∧ W.cell? ⟨(a.add (j * 3)).block, (a.add (j * 3)).off + 2, none⟩ = some (.int .i64 p.n) ∧ p.k.length ≤ maxLen ∧ p.v.length ≤ maxLen) (fun j hj => by
      obtain ⟨cs, h1, h2⟩ := hx j (by omega)
      rw [Try.cellsGvE] at h1
      obtain ⟨_, hlen, hc⟩ := World.cells?_some h1
      obtain ⟨c0, c1, c2, rfl⟩ := list3 hlen
      obtain ⟨y0, y1, y2, n', _, _, g0, g1, g2⟩ := Go.Deep.trod_struct3 Try.underlying36 h2
      obtain ⟨s0, e0, _, k0⟩ := DataW.trod_string Try.underlying9 g0
      obtain ⟨s1, e1, _, k1⟩ := DataW.trod_string Try.underlying9 g1
      obtain ⟨z, e2, _, _⟩ := DataW.trod_int Try.underlying3 g2
      simp [Try.cellsIntE, Try.cellsStrE] at e0 e1 e2
      subst e0 e1 e2
      have q0 := hc 0 (by omega)
      have q1 := hc 1 (by omega)
      have q2 := hc 2 (by omega)
      rw [add_zero] at q0
      rw [add_pos _ (by omega)] at q1 q2
      have e : (a.add (j * 3)).block = a.block := by unfold Addr.add; split <;> rfl
      have hb := World.block_lt_of_cell? W _ q0
      exact ⟨⟨s0.data.toList, s1.data.toList, z⟩, by omega, by rw [bs_self]; exact q0, by rw [bs_self]; exact q1, q2, by rw [← bs_size, bs_self]; exact k0, by rw [← bs_size, bs_self]; exact k1⟩)
    have hlen : ((List.range len).map f).length = len := by simp
    refine ⟨some a, (List.range len).map f, cap, by rw [hlen], ?_, (fun e => by cases e), .inr ⟨_, _, by rw [hy], by simp⟩⟩
    intro j hj
    rw [hlen] at hj
    obtain ⟨h0, h1, h2, h3, h4, h5⟩ := hF j hj
    simp only [List.getElem_map, List.getElem_range]
    exact ⟨a, rfl, h0, h1, h2, h3, h4, h5⟩


set_option maxRecDepth 100000 in
theorem boundsIn (hf : DataW.trod enc Try.prog W 0 (fun _ => true) true fuel 22 [v] = some y) :
    ∃ (ao : Option Addr) (ps : List Bd) (cap : Nat), v = .slice ao ps.length cap ∧ BdRow W.heap.size W ao ps ∧ (ao = none → ps = [] ∧ cap = 0) ∧ (ps = [] ∨ ∃ sp el : List (DataW H), y.1 = .slice el sp ∧ el.length = ps.length) ∧ ps.length ≤ cap ∧ cap ≤ maxLen := by
  rcases Go.Deep.open_slice Try.underlying22 hf with ⟨h1, _⟩ | ⟨a, len, cap, m, n, D, Pl, h1, _, hl, hm, hmm, hy, hx⟩
  · simp at h1
    subst h1
    exact ⟨none, [], 0, rfl, fun j hj => by simp at hj, fun _ => ⟨rfl, rfl⟩, .inl rfl, by simp, by unfold maxLen; omega⟩
  · simp at h1
    subst h1
    simp only [if_true] at hmm
    obtain ⟨f, hF⟩ := Go.Deep.choose_lt (α := Bd) (n := len) (p := fun j p => a.block < W.heap.size ∧ W.cell? (a.add (j * 2)) = some (.string (bs p.f)) ∧ W.cell? ⟨(a.add (j * 2)).block, (a.add (j * 2)).off + 1, none⟩ = some (.int .i64 p.h) ∧ p.f.length ≤ maxLen) (fun j hj => by
      obtain ⟨cs, h1, h2⟩ := hx j (by omega)
      rw [Try.cellsBdE] at h1
      obtain ⟨_, hlen, hc⟩ := World.cells?_some h1
      obtain ⟨c0, c1, rfl⟩ := list2 hlen
      obtain ⟨y0, y1, n', _, _, g0, g1⟩ := trod_struct2 Try.underlying26 h2
      obtain ⟨s0, e0, _, k0⟩ := DataW.trod_string Try.underlying9 g0
      obtain ⟨z1, e1, _, _⟩ := DataW.trod_int Try.underlying3 g1
      simp [Try.cellsIntE, Try.cellsStrE] at e0 e1
      subst e0 e1
      have q0 := hc 0 (by omega)
      have q1 := hc 1 (by omega)
      rw [add_zero] at q0
      rw [add_pos _ (by omega)] at q1
      have e : (a.add (j * 2)).block = a.block := by unfold Addr.add; split <;> rfl
      have hb := World.block_lt_of_cell? W _ q0
      exact ⟨⟨s0.data.toList, z1⟩, by omega, by rw [bs_self]; exact q0, q1, by rw [← bs_size, bs_self]; exact k0⟩)
    have hlen : ((List.range len).map f).length = len := by simp
    refine ⟨some a, (List.range len).map f, cap, by rw [hlen], ?_, (fun e => by cases e), .inr ⟨_, _, by rw [hy], by simp⟩, by rw [hlen]; omega, by omega⟩
    intro j hj
    rw [hlen] at hj
    obtain ⟨h0, h1, h2, h3⟩ := hF j hj
    simp only [List.getElem_map, List.getElem_range]
    exact ⟨a, rfl, h0, h1, h2, h3⟩
end

end Go.Proofs.Ytllmcjmbicgahaa
