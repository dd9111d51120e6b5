/-
  Rows copied (the law's ints and conf), and held against each other (the document's SameInts and SameConfig).
-/
import Derived.Test.YtijklginabipgaaGreatWCfg3
namespace Go.Proofs.YtijklginabipgaaGreat
open Go.RowKit

def intCells (zs : List Int) : List Value := zs.map fun z => Value.int .i64 z
theorem add_at (g j : Nat) : (⟨g, 0, none⟩ : Addr).add j = ⟨g, j, none⟩ := by unfold Addr.add; split <;> simp_all

theorem src_row {B c : Nat} {w : World} {ao : Option Addr} {zs : List Int} (h : IntRow B w ao zs) (hn : ao = none → c = 0 ∨ True) : Src Tryz.prog 1 36 (.slice ao zs.length c) zs.length (intCells zs) w := by
  have _ := hn
  cases ao with
  | none =>
    have hz : zs = [] := by
      cases zs with
      | nil => rfl
      | cons z t =>
        obtain ⟨a, ha, _⟩ := h 0 (by simp)
        cases ha
    subst hz
    exact Src.ofNil w Tryz.underlying36 c
  | some a =>
    refine Src.ofSlice w Tryz.underlying36 a zs.length c (intCells zs) (by simp [intCells]) ?_ ?_
    · intro j u hj
      have hj' : j < zs.length := by
        have := (List.getElem?_eq_some_iff.1 hj).1
        simpa [intCells] using this
      obtain ⟨a', ha, _, hc⟩ := h j hj'
      simp only [Option.some.injEq] at ha
      subst ha
      rw [hc]
      simpa [intCells, hj'] using hj
    · intro u hu
      obtain ⟨_, _, rfl⟩ := List.mem_map.1 hu
      rfl

theorem row_own {B n c : Nat} {w : World} {ao : Option Addr} {zs rest : List Int} (h : w.ownsRow B 3 1 (.slice ao n c) n (intCells (zs ++ rest))) : IntRow w.heap.size w ao zs := by
  intro j hj
  rcases h.2 with ⟨_, h0⟩ | ⟨g, cap, cur, hv, hB, hg, _⟩
  · have := h.1
    simp [intCells] at this
    omega
  · simp only [Value.slice.injEq, true_and] at hv
    obtain ⟨rfl, rfl⟩ := hv
    refine ⟨⟨g, 0, none⟩, rfl, lt_of_block hg, ?_⟩
    have hlen := h.1
    simp only [intCells, List.length_map, List.length_append, Nat.mul_one] at hlen
    rw [add_at, World.ownsRow.cellAt h j (by omega)]
    have hj2 : j < (zs.map fun z => Value.int .i64 z).length := by simpa using hj
    rw [intCells, List.map_append, List.getElem?_append_left hj2]
    simp [hj]

theorem own_cap {B n c : Nat} {w : World} {ao : Option Addr} {xs : List Value} (h : w.ownsRow B 3 1 (.slice ao (n + 1) c) (n + 1) xs) : ∃ g, ao = some ⟨g, 0, none⟩ ∧ n + 1 ≤ c := by
  rcases h.2 with ⟨_, h0⟩ | ⟨g, cap, cur, hv, _, _, hc, _⟩
  · omega
  · simp only [Value.slice.injEq, true_and] at hv
    obtain ⟨rfl, rfl⟩ := hv
    exact ⟨g, rfl, hc⟩

end Go.Proofs.YtijklginabipgaaGreat
