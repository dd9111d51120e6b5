/-
  DelegExact: the document's edges.
-/
import Derived.Test.YtmlncfnnldplgaaWDx1
import Derived.Test.YtmlncfnnldplgaaWStepA
import Derived.Deep.LoopGhost
namespace Go.Proofs.Ytmlncfnnldplgaa
open Go.RowKit

/-- A text put into its place. -/
def insT (out : List (List UInt8)) (x : List UInt8) : List (List UInt8) := if out[out.findIdx (fun y => !lessB y x)]? = some x then out else out.take (out.findIdx (fun y => !lessB y x)) ++ [x] ++ out.drop (out.findIdx (fun y => !lessB y x))
def edgesL (l : List Bd) (fr up : List UInt8) : List (List UInt8) := (fr :: up :: l.map Bd.f).foldl insT []
theorem insT_len (out : List (List UInt8)) (x : List UInt8) : (insT out x).length ≤ out.length + 1 := by
  unfold insT
  split
  · omega
  · simp [List.length_take, List.length_drop]
    have := List.findIdx_le_length (p := fun y => !lessB y x) (xs := out)
    omega
theorem OwnTd.block {B c : Nat} {w : World} {ao : Option Addr} {ks : List (List UInt8)} (h : OwnTd B w ao c ks) (h0 : ao ≠ none) : ∃ g cs, ao = some ⟨g, 0, none⟩ ∧ B ≤ g ∧ w.heap[g]? = some (.cells cs 9 (0, 0)) ∧ ks.length ≤ c ∧ c ≤ maxLen ∧ cs.size = c ∧ cs.toList.take ks.length = tdCells ks := by
  rcases h.2 with ⟨h1, h2⟩ | ⟨g, cap, cur, hv, hb, hh, h1, h2, h3, h4⟩
  · simp only [Value.slice.injEq] at h1
    exact absurd h1.1 h0
  · simp only [Value.slice.injEq] at hv
    obtain ⟨rfl, _, rfl⟩ := hv
    exact ⟨g, cur, rfl, hb, hh, h1, h2, by omega, by rw [Nat.mul_one] at h4; exact h4⟩
theorem OwnTd.none {B c : Nat} {w : World} {ks : List (List UInt8)} (h : OwnTd B w none c ks) : ks = [] ∧ c = 0 := by
  rcases h.2 with ⟨h1, _⟩ | ⟨g, cap, cur, hv, _⟩
  · simp at h1
    exact ⟨h1.1, h1.2⟩
  · simp at hv
theorem OwnTd.mono {B B' c : Nat} {w : World} {ao : Option Addr} {ps : List (List UInt8)} (h : OwnTd B w ao c ps) (hb : B' ≤ B) : OwnTd B' w ao c ps := by
  refine ⟨h.1, h.2.imp id ?_⟩
  rintro ⟨g, cap, cur, h1, h2, h3⟩
  exact ⟨g, cap, cur, h1, Nat.le_trans hb h2, h3⟩
theorem OwnTd.cellT {B c g j : Nat} {w : World} {ks : List (List UInt8)} (h : OwnTd B w (some ⟨g, 0, .none⟩) c ks) (hj : j < ks.length) : w.cell? ⟨g, j, .none⟩ = some (.string (bs ks[j])) := by
  obtain ⟨g', e, _, hc⟩ := h.cell hj
  cases e
  exact hc
theorem OwnTd.head {B g c i : Nat} {w : World} {fs : List (List UInt8)} (h : OwnTd B w (some ⟨g, 0, .none⟩) c fs) (hi : i ≤ fs.length) : w.ownsRow B 9 1 (.slice (some ⟨g, 0, .none⟩) i c) i (tdCells (fs.take i)) := by
  obtain ⟨g', cs, e0, hb, hh, h1, h2, h3, h4⟩ := h.block (by simp)
  cases e0
  refine ⟨by rw [tdCells_len, List.length_take]; omega, .inr ⟨g, c, cs, rfl, hb, hh, by omega, h2, by omega, ?_⟩⟩
  rw [Nat.mul_one, show tdCells (fs.take i) = (tdCells fs).take i by simp [tdCells, List.map_take], ← h4, List.take_take, Nat.min_eq_left hi]
theorem OwnTd.srcD {B g c i d : Nat} {w : World} {fs : List (List UInt8)} (h : OwnTd B w (some ⟨g, 0, .none⟩) c fs) : Src Try.prog 1 54 (.slice (some ⟨g, i, .none⟩) (fs.length - i) d) (fs.length - i) (tdCells (fs.drop i)) w := by
  refine Src.ofSlice _ Try.underlying54 ⟨g, i, .none⟩ (fs.length - i) d _ (by rw [tdCells_len, List.length_drop]) ?_ (tdCells_one _)
  intro j u hj
  have hlt : j < fs.length - i := by have := (List.getElem?_eq_some_iff.1 hj).1; simpa [tdCells] using this
  have hc := h.cellT (j := i + j) (by omega)
  have e : (⟨g, i, .none⟩ : Addr).add j = ⟨g, i + j, .none⟩ := by unfold Addr.add; split <;> simp_all
  rw [e, hc, ← hj]
  simp [tdCells, show i + j < fs.length by omega]
theorem OwnTd.src {B c : Nat} {w : World} {ao : Option Addr} {fs : List (List UInt8)} (h : OwnTd B w ao c fs) : Src Try.prog 1 54 (.slice ao fs.length c) fs.length (tdCells fs) w := by
  cases ao with
  | none =>
    obtain ⟨rfl, rfl⟩ := h.none
    exact Src.ofNil _ Try.underlying54 0
  | some a =>
    obtain ⟨g, cs, e0, _⟩ := h.block (by simp)
    cases e0
    exact h.srcD (i := 0)
theorem oneT_src (w : World) (x : List UInt8) : Src Try.prog 1 54 (.slice (some ⟨w.heap.size, 0, .none⟩) 1 1) 1 [.string (bs x)] (w.alloc (.cells #[.string (bs x)] 9)) := by
  refine Src.ofSlice _ Try.underlying54 ⟨w.heap.size, 0, .none⟩ 1 1 _ rfl ?_ (fun u hu => by simp at hu; subst hu; rfl)
  intro j u hj
  have : j = 0 := by have := (List.getElem?_eq_some_iff.1 hj).1; simpa using this
  subst this
  rw [addr_addE, blk_cell (blk_new w (.cells #[.string (bs x)] 9)), ← hj]
  rfl
theorem OwnTd.app {B c n m : Nat} {w : World} {ao : Option Addr} {fs gs : List (List UInt8)} (hn : n = fs.length) (hm : m = gs.length) (h : w.ownsRow B 9 1 (.slice ao (n + m) c) (n + m) (tdCells fs ++ tdCells gs)) : OwnTd B w ao c (fs ++ gs) := by
  subst hn
  subst hm
  show World.ownsRow _ _ _ _ _ _ _
  rw [List.length_append, show tdCells (fs ++ gs) = tdCells fs ++ tdCells gs by simp [tdCells]]
  exact h

end Go.Proofs.Ytmlncfnnldplgaa
