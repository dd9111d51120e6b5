/-
  Relays: rows of packets and of parcels, of one's own.
-/
import Derived.Test.YtmlncfnnldplgaaWRm2
namespace Go.Proofs.Ytmlncfnnldplgaa
open Go.RowKit

structure Pk where
  fr : Int
  ds : Int
  nu : Int
  ak : Bool
  bd : List UInt8
structure Pc where
  fr : Int
  bd : List UInt8
def pkCell (x : Pk) : List Value := [.int .i64 x.fr, .int .i64 x.ds, .int .i64 x.nu, .bool x.ak, .string (bs x.bd)]
def pkCells (l : List Pk) : List Value := l.flatMap pkCell
def OwnPk (B : Nat) (w : World) (ao : Option Addr) (c : Nat) (l : List Pk) : Prop := w.ownsRow B 34 5 (.slice ao l.length c) l.length (pkCells l)
theorem pkCells_cons (o : Pk) (t : List Pk) : pkCells (o :: t) = .int .i64 o.fr :: .int .i64 o.ds :: .int .i64 o.nu :: .bool o.ak :: .string (bs o.bd) :: pkCells t := by simp [pkCells, pkCell]
theorem pkCells_app (a b : List Pk) : pkCells (a ++ b) = pkCells a ++ pkCells b := by simp [pkCells]
theorem pkCells_len (l : List Pk) : (pkCells l).length = l.length * 5 := by
  induction l with
  | nil => rfl
  | cons o t ih => rw [pkCells_cons]; simp only [List.length_cons, ih]; omega
theorem pkCells_at : ∀ (l : List Pk) (j : Nat) (hj : j < l.length), (pkCells l)[j * 5]? = some (.int .i64 l[j].fr) ∧ (pkCells l)[j * 5 + 1]? = some (.int .i64 l[j].ds) ∧ (pkCells l)[j * 5 + 2]? = some (.int .i64 l[j].nu) ∧ (pkCells l)[j * 5 + 3]? = some (.bool l[j].ak) ∧ (pkCells l)[j * 5 + 4]? = some (.string (bs l[j].bd))
  | [], j, hj => by simp at hj
  | o :: t, 0, hj => by simp [pkCells_cons]
  | o :: t, j + 1, hj => by
    have h := pkCells_at t j (by simpa using hj)
    have hx : ∀ i, (pkCells (o :: t))[(j + 1) * 5 + i]? = (pkCells t)[j * 5 + i]? := fun i => by
      rw [pkCells_cons, show (j + 1) * 5 + i = (j * 5 + i) + 1 + 1 + 1 + 1 + 1 by omega]
      simp only [List.getElem?_cons_succ]
    have hx0 := hx 0
    simp only [Nat.add_zero] at hx0
    rw [hx0, hx 1, hx 2, hx 3, hx 4]
    simpa using h
theorem pkCells_one (l : List Pk) : ∀ v ∈ pkCells l, v.oneCell' = true := fun u hu => by
  obtain ⟨o, _, hu⟩ := List.mem_flatMap.1 hu
  simp [pkCell] at hu
  rcases hu with rfl | rfl | rfl | rfl | rfl <;> rfl
theorem OwnPk.kept {B c : Nat} {w w' : World} {ao : Option Addr} {l : List Pk} (h : OwnPk B w ao c l) (hk : Kept Nil w w') : OwnPk B w' ao c l := own_kept h hk (fun _ _ _ x => x.elim)
theorem OwnPk.block {B c : Nat} {w : World} {ao : Option Addr} {l : List Pk} (h : OwnPk B w ao c l) (h0 : ao ≠ none) : ∃ g cs, ao = some ⟨g, 0, none⟩ ∧ B ≤ g ∧ w.heap[g]? = some (.cells cs 34 (0, 0)) ∧ l.length ≤ c ∧ c ≤ maxLen ∧ cs.size = c * 5 ∧ cs.toList.take (l.length * 5) = pkCells l := by
  rcases h.2 with ⟨h1, h2⟩ | ⟨g, cap, cur, hv, hb, hh, h1, h2, h3, h4⟩
  · simp only [Value.slice.injEq] at h1
    exact absurd h1.1 h0
  · simp only [Value.slice.injEq] at hv
    obtain ⟨rfl, _, rfl⟩ := hv
    exact ⟨g, cur, rfl, hb, hh, h1, h2, h3, h4⟩
theorem OwnPk.cells {B c : Nat} {w : World} {ao : Option Addr} {l : List Pk} (h : OwnPk B w ao c l) {j : Nat} (hj : j < l.length) : ∃ g, ao = some ⟨g, 0, none⟩ ∧ B ≤ g ∧ g < w.heap.size ∧ w.cell? ⟨g, j * 5, none⟩ = some (.int .i64 l[j].fr) ∧ w.cell? ⟨g, j * 5 + 1, none⟩ = some (.int .i64 l[j].ds) ∧ w.cell? ⟨g, j * 5 + 2, none⟩ = some (.int .i64 l[j].nu) ∧ w.cell? ⟨g, j * 5 + 3, none⟩ = some (.bool l[j].ak) ∧ w.cell? ⟨g, j * 5 + 4, none⟩ = some (.string (bs l[j].bd)) ∧ w.frozen? ⟨g, j * 5, none⟩ = false ∧ w.frozen? ⟨g, j * 5 + 1, none⟩ = false ∧ w.frozen? ⟨g, j * 5 + 2, none⟩ = false ∧ w.frozen? ⟨g, j * 5 + 3, none⟩ = false ∧ w.frozen? ⟨g, j * 5 + 4, none⟩ = false := by
  rcases h.2 with ⟨h1, h2⟩ | ⟨g, cap, cur, hv, hb, hh, h1, h2, h3, h4⟩
  · omega
  · simp only [Value.slice.injEq] at hv
    obtain ⟨rfl, _, rfl⟩ := hv
    have hc : ∀ i, i < l.length * 5 → cur[i]? = (pkCells l)[i]? := fun i hi => by
      have := congrArg (fun l => l[i]?) h4
      simpa only [List.getElem?_take, if_pos hi, Array.getElem?_toList] using this
    obtain ⟨e0, e1, e2, e3, e4⟩ := pkCells_at l j hj
    exact ⟨g, rfl, hb, lt_of_block hh, by rw [blk_cell hh, hc _ (by omega), e0], by rw [blk_cell hh, hc _ (by omega), e1], by rw [blk_cell hh, hc _ (by omega), e2], by rw [blk_cell hh, hc _ (by omega), e3], by rw [blk_cell hh, hc _ (by omega), e4], blk_free hh _, blk_free hh _, blk_free hh _, blk_free hh _, blk_free hh _⟩
theorem OwnPk.mono {B B' c : Nat} {w : World} {ao : Option Addr} {l : List Pk} (h : OwnPk B w ao c l) (hb : B' ≤ B) : OwnPk B' w ao c l := by
  refine ⟨h.1, h.2.imp id ?_⟩
  rintro ⟨g, cap, cur, h1, h2, h3⟩
  exact ⟨g, cap, cur, h1, Nat.le_trans hb h2, h3⟩
theorem OwnPk.none {B c : Nat} {w : World} {l : List Pk} (h : OwnPk B w none c l) : l = [] ∧ c = 0 := by
  rcases h.2 with ⟨h1, _⟩ | ⟨g, cap, cur, hv, _⟩
  · simp at h1
    exact ⟨h1.1, h1.2⟩
  · simp at hv
theorem Try.infoOwnPk : (Try.prog.info? 34).map (fun i => (i.zero, i.size, i.bytes)) = some (some (.agg #[.int .i64 0, .int .i64 0, .int .i64 0, .bool false, .string ⟨#[]⟩]), 5, 48) := by kernel_rfl
theorem OwnPk.src {B c : Nat} {w : World} {ao : Option Addr} {l : List Pk} (h : OwnPk B w ao c l) : Src Try.prog 5 28 (.slice ao l.length c) l.length (pkCells l) w := by
  cases ao with
  | none =>
    obtain ⟨rfl, rfl⟩ := h.none
    exact Src.ofNil _ Try.underlying28 0
  | some a =>
    obtain ⟨g, cs, e0, _, hh, h1, _, h3, h4⟩ := h.block (by simp)
    cases e0
    refine Src.ofSlice _ Try.underlying28 ⟨g, 0, .none⟩ l.length c _ (pkCells_len l) ?_ (pkCells_one l)
    intro j u hj
    have hlt : j < l.length * 5 := by have := (List.getElem?_eq_some_iff.1 hj).1; rwa [pkCells_len] at this
    rw [addr_addE, blk_cell hh, ← hj]
    have := congrArg (fun l => l[j]?) h4
    simpa only [List.getElem?_take, if_pos hlt, Array.getElem?_toList] using this
theorem oneOwnPk_src (w : World) (x : Pk) : Src Try.prog 5 28 (.slice (some ⟨w.heap.size, 0, .none⟩) 1 1) 1 [.int .i64 x.fr, .int .i64 x.ds, .int .i64 x.nu, .bool x.ak, .string (bs x.bd)] (w.alloc (.cells #[.int .i64 x.fr, .int .i64 x.ds, .int .i64 x.nu, .bool x.ak, .string (bs x.bd)] 34)) := by
  refine Src.ofSlice _ Try.underlying28 ⟨w.heap.size, 0, .none⟩ 1 1 _ rfl ?_ (fun u hu => by simp at hu; rcases hu with rfl | rfl | rfl | rfl | rfl <;> rfl)
  intro j u hj
  rw [addr_addE, blk_cell (blk_new w (.cells #[.int .i64 x.fr, .int .i64 x.ds, .int .i64 x.nu, .bool x.ak, .string (bs x.bd)] 34)), ← hj]
  simp
theorem OwnPk.app {B c n m : Nat} {w : World} {ao : Option Addr} {fs gs : List Pk} (hn : n = fs.length) (hm : m = gs.length) (h : w.ownsRow B 34 5 (.slice ao (n + m) c) (n + m) (pkCells fs ++ pkCells gs)) : OwnPk B w ao c (fs ++ gs) := by
  subst hn
  subst hm
  show World.ownsRow _ _ _ _ _ _ _
  rw [List.length_append, pkCells_app]
  exact h
theorem OwnPk.push {B c : Nat} {w : World} {ao : Option Addr} {l : List Pk} {x : Pk} (h : w.ownsRow B 34 5 (.slice ao (l.length + 1) c) (l.length + 1) (pkCells l ++ [.int .i64 x.fr, .int .i64 x.ds, .int .i64 x.nu, .bool x.ak, .string (bs x.bd)])) : OwnPk B w ao c (l ++ [x]) := OwnPk.app (gs := [x]) rfl rfl (by rw [show pkCells [x] = [.int .i64 x.fr, .int .i64 x.ds, .int .i64 x.nu, .bool x.ak, .string (bs x.bd)] by simp [pkCells, pkCell]]; exact h)
def pcCell (x : Pc) : List Value := [.int .i64 x.fr, .string (bs x.bd)]
def pcCells (l : List Pc) : List Value := l.flatMap pcCell
def OwnPc (B : Nat) (w : World) (ao : Option Addr) (c : Nat) (l : List Pc) : Prop := w.ownsRow B 42 2 (.slice ao l.length c) l.length (pcCells l)
theorem pcCells_cons (o : Pc) (t : List Pc) : pcCells (o :: t) = .int .i64 o.fr :: .string (bs o.bd) :: pcCells t := by simp [pcCells, pcCell]
theorem pcCells_app (a b : List Pc) : pcCells (a ++ b) = pcCells a ++ pcCells b := by simp [pcCells]
theorem pcCells_len (l : List Pc) : (pcCells l).length = l.length * 2 := by
  induction l with
  | nil => rfl
  | cons o t ih => rw [pcCells_cons]; simp only [List.length_cons, ih]; omega
theorem pcCells_at : ∀ (l : List Pc) (j : Nat) (hj : j < l.length), (pcCells l)[j * 2]? = some (.int .i64 l[j].fr) ∧ (pcCells l)[j * 2 + 1]? = some (.string (bs l[j].bd))
  | [], j, hj => by simp at hj
  | o :: t, 0, hj => by simp [pcCells_cons]
  | o :: t, j + 1, hj => by
    have h := pcCells_at t j (by simpa using hj)
    have hx : ∀ i, (pcCells (o :: t))[(j + 1) * 2 + i]? = (pcCells t)[j * 2 + i]? := fun i => by
      rw [pcCells_cons, show (j + 1) * 2 + i = (j * 2 + i) + 1 + 1 by omega]
      simp only [List.getElem?_cons_succ]
    have hx0 := hx 0
    simp only [Nat.add_zero] at hx0
    rw [hx0, hx 1]
    simpa using h
theorem pcCells_one (l : List Pc) : ∀ v ∈ pcCells l, v.oneCell' = true := fun u hu => by
  obtain ⟨o, _, hu⟩ := List.mem_flatMap.1 hu
  simp [pcCell] at hu
  rcases hu with rfl | rfl <;> rfl
theorem OwnPc.kept {B c : Nat} {w w' : World} {ao : Option Addr} {l : List Pc} (h : OwnPc B w ao c l) (hk : Kept Nil w w') : OwnPc B w' ao c l := own_kept h hk (fun _ _ _ x => x.elim)
theorem OwnPc.block {B c : Nat} {w : World} {ao : Option Addr} {l : List Pc} (h : OwnPc B w ao c l) (h0 : ao ≠ none) : ∃ g cs, ao = some ⟨g, 0, none⟩ ∧ B ≤ g ∧ w.heap[g]? = some (.cells cs 42 (0, 0)) ∧ l.length ≤ c ∧ c ≤ maxLen ∧ cs.size = c * 2 ∧ cs.toList.take (l.length * 2) = pcCells l := by
  rcases h.2 with ⟨h1, h2⟩ | ⟨g, cap, cur, hv, hb, hh, h1, h2, h3, h4⟩
  · simp only [Value.slice.injEq] at h1
    exact absurd h1.1 h0
  · simp only [Value.slice.injEq] at hv
    obtain ⟨rfl, _, rfl⟩ := hv
    exact ⟨g, cur, rfl, hb, hh, h1, h2, h3, h4⟩
theorem OwnPc.cells {B c : Nat} {w : World} {ao : Option Addr} {l : List Pc} (h : OwnPc B w ao c l) {j : Nat} (hj : j < l.length) : ∃ g, ao = some ⟨g, 0, none⟩ ∧ B ≤ g ∧ g < w.heap.size ∧ w.cell? ⟨g, j * 2, none⟩ = some (.int .i64 l[j].fr) ∧ w.cell? ⟨g, j * 2 + 1, none⟩ = some (.string (bs l[j].bd)) ∧ w.frozen? ⟨g, j * 2, none⟩ = false ∧ w.frozen? ⟨g, j * 2 + 1, none⟩ = false := by
  rcases h.2 with ⟨h1, h2⟩ | ⟨g, cap, cur, hv, hb, hh, h1, h2, h3, h4⟩
  · omega
  · simp only [Value.slice.injEq] at hv
    obtain ⟨rfl, _, rfl⟩ := hv
    have hc : ∀ i, i < l.length * 2 → cur[i]? = (pcCells l)[i]? := fun i hi => by
      have := congrArg (fun l => l[i]?) h4
      simpa only [List.getElem?_take, if_pos hi, Array.getElem?_toList] using this
    obtain ⟨e0, e1⟩ := pcCells_at l j hj
    exact ⟨g, rfl, hb, lt_of_block hh, by rw [blk_cell hh, hc _ (by omega), e0], by rw [blk_cell hh, hc _ (by omega), e1], blk_free hh _, blk_free hh _⟩
theorem OwnPc.mono {B B' c : Nat} {w : World} {ao : Option Addr} {l : List Pc} (h : OwnPc B w ao c l) (hb : B' ≤ B) : OwnPc B' w ao c l := by
  refine ⟨h.1, h.2.imp id ?_⟩
  rintro ⟨g, cap, cur, h1, h2, h3⟩
  exact ⟨g, cap, cur, h1, Nat.le_trans hb h2, h3⟩
theorem OwnPc.none {B c : Nat} {w : World} {l : List Pc} (h : OwnPc B w none c l) : l = [] ∧ c = 0 := by
  rcases h.2 with ⟨h1, _⟩ | ⟨g, cap, cur, hv, _⟩
  · simp at h1
    exact ⟨h1.1, h1.2⟩
  · simp at hv
theorem Try.infoOwnPc : (Try.prog.info? 42).map (fun i => (i.zero, i.size, i.bytes)) = some (some (.agg #[.int .i64 0, .string ⟨#[]⟩]), 2, 24) := by kernel_rfl
theorem OwnPc.src {B c : Nat} {w : World} {ao : Option Addr} {l : List Pc} (h : OwnPc B w ao c l) : Src Try.prog 2 37 (.slice ao l.length c) l.length (pcCells l) w := by
  cases ao with
  | none =>
    obtain ⟨rfl, rfl⟩ := h.none
    exact Src.ofNil _ Try.underlying37 0
  | some a =>
    obtain ⟨g, cs, e0, _, hh, h1, _, h3, h4⟩ := h.block (by simp)
    cases e0
    refine Src.ofSlice _ Try.underlying37 ⟨g, 0, .none⟩ l.length c _ (pcCells_len l) ?_ (pcCells_one l)
    intro j u hj
    have hlt : j < l.length * 2 := by have := (List.getElem?_eq_some_iff.1 hj).1; rwa [pcCells_len] at this
    rw [addr_addE, blk_cell hh, ← hj]
    have := congrArg (fun l => l[j]?) h4
    simpa only [List.getElem?_take, if_pos hlt, Array.getElem?_toList] using this
theorem oneOwnPc_src (w : World) (x : Pc) : Src Try.prog 2 37 (.slice (some ⟨w.heap.size, 0, .none⟩) 1 1) 1 [.int .i64 x.fr, .string (bs x.bd)] (w.alloc (.cells #[.int .i64 x.fr, .string (bs x.bd)] 42)) := by
  refine Src.ofSlice _ Try.underlying37 ⟨w.heap.size, 0, .none⟩ 1 1 _ rfl ?_ (fun u hu => by simp at hu; rcases hu with rfl | rfl <;> rfl)
  intro j u hj
  rw [addr_addE, blk_cell (blk_new w (.cells #[.int .i64 x.fr, .string (bs x.bd)] 42)), ← hj]
  simp
theorem OwnPc.app {B c n m : Nat} {w : World} {ao : Option Addr} {fs gs : List Pc} (hn : n = fs.length) (hm : m = gs.length) (h : w.ownsRow B 42 2 (.slice ao (n + m) c) (n + m) (pcCells fs ++ pcCells gs)) : OwnPc B w ao c (fs ++ gs) := by
  subst hn
  subst hm
  show World.ownsRow _ _ _ _ _ _ _
  rw [List.length_append, pcCells_app]
  exact h
theorem OwnPc.push {B c : Nat} {w : World} {ao : Option Addr} {l : List Pc} {x : Pc} (h : w.ownsRow B 42 2 (.slice ao (l.length + 1) c) (l.length + 1) (pcCells l ++ [.int .i64 x.fr, .string (bs x.bd)])) : OwnPc B w ao c (l ++ [x]) := OwnPc.app (gs := [x]) rfl rfl (by rw [show pcCells [x] = [.int .i64 x.fr, .string (bs x.bd)] by simp [pcCells, pcCell]]; exact h)

end Go.Proofs.Ytmlncfnnldplgaa
