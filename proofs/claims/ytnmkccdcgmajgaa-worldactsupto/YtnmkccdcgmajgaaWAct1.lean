/-
  Rows of files: a name and bytes each.
-/
import Derived.Test.YtnmkccdcgmajgaaWMeet1
import Derived.Test.YtnmkccdcgmajgaaWOld
import Derived.Lib.SliceRun
namespace Go.Proofs.Ytnmkccdcgmajgaa
open Go.RowKit

abbrev Fi : Type := List UInt8 × List UInt8
def fiCell (f : Fi) : List Value := [.string (bs f.1), .string (bs f.2)]
def fiCells (fs : List Fi) : List Value := fs.flatMap fiCell
/-- A row of files, wherever it lies. -/
def FiRow (B : Nat) (w : World) (ao : Option Addr) (fs : List Fi) : Prop := ∀ j, (hj : j < fs.length) → ∃ a, ao = some a ∧ a.block < B ∧ w.cell? (a.add (j * 2)) = some (.string (bs fs[j].1)) ∧ w.cell? ⟨(a.add (j * 2)).block, (a.add (j * 2)).off + 1, none⟩ = some (.string (bs fs[j].2))
/-- A row of files of one's own. -/
def OwnFs (B : Nat) (w : World) (ao : Option Addr) (c : Nat) (fs : List Fi) : Prop := w.ownsRow B 88 2 (.slice ao fs.length c) fs.length (fiCells fs)
theorem fiRow_nil (B : Nat) (w : World) (ao : Option Addr) : FiRow B w ao [] := fun j hj => by simp at hj
theorem FiRow.kept {X : Nat → Obj → Prop} {B : Nat} {w w' : World} {ao : Option Addr} {fs : List Fi} (h : FiRow B w ao fs) (hk : Kept X w w') (hX : ∀ k o, k < B → ¬ X k o) : FiRow B w' ao fs := by
  intro j hj
  obtain ⟨a, h0, h1, h2, h3⟩ := h j hj
  have e : (a.add (j * 2)).block = a.block := by unfold Addr.add; split <;> rfl
  exact ⟨a, h0, h1, cell_kept hk (fun o => hX _ o (by rw [e]; exact h1)) h2, cell_kept hk (fun o => hX _ o (by show (a.add (j * 2)).block < B; rw [e]; exact h1)) h3⟩
theorem FiRow.nil {B : Nat} {w w' : World} {ao : Option Addr} {fs : List Fi} (h : FiRow B w ao fs) (hk : Kept Nil w w') : FiRow B w' ao fs := h.kept hk (fun _ _ _ x => x)
theorem FiRow.full {B : Nat} {w : World} {ao : Option Addr} {fs : List Fi} (h : FiRow B w ao fs) : FiRow w.heap.size w ao fs := fun j hj => by
  obtain ⟨a, h0, h1, h2, h3⟩ := h j hj
  have e : (a.add (j * 2)).block = a.block := by unfold Addr.add; split <;> rfl
  have := World.block_lt_of_cell? w _ h2
  exact ⟨a, h0, by omega, h2, h3⟩
theorem fiCells_len (fs : List Fi) : (fiCells fs).length = fs.length * 2 := by
  induction fs with
  | nil => rfl
  | cons o t ih => simp only [fiCells, List.flatMap_cons, List.length_append, List.length_cons] at ih ⊢; rw [ih]; simp [fiCell]; omega
theorem fiCells_cons (o : Fi) (t : List Fi) : fiCells (o :: t) = .string (bs o.1) :: .string (bs o.2) :: fiCells t := by simp [fiCells, fiCell]
theorem fiCells_app (a b : List Fi) : fiCells (a ++ b) = fiCells a ++ fiCells b := by simp [fiCells]
theorem fiCells_at : ∀ (fs : List Fi) (j : Nat) (hj : j < fs.length), (fiCells fs)[j * 2]? = some (.string (bs fs[j].1)) ∧ (fiCells fs)[j * 2 + 1]? = some (.string (bs fs[j].2))
  | [], j, hj => by simp at hj
  | o :: t, 0, hj => by simp [fiCells_cons]
  | o :: t, j + 1, hj => by
    have h := fiCells_at t j (by simpa using hj)
    have hx : ∀ i, (fiCells (o :: t))[(j + 1) * 2 + i]? = (fiCells t)[j * 2 + i]? := fun i => by
      rw [fiCells_cons, show (j + 1) * 2 + i = (j * 2 + i) + 1 + 1 by omega]
      simp only [List.getElem?_cons_succ]
    have hx0 := hx 0
    simp only [Nat.add_zero] at hx0
    rw [hx0, hx 1]
    simpa using h
theorem fiCells_set : ∀ (fs : List Fi) (k : Nat) (hk : k < fs.length) (x : List UInt8), (fiCells fs).set (k * 2) (.string (bs x)) = fiCells (fs.set k (x, fs[k].2)) ∧ (fiCells fs).set (k * 2 + 1) (.string (bs x)) = fiCells (fs.set k (fs[k].1, x))
  | [], k, hk, x => by simp at hk
  | o :: t, 0, hk, x => by simp [fiCells_cons]
  | o :: t, k + 1, hk, x => by
    obtain ⟨h1, h2⟩ := fiCells_set t k (by simpa using hk) x
    constructor
    · rw [show (k + 1) * 2 = k * 2 + 1 + 1 by omega, fiCells_cons, List.set_cons_succ, List.set_cons_succ, h1]
      simp [fiCells_cons]
    · rw [show (k + 1) * 2 + 1 = (k * 2 + 1) + 1 + 1 by omega, fiCells_cons, List.set_cons_succ, List.set_cons_succ, h2]
      simp [fiCells_cons]
theorem OwnFs.set0 {B g c k : Nat} {w : World} {fs : List Fi} (h : OwnFs B w (some ⟨g, 0, none⟩) c fs) (hk : k < fs.length) (x : List UInt8) : OwnFs B (w.setCell ⟨g, k * 2, none⟩ (.string (bs x))) (some ⟨g, 0, none⟩) c (fs.set k (x, fs[k].2)) := by
  have := own_setAt h (k * 2) (.string (bs x))
  rw [(fiCells_set fs k hk x).1] at this
  unfold OwnFs
  rw [List.length_set]
  exact this
theorem OwnFs.set1 {B g c k : Nat} {w : World} {fs : List Fi} (h : OwnFs B w (some ⟨g, 0, none⟩) c fs) (hk : k < fs.length) (x : List UInt8) : OwnFs B (w.setCell ⟨g, k * 2 + 1, none⟩ (.string (bs x))) (some ⟨g, 0, none⟩) c (fs.set k (fs[k].1, x)) := by
  have := own_setAt h (k * 2 + 1) (.string (bs x))
  rw [(fiCells_set fs k hk x).2] at this
  unfold OwnFs
  rw [List.length_set]
  exact this
theorem OwnFs.set2 {B g c k : Nat} {w : World} {fs : List Fi} (h : OwnFs B w (some ⟨g, 0, none⟩) c fs) (hk : k < fs.length) (x y : List UInt8) : OwnFs B ((w.setCell ⟨g, k * 2, none⟩ (.string (bs x))).setCell ⟨g, k * 2 + 1, none⟩ (.string (bs y))) (some ⟨g, 0, none⟩) c (fs.set k (x, y)) := by
  have h1 := (h.set0 hk x).set1 (k := k) (by rw [List.length_set]; exact hk) y
  rw [List.set_set, List.getElem_set_self] at h1
  exact h1
/-- Where such a row lies: its cells can be read and written. -/
theorem OwnFs.cells {B c : Nat} {w : World} {ao : Option Addr} {fs : List Fi} (h : OwnFs B w ao c fs) (h0 : 0 < fs.length) : ∃ g, ao = some ⟨g, 0, none⟩ ∧ B ≤ g ∧ g < w.heap.size ∧ ∀ j, (hj : j < fs.length) → w.cell? ⟨g, j * 2, none⟩ = some (.string (bs fs[j].1)) ∧ w.cell? ⟨g, j * 2 + 1, none⟩ = some (.string (bs fs[j].2)) ∧ w.frozen? ⟨g, j * 2, none⟩ = false ∧ w.frozen? ⟨g, j * 2 + 1, none⟩ = false := by
  rcases h.2 with ⟨h1, h2⟩ | ⟨g, cap, cur, hv, hb, hh, h1, h2, h3, h4⟩
  · omega
  · simp only [Value.slice.injEq] at hv
    obtain ⟨rfl, _, rfl⟩ := hv
    refine ⟨g, rfl, hb, lt_of_block hh, fun j hj => ?_⟩
    have hc : ∀ i, i < fs.length * 2 → cur[i]? = (fiCells fs)[i]? := fun i hi => by
      have := congrArg (fun l => l[i]?) h4
      simpa only [List.getElem?_take, if_pos hi, Array.getElem?_toList] using this
    obtain ⟨e1, e2⟩ := fiCells_at fs j hj
    exact ⟨by rw [blk_cell hh, hc _ (by omega), e1], by rw [blk_cell hh, hc _ (by omega), e2], blk_free hh _, blk_free hh _⟩
theorem OwnFs.row {B c : Nat} {w : World} {ao : Option Addr} {fs : List Fi} (h : OwnFs B w ao c fs) : FiRow w.heap.size w ao fs := by
  intro j hj
  obtain ⟨g, rfl, _, hg, hc⟩ := h.cells (by omega)
  obtain ⟨e1, e2, _, _⟩ := hc j hj
  refine ⟨⟨g, 0, none⟩, rfl, hg, ?_, ?_⟩
  · rw [addr_addE]; exact e1
  · rw [addr_addE]; exact e2
theorem OwnFs.kept {B c : Nat} {w w' : World} {ao : Option Addr} {fs : List Fi} (h : OwnFs B w ao c fs) (hk : Kept Nil w w') : OwnFs B w' ao c fs := own_kept h hk (fun _ _ _ x => x.elim)
theorem OwnFs.mono {B B' c : Nat} {w : World} {ao : Option Addr} {fs : List Fi} (h : OwnFs B w ao c fs) (hb : B' ≤ B) : OwnFs B' w ao c fs := by
  refine ⟨h.1, h.2.imp id ?_⟩
  rintro ⟨g, cap, cur, h1, h2, h3⟩
  exact ⟨g, cap, cur, h1, Nat.le_trans hb h2, h3⟩
theorem own_capF {w : World} {B c : Nat} {ao : Option Addr} {fs : List Fi} (h : OwnFs B w ao c fs) : fs.length ≤ c ∧ c ≤ maxLen := by
  rcases h.2 with ⟨h1, h2⟩ | ⟨g, cap, cur, h1, h2, h3, h4, h5, _⟩
  · simp only [Value.slice.injEq] at h1
    obtain ⟨_, _, rfl⟩ := h1
    exact ⟨by omega, by unfold maxLen; omega⟩
  · simp only [Value.slice.injEq] at h1
    obtain ⟨_, _, rfl⟩ := h1
    exact ⟨h4, h5⟩
theorem Try.infoFi : (Try.prog.info? 88).map (fun i => (i.zero, i.size, i.bytes)) = some (some (.agg #[.string ⟨#[]⟩, .string ⟨#[]⟩]), 2, 32) := by kernel_rfl
theorem FiRow.src {B c : Nat} {w : World} {ao : Option Addr} {fs : List Fi} (h : FiRow B w ao fs) : Src Try.prog 2 83 (.slice ao fs.length c) fs.length (fiCells fs) w := by
  cases hes : fs with
  | nil =>
    cases ao with
    | none => exact Src.ofNil _ Try.underlying83 c
    | some a => exact Src.ofSlice _ Try.underlying83 a 0 c [] rfl (fun j u hj => by simp at hj) (fun u hu => by simp at hu)
  | cons x t =>
    rw [← hes]
    obtain ⟨a, rfl, _⟩ := h 0 (by rw [hes]; simp)
    refine Src.ofSlice _ Try.underlying83 a fs.length c _ (fiCells_len fs) ?_ ?_
    · intro j u hj
      have hlt : j < fs.length * 2 := by have := (List.getElem?_eq_some_iff.1 hj).1; rwa [fiCells_len] at this
      obtain ⟨a', e, _, q0, q1⟩ := h (j / 2) (by omega)
      simp only [Option.some.injEq] at e
      subst e
      obtain ⟨e1, e2⟩ := fiCells_at fs (j / 2) (by omega)
      have hadd : ∀ r, 0 < r → j = j / 2 * 2 + r → a.add j = ⟨(a.add (j / 2 * 2)).block, (a.add (j / 2 * 2)).off + r, none⟩ := fun r hr hj => by
        generalize j / 2 * 2 = m at hj ⊢
        rw [hj, ← addr_add2]
        exact add_posE _ hr
      rcases (show j = j / 2 * 2 ∨ j = j / 2 * 2 + 1 by omega) with e | e
      · rw [e] at hj ⊢; rw [e1] at hj; rw [← hj]; exact q0
      · rw [hadd 1 (by omega) e]; rw [e, e2] at hj; rw [← hj]; exact q1
    · intro u hu
      obtain ⟨o, _, hu⟩ := List.mem_flatMap.1 hu
      simp [fiCell] at hu
      rcases hu with rfl | rfl <;> rfl
theorem src_fi {w : World} (x y : ByteArray) : Src Try.prog 2 83 (.slice (some ⟨w.heap.size, 0, none⟩) 1 1) 1 [.string x, .string y] (w.alloc (.cells #[.string x, .string y] 88)) := by
  refine Src.ofSlice _ Try.underlying83 _ 1 1 _ rfl ?_ ?_
  · intro j u hj
    match j, hj with
    | 0, hj | 1, hj =>
      simp at hj
      subst hj
      simp [Addr.add]
  · intro u hu
    simp at hu
    rcases hu with rfl | rfl <;> rfl
theorem OwnFs.push {B : Nat} {w' : World} {ao : Option Addr} {c : Nat} {fs : List Fi} {x : Fi} (h : w'.ownsRow B 88 2 (.slice ao (fs.length + 1) c) (fs.length + 1) (fiCells fs ++ [.string (bs x.1), .string (bs x.2)])) : OwnFs B w' ao c (fs ++ [x]) := by
  unfold OwnFs
  rw [show fiCells (fs ++ [x]) = fiCells fs ++ [.string (bs x.1), .string (bs x.2)] by simp [fiCells, fiCell], List.length_append]
  exact h

/-- Is a file of that name? -/
def isF (nm : List UInt8) (f : Fi) : Bool := decide (f.1 = nm)
theorem bs_beq (a b : List UInt8) : ((bs a).toList == (bs b).toList) = decide (a = b) := by
  rw [bs_toList, bs_toList]
  by_cases h : a = b
  · subst h; simp
  · rw [decide_eq_false h]
    exact beq_eq_false_iff_ne.2 h

set_option maxHeartbeats 1000000 in
theorem placeF_any (f : Fi) (nm : List UInt8) (C : Nat) (w : World) (hc : w.cell? ⟨C, 0, none⟩ = some (.string (bs nm))) :
    Calls Try.prog 130 #[.agg #[.string (bs f.1), .string (bs f.2)], .pointer (some ⟨C, 0, none⟩)] w fun e w' => e = .returned (.bool (isF nm f)) ∧ Kept Nil w w' := by
  have hb := World.block_lt_of_cell? w _ hc
  go_enter Try.func130, Try.ntmps130
  go_wp2
  go_ret
  exact ⟨by unfold isF; rw [← bs_beq]; rfl, (Kept.refl _ _).alloc _⟩

end Go.Proofs.Ytnmkccdcgmajgaa
