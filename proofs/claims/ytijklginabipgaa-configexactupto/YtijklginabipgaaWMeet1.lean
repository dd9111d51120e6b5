/-
  ConfigMeets: rows of operations of one's own; rows of nodes as rows of ints.
-/
import Derived.Test.YtijklginabipgaaWChgF
import Derived.Test.YtijklginabipgaaWOlz
namespace Go.Proofs.Ytijklginabipgaa
open Go.RowKit

theorem begZ_err {v n l : List Int} {os : List (Int × Int)} {c : Int} (h : begZ v n l os = .error c) : (c != 0) = true := by
  unfold begZ at h
  split at h
  · simp only [Except.error.injEq] at h; subst h; rfl
  split at h
  · simp only [Except.error.injEq] at h; subst h; rfl
  split at h
  · simp only [Except.error.injEq] at h; subst h; rfl
  unfold begEnd at h
  split at h
  · simp only [Except.error.injEq] at h; subst h; rfl
  · split at h
    · simp only [Except.error.injEq] at h; subst h; rfl
    · cases h
theorem begZ_ok {v n l v' n' l' : List Int} {os : List (Int × Int)} (h : begZ v n l os = .ok (v', n', l')) : v' = v ∧ n = [] ∧ isCfg v [] l = true ∧ ∃ nx, doAll v os v l = some (nx, l') ∧ nx ≠ [] ∧ n' = if v = nx then [] else nx := by
  unfold begZ at h
  split at h
  · cases h
  rename_i h1
  split at h
  · cases h
  rename_i h2
  split at h
  · cases h
  have hn : n = [] := List.length_eq_zero_iff.1 (by omega)
  unfold begEnd at h
  split at h
  · cases h
  · rename_i r hr
    split at h
    · cases h
    · rename_i h4
      simp only [Except.ok.injEq, Prod.mk.injEq] at h
      obtain ⟨rfl, rfl, rfl⟩ := h
      refine ⟨rfl, hn, ?_, r.1, hr, fun e => h4 (by rw [e]; rfl), rfl⟩
      rw [hn] at h1
      simpa using h1
theorem quo_maj {v n hs : List Int} (h : quo v n hs = true) : maj v hs = true := by
  unfold quo at h
  rw [Bool.and_eq_true] at h
  exact h.1
theorem meets_one {v n n' a b m : List Int} (h1 : quo v n a = true) (h2 : quo v n' b = true) (hm : ∀ x ∈ v, x ∈ m) : meetZ a b m = true := by
  obtain ⟨x, hx, ha, hb⟩ := maj_meet (quo_maj h1) (quo_maj h2)
  exact meetZ_of ha hb (hm x hx)
theorem meets_last {v nx n' ln a b m : List Int} (hn : n' = if v = nx then [] else nx) (h0 : nx ≠ []) (h1 : quo v n' a = true) (h2 : quo nx ln b = true) (hm : ∀ x ∈ nx, x ∈ m) : meetZ a b m = true := by
  have h3 : maj nx a = true := by
    by_cases hv : v = nx
    · rw [← hv]; exact quo_maj h1
    · rw [if_neg hv] at hn
      subst hn
      unfold quo at h1
      cases hq : n' with
      | nil => exact absurd hq h0
      | cons y t =>
        rw [hq] at h1
        have := (Bool.and_eq_true _ _ ▸ h1 : _ ∧ _).2
        simpa using this
  obtain ⟨x, hx, ha, hb⟩ := maj_meet h3 (quo_maj h2)
  exact meetZ_of ha hb (hm x hx)
theorem begZ_first : begZ [1, 2] [] [] [(3, 1)] = .ok ([1, 2], [2], []) := rfl
theorem own_nats {B c : Nat} {w : World} {ao : Option Addr} {ns : List Nat} (h : OwnNats B w ao c ns) : OwnInts B w ao c (intsOf ns) := by
  have e : natCells ns = (intsOf ns).map (Value.int .i64) := by simp [natCells, intsOf]
  have l := intsOf_len ns
  unfold OwnInts
  rw [l, ← e]
  exact h
def opCell (o : Int × Int) : List Value := [.int .i64 o.1, .int .i64 o.2]
def opCells (os : List (Int × Int)) : List Value := os.flatMap opCell
def OwnOps (B : Nat) (w : World) (ao : Option Addr) (c : Nat) (os : List (Int × Int)) : Prop := w.ownsRow B 32 2 (.slice ao os.length c) os.length (opCells os)
theorem opCells_len (os : List (Int × Int)) : (opCells os).length = os.length * 2 := by
  induction os with
  | nil => rfl
  | cons o t ih => simp only [opCells, List.flatMap_cons, List.length_append, List.length_cons] at ih ⊢; rw [ih]; simp [opCell]; omega
theorem opCells_at : ∀ (os : List (Int × Int)) (j : Nat) (hj : j < os.length), (opCells os)[j * 2]? = some (.int .i64 os[j].1) ∧ (opCells os)[j * 2 + 1]? = some (.int .i64 os[j].2)
  | [], j, hj => by simp at hj
  | o :: t, 0, hj => by simp [opCells, opCell]
  | o :: t, j + 1, hj => by
    have h := opCells_at t j (by simpa using hj)
    have e : opCells (o :: t) = .int .i64 o.1 :: .int .i64 o.2 :: opCells t := by simp [opCells, opCell]
    have hx : ∀ i, (opCells (o :: t))[(j + 1) * 2 + i]? = (opCells t)[j * 2 + i]? := fun i => by
      rw [e, show (j + 1) * 2 + i = (j * 2 + i) + 1 + 1 by omega]
      simp only [List.getElem?_cons_succ]
    have hx0 := hx 0
    simp only [Nat.add_zero] at hx0
    rw [hx0, hx 1]
    simpa using h
theorem opCells_set : ∀ (os : List (Int × Int)) (k : Nat) (z : Int), k < os.length * 2 → ∃ os', os'.length = os.length ∧ (opCells os).set k (.int .i64 z) = opCells os'
  | [], k, z, h => by simp at h
  | o :: t, 0, z, _ => ⟨(z, o.2) :: t, rfl, by simp [opCells, opCell]⟩
  | o :: t, 1, z, _ => ⟨(o.1, z) :: t, rfl, by simp [opCells, opCell]⟩
  | o :: t, k + 2, z, h => by
    obtain ⟨t', h1, h2⟩ := opCells_set t k z (by simp at h; omega)
    refine ⟨o :: t', by simp [h1], ?_⟩
    have e : ∀ t, opCells (o :: t) = .int .i64 o.1 :: .int .i64 o.2 :: opCells t := fun t => by simp [opCells, opCell]
    rw [e, e, List.set_cons_succ, List.set_cons_succ, h2]
theorem own_setAt {B e size g n cap : Nat} {w : World} {xs : List Value} (h : w.ownsRow B e size (.slice (some ⟨g, 0, none⟩) n cap) n xs) (i : Nat) (u : Value) : (w.setCell ⟨g, i, none⟩ u).ownsRow B e size (.slice (some ⟨g, 0, none⟩) n cap) n (xs.set i u) := by
  refine ⟨by rw [List.length_set]; exact h.1, ?_⟩
  rcases h.2 with ⟨h1, _⟩ | ⟨g', cap', cur, hv, hb, hh, h1, h2, h3, h4⟩
  · simp at h1
  · simp only [Value.slice.injEq, Option.some.injEq, Addr.mk.injEq, true_and, and_true] at hv
    obtain ⟨rfl, rfl⟩ := hv
    refine .inr ⟨g, cap, _, rfl, hb, blk_set hh i u, h1, h2, by simpa using h3, ?_⟩
    rw [Array.toList_setIfInBounds, List.take_set, h4]
theorem OwnOps.set {B g c k : Nat} {w : World} {os : List (Int × Int)} (h : OwnOps B w (some ⟨g, 0, none⟩) c os) (hk : k < os.length * 2) (z : Int) : ∃ os', os'.length = os.length ∧ OwnOps B (w.setCell ⟨g, k, none⟩ (.int .i64 z)) (some ⟨g, 0, none⟩) c os' := by
  obtain ⟨os', h1, h2⟩ := opCells_set os k z hk
  refine ⟨os', h1, ?_⟩
  have := own_setAt h k (.int .i64 z)
  rw [h2] at this
  unfold OwnOps
  rw [h1]
  exact this
/-- Where such a row lies: its cells can be read and written. -/
theorem OwnOps.cells {B c : Nat} {w : World} {ao : Option Addr} {os : List (Int × Int)} (h : OwnOps B w ao c os) (h0 : 0 < os.length) : ∃ g, ao = some ⟨g, 0, none⟩ ∧ B ≤ g ∧ g < w.heap.size ∧ ∀ j, (hj : j < os.length) → w.cell? ⟨g, j * 2, none⟩ = some (.int .i64 os[j].1) ∧ w.cell? ⟨g, j * 2 + 1, none⟩ = some (.int .i64 os[j].2) ∧ w.frozen? ⟨g, j * 2, none⟩ = false ∧ w.frozen? ⟨g, j * 2 + 1, none⟩ = false := by
  rcases h.2 with ⟨h1, h2⟩ | ⟨g, cap, cur, hv, hb, hh, h1, h2, h3, h4⟩
  · omega
  · simp only [Value.slice.injEq] at hv
    obtain ⟨rfl, _, rfl⟩ := hv
    refine ⟨g, rfl, hb, lt_of_block hh, fun j hj => ?_⟩
    have hc : ∀ i, i < os.length * 2 → cur[i]? = (opCells os)[i]? := fun i hi => by
      have := congrArg (fun l => l[i]?) h4
      simpa only [List.getElem?_take, if_pos hi, Array.getElem?_toList] using this
    obtain ⟨e1, e2⟩ := opCells_at os j hj
    exact ⟨by rw [blk_cell hh, hc _ (by omega), e1], by rw [blk_cell hh, hc _ (by omega), e2], blk_free hh _, blk_free hh _⟩
theorem OwnOps.row {B c : Nat} {w : World} {ao : Option Addr} {os : List (Int × Int)} (h : OwnOps B w ao c os) : OpRow w.heap.size w ao os := by
  intro j hj
  obtain ⟨g, rfl, _, hg, hc⟩ := h.cells (by omega)
  obtain ⟨e1, e2, _, _⟩ := hc j hj
  refine ⟨⟨g, 0, none⟩, rfl, hg, ?_, ?_⟩
  · rw [addr_addE]; exact e1
  · rw [addr_addE]; exact e2
theorem OwnOps.kept {B c : Nat} {w w' : World} {ao : Option Addr} {os : List (Int × Int)} (h : OwnOps B w ao c os) (hk : Kept Nil w w') : OwnOps B w' ao c os := own_kept h hk (fun _ _ _ x => x.elim)
theorem Try.infoOp : (Try.prog.info? 32).map (fun i => (i.zero, i.size, i.bytes)) = some (some (.agg #[.int .i64 0, .int .i64 0]), 2, 16) := by kernel_rfl
theorem OpRow.src {B c : Nat} {w : World} {ao : Option Addr} {os : List (Int × Int)} (h : OpRow B w ao os) : Src Try.prog 2 25 (.slice ao os.length c) os.length (opCells os) w := by
  cases hes : os with
  | nil =>
    cases ao with
    | none => exact Src.ofNil _ Try.underlying25 c
    | some a => exact Src.ofSlice _ Try.underlying25 a 0 c [] rfl (fun j u hj => by simp at hj) (fun u hu => by simp at hu)
  | cons x t =>
    rw [← hes]
    obtain ⟨a, rfl, _⟩ := h 0 (by rw [hes]; simp)
    refine Src.ofSlice _ Try.underlying25 a os.length c _ (opCells_len os) ?_ ?_
    · intro j u hj
      have hlt : j < os.length * 2 := by have := (List.getElem?_eq_some_iff.1 hj).1; rwa [opCells_len] at this
      obtain ⟨a', e, _, q0, q1⟩ := h (j / 2) (by omega)
      simp only [Option.some.injEq] at e
      subst e
      obtain ⟨e1, e2⟩ := opCells_at os (j / 2) (by omega)
      have hadd : ∀ r, 0 < r → j = j / 2 * 2 + r → a.add j = ⟨(a.add (j / 2 * 2)).block, (a.add (j / 2 * 2)).off + r, none⟩ := fun r hr hj => by
        generalize j / 2 * 2 = m at hj ⊢
        rw [hj, ← addr_add2]
        exact add_posE _ hr
      rcases (show j = j / 2 * 2 ∨ j = j / 2 * 2 + 1 by omega) with e | e
      · rw [e] at hj ⊢; rw [e1] at hj; rw [← hj]; exact q0
      · rw [hadd 1 (by omega) e]; rw [e, e2] at hj; rw [← hj]; exact q1
    · intro u hu
      obtain ⟨o, _, hu⟩ := List.mem_flatMap.1 hu
      simp [opCell] at hu
      rcases hu with rfl | rfl <;> rfl

end Go.Proofs.Ytijklginabipgaa
