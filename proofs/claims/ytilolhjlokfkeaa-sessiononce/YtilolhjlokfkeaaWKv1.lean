/-
  Rows of pairs of one's own; keys compared.
-/
import Derived.Test.YtilolhjlokfkeaaWKv0
import Derived.Test.YtilolhjlokfkeaaWTab2
import Derived.Lib.SliceRun
import Derived.Shelf.Small.Strs
import Derived.Deep.DeepFit
namespace Go.Proofs.Ytilolhjlokfkeaa
open Go.RowKit

def kvCell (p : Pr) : List Value := [.string (bs p.k), .string (bs p.v), .int .i64 p.n]
def kvCells (ps : List Pr) : List Value := ps.flatMap kvCell
def OwnP (B : Nat) (w : World) (ao : Option Addr) (c : Nat) (ps : List Pr) : Prop := w.ownsRow B 61 3 (.slice ao ps.length c) ps.length (kvCells ps)
/-- Texts that are no longer than a text may be. -/
def Fit (ps : List Pr) : Prop := ∀ p ∈ ps, p.k.length ≤ maxLen ∧ p.v.length ≤ maxLen
theorem kvCells_cons (o : Pr) (t : List Pr) : kvCells (o :: t) = .string (bs o.k) :: .string (bs o.v) :: .int .i64 o.n :: kvCells t := by simp [kvCells, kvCell]
theorem kvCells_app (a b : List Pr) : kvCells (a ++ b) = kvCells a ++ kvCells b := by simp [kvCells]
theorem kvCells_len (ps : List Pr) : (kvCells ps).length = ps.length * 3 := by
  induction ps with
  | nil => rfl
  | cons o t ih => rw [kvCells_cons]; simp only [List.length_cons, ih]; omega
theorem kvCells_take (ps : List Pr) (i : Nat) : kvCells (ps.take i) = (kvCells ps).take (i * 3) := by
  by_cases h : i ≤ ps.length
  · have e : kvCells ps = kvCells (ps.take i) ++ kvCells (ps.drop i) := by rw [← kvCells_app, List.take_append_drop]
    rw [e, List.take_left' (by rw [kvCells_len, List.length_take, Nat.min_eq_left h])]
  · rw [List.take_of_length_le (by omega), List.take_of_length_le (by rw [kvCells_len]; omega)]
theorem kvCells_drop (ps : List Pr) (i : Nat) : kvCells (ps.drop i) = (kvCells ps).drop (i * 3) := by
  by_cases h : i ≤ ps.length
  · have e : kvCells ps = kvCells (ps.take i) ++ kvCells (ps.drop i) := by rw [← kvCells_app, List.take_append_drop]
    rw [e, List.drop_left' (by rw [kvCells_len, List.length_take, Nat.min_eq_left h])]
  · rw [List.drop_of_length_le (by omega), List.drop_of_length_le (by rw [kvCells_len]; omega)]
    rfl
theorem kvCells_at : ∀ (ps : List Pr) (j : Nat) (hj : j < ps.length), (kvCells ps)[j * 3]? = some (.string (bs ps[j].k)) ∧ (kvCells ps)[j * 3 + 1]? = some (.string (bs ps[j].v)) ∧ (kvCells ps)[j * 3 + 2]? = some (.int .i64 ps[j].n)
  | [], j, hj => by simp at hj
  | o :: t, 0, hj => by simp [kvCells_cons]
  | o :: t, j + 1, hj => by
    have h := kvCells_at t j (by simpa using hj)
    have hx : ∀ i, (kvCells (o :: t))[(j + 1) * 3 + i]? = (kvCells t)[j * 3 + i]? := fun i => by
      rw [kvCells_cons, show (j + 1) * 3 + i = (j * 3 + i) + 1 + 1 + 1 by omega]
      simp only [List.getElem?_cons_succ]
    have hx0 := hx 0
    simp only [Nat.add_zero] at hx0
    rw [hx0, hx 1, hx 2]
    simpa using h
theorem kvCells_one (ps : List Pr) : ∀ v ∈ kvCells ps, v.oneCell' = true := fun u hu => by
  obtain ⟨o, _, hu⟩ := List.mem_flatMap.1 hu
  simp [kvCell] at hu
  rcases hu with rfl | rfl | rfl <;> rfl
theorem kvCells_set : ∀ (ps : List Pr) (k : Nat), k < ps.length → ∀ (x : Pr), (((kvCells ps).set (k * 3) (.string (bs x.k))).set (k * 3 + 1) (.string (bs x.v))).set (k * 3 + 2) (.int .i64 x.n) = kvCells (ps.set k x)
  | [], k, hk, x => by simp at hk
  | o :: t, 0, hk, x => by simp [kvCells_cons]
  | o :: t, k + 1, hk, x => by
    have h1 := kvCells_set t k (by simpa using hk) x
    rw [show (k + 1) * 3 = k * 3 + 1 + 1 + 1 by omega, show k * 3 + 1 + 1 + 1 + 1 = (k * 3 + 1) + 1 + 1 + 1 by omega, show k * 3 + 1 + 1 + 1 + 2 = (k * 3 + 2) + 1 + 1 + 1 by omega, kvCells_cons]
    simp only [List.set_cons_succ]
    rw [h1]
    simp [kvCells_cons]
theorem OwnP.set3 {B g c k : Nat} {w : World} {ps : List Pr} (h : OwnP B w (some ⟨g, 0, none⟩) c ps) (hk : k < ps.length) (x : Pr) : OwnP B (((w.setCell ⟨g, k * 3, none⟩ (.string (bs x.k))).setCell ⟨g, k * 3 + 1, none⟩ (.string (bs x.v))).setCell ⟨g, k * 3 + 2, none⟩ (.int .i64 x.n)) (some ⟨g, 0, none⟩) c (ps.set k x) := by
  have := own_setAtK (own_setAtK (own_setAtK h (k * 3) (.string (bs x.k))) (k * 3 + 1) (.string (bs x.v))) (k * 3 + 2) (.int .i64 x.n)
  rw [kvCells_set ps k hk x] at this
  unfold OwnP
  rw [List.length_set]
  exact this
theorem OwnP.block {B c : Nat} {w : World} {ao : Option Addr} {ps : List Pr} (h : OwnP B w ao c ps) (h0 : ao ≠ none) : ∃ g cs, ao = some ⟨g, 0, none⟩ ∧ B ≤ g ∧ w.heap[g]? = some (.cells cs 61 (0, 0)) ∧ ps.length ≤ c ∧ c ≤ maxLen ∧ cs.size = c * 3 ∧ cs.toList.take (ps.length * 3) = kvCells ps := by
  rcases h.2 with ⟨h1, h2⟩ | ⟨g, cap, cur, hv, hb, hh, h1, h2, h3, h4⟩
  · simp only [Value.slice.injEq] at h1
    exact absurd h1.1 h0
  · simp only [Value.slice.injEq] at hv
    obtain ⟨rfl, _, rfl⟩ := hv
    exact ⟨g, cur, rfl, hb, hh, h1, h2, h3, h4⟩
theorem OwnP.cells {B c : Nat} {w : World} {ao : Option Addr} {ps : List Pr} (h : OwnP B w ao c ps) (h0 : 0 < ps.length) : ∃ g, ao = some ⟨g, 0, none⟩ ∧ B ≤ g ∧ g < w.heap.size ∧ ∀ j, (hj : j < ps.length) → w.cell? ⟨g, j * 3, none⟩ = some (.string (bs ps[j].k)) ∧ w.cell? ⟨g, j * 3 + 1, none⟩ = some (.string (bs ps[j].v)) ∧ w.cell? ⟨g, j * 3 + 2, none⟩ = some (.int .i64 ps[j].n) ∧ w.frozen? ⟨g, j * 3, none⟩ = false ∧ w.frozen? ⟨g, j * 3 + 1, none⟩ = false ∧ w.frozen? ⟨g, j * 3 + 2, none⟩ = false := by
  rcases h.2 with ⟨h1, h2⟩ | ⟨g, cap, cur, hv, hb, hh, h1, h2, h3, h4⟩
  · omega
  · simp only [Value.slice.injEq] at hv
    obtain ⟨rfl, _, rfl⟩ := hv
    refine ⟨g, rfl, hb, lt_of_block hh, fun j hj => ?_⟩
    have hc : ∀ i, i < ps.length * 3 → cur[i]? = (kvCells ps)[i]? := fun i hi => by
      have := congrArg (fun l => l[i]?) h4
      simpa only [List.getElem?_take, if_pos hi, Array.getElem?_toList] using this
    obtain ⟨e1, e2, e3⟩ := kvCells_at ps j hj
    exact ⟨by rw [blk_cell hh, hc _ (by omega), e1], by rw [blk_cell hh, hc _ (by omega), e2], by rw [blk_cell hh, hc _ (by omega), e3], blk_free hh _, blk_free hh _, blk_free hh _⟩
theorem OwnP.row {B c : Nat} {w : World} {ao : Option Addr} {ps : List Pr} (h : OwnP B w ao c ps) (hs : Fit ps) : PairRow w.heap.size w ao ps := by
  intro j hj
  obtain ⟨g, rfl, _, hg, hc⟩ := h.cells (by omega)
  obtain ⟨e1, e2, e3, _⟩ := hc j hj
  obtain ⟨l1, l2⟩ := hs ps[j] (List.getElem_mem hj)
  refine ⟨⟨g, 0, none⟩, rfl, hg, ?_, ?_, ?_, l1, l2⟩
  · rw [addr_addE]; exact e1
  · rw [addr_addE]; exact e2
  · rw [addr_addE]; exact e3
theorem OwnP.kept {B c : Nat} {w w' : World} {ao : Option Addr} {ps : List Pr} (h : OwnP B w ao c ps) (hk : Kept Nil w w') : OwnP B w' ao c ps := own_kept h hk (fun _ _ _ x => x.elim)
theorem OwnP.mono {B B' c : Nat} {w : World} {ao : Option Addr} {ps : List Pr} (h : OwnP B w ao c ps) (hb : B' ≤ B) : OwnP B' w ao c ps := by
  refine ⟨h.1, h.2.imp id ?_⟩
  rintro ⟨g, cap, cur, h1, h2, h3⟩
  exact ⟨g, cap, cur, h1, Nat.le_trans hb h2, h3⟩
theorem PairRow.fit {B : Nat} {w : World} {ao : Option Addr} {ps : List Pr} (h : PairRow B w ao ps) : Fit ps := fun p hp => by
  obtain ⟨j, hj, rfl⟩ := List.getElem_of_mem hp
  obtain ⟨_, _, _, _, _, _, l1, l2⟩ := h j hj
  exact ⟨l1, l2⟩
theorem Try.infoPr : (Try.prog.info? 61).map (fun i => (i.zero, i.size, i.bytes)) = some (some (.agg #[.string ⟨#[]⟩, .string ⟨#[]⟩, .int .i64 0]), 3, 40) := by kernel_rfl
theorem PairRow.src {B c : Nat} {w : World} {ao : Option Addr} {ps : List Pr} (h : PairRow B w ao ps) : Src Try.prog 3 51 (.slice ao ps.length c) ps.length (kvCells ps) w := by
  cases hes : ps with
  | nil =>
    cases ao with
    | none => exact Src.ofNil _ Try.underlying51 c
    | some a => exact Src.ofSlice _ Try.underlying51 a 0 c [] rfl (fun j u hj => by simp at hj) (fun u hu => by simp at hu)
  | cons x t =>
    rw [← hes]
    obtain ⟨a, rfl, _⟩ := h 0 (by rw [hes]; simp)
    refine Src.ofSlice _ Try.underlying51 a ps.length c _ (kvCells_len ps) ?_ (kvCells_one ps)
    intro j u hj
    have hlt : j < ps.length * 3 := by have := (List.getElem?_eq_some_iff.1 hj).1; rwa [kvCells_len] at this
    obtain ⟨a', e, _, q0, q1, q2, _⟩ := h (j / 3) (by omega)
    simp only [Option.some.injEq] at e
    subst e
    obtain ⟨e1, e2, e3⟩ := kvCells_at ps (j / 3) (by omega)
    have hadd : ∀ r, 0 < r → j = j / 3 * 3 + r → a.add j = ⟨(a.add (j / 3 * 3)).block, (a.add (j / 3 * 3)).off + r, none⟩ := fun r hr hj => by
      generalize j / 3 * 3 = m at hj ⊢
      rw [hj, ← addr_add2]
      exact add_posE _ hr
    rcases (show j = j / 3 * 3 ∨ j = j / 3 * 3 + 1 ∨ j = j / 3 * 3 + 2 by omega) with e | e | e
    · rw [e] at hj ⊢; rw [e1] at hj; rw [← hj]; exact q0
    · rw [hadd 1 (by omega) e]; rw [e, e2] at hj; rw [← hj]; exact q1
    · rw [hadd 2 (by omega) e]; rw [e, e3] at hj; rw [← hj]; exact q2
theorem OwnP.push {B : Nat} {w' : World} {ao : Option Addr} {c : Nat} {ps : List Pr} {x : Pr} (h : w'.ownsRow B 61 3 (.slice ao (ps.length + 1) c) (ps.length + 1) (kvCells ps ++ [.string (bs x.k), .string (bs x.v), .int .i64 x.n])) : OwnP B w' ao c (ps ++ [x]) := by
  unfold OwnP
  rw [show kvCells (ps ++ [x]) = kvCells ps ++ [.string (bs x.k), .string (bs x.v), .int .i64 x.n] by simp [kvCells, kvCell], List.length_append]
  exact h

/-! compared -/
def cmpB (x y : List UInt8) : Int := Lib.compareBytes x y
set_option maxRecDepth 100000 in
set_option maxHeartbeats 1000000 in
theorem compareString_any (x y : List UInt8) (w : World) :
    Calls Try.prog 149 #[.string (bs x), .string (bs y)] w fun e w' => e = .returned (.int .i64 (cmpB x y)) ∧ w' = w := by
  go_enter Try.func149, Try.ntmps149
  go_wp2
  rw [run_callFunc_extern Try.func174 (by kernel_rfl) (by kernel_rfl) (by kernel_rfl) (e := Extern.BytealgCompare.compare) (by kernel_rfl), Lib.run_compareString]
  simp only [Result.andThen]
  rw [Oper.upon_value]
  go_wp2
  go_ret
  exact ⟨by unfold cmpB; rw [bs_data, bs_data]; rfl, rfl⟩
set_option maxRecDepth 100000 in
set_option maxHeartbeats 1000000 in
theorem compare_any (x y : List UInt8) (w : World) :
    Calls Try.prog 111 #[.string (bs x), .string (bs y)] w fun e w' => e = .returned (.int .i64 (cmpB x y)) ∧ w' = w := by
  go_enter Try.func111, Try.ntmps111
  go_wp2_with fail
  go_fit (compareString_any x y w)
  rintro e w1 ⟨rfl, rfl⟩
  go_wp2
  go_ret
  exact ⟨rfl, rfl⟩
set_option maxRecDepth 100000 in
set_option maxHeartbeats 1000000 in
theorem findF_any (p : Pr) (key : List UInt8) (w : World) :
    Calls Try.prog 110 #[.agg #[.string (bs p.k), .string (bs p.v), .int .i64 p.n], .string (bs key)] w fun e w' => e = .returned (.int .i64 (cmpB p.k key)) ∧ Kept Nil w w' := by
  go_enter Try.func110, Try.ntmps110
  go_wp2_with fail
  go_fit (compare_any p.k key _)
  rintro e w1 ⟨rfl, rfl⟩
  go_wp2
  go_ret
  exact ⟨rfl, (Kept.refl _ _).alloc _⟩

end Go.Proofs.Ytilolhjlokfkeaa
