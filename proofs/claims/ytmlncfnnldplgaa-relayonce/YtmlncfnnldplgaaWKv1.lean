/-
  Rows of pairs of one's own; keys compared.
-/
import Derived.Test.YtmlncfnnldplgaaWKv0
import Derived.Test.YtmlncfnnldplgaaWTab2
import Derived.Lib.SliceRun
import Derived.Shelf.Small.Strs
import Derived.Deep.DeepFit
namespace Go.Proofs.Ytmlncfnnldplgaa
open Go.RowKit

def kvCell (p : Pr) : List Value := [.string (bs p.k), .string (bs p.v), .int .i64 p.n]
def kvCells (ps : List Pr) : List Value := ps.flatMap kvCell
/-- Texts that are no longer than a text may be. -/
def Fit (ps : List Pr) : Prop := ∀ p ∈ ps, p.k.length ≤ maxLen ∧ p.v.length ≤ maxLen
theorem kvCells_cons (o : Pr) (t : List Pr) : kvCells (o :: t) = .string (bs o.k) :: .string (bs o.v) :: .int .i64 o.n :: kvCells t := by simp [kvCells, kvCell]
theorem kvCells_app (a b : List Pr) : kvCells (a ++ b) = kvCells a ++ kvCells b := by simp [kvCells]
theorem kvCells_len (ps : List Pr) : (kvCells ps).length = ps.length * 3 := by
  induction ps with
  | nil => rfl
  | cons o t ih => rw [kvCells_cons]; simp only [List.length_cons, ih]; omega
theorem kvCells_take (ps : List Pr) (i : Nat) : kvCells (ps.take i) = (kvCells ps).take (i * 3) := by
  by_cases h : i ≤ ps.length
  · have e : kvCells ps = kvCells (ps.take i) ++ kvCells (ps.drop i) := by rw [← kvCells_app, List.take_append_drop]
    rw [e, List.take_left' (by rw [kvCells_len, List.length_take, Nat.min_eq_left h])]
  · rw [List.take_of_length_le (by omega), List.take_of_length_le (by rw [kvCells_len]; omega)]
theorem kvCells_drop (ps : List Pr) (i : Nat) : kvCells (ps.drop i) = (kvCells ps).drop (i * 3) := by
  by_cases h : i ≤ ps.length
  · have e : kvCells ps = kvCells (ps.take i) ++ kvCells (ps.drop i) := by rw [← kvCells_app, List.take_append_drop]
    rw [e, List.drop_left' (by rw [kvCells_len, List.length_take, Nat.min_eq_left h])]
  · rw [List.drop_of_length_le (by omega), List.drop_of_length_le (by rw [kvCells_len]; omega)]
    rfl
theorem kvCells_at : ∀ (ps : List Pr) (j : Nat) (hj : j < ps.length), (kvCells ps)[j * 3]? = some (.string (bs ps[j].k)) ∧ (kvCells ps)[j * 3 + 1]? = some (.string (bs ps[j].v)) ∧ (kvCells ps)[j * 3 + 2]? = some (.int .i64 ps[j].n)
  | [], j, hj => by simp at hj
  | o :: t, 0, hj => by simp [kvCells_cons]
  | o :: t, j + 1, hj => by
    have h := kvCells_at t j (by simpa using hj)
    have hx : ∀ i, (kvCells (o :: t))[(j + 1) * 3 + i]? = (kvCells t)[j * 3 + i]? := fun i => by
      rw [kvCells_cons, show (j + 1) * 3 + i = (j * 3 + i) + 1 + 1 + 1 by omega]
      simp only [List.getElem?_cons_succ]
    have hx0 := hx 0
    simp only [Nat.add_zero] at hx0
    rw [hx0, hx 1, hx 2]
    simpa using h
theorem kvCells_one (ps : List Pr) : ∀ v ∈ kvCells ps, v.oneCell' = true := fun u hu => by
  obtain ⟨o, _, hu⟩ := List.mem_flatMap.1 hu
  simp [kvCell] at hu
  rcases hu with rfl | rfl | rfl <;> rfl
theorem kvCells_set : ∀ (ps : List Pr) (k : Nat), k < ps.length → ∀ (x : Pr), (((kvCells ps).set (k * 3) (.string (bs x.k))).set (k * 3 + 1) (.string (bs x.v))).set (k * 3 + 2) (.int .i64 x.n) = kvCells (ps.set k x)
  | [], k, hk, x => by simp at hk
  | o :: t, 0, hk, x => by simp [kvCells_cons]
  | o :: t, k + 1, hk, x => by
    have h1 := kvCells_set t k (by simpa using hk) x
    rw [show (k + 1) * 3 = k * 3 + 1 + 1 + 1 by omega, show k * 3 + 1 + 1 + 1 + 1 = (k * 3 + 1) + 1 + 1 + 1 by omega, show k * 3 + 1 + 1 + 1 + 2 = (k * 3 + 2) + 1 + 1 + 1 by omega, kvCells_cons]
    simp only [List.set_cons_succ]
    rw [h1]
    simp [kvCells_cons]
theorem PairRow.fit {B : Nat} {w : World} {ao : Option Addr} {ps : List Pr} (h : PairRow B w ao ps) : Fit ps := fun p hp => by
  obtain ⟨j, hj, rfl⟩ := List.getElem_of_mem hp
  obtain ⟨_, _, _, _, _, _, l1, l2⟩ := h j hj
  exact ⟨l1, l2⟩
/-! compared -/
def cmpB (x y : List UInt8) : Int := Lib.compareBytes x y
set_option maxRecDepth 100000 in
set_option maxHeartbeats 1000000 in
theorem compareString_any (x y : List UInt8) (w : World) :
    Calls Try.prog 80 #[.string (bs x), .string (bs y)] w fun e w' => e = .returned (.int .i64 (cmpB x y)) ∧ w' = w := by
  go_enter Try.func80, Try.ntmps80
  go_wp2
  rw [run_callFunc_extern Try.func87 (by kernel_rfl) (by kernel_rfl) (by kernel_rfl) (e := Extern.BytealgCompare.compare) (by kernel_rfl), Lib.run_compareString]
  simp only [Result.andThen]
  rw [Oper.upon_value]
  go_wp2
  go_ret
  exact ⟨by unfold cmpB; rw [bs_data, bs_data]; rfl, rfl⟩
set_option maxRecDepth 100000 in
set_option maxHeartbeats 1000000 in
theorem compare_any (x y : List UInt8) (w : World) :
    Calls Try.prog 66 #[.string (bs x), .string (bs y)] w fun e w' => e = .returned (.int .i64 (cmpB x y)) ∧ w' = w := by
  go_enter Try.func66, Try.ntmps66
  go_wp2_with fail
  go_fit (compareString_any x y w)
  rintro e w1 ⟨rfl, rfl⟩
  go_wp2
  go_ret
  exact ⟨rfl, rfl⟩
end Go.Proofs.Ytmlncfnnldplgaa
