/-
  Rows of entries, as rows that can be read and as rows of one's own; the short functions of logs, the program's and the document's.
-/
import Derived.Test.YtmlncfnnldplgaaWEnt1
import Derived.Test.YtmlncfnnldplgaaWTimes
import Derived.Test.YtmlncfnnldplgaaWCfg1
import Derived.Test.YtmlncfnnldplgaaWTab2
import Derived.Test.YtmlncfnnldplgaaWNums
import Derived.Deep.CutRange
import Derived.Deep.CutBlock
import Derived.Deep.LoopGhost
import Derived.Deep.RegionWith
import Derived.BigQuiet
namespace Go.Proofs.Ytmlncfnnldplgaa
open Go.RowKit

/-- A row of entries that can be read. -/
def EntRow (B : Nat) (w : World) (ao : Option Addr) (es : List En) : Prop := ∀ j, (hj : j < es.length) → ∃ a, ao = some a ∧ a.block < B ∧ w.cell? (a.add (j * 4)) = some (.int .i64 es[j].ix) ∧ w.cell? ⟨(a.add (j * 4)).block, (a.add (j * 4)).off + 1, none⟩ = some (.int .i64 es[j].tm) ∧ w.cell? ⟨(a.add (j * 4)).block, (a.add (j * 4)).off + 2, none⟩ = some (.int .i64 es[j].kd) ∧ w.cell? ⟨(a.add (j * 4)).block, (a.add (j * 4)).off + 3, none⟩ = some (.string (bs es[j].dt)) ∧ es[j].dt.length ≤ maxLen
theorem EntRow.kept {X : Nat → Obj → Prop} {B : Nat} {w w' : World} {ao : Option Addr} {es : List En} (h : EntRow B w ao es) (hk : Kept X w w') (hX : ∀ k o, k < B → ¬ X k o) : EntRow B w' ao es := by
  intro j hj
  obtain ⟨a, h0, h1, h2, h3, h4, h5, h6⟩ := h j hj
  have hb : (a.add (j * 4)).block < B := by rw [add_block]; exact h1
  exact ⟨a, h0, h1, cell_kept hk (fun o => hX _ o hb) h2, cell_kept hk (fun o => hX _ o hb) h3, cell_kept hk (fun o => hX _ o hb) h4, cell_kept hk (fun o => hX _ o hb) h5, h6⟩
theorem EntRow.nil {B : Nat} {w w' : World} {ao : Option Addr} {es : List En} (h : EntRow B w ao es) (hk : Kept Nil w w') : EntRow B w' ao es := h.kept hk (fun _ _ _ x => x)
theorem EntRow.alloc {B : Nat} {w : World} {ao : Option Addr} {es : List En} (h : EntRow B w ao es) (o : Obj) : EntRow B (w.alloc o) ao es := h.nil ((Kept.refl _ _).alloc o)
theorem entRow_nil (B : Nat) (w : World) (ao : Option Addr) : EntRow B w ao [] := fun j hj => by simp at hj
theorem EntRow.mono {B B' : Nat} {w : World} {ao : Option Addr} {es : List En} (h : EntRow B w ao es) (hB : B ≤ B') : EntRow B' w ao es := fun j hj => by
  obtain ⟨a, h0, h1, h2⟩ := h j hj
  exact ⟨a, h0, Nat.lt_of_lt_of_le h1 hB, h2⟩
theorem EntRow.full {B : Nat} {w : World} {ao : Option Addr} {es : List En} (h : EntRow B w ao es) : EntRow w.heap.size w ao es := fun j hj => by
  obtain ⟨a, h0, h1, h2, h3⟩ := h j hj
  have hb := cell_lt h2
  rw [add_block] at hb
  exact ⟨a, h0, hb, h2, h3⟩
theorem addr_add2 (a : Addr) (i j : Nat) : (a.add i).add j = a.add (i + j) := by
  unfold Addr.add
  by_cases hi : i = 0
  · subst hi
    by_cases hj : j = 0
    · subst hj; simp
    · simp [hj]
  · by_cases hj : j = 0
    · subst hj; simp [hi]
    · simp [hi, hj, Nat.add_assoc]
theorem EntRow.drop {B : Nat} {w : World} {a : Addr} {es : List En} (h : EntRow B w (some a) es) (k : Nat) : EntRow B w (some (a.add (k * 4))) (es.drop k) := by
  intro j hj
  have hj' : k + j < es.length := by rw [List.length_drop] at hj; omega
  obtain ⟨a', h0, h1, h2⟩ := h (k + j) hj'
  simp only [Option.some.injEq] at h0
  subst h0
  simp only [List.getElem_drop]
  refine ⟨_, rfl, by rw [add_block]; exact h1, ?_⟩
  rw [addr_add2, show k * 4 + j * 4 = (k + j) * 4 by omega]
  exact h2
theorem EntRow.take {B : Nat} {w : World} {ao : Option Addr} {es : List En} (h : EntRow B w ao es) (k : Nat) : EntRow B w ao (es.take k) := by
  intro j hj
  have hj' : j < es.length := by rw [List.length_take] at hj; omega
  simp only [List.getElem_take]
  exact h j hj'

def enCells (es : List En) : List Value := es.flatMap fun e => [Value.int .i64 e.ix, .int .i64 e.tm, .int .i64 e.kd, .string (bs e.dt)]
theorem enCells_append (a b : List En) : enCells (a ++ b) = enCells a ++ enCells b := by simp [enCells]
theorem enCells_len (es : List En) : (enCells es).length = es.length * 4 := by
  induction es with
  | nil => rfl
  | cons e t ih =>
    have : enCells (e :: t) = [Value.int .i64 e.ix, .int .i64 e.tm, .int .i64 e.kd, .string (bs e.dt)] ++ enCells t := by simp [enCells]
    rw [this, List.length_append, ih]
    simp; omega
theorem enCells_at : ∀ (es : List En) (j : Nat) (hj : j < es.length), (enCells es)[j * 4]? = some (.int .i64 es[j].ix) ∧ (enCells es)[j * 4 + 1]? = some (.int .i64 es[j].tm) ∧ (enCells es)[j * 4 + 2]? = some (.int .i64 es[j].kd) ∧ (enCells es)[j * 4 + 3]? = some (.string (bs es[j].dt))
  | [], j, hj => by simp at hj
  | p :: t, 0, hj => by simp [enCells]
  | p :: t, j + 1, hj => by
    have h := enCells_at t j (by simpa using hj)
    have e : enCells (p :: t) = .int .i64 p.ix :: .int .i64 p.tm :: .int .i64 p.kd :: .string (bs p.dt) :: enCells t := by simp [enCells]
    have hx : ∀ i, (enCells (p :: t))[(j + 1) * 4 + i]? = (enCells t)[j * 4 + i]? := fun i => by
      rw [e, show (j + 1) * 4 + i = (j * 4 + i) + 1 + 1 + 1 + 1 by omega]
      simp only [List.getElem?_cons_succ]
    have hx0 := hx 0
    simp only [Nat.add_zero] at hx0
    rw [hx0, hx 1, hx 2, hx 3]
    simpa using h
theorem own_cellE {B n s c : Nat} {e : TypeId} {w : World} {ao : Option Addr} {xs : List Value} (h : w.ownsRow B e s (.slice ao n c) n xs) (hn : 0 < n) : ∃ g, ao = some ⟨g, 0, none⟩ ∧ B ≤ g ∧ g < w.heap.size ∧ ∀ i v, xs[i]? = some v → w.cell? ⟨g, i, none⟩ = some v := by
  rcases h.2 with ⟨_, h0⟩ | ⟨g, cap, cur, hv, hb, hh, h1, h2, h3, h4⟩
  · omega
  · simp only [Value.slice.injEq] at hv
    refine ⟨g, hv.1, hb, lt_of_block hh, fun i v hi => ?_⟩
    rw [blk_cell hh i]
    rw [← h4, List.getElem?_take] at hi
    split at hi
    · simpa using hi
    · cases hi
theorem addr_addE (g j : Nat) : (⟨g, 0, none⟩ : Addr).add j = ⟨g, j, none⟩ := by unfold Addr.add; split <;> simp_all
theorem EntRow.small {B : Nat} {w : World} {ao : Option Addr} {es : List En} (h : EntRow B w ao es) : ∀ e ∈ es, e.dt.length ≤ maxLen := by
  intro e he
  obtain ⟨j, hj, rfl⟩ := List.getElem_of_mem he
  obtain ⟨_, _, _, _, _, _, _, h6⟩ := h j hj
  exact h6

/-! ### the term of a place -/
/-- The term so many places behind the base. -/
def tmAt (bt : Int) (es : List En) (p : Nat) : Int := if p = 0 then bt else (es.getD (p - 1) ⟨0, 0, 0, []⟩).tm
theorem tmAt_zero (bt : Int) (es : List En) : tmAt bt es 0 = bt := rfl
theorem tmAt_pos {bt : Int} {es : List En} {p : Nat} (h : 0 < p) (hp : p - 1 < es.length) : tmAt bt es p = es[p - 1].tm := by
  unfold tmAt
  rw [if_neg (by omega)]
  simp [List.getD_eq_getElem?_getD, hp]
/-- TermAt: the term and the error. -/
def tAt (base bt : Int) (es : List En) (i : Int) : Int × Int := if i < base then (0, 11) else if base + es.length < i then (0, 12) else (tmAt bt es (i - base).toNat, 0)

theorem EntRow.tm {B : Nat} {w : World} {ao : Option Addr} {es : List En} (h : EntRow B w ao es) {j : Nat} (hj : j < es.length) : ∃ a, ao = some a ∧ w.cell? ⟨(a.add (j * 4)).block, (a.add (j * 4)).off + 1, none⟩ = some (.int .i64 es[j].tm) := by
  obtain ⟨a, h0, _, _, h3, _⟩ := h j hj
  exact ⟨a, h0, h3⟩
theorem EntRow.ix {B : Nat} {w : World} {ao : Option Addr} {es : List En} (h : EntRow B w ao es) {j : Nat} (hj : j < es.length) : ∃ a, ao = some a ∧ w.cell? (a.add (j * 4)) = some (.int .i64 es[j].ix) := by
  obtain ⟨a, h0, _, h2, _⟩ := h j hj
  exact ⟨a, h0, h2⟩

end Go.Proofs.Ytmlncfnnldplgaa
