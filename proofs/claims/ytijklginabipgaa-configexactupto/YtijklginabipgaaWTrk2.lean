/-
  Rows of progress; which nodes have an index; enough (with Commit's own function).
-/
import Derived.Test.YtijklginabipgaaWOlz
namespace Go.Proofs.Ytijklginabipgaa
open Go.RowKit

def OwnInts (B : Nat) (w : World) (ao : Option Addr) (c : Nat) (zs : List Int) : Prop := w.ownsRow B 3 1 (.slice ao zs.length c) zs.length (zs.map (Value.int .i64))
theorem OwnInts.row {B c : Nat} {w : World} {ao : Option Addr} {zs : List Int} (h : OwnInts B w ao c zs) : IntRow w.heap.size w ao zs := by
  intro j hj
  obtain ⟨g, rfl, _, hg, hc⟩ := own_cellE h (by omega)
  refine ⟨⟨g, 0, none⟩, rfl, hg, ?_⟩
  rw [addr_addE]
  exact hc _ _ (by simp [hj])
theorem OwnInts.push {B : Nat} {w' : World} {ao : Option Addr} {c : Nat} {ns : List Int} {n : Int} (h : w'.ownsRow B 3 1 (.slice ao (ns.length + 1) c) (ns.length + 1) (ns.map (Value.int .i64) ++ [.int .i64 n])) : OwnInts B w' ao c (ns ++ [n]) := by
  unfold OwnInts
  rw [List.map_append, List.length_append]
  exact h

structure Pg where
  nd : Int
  mt : Int
  nx : Int
  st : Int
  ac : Bool
  hd : Int
def PgRow (B : Nat) (w : World) (ao : Option Addr) (ps : List Pg) : Prop := ∀ j, (hj : j < ps.length) → ∃ a, ao = some a ∧ a.block < B ∧ w.cell? (a.add (j * 6)) = some (.int .i64 ps[j].nd) ∧ w.cell? ⟨(a.add (j * 6)).block, (a.add (j * 6)).off + 1, none⟩ = some (.int .i64 ps[j].mt) ∧ w.cell? ⟨(a.add (j * 6)).block, (a.add (j * 6)).off + 2, none⟩ = some (.int .i64 ps[j].nx) ∧ w.cell? ⟨(a.add (j * 6)).block, (a.add (j * 6)).off + 3, none⟩ = some (.int .i64 ps[j].st) ∧ w.cell? ⟨(a.add (j * 6)).block, (a.add (j * 6)).off + 4, none⟩ = some (.bool ps[j].ac) ∧ w.cell? ⟨(a.add (j * 6)).block, (a.add (j * 6)).off + 5, none⟩ = some (.int .i64 ps[j].hd)
theorem PgRow.kept {X : Nat → Obj → Prop} {B : Nat} {w w' : World} {ao : Option Addr} {ps : List Pg} (h : PgRow B w ao ps) (hk : Kept X w w') (hX : ∀ k o, k < B → ¬ X k o) : PgRow B w' ao ps := by
  intro j hj
  obtain ⟨a, h0, h1, h2, h3, h4, h5, h6, h7⟩ := h j hj
  have hb : (a.add (j * 6)).block < B := by rw [add_block]; exact h1
  exact ⟨a, h0, h1, cell_kept hk (fun o => hX _ o hb) h2, cell_kept hk (fun o => hX _ o hb) h3, cell_kept hk (fun o => hX _ o hb) h4, cell_kept hk (fun o => hX _ o hb) h5, cell_kept hk (fun o => hX _ o hb) h6, cell_kept hk (fun o => hX _ o hb) h7⟩
theorem PgRow.nil {B : Nat} {w w' : World} {ao : Option Addr} {ps : List Pg} (h : PgRow B w ao ps) (hk : Kept Nil w w') : PgRow B w' ao ps := h.kept hk (fun _ _ _ x => x)
theorem PgRow.full {B : Nat} {w : World} {ao : Option Addr} {ps : List Pg} (h : PgRow B w ao ps) : PgRow w.heap.size w ao ps := fun j hj => by
  obtain ⟨a, h0, h1, h2, h3⟩ := h j hj
  have hb := cell_lt h2
  rw [add_block] at hb
  exact ⟨a, h0, hb, h2, h3⟩
def pgCell (p : Pg) : List Value := [.int .i64 p.nd, .int .i64 p.mt, .int .i64 p.nx, .int .i64 p.st, .bool p.ac, .int .i64 p.hd]
def pgCells (ps : List Pg) : List Value := ps.flatMap pgCell
theorem pgCells_append (a b : List Pg) : pgCells (a ++ b) = pgCells a ++ pgCells b := by simp [pgCells]
theorem pgCells_at : ∀ (ps : List Pg) (j : Nat) (hj : j < ps.length), (pgCells ps)[j * 6]? = some (.int .i64 ps[j].nd) ∧ (pgCells ps)[j * 6 + 1]? = some (.int .i64 ps[j].mt) ∧ (pgCells ps)[j * 6 + 2]? = some (.int .i64 ps[j].nx) ∧ (pgCells ps)[j * 6 + 3]? = some (.int .i64 ps[j].st) ∧ (pgCells ps)[j * 6 + 4]? = some (.bool ps[j].ac) ∧ (pgCells ps)[j * 6 + 5]? = some (.int .i64 ps[j].hd)
  | [], j, hj => by simp at hj
  | p :: t, 0, hj => by simp [pgCells, pgCell]
  | p :: t, j + 1, hj => by
    have h := pgCells_at t j (by simpa using hj)
    have e : pgCells (p :: t) = .int .i64 p.nd :: .int .i64 p.mt :: .int .i64 p.nx :: .int .i64 p.st :: .bool p.ac :: .int .i64 p.hd :: pgCells t := by simp [pgCells, pgCell]
    have hx : ∀ i, (pgCells (p :: t))[(j + 1) * 6 + i]? = (pgCells t)[j * 6 + i]? := fun i => by
      rw [e, show (j + 1) * 6 + i = (j * 6 + i) + 1 + 1 + 1 + 1 + 1 + 1 by omega]
      simp only [List.getElem?_cons_succ]
    have hx0 := hx 0
    simp only [Nat.add_zero] at hx0
    rw [hx0, hx 1, hx 2, hx 3, hx 4, hx 5]
    simpa using h
/-- The nodes that have all up to an index. -/
def haveAt (x : Int) (ps : List Pg) : List Int := (ps.filter fun p => decide (x ≤ p.mt)).map Pg.nd
theorem haveAt_le (x : Int) (ps : List Pg) : (haveAt x ps).length ≤ ps.length := by
  unfold haveAt
  rw [List.length_map]
  exact List.length_filter_le _ _
theorem haveAt_succ (x : Int) {ps : List Pg} {k : Nat} (h : k < ps.length) : haveAt x (ps.take (k + 1)) = if x ≤ ps[k].mt then haveAt x (ps.take k) ++ [ps[k].nd] else haveAt x (ps.take k) := by
  unfold haveAt
  rw [List.take_succ_eq_append_getElem h, List.filter_append, List.map_append]
  by_cases hx : x ≤ ps[k].mt
  · simp [hx]
  · simp [hx]

end Go.Proofs.Ytijklginabipgaa
