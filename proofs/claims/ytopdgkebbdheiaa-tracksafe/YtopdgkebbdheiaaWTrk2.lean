/-
  Rows of progress; which nodes have an index; enough (with Commit's own function).
-/
import Derived.Test.YtopdgkebbdheiaaWTrk1
import Derived.Test.YtopdgkebbdheiaaWKeep2
import Derived.Test.YtopdgkebbdheiaaWLogB
namespace Go.Proofs.Ytopdgkebbdheiaa
open Go.RowKit

def OwnInts (B : Nat) (w : World) (ao : Option Addr) (c : Nat) (zs : List Int) : Prop := w.ownsRow B 3 1 (.slice ao zs.length c) zs.length (zs.map (Value.int .i64))
theorem OwnInts.row {B c : Nat} {w : World} {ao : Option Addr} {zs : List Int} (h : OwnInts B w ao c zs) : IntRow w.heap.size w ao zs := by
  intro j hj
  obtain ⟨g, rfl, _, hg, hc⟩ := own_cellE h (by omega)
  refine ⟨⟨g, 0, none⟩, rfl, hg, ?_⟩
  rw [addr_addE]
  exact hc _ _ (by simp [hj])
theorem OwnInts.push {B : Nat} {w' : World} {ao : Option Addr} {c : Nat} {ns : List Int} {n : Int} (h : w'.ownsRow B 3 1 (.slice ao (ns.length + 1) c) (ns.length + 1) (ns.map (Value.int .i64) ++ [.int .i64 n])) : OwnInts B w' ao c (ns ++ [n]) := by
  unfold OwnInts
  rw [List.map_append, List.length_append]
  exact h

structure Pg where
  nd : Int
  mt : Int
  nx : Int
  st : Int
  ac : Bool
  hd : Int
def PgRow (B : Nat) (w : World) (ao : Option Addr) (ps : List Pg) : Prop := ∀ j, (hj : j < ps.length) → ∃ a, ao = some a ∧ a.block < B ∧ w.cell? (a.add (j * 6)) = some (.int .i64 ps[j].nd) ∧ w.cell? ⟨(a.add (j * 6)).block, (a.add (j * 6)).off + 1, none⟩ = some (.int .i64 ps[j].mt) ∧ w.cell? ⟨(a.add (j * 6)).block, (a.add (j * 6)).off + 2, none⟩ = some (.int .i64 ps[j].nx) ∧ w.cell? ⟨(a.add (j * 6)).block, (a.add (j * 6)).off + 3, none⟩ = some (.int .i64 ps[j].st) ∧ w.cell? ⟨(a.add (j * 6)).block, (a.add (j * 6)).off + 4, none⟩ = some (.bool ps[j].ac) ∧ w.cell? ⟨(a.add (j * 6)).block, (a.add (j * 6)).off + 5, none⟩ = some (.int .i64 ps[j].hd)
theorem PgRow.kept {X : Nat → Obj → Prop} {B : Nat} {w w' : World} {ao : Option Addr} {ps : List Pg} (h : PgRow B w ao ps) (hk : Kept X w w') (hX : ∀ k o, k < B → ¬ X k o) : PgRow B w' ao ps := by
  intro j hj
  obtain ⟨a, h0, h1, h2, h3, h4, h5, h6, h7⟩ := h j hj
  have hb : (a.add (j * 6)).block < B := by rw [add_block]; exact h1
  exact ⟨a, h0, h1, cell_kept hk (fun o => hX _ o hb) h2, cell_kept hk (fun o => hX _ o hb) h3, cell_kept hk (fun o => hX _ o hb) h4, cell_kept hk (fun o => hX _ o hb) h5, cell_kept hk (fun o => hX _ o hb) h6, cell_kept hk (fun o => hX _ o hb) h7⟩
theorem PgRow.nil {B : Nat} {w w' : World} {ao : Option Addr} {ps : List Pg} (h : PgRow B w ao ps) (hk : Kept Nil w w') : PgRow B w' ao ps := h.kept hk (fun _ _ _ x => x)
theorem PgRow.full {B : Nat} {w : World} {ao : Option Addr} {ps : List Pg} (h : PgRow B w ao ps) : PgRow w.heap.size w ao ps := fun j hj => by
  obtain ⟨a, h0, h1, h2, h3⟩ := h j hj
  have hb := cell_lt h2
  rw [add_block] at hb
  exact ⟨a, h0, hb, h2, h3⟩
def pgCell (p : Pg) : List Value := [.int .i64 p.nd, .int .i64 p.mt, .int .i64 p.nx, .int .i64 p.st, .bool p.ac, .int .i64 p.hd]
def pgCells (ps : List Pg) : List Value := ps.flatMap pgCell
theorem pgCells_append (a b : List Pg) : pgCells (a ++ b) = pgCells a ++ pgCells b := by simp [pgCells]
def OwnPs (B : Nat) (w : World) (ao : Option Addr) (c : Nat) (ps : List Pg) : Prop := w.ownsRow B 65 6 (.slice ao ps.length c) ps.length (pgCells ps)
theorem pgCells_at : ∀ (ps : List Pg) (j : Nat) (hj : j < ps.length), (pgCells ps)[j * 6]? = some (.int .i64 ps[j].nd) ∧ (pgCells ps)[j * 6 + 1]? = some (.int .i64 ps[j].mt) ∧ (pgCells ps)[j * 6 + 2]? = some (.int .i64 ps[j].nx) ∧ (pgCells ps)[j * 6 + 3]? = some (.int .i64 ps[j].st) ∧ (pgCells ps)[j * 6 + 4]? = some (.bool ps[j].ac) ∧ (pgCells ps)[j * 6 + 5]? = some (.int .i64 ps[j].hd)
  | [], j, hj => by simp at hj
  | p :: t, 0, hj => by simp [pgCells, pgCell]
  | p :: t, j + 1, hj => by
    have h := pgCells_at t j (by simpa using hj)
    have e : pgCells (p :: t) = .int .i64 p.nd :: .int .i64 p.mt :: .int .i64 p.nx :: .int .i64 p.st :: .bool p.ac :: .int .i64 p.hd :: pgCells t := by simp [pgCells, pgCell]
    have hx : ∀ i, (pgCells (p :: t))[(j + 1) * 6 + i]? = (pgCells t)[j * 6 + i]? := fun i => by
      rw [e, show (j + 1) * 6 + i = (j * 6 + i) + 1 + 1 + 1 + 1 + 1 + 1 by omega]
      simp only [List.getElem?_cons_succ]
    have hx0 := hx 0
    simp only [Nat.add_zero] at hx0
    rw [hx0, hx 1, hx 2, hx 3, hx 4, hx 5]
    simpa using h
theorem OwnPs.row {B c : Nat} {w : World} {ao : Option Addr} {ps : List Pg} (h : OwnPs B w ao c ps) : PgRow w.heap.size w ao ps := by
  intro j hj
  obtain ⟨g, rfl, _, hg, hc⟩ := own_cellE h (by omega)
  obtain ⟨h1, h2, h3, h4, h5, h6⟩ := pgCells_at ps j hj
  refine ⟨⟨g, 0, none⟩, rfl, hg, ?_, ?_, ?_, ?_, ?_, ?_⟩
  · rw [addr_addE]; exact hc _ _ h1
  · rw [addr_addE]; exact hc _ _ h2
  · rw [addr_addE]; exact hc _ _ h3
  · rw [addr_addE]; exact hc _ _ h4
  · rw [addr_addE]; exact hc _ _ h5
  · rw [addr_addE]; exact hc _ _ h6

/-- The nodes that have all up to an index. -/
def haveAt (x : Int) (ps : List Pg) : List Int := (ps.filter fun p => decide (x ≤ p.mt)).map Pg.nd
theorem haveAt_le (x : Int) (ps : List Pg) : (haveAt x ps).length ≤ ps.length := by
  unfold haveAt
  rw [List.length_map]
  exact List.length_filter_le _ _
theorem haveAt_succ (x : Int) {ps : List Pg} {k : Nat} (h : k < ps.length) : haveAt x (ps.take (k + 1)) = if x ≤ ps[k].mt then haveAt x (ps.take k) ++ [ps[k].nd] else haveAt x (ps.take k) := by
  unfold haveAt
  rw [List.take_succ_eq_append_getElem h, List.filter_append, List.map_append]
  by_cases hx : x ≤ ps[k].mt
  · simp [hx]
  · simp [hx]

set_option maxRecDepth 100000 in
set_option maxHeartbeats 1000000 in
theorem commitF_any (C : Nat) (nd mt nx st hd x : Int) (ac : Bool) (w : World) (hb : w.heap[C]? = some (.cells #[.int .i64 x] 3 (0, 0))) :
    Calls Try.prog 89 #[.agg #[.int .i64 nd, .int .i64 mt, .int .i64 nx, .int .i64 st, .bool ac, .int .i64 hd], .pointer (some ⟨C, 0, none⟩)] w fun e w' => e = .returned (.bool (decide (x ≤ mt))) ∧ Kept Nil w w' := by
  have q0 : ∀ o, (w.alloc o).cell? ⟨C, 0, none⟩ = some (.int .i64 x) := fun o => blk_at (blk_past hb o) 0 rfl
  clear hb
  go_enter Try.func89, Try.ntmps89
  go_wp2
  go_ret
  exact ⟨rfl, (Kept.refl _ _).alloc _⟩

set_option maxRecDepth 100000 in
set_option maxHeartbeats 2000000 in
theorem enough_any (B C c1 c2 c3 pc : Nat) (a1 a2 a3 po : Option Addr) (v n l : List Int) (ps : List Pg) (x : Int) (w : World) (h : CfRows B w a1 a2 a3 v n l) (hp : PgRow B w po ps) (hb : w.heap[C]? = some (.cells #[.int .i64 x] 3 (0, 0))) (h1 : (v.length : Int) ≤ 1000000) (h2 : (n.length : Int) ≤ 1000000) (hl : ps.length ≤ 1000) :
    Calls Try.prog 88 #[.agg #[.slice a1 v.length c1, .slice a2 n.length c2, .slice a3 l.length c3], .slice po ps.length pc, .func (.func 89) #[] #[.pointer (some ⟨C, 0, none⟩)]] w fun e w' => e = .returned (.bool (quo v n (haveAt x ps))) ∧ Kept Nil w w' := by
  obtain ⟨i0, hi, hz0, hz1, hz2⟩ := info_parts Try.infoInt
  have HR : Hid (CfRows B w a1 a2 a3 v n l ∧ PgRow B w po ps) := ⟨h, hp⟩
  have HC : Hid (w.heap[C]? = some (.cells #[.int .i64 x] 3 (0, 0))) := hb
  have HBN : Hid (_) := blk_new w (.cells #[.slice a1 v.length c1, .slice a2 n.length c2, .slice a3 l.length c3] 24)
  clear h hp hb
  go_enter Try.func88, Try.ntmps88
  go_wp2
  go_loopw [7, 12] (fun u i wr => ∃ k : Nat, ∃ ao c, k ≤ ps.length ∧ i = .int .i64 k ∧ u = .slice ao (haveAt x (ps.take k)).length c ∧ Hid (OwnInts (w.heap.size + 1) wr ao c (haveAt x (ps.take k))) ∧ Hid (Kept Nil w wr) ∧ Hid (wr.heap[w.heap.size]? = some (.cells #[.slice a1 v.length c1, .slice a2 n.length c2, .slice a3 l.length c3] 24 (0, 0)))) (fun _ i _ => ps.length - (intOf i).toNat)
  case atStart => exact ⟨0, none, 0, Nat.zero_le _, rfl, rfl, World.ownsRow_nil _ _ _ _, (Kept.refl _ _).alloc _, HBN.out⟩
  case round =>
    obtain ⟨k, ao, c, hk, rfl, rfl, HO, HK, HB⟩ := hrel
    by_cases hlt : k < ps.length
    · obtain ⟨a, rfl, _, q0, q1, q2, q3, q4, q5⟩ := (HR.out.2.nil HK.out) k hlt
      have HCK : Hid (_) := HK.out.block _ _ HC.out (fun x => x.elim)
      have F := fun w' (hk : Kept Nil wr w') => commitF_any C ps[k].nd ps[k].mt ps[k].nx ps[k].st ps[k].hd x ps[k].ac w' (hk.block _ _ HCK.out (fun x => x.elim))
      have hst := haveAt_succ x hlt
      have hle := haveAt_le x (ps.take k)
      have hle2 : (ps.take k).length ≤ k := by rw [List.length_take]; omega
      have hki : (k : Int) < ps.length := by omega
      generalize ps[k].nd = nd at *
      generalize ps[k].mt = mt at *
      generalize ps[k].nx = nx at *
      generalize ps[k].st = st at *
      generalize ps[k].ac = ac at *
      generalize ps[k].hd = hd at *
      by_cases hx : x ≤ mt
      · rw [if_pos hx] at hst
        simp only [decide_eq_true hx] at F
        have HST : Hid (haveAt x (ps.take (k + 1)) = haveAt x (ps.take k) ++ [nd]) := hst
        clear hst hx
        generalize haveAt x (ps.take k) = ns at *
        have HLL : Hid (ns.length + 1 ≤ maxLen ∧ (ns.length + 1) * 8 ≤ 140737488355328) := by
          constructor
          · unfold maxLen; omega
          · omega
        go_wp2_with fail
        refine (F _ ((Kept.refl _ _).alloc _)).mono ?_
        rintro e w1 ⟨rfl, k1⟩
        have HK1 : Hid (Kept Nil w w1) := (HK.out.alloc _).trans k1
        have N1 : w1.cell? ⟨wr.heap.size, 0, none⟩ = some (.int .i64 nd) := blk_at (k1.block _ _ (blk_new _ _) (fun x => x.elim)) 0 rfl
        have ho : w1.ownsRow (w.heap.size + 1) 3 1 (.slice ao ns.length c) ns.length (ns.map (Value.int .i64)) := own_kept (World.ownsRow.alloc HO.out _) k1 (fun _ _ _ x => x.elim)
        have HB1 : Hid (_) := k1.block _ _ (blk_past HB.out _) (fun x => x.elim)
        have HS1 : Hid (w.heap.size + 1 ≤ w1.heap.size) := lt_of_block HB1.out
        clear k1 q0 q1 q2 q3 q4 q5
        go_wp2_with (first | (at_builtin; go_must (refine wpList_append_src _ rfl _ _ 22 22 rfl (w.heap.size + 1) 3 i0 (.int .i64 0) 1 8 Try.underlying22 hi hz0 hz1 hz2 rfl _ _ _ rfl (ho.alloc _) (.slice (some ⟨w1.heap.size, 0, none⟩) 1 1) 1 [.int .i64 nd] rfl (src_int _) HLL.out.1 HLL.out.2 (le_alloc HS1.out _) ?_); intro ao' c' w2 ho' hg'; have HK2 : Hid (Kept Nil w w2) := (HK1.out.alloc _).grown hg' (fun k hk => Nat.le_of_succ_le (own_row ho k hk)); have HB2 : Hid (_) := grown_oldB hg' (ho.alloc _) (Nat.lt_succ_self _) (blk_past HB1.out _); clear hg'))
        go_roundw
        case rel => exact ⟨k + 1, ao', c', by omega, by go_num, by rw [HST.out, List.length_append]; rfl, (by show OwnInts _ _ _ _ _; rw [HST.out]; exact OwnInts.push ho'), HK2.out, HB2.out⟩
        case measure => simp [intOf]; omega
      · rw [if_neg hx] at hst
        simp only [decide_eq_false hx] at F
        have HST : Hid (haveAt x (ps.take (k + 1)) = haveAt x (ps.take k)) := hst
        clear hst hx
        generalize haveAt x (ps.take k) = ns at *
        go_wp2_with fail
        refine (F _ ((Kept.refl _ _).alloc _)).mono ?_
        rintro e w1 ⟨rfl, k1⟩
        have HK1 : Hid (Kept Nil w w1) := (HK.out.alloc _).trans k1
        have HO1 : Hid (OwnInts (w.heap.size + 1) w1 ao c ns) := own_kept (World.ownsRow.alloc HO.out _) k1 (fun _ _ _ x => x.elim)
        have HB1 : Hid (_) := k1.block _ _ (blk_past HB.out _) (fun x => x.elim)
        clear k1 q0 q1 q2 q3 q4 q5
        go_wp2
        go_roundw
        case rel => exact ⟨k + 1, ao, c, by omega, by go_num, by rw [HST.out], (by show OwnInts _ _ _ _ _; rw [HST.out]; exact HO1.out), HK1.out, HB1.out⟩
        case measure => simp [intOf]; omega
    · obtain rfl : k = ps.length := by omega
      rw [List.take_length] at *
      have hle := haveAt_le x ps
      have Q := quorum_any wr.heap.size c1 c2 c3 c a1 a2 a3 ao v n l (haveAt x ps) wr (HR.out.1.nil HK.out).full HO.out.row h1 h2 (by omega)
      have r0 := blk_at HB.out 0 rfl
      have r1 := blk_at HB.out 1 rfl
      have r2 := blk_at HB.out 2 rfl
      obtain ⟨b, hb⟩ : ∃ b, quo v n (haveAt x ps) = b := ⟨_, rfl⟩
      have HQ : Hid (quo v n (haveAt x ps) = b) := hb
      rw [hb] at Q
      clear hb
      go_wp2_with fail
      refine Q.mono ?_
      rintro e w1 ⟨rfl, k1⟩
      have HK1 : Hid (Kept Nil w w1) := HK.out.trans k1
      clear k1
      go_wp2
      go_ret
      rw [HQ.out]
      exact ⟨rfl, HK1.out⟩

end Go.Proofs.Ytopdgkebbdheiaa
