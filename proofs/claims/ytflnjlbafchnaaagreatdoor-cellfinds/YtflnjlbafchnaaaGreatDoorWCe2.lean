/-
  Cells: numbers, readAll (the program).
-/
import Derived.Test.YtflnjlbafchnaaaGreatDoorWTmA
import Derived.Test.YtflnjlbafchnaaaGreatDoorWKvC
import Derived.Test.YtflnjlbafchnaaaGreatDoorWOld
namespace Go.Proofs.YtflnjlbafchnaaaGreatDoor
open Go.RowKit

/-- One of a cell's numbers: where it lies in the cell, from where to where it may be. -/
structure Nm where
  o : Nat
  l : Nat
  m : Nat
def nms (s : Nat) (full : Bool) : List Nm := ⟨3, 0, 999999⟩ :: ((if s = 0 then [] else [⟨4, 1, 4⟩]) ++ (if full = true then [⟨1, 1, 999999⟩] else []))
theorem nms_spec (s : Nat) (full : Bool) : (nms s full).map (fun x => (x.l, x.m)) = ceSpec s full := by
  unfold nms ceSpec
  by_cases h : s = 0 <;> cases full <;> simp [h]
def nmCell (A : Nat) (x : Nm) : List Value := [.pointer (some ⟨A, x.o, none⟩), .int .i64 x.l, .int .i64 x.m]
def nmCells (A : Nat) (ns : List Nm) : List Value := ns.flatMap (nmCell A)
theorem nmCells_at (A : Nat) : ∀ (ns : List Nm) (j : Nat) (hj : j < ns.length), (nmCells A ns)[j * 3]? = some (.pointer (some ⟨A, ns[j].o, none⟩)) ∧ (nmCells A ns)[j * 3 + 1]? = some (.int .i64 ns[j].l) ∧ (nmCells A ns)[j * 3 + 2]? = some (.int .i64 ns[j].m)
  | [], j, hj => by simp at hj
  | o :: t, 0, hj => by simp [nmCells, nmCell]
  | o :: t, j + 1, hj => by
    have h := nmCells_at A t j (by simpa using hj)
    have hx : ∀ i, (nmCells A (o :: t))[(j + 1) * 3 + i]? = (nmCells A t)[j * 3 + i]? := fun i => by
      rw [show nmCells A (o :: t) = .pointer (some ⟨A, o.o, none⟩) :: .int .i64 o.l :: .int .i64 o.m :: nmCells A t by simp [nmCells, nmCell], show (j + 1) * 3 + i = (j * 3 + i) + 1 + 1 + 1 by omega]
      simp only [List.getElem?_cons_succ]
    have hx0 := hx 0
    simp only [Nat.add_zero] at hx0
    rw [hx0, hx 1, hx 2]
    simpa using h
def OwnN (A B : Nat) (w : World) (ao : Option Addr) (c : Nat) (ns : List Nm) : Prop := w.ownsRow B 245 3 (.slice ao ns.length c) ns.length (nmCells A ns)
theorem Tryz.infoNm : (Tryz.prog.info? 245).map (fun i => (i.zero, i.size, i.bytes)) = some (some (.agg #[.pointer none, .int .i64 0, .int .i64 0]), 3, 24) := by kernel_rfl
theorem own_one {A B g : Nat} {w : World} {x : Nm} (hB : B ≤ g) (h : w.heap[g]? = some (.cells #[.pointer (some ⟨A, x.o, none⟩), .int .i64 x.l, .int .i64 x.m] 245 (0, 0))) : OwnN A B w (some ⟨g, 0, none⟩) 1 [x] :=
  ⟨rfl, .inr ⟨g, 1, _, rfl, hB, h, Nat.le_refl _, by unfold maxLen; omega, rfl, rfl⟩⟩
theorem nm_src {A g : Nat} {w : World} {x : Nm} (h : w.heap[g]? = some (.cells #[.pointer (some ⟨A, x.o, none⟩), .int .i64 x.l, .int .i64 x.m] 245 (0, 0))) : Src Tryz.prog 3 227 (.slice (some ⟨g, 0, none⟩) 1 1) 1 [.pointer (some ⟨A, x.o, none⟩), .int .i64 x.l, .int .i64 x.m] w := by
  refine Src.ofSlice _ Tryz.underlying227 _ 1 1 _ rfl ?_ ?_
  · intro j u hj
    match j, hj with
    | 0, hj => simp at hj; subst hj; exact blk_at h 0 rfl
    | 1, hj => simp at hj; subst hj; exact blk_at h 1 rfl
    | 2, hj => simp at hj; subst hj; exact blk_at h 2 rfl
  · intro u hu
    simp at hu
    rcases hu with rfl | rfl | rfl <;> rfl
theorem OwnN.push {A B : Nat} {w' : World} {ao : Option Addr} {c : Nat} {ns : List Nm} {x : Nm} (h : w'.ownsRow B 245 3 (.slice ao (ns.length + 1) c) (ns.length + 1) (nmCells A ns ++ [.pointer (some ⟨A, x.o, none⟩), .int .i64 x.l, .int .i64 x.m])) : OwnN A B w' ao c (ns ++ [x]) := by
  unfold OwnN
  rw [show nmCells A (ns ++ [x]) = nmCells A ns ++ [.pointer (some ⟨A, x.o, none⟩), .int .i64 x.l, .int .i64 x.m] by simp [nmCells, nmCell], List.length_append]
  exact h
/-- A cell's block. -/
def CeAt (w : World) (A : Nat) (c : Ce) : Prop := w.heap[A]? = some (.cells #[.string (bs c.v), .int .i64 c.n, .int .i64 c.s, .int .i64 c.h, .int .i64 c.g] 131 (0, 0))
def NumPost (w : World) (A : Nat) (ns : List Nm) (e : Ending) (w' : World) : Prop := ∃ ao c, e = .returned (.slice ao ns.length c) ∧ OwnN A w.heap.size w' ao c ns ∧ Kept Nil w w'
set_option maxRecDepth 100000 in
set_option maxHeartbeats 4000000 in
theorem numbers_any (w : World) (A : Nat) (c : Ce) (h : CeAt w A c) (full : Bool) :
    Calls Tryz.prog 180 #[.pointer (some ⟨A, 0, none⟩), .bool full] w (NumPost w A (nms c.s full)) := by
  obtain ⟨i0, hi, hz0, hz1, hz2⟩ := info_parts Tryz.infoNm
  have HLL : ∀ k, k ≤ 2 → Hid (k + 1 ≤ maxLen ∧ (k + 1) * 24 ≤ 140737488355328) := fun k hk => by constructor; unfold maxLen; omega; omega
  have HL1 := HLL 1 (by omega)
  have HL2 := HLL 2 (by omega)
  clear HLL
  obtain ⟨W1, hW1⟩ : ∃ W, W = w.alloc (.cells #[.pointer (some ⟨A, 3, none⟩), .int .i64 0, .int .i64 999999] 245) := ⟨_, rfl⟩
  obtain ⟨g, Hg⟩ : ∃ g, Hid (g = w.heap.size) := ⟨_, rfl⟩
  have hb1 : W1.heap[g]? = some (.cells #[.pointer (some ⟨A, 3, none⟩), .int .i64 0, .int .i64 999999] 245 (0, 0)) := by rw [hW1, Hg.out]; exact blk_new _ _
  have HO1 : Hid (OwnN A w.heap.size W1 (some ⟨g, 0, none⟩) 1 [⟨3, 0, 999999⟩]) := own_one (x := ⟨3, 0, 999999⟩) (by rw [Hg.out]; exact Nat.le_refl _) hb1
  have HK1 : Hid (Kept Nil w W1) := by rw [hW1]; exact (Kept.refl _ _).alloc _
  have hs1 : W1.cell? ⟨A, 2, none⟩ = some (.int .i64 c.s) := blk_at (HK1.out.block _ _ h (fun x => x.elim)) 2 rfl
  obtain ⟨W2, hW2⟩ : ∃ W, W = W1.alloc (.cells #[.pointer (some ⟨A, 4, none⟩), .int .i64 1, .int .i64 4] 245) := ⟨_, rfl⟩
  obtain ⟨g2, Hg2⟩ : ∃ g, Hid (g = W1.heap.size) := ⟨_, rfl⟩
  have HS2 : Hid (Src Tryz.prog 3 227 (.slice (some ⟨g2, 0, none⟩) 1 1) 1 [.pointer (some ⟨A, 4, none⟩), .int .i64 1, .int .i64 4] W2) := nm_src (x := ⟨4, 1, 4⟩) (by rw [hW2, Hg2.out]; exact blk_new _ _)
  have HO2 : Hid (OwnN A w.heap.size W2 (some ⟨g, 0, none⟩) 1 [⟨3, 0, 999999⟩]) := by rw [hW2]; exact World.ownsRow.alloc HO1.out _
  have HK2 : Hid (Kept Nil w W2) := by rw [hW2]; exact HK1.out.alloc _
  have HB2 : Hid (w.heap.size ≤ W2.heap.size) := HK2.out.size
  obtain ⟨W3, hW3⟩ : ∃ W, W = W1.alloc (.cells #[.pointer (some ⟨A, 1, none⟩), .int .i64 1, .int .i64 999999] 245) := ⟨_, rfl⟩
  have HS3 : Hid (Src Tryz.prog 3 227 (.slice (some ⟨g2, 0, none⟩) 1 1) 1 [.pointer (some ⟨A, 1, none⟩), .int .i64 1, .int .i64 999999] W3) := nm_src (x := ⟨1, 1, 999999⟩) (by rw [hW3, Hg2.out]; exact blk_new _ _)
  have HO3 : Hid (OwnN A w.heap.size W3 (some ⟨g, 0, none⟩) 1 [⟨3, 0, 999999⟩]) := by rw [hW3]; exact World.ownsRow.alloc HO1.out _
  have HK3 : Hid (Kept Nil w W3) := by rw [hW3]; exact HK1.out.alloc _
  have HB3 : Hid (w.heap.size ≤ W3.heap.size) := HK3.out.size
  have Hgw : Hid (w.heap.size ≤ g) := by rw [Hg.out]; exact Nat.le_refl _
  clear h hb1
  by_cases cs : c.s = 0
  · cases full with
    | false =>
      have hn : nms c.s false = [⟨3, 0, 999999⟩] := by rw [cs]; rfl
      rw [hn]
      rw [cs] at hs1
      clear hn cs HO2 HO3 HS2 HS3 hW2 hW3
      go_enter Tryz.func180, Tryz.ntmps180
      go_upto_region 2 with fail
      rw [← hW1, ← Hg.out]
      clear hW1
      go_wp2
      go_ret
      exact ⟨_, _, rfl, HO1.out, HK1.out⟩
    | true =>
      have hn : nms c.s true = [⟨3, 0, 999999⟩, ⟨1, 1, 999999⟩] := by rw [cs]; rfl
      rw [hn]
      rw [cs] at hs1
      clear hn cs HO2 HS2 hW2
      go_enter Tryz.func180, Tryz.ntmps180
      go_upto_region 2 with fail
      rw [← hW1, ← Hg.out]
      clear hW1
      go_wp2_with (at_builtin; rw [← hW3, ← Hg2.out]; go_must (refine wpList_append_src _ rfl _ _ 227 227 rfl w.heap.size 245 i0 (.agg #[.pointer none, .int .i64 0, .int .i64 0]) 3 24 Tryz.underlying227 hi hz0 hz1 hz2 rfl _ _ _ rfl HO3.out (.slice (some ⟨g2, 0, none⟩) 1 1) 1 [.pointer (some ⟨A, 1, none⟩), .int .i64 1, .int .i64 999999] rfl HS3.out HL1.out.1 HL1.out.2 HB3.out ?_); intro ao' c' w1 ho' hg'; have HO4 : Hid (OwnN A w.heap.size w1 ao' c' [⟨3, 0, 999999⟩, ⟨1, 1, 999999⟩]) := OwnN.push (ns := [⟨3, 0, 999999⟩]) (x := ⟨1, 1, 999999⟩) ho'; have HG4 : Hid (Kept Nil w w1) := HK3.out.grown hg' (fun k hk => by cases hk; exact Hgw.out); clear ho' hg')
      go_ret
      exact ⟨_, _, rfl, HO4.out, HG4.out⟩
  · have hne : ((c.s : Int) != 0) = true := by simp; omega
    cases full with
    | false =>
      have hn : nms c.s false = [⟨3, 0, 999999⟩, ⟨4, 1, 4⟩] := by unfold nms; rw [if_neg cs]; rfl
      rw [hn]
      clear hn HO3 HS3 hW3
      go_enter Tryz.func180, Tryz.ntmps180
      go_upto_region 2 with fail
      rw [← hW1, ← Hg.out]
      clear hW1
      go_wp2_with (at_builtin; rw [← hW2, ← Hg2.out]; go_must (refine wpList_append_src _ rfl _ _ 227 227 rfl w.heap.size 245 i0 (.agg #[.pointer none, .int .i64 0, .int .i64 0]) 3 24 Tryz.underlying227 hi hz0 hz1 hz2 rfl _ _ _ rfl HO2.out (.slice (some ⟨g2, 0, none⟩) 1 1) 1 [.pointer (some ⟨A, 4, none⟩), .int .i64 1, .int .i64 4] rfl HS2.out HL1.out.1 HL1.out.2 HB2.out ?_); intro ao' c' w1 ho' hg'; have HO4 : Hid (OwnN A w.heap.size w1 ao' c' [⟨3, 0, 999999⟩, ⟨4, 1, 4⟩]) := OwnN.push (ns := [⟨3, 0, 999999⟩]) (x := ⟨4, 1, 4⟩) ho'; have HG4 : Hid (Kept Nil w w1) := HK2.out.grown hg' (fun k hk => by cases hk; exact Hgw.out); clear ho' hg')
      go_ret
      exact ⟨_, _, rfl, HO4.out, HG4.out⟩
    | true =>
      have hn : nms c.s true = [⟨3, 0, 999999⟩, ⟨4, 1, 4⟩, ⟨1, 1, 999999⟩] := by unfold nms; rw [if_neg cs]; rfl
      rw [hn]
      clear hn HO3 HS3 hW3
      go_enter Tryz.func180, Tryz.ntmps180
      go_upto_region 2 with fail
      rw [← hW1, ← Hg.out]
      clear hW1
      go_upto_region 5 with (at_builtin; rw [← hW2, ← Hg2.out]; go_must (refine wpList_append_src _ rfl _ _ 227 227 rfl w.heap.size 245 i0 (.agg #[.pointer none, .int .i64 0, .int .i64 0]) 3 24 Tryz.underlying227 hi hz0 hz1 hz2 rfl _ _ _ rfl HO2.out (.slice (some ⟨g2, 0, none⟩) 1 1) 1 [.pointer (some ⟨A, 4, none⟩), .int .i64 1, .int .i64 4] rfl HS2.out HL1.out.1 HL1.out.2 HB2.out ?_); intro ao' c' w1 ho' hg'; have HO4 : Hid (OwnN A w.heap.size w1 ao' c' [⟨3, 0, 999999⟩, ⟨4, 1, 4⟩]) := OwnN.push (ns := [⟨3, 0, 999999⟩]) (x := ⟨4, 1, 4⟩) ho'; have HG4 : Hid (Kept Nil w w1) := HK2.out.grown hg' (fun k hk => by cases hk; exact Hgw.out); clear ho' hg')
      obtain ⟨W5, hW5⟩ : ∃ W, W = w1.alloc (.cells #[.pointer (some ⟨A, 1, none⟩), .int .i64 1, .int .i64 999999] 245) := ⟨_, rfl⟩
      obtain ⟨g5, Hg5⟩ : ∃ g, Hid (g = w1.heap.size) := ⟨_, rfl⟩
      have HS5 : Hid (Src Tryz.prog 3 227 (.slice (some ⟨g5, 0, none⟩) 1 1) 1 [.pointer (some ⟨A, 1, none⟩), .int .i64 1, .int .i64 999999] W5) := nm_src (x := ⟨1, 1, 999999⟩) (by rw [hW5, Hg5.out]; exact blk_new _ _)
      have HO5 : Hid (OwnN A w.heap.size W5 ao' c' [⟨3, 0, 999999⟩, ⟨4, 1, 4⟩]) := by rw [hW5]; exact World.ownsRow.alloc HO4.out _
      have HK5 : Hid (Kept Nil w W5) := by rw [hW5]; exact HG4.out.alloc _
      have HB5 : Hid (w.heap.size ≤ W5.heap.size) := HK5.out.size
      have HR5 : Hid (∀ k, (Value.slice ao' 2 c').ownBlock = some k → w.heap.size ≤ k) := by
        intro k hk
        rcases HO4.out.2 with ⟨h1, _⟩ | ⟨q, cap, cur, h1, h2, _⟩
        · simp at h1
        · simp only [Value.slice.injEq] at h1
          rw [h1.1] at hk
          cases hk
          exact h2
      go_wp2_with (at_builtin; rw [← hW5, ← Hg5.out]; go_must (refine wpList_append_src _ rfl _ _ 227 227 rfl w.heap.size 245 i0 (.agg #[.pointer none, .int .i64 0, .int .i64 0]) 3 24 Tryz.underlying227 hi hz0 hz1 hz2 rfl _ _ _ rfl HO5.out (.slice (some ⟨g5, 0, none⟩) 1 1) 1 [.pointer (some ⟨A, 1, none⟩), .int .i64 1, .int .i64 999999] rfl HS5.out HL2.out.1 HL2.out.2 HB5.out ?_); intro ao6 c6 w6 ho' hg'; have HO6 : Hid (OwnN A w.heap.size w6 ao6 c6 [⟨3, 0, 999999⟩, ⟨4, 1, 4⟩, ⟨1, 1, 999999⟩]) := OwnN.push (ns := [⟨3, 0, 999999⟩, ⟨4, 1, 4⟩]) (x := ⟨1, 1, 999999⟩) ho'; have HG6 : Hid (Kept Nil w w6) := HK5.out.grown hg' HR5.out; clear ho' hg')
      go_ret
      exact ⟨_, _, rfl, HO6.out, HG6.out⟩
end Go.Proofs.YtflnjlbafchnaaaGreatDoor
