/-
  Joined: WCe2, WCe3.
-/
import Derived.Test.YtflnjlbafchnaaaGreatDoorQ12
import Derived.Test.YtflnjlbafchnaaaGreatDoorQ09
import Derived.Test.YtflnjlbafchnaaaGreatDoorQ01
/-
  Cells: numbers, readAll (the program).
-/
namespace Go.Proofs.YtflnjlbafchnaaaGreatDoor
open Go.RowKit

/-- One of a cell's numbers: where it lies in the cell, from where to where it may be. -/
structure Nm where
  o : Nat
  l : Nat
  m : Nat
def nms (s : Nat) (full : Bool) : List Nm := ⟨3, 0, 999999⟩ :: ((if s = 0 then [] else [⟨4, 1, 4⟩]) ++ (if full = true then [⟨1, 1, 999999⟩] else []))
theorem nms_spec (s : Nat) (full : Bool) : (nms s full).map (fun x => (x.l, x.m)) = ceSpec s full := by
  unfold nms ceSpec
  by_cases h : s = 0 <;> cases full <;> simp [h]
def nmCell (A : Nat) (x : Nm) : List Value := [.pointer (some ⟨A, x.o, none⟩), .int .i64 x.l, .int .i64 x.m]
def nmCells (A : Nat) (ns : List Nm) : List Value := ns.flatMap (nmCell A)
theorem nmCells_at (A : Nat) : ∀ (ns : List Nm) (j : Nat) (hj : j < ns.length), (nmCells A ns)[j * 3]? = some (.pointer (some ⟨A, ns[j].o, none⟩)) ∧ (nmCells A ns)[j * 3 + 1]? = some (.int .i64 ns[j].l) ∧ (nmCells A ns)[j * 3 + 2]? = some (.int .i64 ns[j].m)
  | [], j, hj => by simp at hj
  | o :: t, 0, hj => by simp [nmCells, nmCell]
  | o :: t, j + 1, hj => by
    have h := nmCells_at A t j (by simpa using hj)
    have hx : ∀ i, (nmCells A (o :: t))[(j + 1) * 3 + i]? = (nmCells A t)[j * 3 + i]? := fun i => by
      rw [show nmCells A (o :: t) = .pointer (some ⟨A, o.o, none⟩) :: .int .i64 o.l :: .int .i64 o.m :: nmCells A t by simp [nmCells, nmCell], show (j + 1) * 3 + i = (j * 3 + i) + 1 + 1 + 1 by omega]
      simp only [List.getElem?_cons_succ]
    have hx0 := hx 0
    simp only [Nat.add_zero] at hx0
    rw [hx0, hx 1, hx 2]
    simpa using h
def OwnN (A B : Nat) (w : World) (ao : Option Addr) (c : Nat) (ns : List Nm) : Prop := w.ownsRow B 245 3 (.slice ao ns.length c) ns.length (nmCells A ns)
theorem Tryz.infoNm : (Tryz.prog.info? 245).map (fun i => (i.zero, i.size, i.bytes)) = some (some (.agg #[.pointer none, .int .i64 0, .int .i64 0]), 3, 24) := by kernel_rfl
theorem own_one {A B g : Nat} {w : World} {x : Nm} (hB : B ≤ g) (h : w.heap[g]? = some (.cells #[.pointer (some ⟨A, x.o, none⟩), .int .i64 x.l, .int .i64 x.m] 245 (0, 0))) : OwnN A B w (some ⟨g, 0, none⟩) 1 [x] :=
  ⟨rfl, .inr ⟨g, 1, _, rfl, hB, h, Nat.le_refl _, by unfold maxLen; omega, rfl, rfl⟩⟩
theorem nm_src {A g : Nat} {w : World} {x : Nm} (h : w.heap[g]? = some (.cells #[.pointer (some ⟨A, x.o, none⟩), .int .i64 x.l, .int .i64 x.m] 245 (0, 0))) : Src Tryz.prog 3 227 (.slice (some ⟨g, 0, none⟩) 1 1) 1 [.pointer (some ⟨A, x.o, none⟩), .int .i64 x.l, .int .i64 x.m] w := by
  refine Src.ofSlice _ Tryz.underlying227 _ 1 1 _ rfl ?_ ?_
  · intro j u hj
    match j, hj with
    | 0, hj => simp at hj; subst hj; exact blk_at h 0 rfl
    | 1, hj => simp at hj; subst hj; exact blk_at h 1 rfl
    | 2, hj => simp at hj; subst hj; exact blk_at h 2 rfl
  · intro u hu
    simp at hu
    rcases hu with rfl | rfl | rfl <;> rfl
theorem OwnN.push {A B : Nat} {w' : World} {ao : Option Addr} {c : Nat} {ns : List Nm} {x : Nm} (h : w'.ownsRow B 245 3 (.slice ao (ns.length + 1) c) (ns.length + 1) (nmCells A ns ++ [.pointer (some ⟨A, x.o, none⟩), .int .i64 x.l, .int .i64 x.m])) : OwnN A B w' ao c (ns ++ [x]) := by
  unfold OwnN
  rw [show nmCells A (ns ++ [x]) = nmCells A ns ++ [.pointer (some ⟨A, x.o, none⟩), .int .i64 x.l, .int .i64 x.m] by simp [nmCells, nmCell], List.length_append]
  exact h
/-- A cell's block. -/
def CeAt (w : World) (A : Nat) (c : Ce) : Prop := w.heap[A]? = some (.cells #[.string (bs c.v), .int .i64 c.n, .int .i64 c.s, .int .i64 c.h, .int .i64 c.g] 131 (0, 0))
def NumPost (w : World) (A : Nat) (ns : List Nm) (e : Ending) (w' : World) : Prop := ∃ ao c, e = .returned (.slice ao ns.length c) ∧ OwnN A w.heap.size w' ao c ns ∧ Kept Nil w w'
set_option maxRecDepth 100000 in
set_option maxHeartbeats 4000000 in
theorem numbers_any (w : World) (A : Nat) (c : Ce) (h : CeAt w A c) (full : Bool) :
    Calls Tryz.prog 180 #[.pointer (some ⟨A, 0, none⟩), .bool full] w (NumPost w A (nms c.s full)) := by
  obtain ⟨i0, hi, hz0, hz1, hz2⟩ := info_parts Tryz.infoNm
  have HLL : ∀ k, k ≤ 2 → Hid (k + 1 ≤ maxLen ∧ (k + 1) * 24 ≤ 140737488355328) := fun k hk => by constructor; unfold maxLen; omega; omega
  have HL1 := HLL 1 (by omega)
  have HL2 := HLL 2 (by omega)
  clear HLL
  obtain ⟨W1, hW1⟩ : ∃ W, W = w.alloc (.cells #[.pointer (some ⟨A, 3, none⟩), .int .i64 0, .int .i64 999999] 245) := ⟨_, rfl⟩
  obtain ⟨g, Hg⟩ : ∃ g, Hid (g = w.heap.size) := ⟨_, rfl⟩
  have hb1 : W1.heap[g]? = some (.cells #[.pointer (some ⟨A, 3, none⟩), .int .i64 0, .int .i64 999999] 245 (0, 0)) := by rw [hW1, Hg.out]; exact blk_new _ _
  have HO1 : Hid (OwnN A w.heap.size W1 (some ⟨g, 0, none⟩) 1 [⟨3, 0, 999999⟩]) := own_one (x := ⟨3, 0, 999999⟩) (by rw [Hg.out]; exact Nat.le_refl _) hb1
  have HK1 : Hid (Kept Nil w W1) := by rw [hW1]; exact (Kept.refl _ _).alloc _
  have hs1 : W1.cell? ⟨A, 2, none⟩ = some (.int .i64 c.s) := blk_at (HK1.out.block _ _ h (fun x => x.elim)) 2 rfl
  obtain ⟨W2, hW2⟩ : ∃ W, W = W1.alloc (.cells #[.pointer (some ⟨A, 4, none⟩), .int .i64 1, .int .i64 4] 245) := ⟨_, rfl⟩
  obtain ⟨g2, Hg2⟩ : ∃ g, Hid (g = W1.heap.size) := ⟨_, rfl⟩
  have HS2 : Hid (Src Tryz.prog 3 227 (.slice (some ⟨g2, 0, none⟩) 1 1) 1 [.pointer (some ⟨A, 4, none⟩), .int .i64 1, .int .i64 4] W2) := nm_src (x := ⟨4, 1, 4⟩) (by rw [hW2, Hg2.out]; exact blk_new _ _)
  have HO2 : Hid (OwnN A w.heap.size W2 (some ⟨g, 0, none⟩) 1 [⟨3, 0, 999999⟩]) := by rw [hW2]; exact World.ownsRow.alloc HO1.out _
  have HK2 : Hid (Kept Nil w W2) := by rw [hW2]; exact HK1.out.alloc _
  have HB2 : Hid (w.heap.size ≤ W2.heap.size) := HK2.out.size
  obtain ⟨W3, hW3⟩ : ∃ W, W = W1.alloc (.cells #[.pointer (some ⟨A, 1, none⟩), .int .i64 1, .int .i64 999999] 245) := ⟨_, rfl⟩
  have HS3 : Hid (Src Tryz.prog 3 227 (.slice (some ⟨g2, 0, none⟩) 1 1) 1 [.pointer (some ⟨A, 1, none⟩), .int .i64 1, .int .i64 999999] W3) := nm_src (x := ⟨1, 1, 999999⟩) (by rw [hW3, Hg2.out]; exact blk_new _ _)
  have HO3 : Hid (OwnN A w.heap.size W3 (some ⟨g, 0, none⟩) 1 [⟨3, 0, 999999⟩]) := by rw [hW3]; exact World.ownsRow.alloc HO1.out _
  have HK3 : Hid (Kept Nil w W3) := by rw [hW3]; exact HK1.out.alloc _
  have HB3 : Hid (w.heap.size ≤ W3.heap.size) := HK3.out.size
  have Hgw : Hid (w.heap.size ≤ g) := by rw [Hg.out]; exact Nat.le_refl _
  clear h hb1
  by_cases cs : c.s = 0
  · cases full with
    | false =>
      have hn : nms c.s false = [⟨3, 0, 999999⟩] := by rw [cs]; rfl
      rw [hn]
      rw [cs] at hs1
      clear hn cs HO2 HO3 HS2 HS3 hW2 hW3
      go_enter Tryz.func180, Tryz.ntmps180
      go_upto_region 2 with fail
      rw [← hW1, ← Hg.out]
      clear hW1
      go_wp2
      go_ret
      exact ⟨_, _, rfl, HO1.out, HK1.out⟩
    | true =>
      have hn : nms c.s true = [⟨3, 0, 999999⟩, ⟨1, 1, 999999⟩] := by rw [cs]; rfl
      rw [hn]
      rw [cs] at hs1
      clear hn cs HO2 HS2 hW2
      go_enter Tryz.func180, Tryz.ntmps180
      go_upto_region 2 with fail
      rw [← hW1, ← Hg.out]
      clear hW1
      go_wp2_with (at_builtin; rw [← hW3, ← Hg2.out]; go_must (refine wpList_append_src _ rfl _ _ 227 227 rfl w.heap.size 245 i0 (.agg #[.pointer none, .int .i64 0, .int .i64 0]) 3 24 Tryz.underlying227 hi hz0 hz1 hz2 rfl _ _ _ rfl HO3.out (.slice (some ⟨g2, 0, none⟩) 1 1) 1 [.pointer (some ⟨A, 1, none⟩), .int .i64 1, .int .i64 999999] rfl HS3.out HL1.out.1 HL1.out.2 HB3.out ?_); intro ao' c' w1 ho' hg'; have HO4 : Hid (OwnN A w.heap.size w1 ao' c' [⟨3, 0, 999999⟩, ⟨1, 1, 999999⟩]) := OwnN.push (ns := [⟨3, 0, 999999⟩]) (x := ⟨1, 1, 999999⟩) ho'; have HG4 : Hid (Kept Nil w w1) := HK3.out.grown hg' (fun k hk => by cases hk; exact Hgw.out); clear ho' hg')
      go_ret
      exact ⟨_, _, rfl, HO4.out, HG4.out⟩
  · have hne : ((c.s : Int) != 0) = true := by simp; omega
    cases full with
    | false =>
      have hn : nms c.s false = [⟨3, 0, 999999⟩, ⟨4, 1, 4⟩] := by unfold nms; rw [if_neg cs]; rfl
      rw [hn]
      clear hn HO3 HS3 hW3
      go_enter Tryz.func180, Tryz.ntmps180
      go_upto_region 2 with fail
      rw [← hW1, ← Hg.out]
      clear hW1
      go_wp2_with (at_builtin; rw [← hW2, ← Hg2.out]; go_must (refine wpList_append_src _ rfl _ _ 227 227 rfl w.heap.size 245 i0 (.agg #[.pointer none, .int .i64 0, .int .i64 0]) 3 24 Tryz.underlying227 hi hz0 hz1 hz2 rfl _ _ _ rfl HO2.out (.slice (some ⟨g2, 0, none⟩) 1 1) 1 [.pointer (some ⟨A, 4, none⟩), .int .i64 1, .int .i64 4] rfl HS2.out HL1.out.1 HL1.out.2 HB2.out ?_); intro ao' c' w1 ho' hg'; have HO4 : Hid (OwnN A w.heap.size w1 ao' c' [⟨3, 0, 999999⟩, ⟨4, 1, 4⟩]) := OwnN.push (ns := [⟨3, 0, 999999⟩]) (x := ⟨4, 1, 4⟩) ho'; have HG4 : Hid (Kept Nil w w1) := HK2.out.grown hg' (fun k hk => by cases hk; exact Hgw.out); clear ho' hg')
      go_ret
      exact ⟨_, _, rfl, HO4.out, HG4.out⟩
    | true =>
      have hn : nms c.s true = [⟨3, 0, 999999⟩, ⟨4, 1, 4⟩, ⟨1, 1, 999999⟩] := by unfold nms; rw [if_neg cs]; rfl
      rw [hn]
      clear hn HO3 HS3 hW3
      go_enter Tryz.func180, Tryz.ntmps180
      go_upto_region 2 with fail
      rw [← hW1, ← Hg.out]
      clear hW1
      go_upto_region 5 with (at_builtin; rw [← hW2, ← Hg2.out]; go_must (refine wpList_append_src _ rfl _ _ 227 227 rfl w.heap.size 245 i0 (.agg #[.pointer none, .int .i64 0, .int .i64 0]) 3 24 Tryz.underlying227 hi hz0 hz1 hz2 rfl _ _ _ rfl HO2.out (.slice (some ⟨g2, 0, none⟩) 1 1) 1 [.pointer (some ⟨A, 4, none⟩), .int .i64 1, .int .i64 4] rfl HS2.out HL1.out.1 HL1.out.2 HB2.out ?_); intro ao' c' w1 ho' hg'; have HO4 : Hid (OwnN A w.heap.size w1 ao' c' [⟨3, 0, 999999⟩, ⟨4, 1, 4⟩]) := OwnN.push (ns := [⟨3, 0, 999999⟩]) (x := ⟨4, 1, 4⟩) ho'; have HG4 : Hid (Kept Nil w w1) := HK2.out.grown hg' (fun k hk => by cases hk; exact Hgw.out); clear ho' hg')
      obtain ⟨W5, hW5⟩ : ∃ W, W = w1.alloc (.cells #[.pointer (some ⟨A, 1, none⟩), .int .i64 1, .int .i64 999999] 245) := ⟨_, rfl⟩
      obtain ⟨g5, Hg5⟩ : ∃ g, Hid (g = w1.heap.size) := ⟨_, rfl⟩
      have HS5 : Hid (Src Tryz.prog 3 227 (.slice (some ⟨g5, 0, none⟩) 1 1) 1 [.pointer (some ⟨A, 1, none⟩), .int .i64 1, .int .i64 999999] W5) := nm_src (x := ⟨1, 1, 999999⟩) (by rw [hW5, Hg5.out]; exact blk_new _ _)
      have HO5 : Hid (OwnN A w.heap.size W5 ao' c' [⟨3, 0, 999999⟩, ⟨4, 1, 4⟩]) := by rw [hW5]; exact World.ownsRow.alloc HO4.out _
      have HK5 : Hid (Kept Nil w W5) := by rw [hW5]; exact HG4.out.alloc _
      have HB5 : Hid (w.heap.size ≤ W5.heap.size) := HK5.out.size
      have HR5 : Hid (∀ k, (Value.slice ao' 2 c').ownBlock = some k → w.heap.size ≤ k) := by
        intro k hk
        rcases HO4.out.2 with ⟨h1, _⟩ | ⟨q, cap, cur, h1, h2, _⟩
        · simp at h1
        · simp only [Value.slice.injEq] at h1
          rw [h1.1] at hk
          cases hk
          exact h2
      go_wp2_with (at_builtin; rw [← hW5, ← Hg5.out]; go_must (refine wpList_append_src _ rfl _ _ 227 227 rfl w.heap.size 245 i0 (.agg #[.pointer none, .int .i64 0, .int .i64 0]) 3 24 Tryz.underlying227 hi hz0 hz1 hz2 rfl _ _ _ rfl HO5.out (.slice (some ⟨g5, 0, none⟩) 1 1) 1 [.pointer (some ⟨A, 1, none⟩), .int .i64 1, .int .i64 999999] rfl HS5.out HL2.out.1 HL2.out.2 HB5.out ?_); intro ao6 c6 w6 ho' hg'; have HO6 : Hid (OwnN A w.heap.size w6 ao6 c6 [⟨3, 0, 999999⟩, ⟨4, 1, 4⟩, ⟨1, 1, 999999⟩]) := OwnN.push (ns := [⟨3, 0, 999999⟩, ⟨4, 1, 4⟩]) (x := ⟨1, 1, 999999⟩) ho'; have HG6 : Hid (Kept Nil w w6) := HK5.out.grown hg' HR5.out; clear ho' hg')
      go_ret
      exact ⟨_, _, rfl, HO6.out, HG6.out⟩
end Go.Proofs.YtflnjlbafchnaaaGreatDoor

/-
  Cells: readAll (the program).
-/
namespace Go.Proofs.YtflnjlbafchnaaaGreatDoor
open Go.RowKit

/-- One number of a cell is set, by where it lies. -/
def ceSet (c : Ce) (o : Nat) (x : Nat) : Ce := if o = 3 then { c with h := x } else if o = 4 then { c with g := x } else { c with n := x }
def ceSets (c : Ce) : List Nm → List Nat → Ce
  | x :: r, y :: t => ceSets (ceSet c x.o y) r t
  | _, _ => c
theorem CeAt.set {w : World} {A : Nat} {c : Ce} (h : CeAt w A c) {o : Nat} (ho : o = 3 ∨ o = 4 ∨ o = 1) (x : Nat) : CeAt (w.setCell ⟨A, o, none⟩ (.int .i64 x)) A (ceSet c o x) := by
  rcases ho with rfl | rfl | rfl
  · exact blk_set h 3 _
  · exact blk_set h 4 _
  · exact blk_set h 1 _
theorem CeAt.cell {w : World} {A : Nat} {c : Ce} (h : CeAt w A c) {o : Nat} (ho : o = 3 ∨ o = 4 ∨ o = 1) : ∃ x, w.cell? ⟨A, o, none⟩ = some (.int .i64 x) := by
  rcases ho with rfl | rfl | rfl
  · exact ⟨_, blk_at h 3 rfl⟩
  · exact ⟨_, blk_at h 4 rfl⟩
  · exact ⟨_, blk_at h 1 rfl⟩
/-- A row of numbers, in every later world in which only the cell is written. -/
def NRow (A : Nat) (w : World) (ao : Option Addr) (ns : List Nm) : Prop := ∀ j, (hj : j < ns.length) → ∃ a, ao = some a ∧ ∀ X, Kept (One A) w X → X.cell? (a.add (j * 3)) = some (.pointer (some ⟨A, ns[j].o, none⟩)) ∧ X.cell? ⟨(a.add (j * 3)).block, (a.add (j * 3)).off + 1, none⟩ = some (.int .i64 ns[j].l) ∧ X.cell? ⟨(a.add (j * 3)).block, (a.add (j * 3)).off + 2, none⟩ = some (.int .i64 ns[j].m)
def WRow (A : Nat) (w : World) (ao : Option Addr) (ws : List (List UInt8)) : Prop := ∀ j, (hj : j < ws.length) → ∃ a, ao = some a ∧ ∀ X, Kept (One A) w X → X.cell? (a.add j) = some (.string (bs ws[j]))
theorem OwnN.row {A B c : Nat} {w : World} {ao : Option Addr} {ns : List Nm} (h : OwnN A B w ao c ns) (hA : A < B) : NRow A w ao ns := fun j hj => by
  rcases h.2 with ⟨h1, h2⟩ | ⟨g, cap, cur, h1, h2, h3, _⟩
  · omega
  · simp only [Value.slice.injEq] at h1
    refine ⟨⟨g, 0, none⟩, h1.1, fun X hX => ?_⟩
    have hb : X.heap[g]? = some (.cells cur 245 (0, 0)) := hX.block _ _ h3 (fun e => by have : g = A := e; omega)
    have hc := h.cells (g := g) (by rw [h1.1]; rfl)
    have hc' : ∀ j u, (nmCells A ns)[j]? = some u → X.cell? ⟨g, j, none⟩ = some u := fun j u e => by
      have e1 := hc j u e
      rw [Addr.add_lit, Nat.zero_add, blk_cell h3] at e1
      rw [blk_cell hb]
      exact e1
    obtain ⟨n0, n1, n2⟩ := nmCells_at A ns j hj
    rw [Addr.add_lit, Nat.zero_add]
    exact ⟨hc' _ _ n0, hc' _ _ n1, hc' _ _ n2⟩
/-- What is left of the reading, behind k numbers. -/
def rdLeft (c : Ce) (ns : List Nm) (ws : List (List UInt8)) (k : Nat) : Option Ce := (ceRd (ws.drop k) ((ns.drop k).map (fun x => (x.l, x.m)))).map (ceSets c (ns.drop k))
theorem rdLeft_at {c : Ce} {ns : List Nm} {ws : List (List UInt8)} {k : Nat} (h1 : k < ws.length) (h2 : k < ns.length) : rdLeft c ns ws k = (match amt ns[k].m ws[k] with | some v => if ns[k].l ≤ v then rdLeft (ceSet c ns[k].o v) ns ws (k + 1) else none | none => none) := by
  unfold rdLeft
  rw [List.drop_eq_getElem_cons h1, List.drop_eq_getElem_cons h2]
  simp only [List.map_cons, ceRd]
  cases amt ns[k].m ws[k] with
  | none => rfl
  | some v =>
    simp only
    by_cases hc : ns[k].l ≤ v
    · rw [if_pos hc, if_pos hc]
      cases ceRd (List.drop (k + 1) ws) (List.map (fun x => (x.l, x.m)) (List.drop (k + 1) ns)) with
      | none => rfl
      | some l => rfl
    · rw [if_neg hc, if_neg hc]
      rfl
theorem rdLeft_end {c : Ce} {ns : List Nm} {ws : List (List UInt8)} {k : Nat} (h1 : ¬ k < ws.length) (h2 : ¬ k < ns.length) : rdLeft c ns ws k = some c := by
  unfold rdLeft
  rw [List.drop_of_length_le (by omega), List.drop_of_length_le (by omega)]
  rfl
theorem rdLeft_len {c : Ce} {ns : List Nm} {ws : List (List UInt8)} (h : ws.length ≠ ns.length) : rdLeft c ns ws 0 = none := by
  unfold rdLeft
  cases hr : ceRd (ws.drop 0) ((ns.drop 0).map (fun x => (x.l, x.m))) with
  | none => rfl
  | some l =>
    have := (ceRd_len hr).1
    simp at this
    exact absurd this h
/-- What readAll leaves: the cell as it was read, or some cell where it could not be. -/
def RaPost (w : World) (A : Nat) (r : Option Ce) (e : Ending) (w' : World) : Prop := e = .returned (.bool r.isSome) ∧ (∃ c, CeAt w' A c ∧ (r = none ∨ r = some c)) ∧ Kept (One A) w w'
set_option maxRecDepth 100000 in
set_option maxHeartbeats 4000000 in
theorem readAll_any (w : World) (A : Nat) (c : Ce) (h : CeAt w A c) (ns : List Nm) (no : Option Addr) (nc : Nat) (hn : NRow A w no ns) (ws : List (List UInt8)) (wo : Option Addr) (wc : Nat) (hw : WRow A w wo ws)
    (hnl : ns.length ≤ 3) (hns : ∀ x ∈ ns, (x.o = 3 ∨ x.o = 4 ∨ x.o = 1) ∧ x.m ≤ 999999) (hws : ∀ x ∈ ws, x.length ≤ 281474976710656) (hA : 14 ≤ A) (hL : LW w) :
    Calls Tryz.prog 179 #[.slice wo ws.length wc, .slice no ns.length nc] w (RaPost w A (rdLeft c ns ws 0)) := by
  obtain ⟨r, HR⟩ : ∃ r, Hid (r = rdLeft c ns ws 0) := ⟨_, rfl⟩
  rw [← HR.out]
  have HN : Hid (NRow A w no ns) := hn
  have HW : Hid (WRow A w wo ws) := hw
  have HC : Hid (CeAt w A c) := h
  have HL : Hid (LW w) := hL
  have HNS : Hid (∀ x ∈ ns, (x.o = 3 ∨ x.o = 4 ∨ x.o = 1) ∧ x.m ≤ 999999) := hns
  have HWS : Hid (∀ x ∈ ws, x.length ≤ 281474976710656) := hws
  clear hn hw h hL hns hws
  by_cases cl : ws.length = ns.length
  · have hne : ((ws.length : Int) != (ns.length : Int)) = false := by rw [cl]; simp
    have CL : Hid (ws.length = ns.length) := cl
    clear cl
    go_enter Tryz.func179, Tryz.ntmps179
    go_wp2
    go_loopw [16] (fun i wr => ∃ k : Nat, ∃ c' : Ce, k ≤ ns.length ∧ i = .int .i64 k ∧ Hid (r = rdLeft c' ns ws k) ∧ Hid (CeAt wr A c') ∧ Hid (Kept (One A) w wr)) (fun i _ => ns.length - (intOf i).toNat)
    case atStart => exact ⟨0, c, Nat.zero_le _, rfl, HR.out, HC.out, Kept.refl _ _⟩
    case round =>
      obtain ⟨k, c', hk, rfl, HI, HC', HK⟩ := hrel
      clear HC HR
      rename World => wr
      by_cases hlt : k < ns.length
      · have hltw : k < ws.length := by have := CL.out; omega
        obtain ⟨a, rfl, ha⟩ := HN.out k hlt
        obtain ⟨b, rfl, hb⟩ := HW.out k hltw
        obtain ⟨x, HX⟩ : ∃ x, Hid (x = ns[k]) := ⟨ns[k], (rfl : ns[k] = ns[k])⟩
        obtain ⟨y, HY⟩ : ∃ y, Hid (y = ws[k]) := ⟨ws[k], (rfl : ws[k] = ws[k])⟩
        have hi2 : Hid (r = (match amt x.m y with | some v => if x.l ≤ v then rdLeft (ceSet c' x.o v) ns ws (k + 1) else none | none => none)) := by
          show _ = _
          rw [HI.out, rdLeft_at hltw hlt, HX.out, HY.out]
        have HXO : Hid ((x.o = 3 ∨ x.o = 4 ∨ x.o = 1) ∧ x.m ≤ 999999) := by rw [HX.out]; exact HNS.out _ (List.getElem_mem hlt)
        have HYL : Hid (y.length ≤ 281474976710656) := by rw [HY.out]; exact HWS.out _ (List.getElem_mem hltw)
        rw [← HX.out] at ha
        rw [← HY.out] at hb
        have HA : Hid (∀ X, Kept (One A) w X → X.cell? (a.add (k * 3)) = some (.pointer (some ⟨A, x.o, none⟩)) ∧ X.cell? ⟨(a.add (k * 3)).block, (a.add (k * 3)).off + 1, none⟩ = some (.int .i64 x.l) ∧ X.cell? ⟨(a.add (k * 3)).block, (a.add (k * 3)).off + 2, none⟩ = some (.int .i64 x.m)) := ha
        have HBB : Hid (∀ X, Kept (One A) w X → X.cell? (b.add k) = some (.string (bs y))) := hb
        obtain ⟨q0, q1, q2⟩ := ha _ HK.out
        clear ha hb HI HX HY
        obtain ⟨V, hV⟩ : ∃ V, V = wr.alloc (.cells #[.pointer (some ⟨A, x.o, none⟩), .int .i64 x.l, .int .i64 x.m] 245) := ⟨_, rfl⟩
        obtain ⟨g, Hg⟩ : ∃ g, Hid (g = wr.heap.size) := ⟨_, rfl⟩
        have HVb : Hid (V.heap[g]? = some (.cells #[.pointer (some ⟨A, x.o, none⟩), .int .i64 x.l, .int .i64 x.m] 245 (0, 0))) := by rw [hV, Hg.out]; exact blk_new _ _
        have HVn : Hid (Kept Nil wr V) := by rw [hV]; exact (Kept.refl _ _).alloc _
        have HVk : Hid (Kept (One A) w V) := HK.out.trans (HVn.out.mono (fun _ _ e => e.elim))
        have HgA : Hid (g ≠ A) := by show _ ≠ _; rw [Hg.out]; have := lt_of_block HC'.out; omega
        have u0 : V.cell? ⟨g, 0, none⟩ = some (.pointer (some ⟨A, x.o, none⟩)) := blk_at HVb.out 0 rfl
        have u1 : V.cell? ⟨g, 1, none⟩ = some (.int .i64 x.l) := blk_at HVb.out 1 rfl
        have u2 : V.cell? ⟨g, 2, none⟩ = some (.int .i64 x.m) := blk_at HVb.out 2 rfl
        have u3 : V.cell? (b.add k) = some (.string (bs y)) := HBB.out _ HVk.out
        have hglt : g < V.heap.size := lt_of_block HVb.out
        have hki : (k : Int) < ws.length := by have := CL.out; omega
        have DC : ∀ X, Kept Nil V X → Calls Tryz.prog 121 #[.string (bs y), .int .i64 x.l, .int .i64 x.m] X (RnPost X y (isNumB x.l x.m y (Lib.atoiAll y))) := fun X kX => readNumber_any y x.l x.m HYL.out X ((HL.out.keptX HVk.out (fun q o hq e => by have : q = A := e; omega)).kept kX).l
        obtain ⟨b1, Hb1⟩ : ∃ b1 : Bool, Hid (b1 = isNumB x.l x.m y (Lib.atoiAll y)) := ⟨_, rfl⟩
        rw [← Hb1.out] at DC
        go_upto_region 6 with fail
        rw [← hV, ← Hg.out]
        clear hV q0 q1 q2
        go_region_with (go_at_call 121; go_must (go_fit (DC _ (by repeat (first | exact Kept.refl _ _ | refine Kept.drew ?_))); rintro _ w2 ⟨v0, rfl, hv0, kw2⟩))
        all_goals
          have K2 : Hid (Kept Nil V w2) := by first | exact kw2 | exact (Kept.refl _ _).drew.trans kw2
          have Hv0 : Hid (Lib.atoiAll y = .ok v0 ∨ b1 = false) := hv0
          clear kw2 hv0 DC
          cases b1 with
          | false =>
            have hr : r = none := by
              rw [hi2.out]
              cases ha : amt x.m y with
              | none => rfl
              | some v =>
                simp only
                rw [if_neg]
                have := amt_of_false (least := x.l) (most := x.m) (by have := HXO.out.2; omega) Hb1.out.symm v ha
                omega
            have HF : Hid (CeAt w2 A c' ∧ Kept (One A) w w2) := ⟨K2.out.block _ _ (HVn.out.block _ _ HC'.out (fun x => x.elim)) (fun x => x.elim), HVk.out.trans (K2.out.mono (fun _ _ e => e.elim))⟩
            go_wp2
            go_ret
            (try rw [hr])
            exact ⟨rfl, ⟨c', HF.out.1, .inl rfl⟩, HF.out.2⟩
          | true =>
            obtain ⟨v, hv1, hv2, hv3⟩ := isNumB_of (least := x.l) (most := x.m) Hb1.out.symm
            have hvv : v0 = (v : Int) := by
              have := Hv0.out.resolve_right (by decide)
              rw [hv1] at this
              cases this
              rfl
            subst hvv
            have HI2 : Hid (r = rdLeft (ceSet c' x.o v) ns ws (k + 1)) := by
              show _ = _
              rw [hi2.out, hv2]
              exact if_pos hv3
            have HC2 : Hid (CeAt w2 A c') := K2.out.block _ _ (HVn.out.block _ _ HC'.out (fun x => x.elim)) (fun x => x.elim)
            obtain ⟨z, hz⟩ := HC2.out.cell HXO.out.1
            have hfz : w2.frozen? ⟨A, x.o, none⟩ = false := blk_free HC2.out x.o
            have y0 : w2.cell? ⟨g, 0, none⟩ = some (.pointer (some ⟨A, x.o, none⟩)) := blk_at (K2.out.block _ _ HVb.out (fun x => x.elim)) 0 rfl
            have HC3 : Hid (CeAt (w2.setCell ⟨A, x.o, none⟩ (.int .i64 v)) A (ceSet c' x.o v)) := HC2.out.set HXO.out.1 v
            have HK3 : Hid (Kept (One A) w (w2.setCell ⟨A, x.o, none⟩ (.int .i64 v))) := (HVk.out.trans (K2.out.mono (fun _ _ e => e.elim))).setCell (p := ⟨A, x.o, none⟩) (fun _ => rfl) _
            clear hv1 hv2 hv3 u0 u1 u2 u3
            go_wp2
            go_roundw
            case rel => exact ⟨k + 1, _, by omega, by go_num, HI2.out, HC3.out, HK3.out⟩
            case measure => simp [intOf]; omega
      · have hr : r = some c' := by rw [HI.out]; exact rdLeft_end (by have := CL.out; omega) hlt
        go_wp2
        go_ret
        (try rw [hr])
        exact ⟨rfl, ⟨c', HC'.out, .inr rfl⟩, HK.out⟩
  · have hne : ((ws.length : Int) != (ns.length : Int)) = true := by simp; omega
    have hr : r = none := by rw [HR.out]; exact rdLeft_len cl
    go_enter Tryz.func179, Tryz.ntmps179
    go_wp2
    go_ret
    (try rw [hr])
    exact ⟨rfl, ⟨c, HC.out, .inl rfl⟩, Kept.refl _ _⟩
end Go.Proofs.YtflnjlbafchnaaaGreatDoor
