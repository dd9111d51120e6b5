/-
  SessionOnce: its table in memory.
-/
import Derived.Test.YtilolhjlokfkeaaWSo1
namespace Go.Proofs.Ytilolhjlokfkeaa
open Go.RowKit

theorem OwnE.seRow {B c : Nat} {w : World} {ao : Option Addr} {es : List Se} (h : OwnE B w ao c es) (hk : OwnKs B w es) (hb : ∀ e ∈ es, e.s.ks.length ≤ 32 ∧ (∀ k ∈ e.s.ks, k.length ≤ maxLen) ∧ e.s.val.length ≤ maxLen) : SeRow w.heap.size w ao es := fun j hj => by
  have hne : ao ≠ none := fun e => by
    rw [e] at h
    have h9 := h.noneE.1
    rw [h9] at hj
    simp at hj
  obtain ⟨g, gl, rfl, _, hgb, _⟩ := h.block hne
  have hm := List.getElem_mem hj
  obtain ⟨l1, l2, l3⟩ := hb _ hm
  have hok := hk _ hm
  refine ⟨⟨g, 0, none⟩, rfl, lt_of_block hgb, fun r u hu => ?_, hok.row l2, fun e => ?_, by omega, l3⟩
  · have hr : r < 7 := by
      have := (List.getElem?_eq_some_iff.1 hu).1
      rwa [seCell_len] at this
    refine h.cells (g := g) rfl _ u ?_
    rw [seCells_at es j r hj hr]
    exact hu
  · rw [e] at hok
    exact ownK_nilS hok

/-- The law's table between two requests: in the block A, above the world w. -/
structure OT (w X : World) (A : Nat) (ps : List Pr) (ss : List Ss) (a1 a2 : Option Addr) (c1 c2 : Nat) (xs : List Se) : Prop where
  blk : X.heap[A]? = some (.cells #[.slice a1 ps.length c1, .slice a2 xs.length c2, .int .i64 0] 70 (0, 0))
  op : OwnP w.heap.size X a1 c1 ps
  oe : OwnE w.heap.size X a2 c2 xs
  ok : OwnKs w.heap.size X xs
  same : xs.map Se.s = ss
  kept : Kept Nil w X
  new : w.heap.size ≤ A
theorem OT.next {w X Y : World} {A c1 c2 : Nat} {ps : List Pr} {ss : List Ss} {a1 a2 : Option Addr} {xs : List Se} (h : OT w X A ps ss a1 a2 c1 c2 xs) (k : Kept Nil X Y) : OT w Y A ps ss a1 a2 c1 c2 xs :=
  ⟨k.block _ _ h.blk (fun x => x.elim), h.op.kept k, h.oe.kept k, h.ok.kept k, h.same, h.kept.trans k, h.new⟩
/-- A result's cell put. -/
theorem OT.res1 {w X : World} {A D i c1 c2 : Nat} {ps : List Pr} {ss : List Ss} {a1 a2 : Option Addr} {xs : List Se} {cl : Array Value} (h : OT w X A ps ss a1 a2 c1 c2 xs) (hD : X.heap[D]? = some (.cells cl 55 (0, 0))) (hn : w.heap.size ≤ D) (u : Value) : OT w (X.setCell ⟨D, i, none⟩ u) A ps ss a1 a2 c1 c2 xs := by
  have hAD : A ≠ D := fun e => by
    have h1 := h.blk
    rw [e, hD] at h1
    simp at h1
  exact ⟨blk_other h.blk (a := ⟨D, i, none⟩) hAD _, ownsRow_setCell_other h.op (a := ⟨D, i, none⟩) (own_neTyS h.op hD (by decide)) _, ownsRow_setCell_other h.oe (a := ⟨D, i, none⟩) (own_neTyS h.oe hD (by decide)) _, fun e he => ownsRow_setCell_other (h.ok e he) (a := ⟨D, i, none⟩) (own_neTyS (h.ok e he) hD (by decide)) _, h.same, h.kept.setNew (p := ⟨D, i, none⟩) hn _, h.new⟩
theorem OT.res {w X : World} {A D c1 c2 : Nat} {ps : List Pr} {ss : List Ss} {a1 a2 : Option Addr} {xs : List Se} {cl : Array Value} (h : OT w X A ps ss a1 a2 c1 c2 xs) (hD : X.heap[D]? = some (.cells cl 55 (0, 0))) (hn : w.heap.size ≤ D) (x0 x1 x2 x3 : Value) : OT w ((((X.setCell ⟨D, 0, none⟩ x0).setCell ⟨D, 1, none⟩ x1).setCell ⟨D, 2, none⟩ x2).setCell ⟨D, 3, none⟩ x3) A ps ss a1 a2 c1 c2 xs :=
  (((h.res1 hD hn _).res1 (blk_set hD 0 _) hn _).res1 (blk_set (blk_set hD 0 _) 1 _) hn _).res1 (blk_set (blk_set (blk_set hD 0 _) 1 _) 2 _) hn _
/-- Another table is put in its place. -/
theorem ot_put {w Y : World} {A c1 c2 : Nat} {ps : List Pr} {ss : List Ss} {a1 a2 : Option Addr} {xs : List Se} {x0 x1 x2 : Value} (hb : Y.heap[A]? = some (.cells #[x0, x1, x2] 70 (0, 0))) (hp : OwnP w.heap.size Y a1 c1 ps) (he : OwnE w.heap.size Y a2 c2 xs) (hk : OwnKs w.heap.size Y xs) (hs : xs.map Se.s = ss) (hK : Kept Nil w Y) (hn : w.heap.size ≤ A) : OT w (((Y.setCell ⟨A, 0, none⟩ (.slice a1 ps.length c1)).setCell ⟨A, 1, none⟩ (.slice a2 xs.length c2)).setCell ⟨A, 2, none⟩ (.int .i64 0)) A ps ss a1 a2 c1 c2 xs := by
  have b0 := blk_set hb 0 (.slice a1 ps.length c1)
  have b1 := blk_set b0 1 (.slice a2 xs.length c2)
  have b2 := blk_set b1 2 (.int .i64 0)
  have hrow : ∀ (e : TypeId) (sz n : Nat) (v : Value) (l : List Value), e ≠ 70 → Y.ownsRow w.heap.size e sz v n l → (((Y.setCell ⟨A, 0, none⟩ (.slice a1 ps.length c1)).setCell ⟨A, 1, none⟩ (.slice a2 xs.length c2)).setCell ⟨A, 2, none⟩ (.int .i64 0)).ownsRow w.heap.size e sz v n l := fun e sz n v l hne h => by
    have g0 := ownsRow_setCell_other h (a := ⟨A, 0, none⟩) (own_neTyS h hb hne) (.slice a1 ps.length c1)
    have g1 := ownsRow_setCell_other g0 (a := ⟨A, 1, none⟩) (own_neTyS g0 b0 hne) (.slice a2 xs.length c2)
    exact ownsRow_setCell_other g1 (a := ⟨A, 2, none⟩) (own_neTyS g1 b1 hne) (.int .i64 0)
  refine ⟨?_, hrow _ _ _ _ _ (by decide) hp, hrow _ _ _ _ _ (by decide) he, fun e hm => hrow _ _ _ _ _ (by decide) (hk e hm), hs, ((hK.setNew (p := ⟨A, 0, none⟩) hn _).setNew (p := ⟨A, 1, none⟩) hn _).setNew (p := ⟨A, 2, none⟩) hn _, hn⟩
  exact b2
/-- A request on it. -/
theorem OT.run {w X : World} {A c1 c2 k : Nat} {v : List UInt8} {a1 a2 : Option Addr} {xs : List Se} (h : OT w X A (pk k v) [sk k] a1 a2 c1 c2 xs) (hk : k ≤ 61) (hv : v.length ≤ 64) (nu : Int) (d : UInt8) (ix : Int) :
    Calls Try.prog 46 #[.agg #[.slice a1 (pk k v).length c1, .slice a2 xs.length c2, .int .i64 0], .agg #[.int .i64 5, .int .i64 nu, .int .i64 5, .string (bs [107]), .string (bs [d]), .int .i64 0, .int .i64 0], .int .i64 ix] X (SesPost X (sesT (pk k v) [sk k] 0 5 nu 5 [107] [d] 0 0 ix)) := by
  have ht := tab_facts (so_tab (v := v) hk hv)
  have hf : Fit (pk k v) := fun p hp => by
    obtain ⟨_, g2, g3, _, _⟩ := prOk_iff ((pairs_ok ht.2.1).2.2 p hp)
    unfold maxLen
    exact ⟨by omega, by omega⟩
  have hx : ∀ e ∈ xs, e.s.ks.length ≤ 32 ∧ (∀ k ∈ e.s.ks, k.length ≤ maxLen) ∧ e.s.val.length ≤ maxLen := fun e he => by
    have h1 : e.s ∈ xs.map Se.s := List.mem_map.2 ⟨e, he, rfl⟩
    rw [h.same] at h1
    have h2 : e.s = sk k := by simpa using h1
    rw [h2]
    simp [sk]
  have hlen : xs.length = 1 := by
    have := congrArg List.length h.same
    simpa using this
  have hpl := (pairs_ok ht.2.1).1
  have H := ses_any X.heap.size c1 c2 0 5 nu 5 0 0 ix [107] [d] a1 a2 (pk k v) xs X (h.op.row hf) (h.oe.seRow h.ok hx) (fun e => by have h9 := h.op; rw [e] at h9; exact ownP_nil h9) (fun e => by have h9 := h.oe; rw [e] at h9; exact h9.noneE) (by omega) (by omega) (Nat.le_refl _) (by unfold maxLen; simp) (by unfold maxLen; simp)
  rw [h.same] at H
  exact H

end Go.Proofs.Ytilolhjlokfkeaa
