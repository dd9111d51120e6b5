/-
  One operation on a draft: (*draft).do.
-/
import Derived.Test.YtijklginabipgaaWChg2
namespace Go.Proofs.Ytijklginabipgaa
open Go.RowKit

/-- A draft of a change in memory: its three rows of its own, apart from each other and from its block. -/
structure Drf (w0 : World) (bd : Nat) (a1 a2 a3 : Option Addr) (c1 c2 c3 : Nat) (v nx le : List Int) (w : World) : Prop where
  blk : w.heap[bd]? = some (.cells #[.slice a1 v.length c1, .slice a2 nx.length c2, .slice a3 le.length c3] 94 (0, 0))
  o1 : OwnInts w0.heap.size w a1 c1 v
  o2 : OwnInts w0.heap.size w a2 c2 nx
  o3 : OwnInts w0.heap.size w a3 c3 le
  n1 : (Value.slice a1 v.length c1).ownBlock ≠ some bd
  n2 : (Value.slice a2 nx.length c2).ownBlock ≠ some bd
  n3 : (Value.slice a3 le.length c3).ownBlock ≠ some bd
  d12 : ∀ g, (Value.slice a1 v.length c1).ownBlock = some g → (Value.slice a2 nx.length c2).ownBlock ≠ some g
  d13 : ∀ g, (Value.slice a1 v.length c1).ownBlock = some g → (Value.slice a3 le.length c3).ownBlock ≠ some g
  d23 : ∀ g, (Value.slice a2 nx.length c2).ownBlock = some g → (Value.slice a3 le.length c3).ownBlock ≠ some g
  kp : Kept Nil w0 w
  hb : w0.heap.size ≤ bd
theorem own_heap {B c : Nat} {w W : World} {ao : Option Addr} {zs : List Int} (h : OwnInts B w ao c zs) (e : W.heap = w.heap) : OwnInts B W ao c zs := by
  refine ⟨h.1, ?_⟩
  rw [e]
  exact h.2
theorem Drf.grown {w0 w w' : World} {bd : Nat} {a1 a2 a3 : Option Addr} {c1 c2 c3 : Nat} {v nx le : List Int} (h : Drf w0 bd a1 a2 a3 c1 c2 c3 v nx le w) (hg : w.grownBy w' none) : Drf w0 bd a1 a2 a3 c1 c2 c3 v nx le w' :=
  ⟨by rw [hg.block bd (lt_of_block h.blk) (by simp)]; exact h.blk, h.o1.far hg (by simp), h.o2.far hg (by simp), h.o3.far hg (by simp), h.n1, h.n2, h.n3, h.d12, h.d13, h.d23, h.kp.grown hg (fun k hk => by cases hk), h.hb⟩
theorem own_setNe {B c : Nat} {w : World} {ao : Option Addr} {zs : List Int} (h : OwnInts B w ao c zs) {a : Addr} (hne : (Value.slice ao zs.length c).ownBlock ≠ some a.block) (u : Value) : OwnInts B (w.setCell a u) ao c zs := ownsRow_setCell_other h hne u
/-- The next voters have turned to another row. -/
theorem Drf.next {w0 w w' : World} {bd : Nat} {a1 a2 a3 a2' : Option Addr} {c1 c2 c3 c2' : Nat} {v nx le nx' : List Int} (h : Drf w0 bd a1 a2 a3 c1 c2 c3 v nx le w) (o : OwnInts w0.heap.size w' a2' c2' nx') (hg : w.grownBy w' (Value.slice a2 nx.length c2).ownBlock)
    (hl : ∀ g, (Value.slice a2' nx'.length c2').ownBlock = some g → (Value.slice a2 nx.length c2).ownBlock = some g ∨ w.heap.size ≤ g) : Drf w0 bd a1 a2' a3 c1 c2' c3 v nx' le (w'.setCell ⟨bd, 1, none⟩ (.slice a2' nx'.length c2')) := by
  have hbd := lt_of_block h.blk
  have hb' : w'.heap[bd]? = some (.cells #[.slice a1 v.length c1, .slice a2 nx.length c2, .slice a3 le.length c3] 94 (0, 0)) := by rw [hg.block bd hbd (fun e => h.n2 e.symm)]; exact h.blk
  have hn2 : (Value.slice a2' nx'.length c2').ownBlock ≠ some bd := fun e => by
    rcases hl _ e with h1 | h1
    · exact h.n2 h1
    · omega
  refine ⟨blk_set hb' 1 _, own_setNe (h.o1.far hg (fun g hg' e => h.d12 g hg' e.symm)) h.n1 _, own_setNe o hn2 _, own_setNe (h.o3.far hg (fun g hg' e => h.d23 g e.symm hg')) h.n3 _, h.n1, hn2, h.n3, fun g h1 h2 => ?_, h.d13, fun g h1 h2 => ?_, (h.kp.grown hg (own_row h.o2)).setNew h.hb _, h.hb⟩
  · rcases hl _ h2 with h3 | h3
    · exact h.d12 g h1 h3
    · have := (World.ownsRow.lt h.o1 _ h1).2; omega
  · rcases hl _ h1 with h3 | h3
    · exact h.d23 g h3 h2
    · have := (World.ownsRow.lt h.o3 _ h2).2; omega
/-- The learners have turned to another row. -/
theorem Drf.learn {w0 w w' : World} {bd : Nat} {a1 a2 a3 a3' : Option Addr} {c1 c2 c3 c3' : Nat} {v nx le le' : List Int} (h : Drf w0 bd a1 a2 a3 c1 c2 c3 v nx le w) (o : OwnInts w0.heap.size w' a3' c3' le') (hg : w.grownBy w' (Value.slice a3 le.length c3).ownBlock)
    (hl : ∀ g, (Value.slice a3' le'.length c3').ownBlock = some g → (Value.slice a3 le.length c3).ownBlock = some g ∨ w.heap.size ≤ g) : Drf w0 bd a1 a2 a3' c1 c2 c3' v nx le' (w'.setCell ⟨bd, 2, none⟩ (.slice a3' le'.length c3')) := by
  have hbd := lt_of_block h.blk
  have hb' : w'.heap[bd]? = some (.cells #[.slice a1 v.length c1, .slice a2 nx.length c2, .slice a3 le.length c3] 94 (0, 0)) := by rw [hg.block bd hbd (fun e => h.n3 e.symm)]; exact h.blk
  have hn3 : (Value.slice a3' le'.length c3').ownBlock ≠ some bd := fun e => by
    rcases hl _ e with h1 | h1
    · exact h.n3 h1
    · omega
  refine ⟨blk_set hb' 2 _, own_setNe (h.o1.far hg (fun g hg' e => h.d13 g hg' e.symm)) h.n1 _, own_setNe (h.o2.far hg (fun g hg' e => h.d23 g hg' e.symm)) h.n2 _, own_setNe o hn3 _, h.n1, h.n2, hn3, h.d12, fun g h1 h2 => ?_, fun g h1 h2 => ?_, (h.kp.grown hg (own_row h.o3)).setNew h.hb _, h.hb⟩
  · rcases hl _ h2 with h3 | h3
    · exact h.d13 g h1 h3
    · have := (World.ownsRow.lt h.o1 _ h1).2; omega
  · rcases hl _ h2 with h3 | h3
    · exact h.d23 g h1 h3
    · have := (World.ownsRow.lt h.o2 _ h1).2; omega
/-- Both have: both rows first, then both cells. -/
theorem Drf.both {w0 w w1 w2 : World} {bd : Nat} {a1 a2 a3 a2' a3' : Option Addr} {c1 c2 c3 c2' c3' : Nat} {v nx le nx' le' : List Int} (h : Drf w0 bd a1 a2 a3 c1 c2 c3 v nx le w) (o : OwnInts w0.heap.size w1 a2' c2' nx') (hg : w.grownBy w1 (Value.slice a2 nx.length c2).ownBlock)
    (hl : ∀ g, (Value.slice a2' nx'.length c2').ownBlock = some g → (Value.slice a2 nx.length c2).ownBlock = some g ∨ w.heap.size ≤ g)
    (o' : OwnInts w0.heap.size w2 a3' c3' le') (hg' : w1.grownBy w2 (Value.slice a3 le.length c3).ownBlock)
    (hl' : ∀ g, (Value.slice a3' le'.length c3').ownBlock = some g → (Value.slice a3 le.length c3).ownBlock = some g ∨ w1.heap.size ≤ g) : Drf w0 bd a1 a2' a3' c1 c2' c3' v nx' le' ((w2.setCell ⟨bd, 1, none⟩ (.slice a2' nx'.length c2')).setCell ⟨bd, 2, none⟩ (.slice a3' le'.length c3')) := by
  have hbd := lt_of_block h.blk
  have h1 := h.next o hg hl
  have hs : (w1.setCell ⟨bd, 1, none⟩ (.slice a2' nx'.length c2')).heap.size = w1.heap.size := by simp [World.setCell]
  have hs2 : (w2.setCell ⟨bd, 1, none⟩ (.slice a2' nx'.length c2')).heap.size = w2.heap.size := by simp [World.setCell]
  have hbd1 : bd < w1.heap.size := by have := hg.size; omega
  have hbd2 : bd < w2.heap.size := by have := hg'.size; omega
  refine h1.learn (own_setNe o' (fun e => ?_) _) ⟨hg'.os, hg'.tape, hg'.output, by rw [hs, hs2]; exact hg'.size, fun k hk hne => ?_⟩ (fun g hgg => by rw [hs]; exact hl' g hgg)
  · rcases hl' _ e with h3 | h3
    · exact h.n3 h3
    · have : w1.heap.size ≤ bd := h3
      omega
  · rw [hs] at hk
    by_cases hkb : k = bd
    · subst hkb
      have e1 : w2.heap[k]? = w1.heap[k]? := hg'.block k hk hne
      have e2 : w1.heap[k]? = some (.cells #[.slice a1 v.length c1, .slice a2 nx.length c2, .slice a3 le.length c3] 94 (0, 0)) := by rw [hg.block k hbd (fun e => h.n2 e.symm)]; exact h.blk
      rw [blk_set (e1.trans e2) 1 _, blk_set e2 1 _]
    · rw [Below.heap_setCell _ _ _ _ hkb, Below.heap_setCell _ _ _ _ hkb]
      exact hg'.block k hk hne
theorem Dr.len {v nx le : List Int} (hd : Dr v nx le) : v.length ≤ 9 ∧ nx.length ≤ 9 ∧ le.length ≤ 9 := ⟨up_len hd.vv, up_len hd.nn, up_len hd.ll⟩

end Go.Proofs.Ytijklginabipgaa
