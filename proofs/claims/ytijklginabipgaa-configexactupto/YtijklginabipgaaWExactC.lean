/-
  ConfigExact: what its walk wants beside the contracts: the answers of Begin and Finish in one form, and a configuration that is overwritten, block by block.
-/
import Derived.Test.YtijklginabipgaaWExactB
import Derived.Test.YtijklginabipgaaWExactA
import Derived.Test.YtijklginabipgaaWExact4
import Derived.Test.YtijklginabipgaaWExact6
import Derived.Test.YtijklginabipgaaWMeet1
import Derived.Deep.DeepFit
namespace Go.Proofs.Ytijklginabipgaa
open Go.RowKit

def rV : Except Int (List Int × List Int × List Int) → List Int
  | .error _ => []
  | .ok x => x.1
def rN : Except Int (List Int × List Int × List Int) → List Int
  | .error _ => []
  | .ok x => x.2.1
def rL : Except Int (List Int × List Int × List Int) → List Int
  | .error _ => []
  | .ok x => x.2.2
def rC : Except Int (List Int × List Int × List Int) → Int
  | .error c => c
  | .ok _ => 0
theorem own3_nil (B : Nat) (w : World) : Own3 B none none none 0 0 0 [] [] [] w :=
  ⟨World.ownsRow_nil _ _ _ _, World.ownsRow_nil _ _ _ _, World.ownsRow_nil _ _ _ _, fun g hg => by simp [Value.ownBlock] at hg, fun g hg => by simp [Value.ownBlock] at hg, fun g hg => by simp [Value.ownBlock] at hg⟩
theorem BegPost.flat {w w' : World} {r : Except Int (List Int × List Int × List Int)} {e : Ending} (h : BegPost w r e w') : ∃ a1 a2 a3 c1 c2 c3, e = .returned (.tuple #[.agg #[.slice a1 (rV r).length c1, .slice a2 (rN r).length c2, .slice a3 (rL r).length c3], .int .i64 (rC r)]) ∧ Own3 w.heap.size a1 a2 a3 c1 c2 c3 (rV r) (rN r) (rL r) w' ∧ Kept Nil w w' := by
  rcases h with ⟨c, rfl, he, hk⟩ | ⟨v, n, l, rfl, a1, a2, a3, c1, c2, c3, he, ho, hk⟩
  · exact ⟨none, none, none, 0, 0, 0, he, own3_nil _ _, hk⟩
  · exact ⟨a1, a2, a3, c1, c2, c3, he, ho, hk⟩
theorem RBegPost.flat {w w' : World} {r : Except Int (List Int × List Int × List Int)} {e : Ending} (h : RBegPost w r e w') : ∃ a1 a2 a3 c1 c2 c3, e = .returned (.tuple #[.agg #[.slice a1 (rV r).length c1, .slice a2 (rN r).length c2, .slice a3 (rL r).length c3], .int .i64 (rC r)]) ∧ CfRows w'.heap.size w' a1 a2 a3 (rV r) (rN r) (rL r) ∧ Kept Nil w w' := by
  rcases h with ⟨c, rfl, he, hk⟩ | ⟨v, n, l, rfl, a1, a2, a3, c1, c2, c3, he, ho, hk⟩
  · exact ⟨none, none, none, 0, 0, 0, he, ⟨intRow_nil _ _ _, intRow_nil _ _ _, intRow_nil _ _ _⟩, hk⟩
  · exact ⟨a1, a2, a3, c1, c2, c3, he, ho, hk⟩
theorem begZ_len (v n l : List Int) (os : List (Int × Int)) : (rV (begZ v n l os)).length ≤ 9 ∧ (rN (begZ v n l os)).length ≤ 9 ∧ (rL (begZ v n l os)).length ≤ 9 := by
  cases h : begZ v n l os with
  | error c => simp [rV, rN, rL]
  | ok x =>
    obtain ⟨v', n', l'⟩ := x
    obtain ⟨rfl, _, hc, nx, hd, _, hn⟩ := begZ_ok h
    have hdr := (doAll_keeps (dr_start hc) hd).len
    refine ⟨hdr.1, ?_, hdr.2.2⟩
    show n'.length ≤ 9
    rw [hn]
    split
    · simp
    · exact hdr.2.1
theorem finZ_len (v n l : List Int) : (rV (finZ v n l)).length ≤ 9 ∧ (rN (finZ v n l)).length ≤ 9 ∧ (rL (finZ v n l)).length ≤ 9 := by
  unfold finZ
  split
  · rename_i h
    obtain ⟨_, _, h2, h3, _⟩ := (isCfg_iff _ _ _).1 h.1
    exact ⟨up_len h2, by simp [rN], up_len h3⟩
  · simp [rV, rN, rL]
theorem known_beg : begZ [1] [] [] [(1, 2)] = .ok ([1], [1, 2], []) := by first | rfl | kernel_rfl
theorem known_flat {w w' : World} {e : Ending} (h : BegPost w (begZ [1] [] [] [(1, 2)]) e w') : ∃ a1 a2 a3 c1 c2 c3, e = .returned (.tuple #[.agg #[.slice a1 1 c1, .slice a2 2 c2, .slice a3 0 c3], .int .i64 0]) ∧ Kept Nil w w' := by
  rw [known_beg] at h
  obtain ⟨a1, a2, a3, c1, c2, c3, he, _, hk⟩ := h.flat
  exact ⟨a1, a2, a3, c1, c2, c3, he, hk⟩

/-- The blocks of three rows. -/
def In3 (a1 a2 a3 : Option Addr) (n1 n2 n3 c1 c2 c3 : Nat) (k : Nat) (_ : Obj) : Prop := (Value.slice a1 n1 c1).ownBlock = some k ∨ (Value.slice a2 n2 c2).ownBlock = some k ∨ (Value.slice a3 n3 c3).ownBlock = some k
theorem Kept.ofGrown {X : Nat → Obj → Prop} {w w' : World} {row : Option Nat} (hg : w.grownBy w' row) (hX : ∀ k o, row = some k → X k o) : Kept X w w' :=
  ⟨hg.os, hg.tape, hg.output, hg.size, fun k o ho hx => by
    rw [hg.block k (lt_of_block ho) (fun e => hx (hX k o e.symm))]; exact ho⟩
theorem Own3.lt {B : Nat} {a1 a2 a3 : Option Addr} {c1 c2 c3 : Nat} {v n l : List Int} {w : World} (h : Own3 B a1 a2 a3 c1 c2 c3 v n l w) {k : Nat} {o : Obj} (hk : In3 a1 a2 a3 v.length n.length l.length c1 c2 c3 k o) : B ≤ k ∧ k < w.heap.size := by
  rcases hk with hk | hk | hk
  · exact World.ownsRow.lt h.o1 k hk
  · exact World.ownsRow.lt h.o2 k hk
  · exact World.ownsRow.lt h.o3 k hk
theorem Own3.keptX {X : Nat → Obj → Prop} {B : Nat} {a1 a2 a3 : Option Addr} {c1 c2 c3 : Nat} {v n l : List Int} {w w' : World} (h : Own3 B a1 a2 a3 c1 c2 c3 v n l w) (hk : Kept X w w') (hX : ∀ k o, B ≤ k → ¬ X k o) : Own3 B a1 a2 a3 c1 c2 c3 v n l w' :=
  ⟨own_kept h.o1 hk (fun k _ hb => hX k _ hb), own_kept h.o2 hk (fun k _ hb => hX k _ hb), own_kept h.o3 hk (fun k _ hb => hX k _ hb), h.d12, h.d13, h.d23⟩

set_option maxRecDepth 100000 in
set_option maxHeartbeats 2000000 in
theorem overConfigK_any (B c1 c2 c3 : Nat) (a1 a2 a3 : Option Addr) (v n l : List Int) (w : World) (h : Own3 B a1 a2 a3 c1 c2 c3 v n l w) (hB : B ≤ w.heap.size) (h1 : v.length ≤ 4000000) (h2 : n.length ≤ 4000000) (h3 : l.length ≤ 4000000) :
    Calls Try.prog 30 #[.agg #[.slice a1 v.length c1, .slice a2 n.length c2, .slice a3 l.length c3]] w fun e w' => e = .returned (.tuple #[]) ∧ Kept (In3 a1 a2 a3 v.length n.length l.length c1 c2 c3) w w' := by
  obtain ⟨W, hW⟩ : ∃ W, W = w.alloc (.cells #[.slice a1 v.length c1, .slice a2 n.length c2, .slice a3 l.length c3] 24) := ⟨_, rfl⟩
  have HOW : Hid (Own3 B a1 a2 a3 c1 c2 c3 v n l W) := by rw [hW]; exact h.grown ((Kept.refl _ _).alloc _)
  have KW : Hid (Kept (In3 a1 a2 a3 v.length n.length l.length c1 c2 c3) w W) := by rw [hW]; exact (Kept.refl _ _).alloc _
  have HB : Hid (W.heap[w.heap.size]? = some (.cells #[.slice a1 v.length c1, .slice a2 n.length c2, .slice a3 l.length c3] 24 (0, 0))) := by rw [hW]; exact blk_new _ _
  have HNE : Hid ((Value.slice a1 v.length c1).ownBlock ≠ some w.heap.size ∧ (Value.slice a2 n.length c2).ownBlock ≠ some w.heap.size ∧ (Value.slice a3 l.length c3).ownBlock ≠ some w.heap.size) := ⟨fun e => by have := (World.ownsRow.lt h.o1 _ e).2; omega, fun e => by have := (World.ownsRow.lt h.o2 _ e).2; omega, fun e => by have := (World.ownsRow.lt h.o3 _ e).2; omega⟩
  have HBW : Hid (B ≤ W.heap.size) := Nat.le_trans hB KW.out.size
  have S1 := overInts_any _ c1 a1 v W HOW.out.o1 HBW.out h1
  have q0 : W.cell? ⟨w.heap.size, 0, none⟩ = some (.slice a1 v.length c1) := blk_at HB.out 0 rfl
  clear h
  go_enter Try.func30, Try.ntmps30
  go_wp2_with fail
  rw [← hW]
  clear hW
  go_fit S1
  rintro e w1 ⟨rfl, g1⟩
  have B1 : Hid (w1.heap[w.heap.size]? = some (.cells #[.slice a1 v.length c1, .slice a2 n.length c2, .slice a3 l.length c3] 24 (0, 0))) := by show _ = _; rw [g1.block _ (lt_of_block HB.out) (fun e => HNE.out.1 e.symm)]; exact HB.out
  have O2 : Hid (OwnInts B w1 a2 c2 n) := HOW.out.o2.far g1 (fun g hg e => HOW.out.d12 g e.symm hg)
  have O3 : Hid (OwnInts B w1 a3 c3 l) := HOW.out.o3.far g1 (fun g hg e => HOW.out.d13 g e.symm hg)
  have K1 : Hid (Kept (In3 a1 a2 a3 v.length n.length l.length c1 c2 c3) w w1) := KW.out.trans (Kept.ofGrown g1 (fun k o hk => .inl hk))
  have S2 := overInts_any _ c2 a2 n w1 O2.out (Nat.le_trans hB K1.out.size) h2
  have q1 : w1.cell? ⟨w.heap.size, 1, none⟩ = some (.slice a2 n.length c2) := blk_at B1.out 1 rfl
  clear g1 S1 q0
  go_wp2_with fail
  go_fit S2
  rintro e w2 ⟨rfl, g2⟩
  have B2 : Hid (w2.heap[w.heap.size]? = some (.cells #[.slice a1 v.length c1, .slice a2 n.length c2, .slice a3 l.length c3] 24 (0, 0))) := by show _ = _; rw [g2.block _ (lt_of_block B1.out) (fun e => HNE.out.2.1 e.symm)]; exact B1.out
  have O32 : Hid (OwnInts B w2 a3 c3 l) := O3.out.far g2 (fun g hg e => HOW.out.d23 g e.symm hg)
  have K2 : Hid (Kept (In3 a1 a2 a3 v.length n.length l.length c1 c2 c3) w w2) := K1.out.trans (Kept.ofGrown g2 (fun k o hk => .inr (.inl hk)))
  have S3 := overInts_any _ c3 a3 l w2 O32.out (Nat.le_trans hB K2.out.size) h3
  have q2 : w2.cell? ⟨w.heap.size, 2, none⟩ = some (.slice a3 l.length c3) := blk_at B2.out 2 rfl
  clear g2 S2 q1
  go_wp2_with fail
  go_fit S3
  rintro e w3 ⟨rfl, g3⟩
  have K3 : Hid (Kept (In3 a1 a2 a3 v.length n.length l.length c1 c2 c3) w w3) := K2.out.trans (Kept.ofGrown g3 (fun k o hk => .inr (.inr hk)))
  clear g3 S3
  go_wp2
  go_end0
  exact ⟨rfl, K3.out⟩

end Go.Proofs.Ytijklginabipgaa
