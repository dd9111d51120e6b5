/-
  config.Begin.
-/
import Derived.Test.YtijklginabipgaaWChg9
import Derived.Deep.RegionWith
import Derived.Deep.RegionHeld3
namespace Go.Proofs.Ytijklginabipgaa
open Go.RowKit

/-- A row of operations. -/
def OpRow (B : Nat) (w : World) (ao : Option Addr) (ops : List (Int × Int)) : Prop := ∀ j, (hj : j < ops.length) → ∃ a, ao = some a ∧ a.block < B ∧ w.cell? (a.add (j * 2)) = some (.int .i64 ops[j].1) ∧ w.cell? ⟨(a.add (j * 2)).block, (a.add (j * 2)).off + 1, none⟩ = some (.int .i64 ops[j].2)
theorem OpRow.kept {X : Nat → Obj → Prop} {B : Nat} {w w' : World} {ao : Option Addr} {ops : List (Int × Int)} (h : OpRow B w ao ops) (hk : Kept X w w') (hX : ∀ k o, k < B → ¬ X k o) : OpRow B w' ao ops := by
  intro j hj
  obtain ⟨a, h0, h1, h2, h3⟩ := h j hj
  have hb : (a.add (j * 2)).block < B := by rw [add_block]; exact h1
  exact ⟨a, h0, h1, cell_kept hk (fun o => hX _ o hb) h2, cell_kept hk (fun o => hX _ o hb) h3⟩
theorem OpRow.nil {B : Nat} {w w' : World} {ao : Option Addr} {ops : List (Int × Int)} (h : OpRow B w ao ops) (hk : Kept Nil w w') : OpRow B w' ao ops := h.kept hk (fun _ _ _ x => x)

theorem begZ_bad {v n l : List Int} {ops : List (Int × Int)} (h : isCfg v n l = false) : begZ v n l ops = .error 8 := by unfold begZ; rw [if_pos h]
theorem begZ_joint {v n l : List Int} {ops : List (Int × Int)} (h : isCfg v n l = true) (hn : 0 < n.length) : begZ v n l ops = .error 9 := by unfold begZ; rw [if_neg (by rw [h]; decide), if_pos hn]
theorem begZ_bound {v n l : List Int} {ops : List (Int × Int)} (h : isCfg v n l = true) (hn : ¬ 0 < n.length) (ho : ops.length = 0 ∨ 6 < ops.length) : begZ v n l ops = .error 4 := by unfold begZ; rw [if_neg (by rw [h]; decide), if_neg hn, if_pos ho]
theorem begZ_on {v n l : List Int} {ops : List (Int × Int)} (h : isCfg v n l = true) (hn : ¬ 0 < n.length) (ho : ¬ (ops.length = 0 ∨ 6 < ops.length)) : begZ v n l ops = begEnd v (doAll v ops v l) := by unfold begZ; rw [if_neg (by rw [h]; decide), if_neg hn, if_neg ho]

theorem Drf.start {w0 wf : World} {bd d1 d2 d3 : Nat} {b1 b2 b3 : Option Addr} {v nx le : List Int} (hz : wf.heap[bd]? = some (.cells #[.slice none 0 0, .slice none 0 0, .slice none 0 0] 94 (0, 0))) (kp : Kept Nil w0 wf) (hb : w0.heap.size ≤ bd)
    (o1 : OwnInts w0.heap.size wf b1 d1 v) (o2 : OwnInts w0.heap.size wf b2 d2 nx) (o3 : OwnInts w0.heap.size wf b3 d3 le) (n1 : (Value.slice b1 v.length d1).ownBlock ≠ some bd) (n2 : (Value.slice b2 nx.length d2).ownBlock ≠ some bd) (n3 : (Value.slice b3 le.length d3).ownBlock ≠ some bd)
    (d12 : ∀ g, (Value.slice b1 v.length d1).ownBlock = some g → (Value.slice b2 nx.length d2).ownBlock ≠ some g) (d13 : ∀ g, (Value.slice b1 v.length d1).ownBlock = some g → (Value.slice b3 le.length d3).ownBlock ≠ some g) (d23 : ∀ g, (Value.slice b2 nx.length d2).ownBlock = some g → (Value.slice b3 le.length d3).ownBlock ≠ some g) :
    Drf w0 bd b1 b2 b3 d1 d2 d3 v nx le (((wf.setCell ⟨bd, 0, none⟩ (.slice b1 v.length d1)).setCell ⟨bd, 1, none⟩ (.slice b2 nx.length d2)).setCell ⟨bd, 2, none⟩ (.slice b3 le.length d3)) :=
  ⟨blk_set (blk_set (blk_set hz 0 _) 1 _) 2 _, own_setNe (own_setNe (own_setNe o1 n1 _) n1 _) n1 _, own_setNe (own_setNe (own_setNe o2 n2 _) n2 _) n2 _, own_setNe (own_setNe (own_setNe o3 n3 _) n3 _) n3 _, n1, n2, n3, d12, d13, d23, ((kp.setNew hb _).setNew hb _).setNew hb _, hb⟩
theorem Drf.new {w0 wf : World} {d1 d2 d3 : Nat} {b1 b2 b3 : Option Addr} {v nx le : List Int} (kp : Kept Nil w0 wf)
    (o1 : OwnInts w0.heap.size wf b1 d1 v) (o2 : OwnInts w0.heap.size wf b2 d2 nx) (o3 : OwnInts w0.heap.size wf b3 d3 le)
    (d12 : ∀ g, (Value.slice b1 v.length d1).ownBlock = some g → (Value.slice b2 nx.length d2).ownBlock ≠ some g) (d13 : ∀ g, (Value.slice b1 v.length d1).ownBlock = some g → (Value.slice b3 le.length d3).ownBlock ≠ some g) (d23 : ∀ g, (Value.slice b2 nx.length d2).ownBlock = some g → (Value.slice b3 le.length d3).ownBlock ≠ some g) :
    Drf w0 wf.heap.size b1 b2 b3 d1 d2 d3 v nx le (wf.alloc (.cells #[.slice b1 v.length d1, .slice b2 nx.length d2, .slice b3 le.length d3] 94)) :=
  ⟨blk_new _ _, o1.alloc _, o2.alloc _, o3.alloc _, fun e => by have := (World.ownsRow.lt o1 _ e).2; omega, fun e => by have := (World.ownsRow.lt o2 _ e).2; omega, fun e => by have := (World.ownsRow.lt o3 _ e).2; omega, d12, d13, d23, kp.alloc _, kp.size⟩

set_option maxRecDepth 100000 in
set_option maxHeartbeats 4000000 in
theorem begin_any (B B' c1 c2 c3 co : Nat) (a1 a2 a3 oo : Option Addr) (v n l : List Int) (ops : List (Int × Int)) (w : World) (o1 : OwnInts B w a1 c1 v) (o2 : OwnInts B w a2 c2 n) (o3 : OwnInts B w a3 c3 l) (ho : OpRow B' w oo ops) (hol : (ops.length : Int) ≤ 9223372036854775807) :
    Calls Try.prog 10 #[.agg #[.slice a1 v.length c1, .slice a2 n.length c2, .slice a3 l.length c3], .slice oo ops.length co] w (BegPost w (begZ v n l ops)) := by
  have hl1 : (v.length : Int) ≤ 9223372036854775807 := by have := own_le o1; unfold maxLen at this; omega
  have hl2 : (n.length : Int) ≤ 9223372036854775807 := by have := own_le o2; unfold maxLen at this; omega
  have hl3 : (l.length : Int) ≤ 9223372036854775807 := by have := own_le o3; unfold maxLen at this; omega
  obtain ⟨r, HR⟩ : ∃ r, Hid (r = begZ v n l ops) := ⟨_, rfl⟩
  rw [← HR.out]
  have HO : Hid (OwnInts B w a1 c1 v ∧ OwnInts B w a2 c2 n ∧ OwnInts B w a3 c3 l ∧ OpRow B' w oo ops) := ⟨o1, o2, o3, ho⟩
  obtain ⟨W, hW⟩ : ∃ W, W = (w.alloc (.cells #[.slice a1 v.length c1, .slice a2 n.length c2, .slice a3 l.length c3] 24)).alloc (.cells #[.slice none 0 0, .slice none 0 0, .slice none 0 0] 24) := ⟨_, rfl⟩
  have KW : Hid (Kept Nil w W) := by rw [hW]; exact ((Kept.refl _ _).alloc _).alloc _
  have HC : Hid (W.heap[w.heap.size]? = some (.cells #[.slice a1 v.length c1, .slice a2 n.length c2, .slice a3 l.length c3] 24 (0, 0))) := by rw [hW]; exact blk_past (blk_new _ _) _
  have HN : Hid (W.heap[w.heap.size + 1]? = some (.cells #[.slice none 0 0, .slice none 0 0, .slice none 0 0] 24 (0, 0))) := by
    have := blk_new (w.alloc (.cells #[.slice a1 v.length c1, .slice a2 n.length c2, .slice a3 l.length c3] 24)) (.cells #[.slice none 0 0, .slice none 0 0, .slice none 0 0] 24)
    rw [show (w.alloc (.cells #[.slice a1 v.length c1, .slice a2 n.length c2, .slice a3 l.length c3] 24)).heap.size = w.heap.size + 1 by simp] at this
    rw [hW]
    exact this
  have V := valid_any W.heap.size c1 c2 c3 a1 a2 a3 v n l W ⟨(o1.kept KW.out).row, (o2.kept KW.out).row, (o3.kept KW.out).row⟩ hl1 hl2 hl3
  have J := fun (x : World) => joint_any c1 c2 c3 a1 a2 a3 v.length n.length l.length x
  clear o1 o2 o3 ho
  cases hc : isCfg v n l with
  | false =>
    rw [hc] at V
    have HE : Hid (r = .error 8) := HR.out.trans (begZ_bad hc)
    clear hc HR J
    go_enter Try.func10, Try.ntmps10
    go_wp2_with fail
    rw [← hW]
    clear hW
    go_fit V
    rintro e w1 ⟨rfl, k1⟩
    have K1 : Hid (Kept Nil w w1) := KW.out.trans k1
    have C1 : Hid (w1.heap[w.heap.size]? = some (.cells #[.slice a1 v.length c1, .slice a2 n.length c2, .slice a3 l.length c3] 24 (0, 0))) := k1.block _ _ HC.out (fun x => x.elim)
    have N1 : Hid (w1.heap[w.heap.size + 1]? = some (.cells #[.slice none 0 0, .slice none 0 0, .slice none 0 0] 24 (0, 0))) := k1.block _ _ HN.out (fun x => x.elim)
    clear k1 V HC HN KW
    have g0 : w1.cell? ⟨w.heap.size + 1, 0, none⟩ = some (.slice none 0 0) := blk_at N1.out 0 rfl
    have f0 : w1.frozen? ⟨w.heap.size + 1, 0, none⟩ = false := blk_free N1.out 0
    have g1 : w1.cell? ⟨w.heap.size + 1, 1, none⟩ = some (.slice none 0 0) := blk_at N1.out 1 rfl
    have f1 : w1.frozen? ⟨w.heap.size + 1, 1, none⟩ = false := blk_free N1.out 1
    have g2 : w1.cell? ⟨w.heap.size + 1, 2, none⟩ = some (.slice none 0 0) := blk_at N1.out 2 rfl
    have f2 : w1.frozen? ⟨w.heap.size + 1, 2, none⟩ = false := blk_free N1.out 2
    go_wp2
    refine bodyPost_ret (v := .tuple #[.agg #[.slice none 0 0, .slice none 0 0, .slice none 0 0], .int .i64 8]) (by simp [results, Try.results10, go_sem, g0, g1, g2]) rfl ?_
    exact .inl ⟨8, HE.out, rfl, ((K1.out.setNew (Nat.le_succ _) _).setNew (Nat.le_succ _) _).setNew (Nat.le_succ _) _⟩
  | true =>
    rw [hc] at V
    have hcf := (isCfg_iff _ _ _).1 hc
    by_cases hj : 0 < n.length
    · have HE : Hid (r = .error 9) := HR.out.trans (begZ_joint hc hj)
      rw [decide_eq_true hj] at J
      clear hc HR hj hcf
      go_enter Try.func10, Try.ntmps10
      go_wp2_with fail
      rw [← hW]
      clear hW
      go_fit V
      rintro e w1 ⟨rfl, k1⟩
      have K1 : Hid (Kept Nil w w1) := KW.out.trans k1
      have C1 : Hid (w1.heap[w.heap.size]? = some (.cells #[.slice a1 v.length c1, .slice a2 n.length c2, .slice a3 l.length c3] 24 (0, 0))) := k1.block _ _ HC.out (fun x => x.elim)
      have N1 : Hid (w1.heap[w.heap.size + 1]? = some (.cells #[.slice none 0 0, .slice none 0 0, .slice none 0 0] 24 (0, 0))) := k1.block _ _ HN.out (fun x => x.elim)
      clear k1 V HC HN KW
      have q0 : w1.cell? ⟨w.heap.size, 0, none⟩ = some (.slice a1 v.length c1) := blk_at C1.out 0 rfl
      have q1 : w1.cell? ⟨w.heap.size, 1, none⟩ = some (.slice a2 n.length c2) := blk_at C1.out 1 rfl
      have q2 : w1.cell? ⟨w.heap.size, 2, none⟩ = some (.slice a3 l.length c3) := blk_at C1.out 2 rfl
      go_wp2_with fail
      go_fit (J w1)
      rintro e w2 ⟨rfl, k2⟩
      have K2 : Hid (Kept Nil w w2) := K1.out.trans k2
      have C2 : Hid (w2.heap[w.heap.size]? = some (.cells #[.slice a1 v.length c1, .slice a2 n.length c2, .slice a3 l.length c3] 24 (0, 0))) := k2.block _ _ C1.out (fun x => x.elim)
      have N2 : Hid (w2.heap[w.heap.size + 1]? = some (.cells #[.slice none 0 0, .slice none 0 0, .slice none 0 0] 24 (0, 0))) := k2.block _ _ N1.out (fun x => x.elim)
      clear k2 J K1 C1 N1 q0 q1 q2
      have g0 : w2.cell? ⟨w.heap.size + 1, 0, none⟩ = some (.slice none 0 0) := blk_at N2.out 0 rfl
      have f0 : w2.frozen? ⟨w.heap.size + 1, 0, none⟩ = false := blk_free N2.out 0
      have g1 : w2.cell? ⟨w.heap.size + 1, 1, none⟩ = some (.slice none 0 0) := blk_at N2.out 1 rfl
      have f1 : w2.frozen? ⟨w.heap.size + 1, 1, none⟩ = false := blk_free N2.out 1
      have g2 : w2.cell? ⟨w.heap.size + 1, 2, none⟩ = some (.slice none 0 0) := blk_at N2.out 2 rfl
      have f2 : w2.frozen? ⟨w.heap.size + 1, 2, none⟩ = false := blk_free N2.out 2
      go_wp2
      refine bodyPost_ret (v := .tuple #[.agg #[.slice none 0 0, .slice none 0 0, .slice none 0 0], .int .i64 9]) (by simp [results, Try.results10, go_sem, g0, g1, g2]) rfl ?_
      exact .inl ⟨9, HE.out, rfl, ((K2.out.setNew (Nat.le_succ _) _).setNew (Nat.le_succ _) _).setNew (Nat.le_succ _) _⟩
    · have HNN : Hid (n = []) := List.length_eq_zero_iff.1 (by omega)
      rw [decide_eq_false hj] at J
      by_cases hb : ops.length = 0 ∨ 6 < ops.length
      · have HE : Hid (r = .error 4) := HR.out.trans (begZ_bound hc hj hb)
        have HB : Hid (ops.length = 0 ∨ 6 < ops.length) := hb
        clear hc HR hj hcf hb
        go_enter Try.func10, Try.ntmps10
        go_wp2_with fail
        rw [← hW]
        clear hW
        go_fit V
        rintro e w1 ⟨rfl, k1⟩
        have K1 : Hid (Kept Nil w w1) := KW.out.trans k1
        have C1 : Hid (w1.heap[w.heap.size]? = some (.cells #[.slice a1 v.length c1, .slice a2 n.length c2, .slice a3 l.length c3] 24 (0, 0))) := k1.block _ _ HC.out (fun x => x.elim)
        have N1 : Hid (w1.heap[w.heap.size + 1]? = some (.cells #[.slice none 0 0, .slice none 0 0, .slice none 0 0] 24 (0, 0))) := k1.block _ _ HN.out (fun x => x.elim)
        clear k1 V HC HN KW
        have q0 : w1.cell? ⟨w.heap.size, 0, none⟩ = some (.slice a1 v.length c1) := blk_at C1.out 0 rfl
        have q1 : w1.cell? ⟨w.heap.size, 1, none⟩ = some (.slice a2 n.length c2) := blk_at C1.out 1 rfl
        have q2 : w1.cell? ⟨w.heap.size, 2, none⟩ = some (.slice a3 l.length c3) := blk_at C1.out 2 rfl
        go_wp2_with fail
        go_fit (J w1)
        rintro e w2 ⟨rfl, k2⟩
        have K2 : Hid (Kept Nil w w2) := K1.out.trans k2
        have C2 : Hid (w2.heap[w.heap.size]? = some (.cells #[.slice a1 v.length c1, .slice a2 n.length c2, .slice a3 l.length c3] 24 (0, 0))) := k2.block _ _ C1.out (fun x => x.elim)
        have N2 : Hid (w2.heap[w.heap.size + 1]? = some (.cells #[.slice none 0 0, .slice none 0 0, .slice none 0 0] 24 (0, 0))) := k2.block _ _ N1.out (fun x => x.elim)
        clear k2 J K1 C1 N1 q0 q1 q2
        have g0 : w2.cell? ⟨w.heap.size + 1, 0, none⟩ = some (.slice none 0 0) := blk_at N2.out 0 rfl
        have f0 : w2.frozen? ⟨w.heap.size + 1, 0, none⟩ = false := blk_free N2.out 0
        have g1 : w2.cell? ⟨w.heap.size + 1, 1, none⟩ = some (.slice none 0 0) := blk_at N2.out 1 rfl
        have f1 : w2.frozen? ⟨w.heap.size + 1, 1, none⟩ = false := blk_free N2.out 1
        have g2 : w2.cell? ⟨w.heap.size + 1, 2, none⟩ = some (.slice none 0 0) := blk_at N2.out 2 rfl
        have f2 : w2.frozen? ⟨w.heap.size + 1, 2, none⟩ = false := blk_free N2.out 2
        rcases HB.out with hb | hb
        · have hb0 : ((ops.length : Int) == 0) = true := by rw [hb]; rfl
          clear hb
          go_wp2
          refine bodyPost_ret (v := .tuple #[.agg #[.slice none 0 0, .slice none 0 0, .slice none 0 0], .int .i64 4]) (by simp [results, Try.results10, go_sem, g0, g1, g2]) rfl ?_
          exact .inl ⟨4, HE.out, rfl, ((K2.out.setNew (Nat.le_succ _) _).setNew (Nat.le_succ _) _).setNew (Nat.le_succ _) _⟩
        · have hb0 : ((ops.length : Int) == 0) = false := beq_eq_false_iff_ne.2 (by omega)
          have hb1 : decide ((6 : Int) < ops.length) = true := by simp; omega
          clear hb
          go_wp2
          refine bodyPost_ret (v := .tuple #[.agg #[.slice none 0 0, .slice none 0 0, .slice none 0 0], .int .i64 4]) (by simp [results, Try.results10, go_sem, g0, g1, g2]) rfl ?_
          exact .inl ⟨4, HE.out, rfl, ((K2.out.setNew (Nat.le_succ _) _).setNew (Nat.le_succ _) _).setNew (Nat.le_succ _) _⟩
      · have HE : Hid (r = begEnd v (doAll v ops v l)) := HR.out.trans (begZ_on hc hj hb)
        have HD0 : Hid (Dr v v l) := dr_start (by rw [HNN.out] at hc; exact hc)
        have hb0 : ((ops.length : Int) == 0) = false := by have := List.length_pos_iff (l := ops); simp; intro e; exact hb (.inl (by rw [e]; rfl))
        have hb1 : decide ((6 : Int) < ops.length) = false := by simp; omega
        have hv9 := up_len hcf.2.1
        have hl9 := up_len hcf.2.2.2.1
        clear hc HR hj hcf hb
        go_enter Try.func10, Try.ntmps10
        go_wp2_with fail
        rw [← hW]
        clear hW
        go_fit V
        rintro e w1 ⟨rfl, k1⟩
        have K1 : Hid (Kept Nil w w1) := KW.out.trans k1
        have C1 : Hid (w1.heap[w.heap.size]? = some (.cells #[.slice a1 v.length c1, .slice a2 n.length c2, .slice a3 l.length c3] 24 (0, 0))) := k1.block _ _ HC.out (fun x => x.elim)
        have N1 : Hid (w1.heap[w.heap.size + 1]? = some (.cells #[.slice none 0 0, .slice none 0 0, .slice none 0 0] 24 (0, 0))) := k1.block _ _ HN.out (fun x => x.elim)
        clear k1 V HC HN KW
        have q0 : w1.cell? ⟨w.heap.size, 0, none⟩ = some (.slice a1 v.length c1) := blk_at C1.out 0 rfl
        have q1 : w1.cell? ⟨w.heap.size, 1, none⟩ = some (.slice a2 n.length c2) := blk_at C1.out 1 rfl
        have q2 : w1.cell? ⟨w.heap.size, 2, none⟩ = some (.slice a3 l.length c3) := blk_at C1.out 2 rfl
        go_wp2_with fail
        go_fit (J w1)
        rintro e w2 ⟨rfl, k2⟩
        have K2 : Hid (Kept Nil w w2) := K1.out.trans k2
        have C2 : Hid (w2.heap[w.heap.size]? = some (.cells #[.slice a1 v.length c1, .slice a2 n.length c2, .slice a3 l.length c3] 24 (0, 0))) := k2.block _ _ C1.out (fun x => x.elim)
        have N2 : Hid (w2.heap[w.heap.size + 1]? = some (.cells #[.slice none 0 0, .slice none 0 0, .slice none 0 0] 24 (0, 0))) := k2.block _ _ N1.out (fun x => x.elim)
        clear k2 J K1 C1 N1 q0 q1 q2
        have g0 : w2.cell? ⟨w.heap.size + 1, 0, none⟩ = some (.slice none 0 0) := blk_at N2.out 0 rfl
        have f0 : w2.frozen? ⟨w.heap.size + 1, 0, none⟩ = false := blk_free N2.out 0
        have g1 : w2.cell? ⟨w.heap.size + 1, 1, none⟩ = some (.slice none 0 0) := blk_at N2.out 1 rfl
        have f1 : w2.frozen? ⟨w.heap.size + 1, 1, none⟩ = false := blk_free N2.out 1
        have g2 : w2.cell? ⟨w.heap.size + 1, 2, none⟩ = some (.slice none 0 0) := blk_at N2.out 2 rfl
        have f2 : w2.frozen? ⟨w.heap.size + 1, 2, none⟩ = false := blk_free N2.out 2
        have q0 : w2.cell? ⟨w.heap.size, 0, none⟩ = some (.slice a1 v.length c1) := blk_at C2.out 0 rfl
        have q1 : w2.cell? ⟨w.heap.size, 1, none⟩ = some (.slice a2 n.length c2) := blk_at C2.out 1 rfl
        have q2 : w2.cell? ⟨w.heap.size, 2, none⟩ = some (.slice a3 l.length c3) := blk_at C2.out 2 rfl
        have X1 := fun (x : World) (hx : Kept Nil w2 x) => clone_any B c1 a1 v x (HO.out.1.kept (K2.out.trans hx)) (by omega)
        have X3 := fun (x : World) (hx : Kept Nil w2 x) => clone_any B c3 a3 l x (HO.out.2.2.1.kept (K2.out.trans hx)) (by omega)
        have KD : Hid (Kept Nil w2 w2.drew) := (Kept.refl _ _).drew
        have KDZ : Hid (Kept Nil w2 (w2.drew.alloc (.cells #[.slice none 0 0, .slice none 0 0, .slice none 0 0] 94))) := (Kept.refl _ _).drew.alloc _
        have sD : w2.drew.cell? ⟨w.heap.size, 0, none⟩ = some (.slice a1 v.length c1) ∧ w2.drew.cell? ⟨w.heap.size, 2, none⟩ = some (.slice a3 l.length c3) := ⟨q0, q2⟩
        have sDZ : (w2.drew.alloc (.cells #[.slice none 0 0, .slice none 0 0, .slice none 0 0] 94)).cell? ⟨w.heap.size, 0, none⟩ = some (.slice a1 v.length c1) ∧ (w2.drew.alloc (.cells #[.slice none 0 0, .slice none 0 0, .slice none 0 0] 94)).cell? ⟨w.heap.size, 2, none⟩ = some (.slice a3 l.length c3) := ⟨blk_at (blk_past C2.out _) 0 rfl, blk_at (blk_past C2.out _) 2 rfl⟩
        have neD : w2.heap.size ≠ w.heap.size := World.new_ne w2 ⟨w.heap.size, 0, none⟩ q0
        go_wp2
        go_region_held3 (fun w' => w'.cell? ⟨w.heap.size, 0, none⟩ = some (.slice a1 v.length c1) ∧ w'.cell? ⟨w.heap.size, 2, none⟩ = some (.slice a3 l.length c3)) (first | assumption | go_keep) (first | (go_at_call 63; first | ((first | go_fit (X1 w2.drew KD.out) | go_fit (X1 (w2.drew.alloc (.cells #[.slice none 0 0, .slice none 0 0, .slice none 0 0] 94)) KDZ.out)); rintro e wa ⟨b1, d1, rfl, oA, kA⟩; have PA : Hid (_) := kA; (try (have zA : Hid (wa.heap[w2.heap.size]? = some (.cells #[.slice none 0 0, .slice none 0 0, .slice none 0 0] 94 (0, 0))) := kA.block _ _ (blk_new w2.drew _) (fun x => x.elim))); have RA : Hid (∀ g, (Value.slice b1 v.length d1).ownBlock = some g → _ ≤ g ∧ g < wa.heap.size) := fun g hg => World.ownsRow.lt oA g hg; have KA : Hid (Kept Nil w2 wa) := by { first | exact KD.out.trans kA | exact KDZ.out.trans kA }; have OA : Hid (OwnInts w2.heap.size wa b1 d1 v) := own_mono oA (by { first | exact KD.out.size | exact KDZ.out.size }); have KAZ : Hid (Kept Nil w2 (wa.alloc (.cells #[.slice none 0 0, .slice none 0 0, .slice none 0 0] 94))) := KA.out.alloc _; have CA : Hid (wa.heap[w.heap.size]? = some (.cells #[.slice a1 v.length c1, .slice a2 n.length c2, .slice a3 l.length c3] 24 (0, 0))) := by { first | exact kA.block _ _ C2.out (fun x => x.elim) | exact kA.block _ _ (blk_past C2.out _) (fun x => x.elim) }; have sA : wa.cell? ⟨w.heap.size, 0, none⟩ = some (.slice a1 v.length c1) ∧ wa.cell? ⟨w.heap.size, 2, none⟩ = some (.slice a3 l.length c3) := ⟨blk_at CA.out 0 rfl, blk_at CA.out 2 rfl⟩; have sAZ : (wa.alloc (.cells #[.slice none 0 0, .slice none 0 0, .slice none 0 0] 94)).cell? ⟨w.heap.size, 0, none⟩ = some (.slice a1 v.length c1) ∧ (wa.alloc (.cells #[.slice none 0 0, .slice none 0 0, .slice none 0 0] 94)).cell? ⟨w.heap.size, 2, none⟩ = some (.slice a3 l.length c3) := ⟨blk_at (blk_past CA.out _) 0 rfl, blk_at (blk_past CA.out _) 2 rfl⟩; have neA : wa.heap.size ≠ w.heap.size := World.new_ne wa ⟨w.heap.size, 0, none⟩ sA.1; clear kA oA) | ((first | go_fit (X1 wa KA.out) | go_fit (X1 (wa.alloc (.cells #[.slice none 0 0, .slice none 0 0, .slice none 0 0] 94)) KAZ.out)); rintro e wb ⟨b2, d2, rfl, oB, kB⟩; have PB : Hid (_) := kB; (try (have zB : Hid (wb.heap[w2.heap.size]? = some (.cells #[.slice none 0 0, .slice none 0 0, .slice none 0 0] 94 (0, 0))) := kB.block _ _ zA.out (fun x => x.elim))); (try (have zB : Hid (wb.heap[wa.heap.size]? = some (.cells #[.slice none 0 0, .slice none 0 0, .slice none 0 0] 94 (0, 0))) := kB.block _ _ (blk_new wa _) (fun x => x.elim))); have RB : Hid (∀ g, (Value.slice b2 v.length d2).ownBlock = some g → _ ≤ g ∧ g < wb.heap.size) := fun g hg => World.ownsRow.lt oB g hg; have KB : Hid (Kept Nil w2 wb) := by { first | exact KA.out.trans kB | exact KAZ.out.trans kB }; have OB : Hid (OwnInts w2.heap.size wb b2 d2 v) := own_mono oB (by { first | exact KA.out.size | exact KAZ.out.size }); have KBZ : Hid (Kept Nil w2 (wb.alloc (.cells #[.slice none 0 0, .slice none 0 0, .slice none 0 0] 94))) := KB.out.alloc _; have CB : Hid (wb.heap[w.heap.size]? = some (.cells #[.slice a1 v.length c1, .slice a2 n.length c2, .slice a3 l.length c3] 24 (0, 0))) := by { first | exact kB.block _ _ CA.out (fun x => x.elim) | exact kB.block _ _ (blk_past CA.out _) (fun x => x.elim) }; have sB : wb.cell? ⟨w.heap.size, 0, none⟩ = some (.slice a1 v.length c1) ∧ wb.cell? ⟨w.heap.size, 2, none⟩ = some (.slice a3 l.length c3) := ⟨blk_at CB.out 0 rfl, blk_at CB.out 2 rfl⟩; have sBZ : (wb.alloc (.cells #[.slice none 0 0, .slice none 0 0, .slice none 0 0] 94)).cell? ⟨w.heap.size, 0, none⟩ = some (.slice a1 v.length c1) ∧ (wb.alloc (.cells #[.slice none 0 0, .slice none 0 0, .slice none 0 0] 94)).cell? ⟨w.heap.size, 2, none⟩ = some (.slice a3 l.length c3) := ⟨blk_at (blk_past CB.out _) 0 rfl, blk_at (blk_past CB.out _) 2 rfl⟩; have neB : wb.heap.size ≠ w.heap.size := World.new_ne wb ⟨w.heap.size, 0, none⟩ sB.1; clear kB oB) | ((first | go_fit (X3 wb KB.out) | go_fit (X3 (wb.alloc (.cells #[.slice none 0 0, .slice none 0 0, .slice none 0 0] 94)) KBZ.out)); rintro e wc ⟨b3, d3, rfl, oC, kC⟩; have PC : Hid (_) := kC; (try (have zC : Hid (wc.heap[w2.heap.size]? = some (.cells #[.slice none 0 0, .slice none 0 0, .slice none 0 0] 94 (0, 0))) := kC.block _ _ zB.out (fun x => x.elim))); (try (have zC : Hid (wc.heap[wa.heap.size]? = some (.cells #[.slice none 0 0, .slice none 0 0, .slice none 0 0] 94 (0, 0))) := kC.block _ _ zB.out (fun x => x.elim))); (try (have zC : Hid (wc.heap[wb.heap.size]? = some (.cells #[.slice none 0 0, .slice none 0 0, .slice none 0 0] 94 (0, 0))) := kC.block _ _ (blk_new wb _) (fun x => x.elim))); (try (have z0 : wc.cell? ⟨_, 0, none⟩ = some (.slice none 0 0) := blk_at zC.out 0 rfl)); (try (have y0 : wc.frozen? ⟨_, 0, none⟩ = false := blk_free zC.out 0)); (try (have z1 : wc.cell? ⟨_, 1, none⟩ = some (.slice none 0 0) := blk_at zC.out 1 rfl)); (try (have y1 : wc.frozen? ⟨_, 1, none⟩ = false := blk_free zC.out 1)); (try (have z2 : wc.cell? ⟨_, 2, none⟩ = some (.slice none 0 0) := blk_at zC.out 2 rfl)); (try (have y2 : wc.frozen? ⟨_, 2, none⟩ = false := blk_free zC.out 2)); have RC : Hid (∀ g, (Value.slice b3 l.length d3).ownBlock = some g → _ ≤ g ∧ g < wc.heap.size) := fun g hg => World.ownsRow.lt oC g hg; have KC : Hid (Kept Nil w2 wc) := by { first | exact KB.out.trans kC | exact KBZ.out.trans kC }; have OC : Hid (OwnInts w2.heap.size wc b3 d3 l) := own_mono oC (by { first | exact KB.out.size | exact KBZ.out.size }); have KCZ : Hid (Kept Nil w2 (wc.alloc (.cells #[.slice none 0 0, .slice none 0 0, .slice none 0 0] 94))) := KC.out.alloc _; have CC : Hid (wc.heap[w.heap.size]? = some (.cells #[.slice a1 v.length c1, .slice a2 n.length c2, .slice a3 l.length c3] 24 (0, 0))) := by { first | exact kC.block _ _ CB.out (fun x => x.elim) | exact kC.block _ _ (blk_past CB.out _) (fun x => x.elim) }; have sC : wc.cell? ⟨w.heap.size, 0, none⟩ = some (.slice a1 v.length c1) ∧ wc.cell? ⟨w.heap.size, 2, none⟩ = some (.slice a3 l.length c3) := ⟨blk_at CC.out 0 rfl, blk_at CC.out 2 rfl⟩; have sCZ : (wc.alloc (.cells #[.slice none 0 0, .slice none 0 0, .slice none 0 0] 94)).cell? ⟨w.heap.size, 0, none⟩ = some (.slice a1 v.length c1) ∧ (wc.alloc (.cells #[.slice none 0 0, .slice none 0 0, .slice none 0 0] 94)).cell? ⟨w.heap.size, 2, none⟩ = some (.slice a3 l.length c3) := ⟨blk_at (blk_past CC.out _) 0 rfl, blk_at (blk_past CC.out _) 2 rfl⟩; have neC : wc.heap.size ≠ w.heap.size := World.new_ne wc ⟨w.heap.size, 0, none⟩ sC.1; clear kC oC)))
        · obtain ⟨wf, hwf⟩ : ∃ wf, wf = wc.alloc (.cells #[.slice b1 v.length d1, .slice b2 v.length d2, .slice b3 l.length d3] 94) := ⟨_, rfl⟩
          have r1 : ∀ g, (Value.slice b1 v.length d1).ownBlock = some g → w2.heap.size ≤ g ∧ g < wa.heap.size := fun g hg => by have := RA.out g hg; simpa using this
          have r2 : ∀ g, (Value.slice b2 v.length d2).ownBlock = some g → wa.heap.size ≤ g ∧ g < wb.heap.size := fun g hg => by have := RB.out g hg; simpa using this
          have r3 : ∀ g, (Value.slice b3 l.length d3).ownBlock = some g → wb.heap.size ≤ g ∧ g < wc.heap.size := fun g hg => by have := RC.out g hg; simpa using this
          have QB : Kept Nil wa wb := PB.out
          have QC : Kept Nil wb wc := PC.out
          have z1 := QB.size
          have z2 := QC.size
          have z3 := KA.out.size
          have z4 := K2.out.size
          have z5 : w2.heap.size ≤ wa.heap.size := by have := PA.out.size; simp at this; omega
          have HDR : Hid (Drf w2 wc.heap.size b1 b2 b3 d1 d2 d3 v v l wf) := by rw [hwf]; exact Drf.new KC.out ((OA.out.kept QB).kept QC) (OB.out.kept QC) OC.out (fun g h1 h2 => by have := r1 g h1; have := r2 g h2; omega) (fun g h1 h2 => by have := r1 g h1; have := r3 g h2; omega) (fun g h1 h2 => by have := r2 g h1; have := r3 g h2; omega)
          rw [← hwf]
          obtain ⟨bd, hbd⟩ : ∃ bd, bd = wc.heap.size := ⟨_, rfl⟩
          rw [← hbd] at HDR
          rw [← hbd]
          clear hbd
          clear r1 r2 r3 QB QC z1 z2 z3 z4 z5 hwf
          clear X1 X3 KD KDZ sD sDZ q0 q1 q2 g0 g1 g2 f0 f1 f2 C2 PA RA OA KAZ CA sA sAZ PB RB OB KBZ CB sB sBZ PC RC OC KCZ CC sC sCZ KA KB KC hl1 hl2 hl3; (try clear zA); (try clear zB); (try clear zC); (try clear z0); (try clear z1); (try clear z2); (try clear y0); (try clear y1); (try clear y2); (try clear neA); (try clear neB); (try clear neC); (try clear neD)
          go_wp2
          go_loopw [37] (fun i wr => ∃ k : Nat, ∃ nx le : List Int, ∃ x2 x3 y2 y3, k ≤ ops.length ∧ i = .int .i64 k ∧ Hid (Drf w2 bd b1 x2 x3 d1 y2 y3 v nx le wr) ∧ Hid (Dr v nx le) ∧ Hid (doAll v (ops.take k) v l = some (nx, le))) (fun i _ => ops.length - (intOf i).toNat)
          case atStart => exact ⟨0, v, l, b2, b3, d2, d3, Nat.zero_le _, rfl, HDR.out, HD0.out, rfl⟩
          case round =>
            obtain ⟨k, nx, le, x2, x3, y2, y3, hk, rfl, HDk, HDr, HAk⟩ := hrel
            clear HDR HD0
            have HKk : Hid (Kept Nil w wr) := K2.out.trans HDk.out.kp
            by_cases hlt : k < ops.length
            · obtain ⟨a, rfl, _, e0, e1⟩ := (HO.out.2.2.2.nil HKk.out) k hlt
              have HAT : Hid (doAll v (ops.take (k + 1)) v l = doZ v nx le ops[k].1 ops[k].2) := doAll_at hlt HAk.out
              have HST : Hid (doZ v nx le ops[k].1 ops[k].2 = none → doAll v ops v l = none) := fun hz => doAll_stop hlt HAk.out hz
              have hki : (k : Int) < ops.length := by omega
              generalize ops[k].1 = kd at *
              generalize ops[k].2 = nd at *
              have DO := do_any w2 bd d1 y2 y3 b1 x2 x3 v nx le kd nd (wr.alloc (.cells #[.int .i64 kd, .int .i64 nd] 32)) (HDk.out.grown (grown_alloc (grown_refl _ _) _)) HDr.out
              clear HAk
              go_wp2_with fail
              go_fit DO
              rintro e w5 (⟨hz, rfl, g5⟩ | ⟨nx', le', hz, rfl, x2', x3', y2', y3', D5⟩)
              · have HE : Hid (r = .error 8) := by show r = _; rw [HE.out, HST.out hz]; rfl
                have K5 : Hid (Kept Nil w w5) := (HKk.out.alloc _).grown g5 (fun j hj => by cases hj)
                have N5 : Hid (w5.heap[w.heap.size + 1]? = some (.cells #[.slice none 0 0, .slice none 0 0, .slice none 0 0] 24 (0, 0))) := (((Kept.refl Nil _).alloc _).grown g5 (fun j hj => by cases hj)).block _ _ (HDk.out.kp.block _ _ N2.out (fun x => x.elim)) (fun x => x.elim)
                clear hz g5 DO HAT HST
                have g0 : w5.cell? ⟨w.heap.size + 1, 0, none⟩ = some (.slice none 0 0) := blk_at N5.out 0 rfl
                have f0 : w5.frozen? ⟨w.heap.size + 1, 0, none⟩ = false := blk_free N5.out 0
                have g1 : w5.cell? ⟨w.heap.size + 1, 1, none⟩ = some (.slice none 0 0) := blk_at N5.out 1 rfl
                have f1 : w5.frozen? ⟨w.heap.size + 1, 1, none⟩ = false := blk_free N5.out 1
                have g2 : w5.cell? ⟨w.heap.size + 1, 2, none⟩ = some (.slice none 0 0) := blk_at N5.out 2 rfl
                have f2 : w5.frozen? ⟨w.heap.size + 1, 2, none⟩ = false := blk_free N5.out 2
                go_wp2
                refine bodyPost_ret (v := .tuple #[.agg #[.slice none 0 0, .slice none 0 0, .slice none 0 0], .int .i64 8]) (by simp [results, Try.results10, go_sem, g0, g1, g2]) rfl ?_
                exact .inl ⟨8, HE.out, rfl, ((K5.out.setNew (Nat.le_succ _) _).setNew (Nat.le_succ _) _).setNew (Nat.le_succ _) _⟩
              · have HAT2 : Hid (doAll v (ops.take (k + 1)) v l = some (nx', le')) := HAT.out.trans hz
                have HDr2 : Hid (Dr v nx' le') := doZ_keeps HDr.out hz
                have HD5 : Hid (Drf w2 bd b1 x2' x3' d1 y2' y3' v nx' le' w5) := D5
                clear hz D5 DO HAT HST
                go_wp2
                go_roundw
                case rel => exact ⟨k + 1, nx', le', x2', x3', y2', y3', by omega, by go_num, HD5.out, HDr2.out, HAT2.out⟩
                case measure => simp [intOf]; omega
            · obtain rfl : k = ops.length := by omega
              have HA : Hid (doAll v ops v l = some (nx, le)) := by have := HAk.out; rwa [List.take_length] at this
              have N6 : Hid (wr.heap[w.heap.size + 1]? = some (.cells #[.slice none 0 0, .slice none 0 0, .slice none 0 0] 24 (0, 0))) := HDk.out.kp.block _ _ N2.out (fun x => x.elim)
              have t1 : wr.cell? ⟨bd, 1, none⟩ = some (.slice x2 nx.length y2) := blk_at HDk.out.blk 1 rfl
              have hnx := HDr.out.len
              clear HAk
              by_cases h0 : nx.length = 0
              · have HE : Hid (r = .error 8) := by show r = _; rw [HE.out, HA.out]; exact if_pos h0
                have h0' : ((nx.length : Int) == 0) = true := by rw [h0]; rfl
                clear h0
                have g0 : wr.cell? ⟨w.heap.size + 1, 0, none⟩ = some (.slice none 0 0) := blk_at N6.out 0 rfl
                have f0 : wr.frozen? ⟨w.heap.size + 1, 0, none⟩ = false := blk_free N6.out 0
                have g1 : wr.cell? ⟨w.heap.size + 1, 1, none⟩ = some (.slice none 0 0) := blk_at N6.out 1 rfl
                have f1 : wr.frozen? ⟨w.heap.size + 1, 1, none⟩ = false := blk_free N6.out 1
                have g2 : wr.cell? ⟨w.heap.size + 1, 2, none⟩ = some (.slice none 0 0) := blk_at N6.out 2 rfl
                have f2 : wr.frozen? ⟨w.heap.size + 1, 2, none⟩ = false := blk_free N6.out 2
                go_wp2
                refine bodyPost_ret (v := .tuple #[.agg #[.slice none 0 0, .slice none 0 0, .slice none 0 0], .int .i64 8]) (by simp [results, Try.results10, go_sem, g0, g1, g2]) rfl ?_
                exact .inl ⟨8, HE.out, rfl, ((HKk.out.setNew (Nat.le_succ _) _).setNew (Nat.le_succ _) _).setNew (Nat.le_succ _) _⟩
              · obtain ⟨n', HN'⟩ : ∃ n', Hid (n' = if v = nx then [] else nx) := ⟨_, rfl⟩
                have HE2 : Hid (r = .ok (v, n', le)) := by show r = _; rw [HE.out, HA.out, HN'.out]; exact if_neg h0
                have h0' : ((nx.length : Int) == 0) = false := beq_eq_false_iff_ne.2 (by omega)
                have DC := dconfig_any w2 bd d1 y2 y3 b1 x2 x3 v nx le wr HDk.out HDr.out
                rw [← HN'.out] at DC
                clear h0 HN' HA HE
                go_wp2_with fail
                go_fit DC
                rintro e w6 ⟨z2, u2, rfl, own6, k6⟩
                have O6 : Hid (Own3 w2.heap.size b1 z2 x3 d1 u2 y3 v n' le w6) := own6
                have K6 : Hid (Kept Nil w w6) := K2.out.trans k6
                have N7 : Hid (w6.heap[w.heap.size + 1]? = some (.cells #[.slice none 0 0, .slice none 0 0, .slice none 0 0] 24 (0, 0))) := k6.block _ _ N2.out (fun x => x.elim)
                clear own6 k6 DC t1 N6 HDk HDr
                have g0 : w6.cell? ⟨w.heap.size + 1, 0, none⟩ = some (.slice none 0 0) := blk_at N7.out 0 rfl
                have f0 : w6.frozen? ⟨w.heap.size + 1, 0, none⟩ = false := blk_free N7.out 0
                have g1 : w6.cell? ⟨w.heap.size + 1, 1, none⟩ = some (.slice none 0 0) := blk_at N7.out 1 rfl
                have f1 : w6.frozen? ⟨w.heap.size + 1, 1, none⟩ = false := blk_free N7.out 1
                have g2 : w6.cell? ⟨w.heap.size + 1, 2, none⟩ = some (.slice none 0 0) := blk_at N7.out 2 rfl
                have f2 : w6.frozen? ⟨w.heap.size + 1, 2, none⟩ = false := blk_free N7.out 2
                go_wp2
                refine bodyPost_ret (v := .tuple #[.agg #[.slice b1 v.length d1, .slice z2 n'.length u2, .slice x3 le.length y3], .int .i64 0]) (by simp [results, Try.results10, go_sem, g0, g1, g2]) rfl ?_
                have hlt2 := lt_of_block N2.out
                have hne : ∀ {ao c zs}, OwnInts w2.heap.size w6 ao c zs → (Value.slice ao zs.length c).ownBlock ≠ some (w.heap.size + 1) := fun {ao c zs} ho e => by have := (World.ownsRow.lt ho _ e).1; omega
                have hmv : ∀ {ao c zs} (u0 u1 u2 : Value), OwnInts w2.heap.size w6 ao c zs → OwnInts w.heap.size (((w6.setCell ⟨w.heap.size + 1, 0, none⟩ u0).setCell ⟨w.heap.size + 1, 1, none⟩ u1).setCell ⟨w.heap.size + 1, 2, none⟩ u2) ao c zs := fun {ao c zs} u0 u1 u2 ho => own_mono (own_setNe (own_setNe (own_setNe ho (hne ho) _) (hne ho) _) (hne ho) _) K2.out.size
                exact .inr ⟨v, n', le, HE2.out, b1, z2, x3, d1, u2, y3, rfl, ⟨hmv _ _ _ O6.out.o1, hmv _ _ _ O6.out.o2, hmv _ _ _ O6.out.o3, O6.out.d12, O6.out.d13, O6.out.d23⟩, ((K6.out.setNew (Nat.le_succ _) _).setNew (Nat.le_succ _) _).setNew (Nat.le_succ _) _⟩
        · obtain ⟨wf, hwf⟩ : ∃ wf, wf = ((wc.setCell ⟨wb.heap.size, 0, none⟩ (.slice b1 v.length d1)).setCell ⟨wb.heap.size, 1, none⟩ (.slice b2 v.length d2)).setCell ⟨wb.heap.size, 2, none⟩ (.slice b3 l.length d3) := ⟨_, rfl⟩
          have r1 : ∀ g, (Value.slice b1 v.length d1).ownBlock = some g → w2.heap.size ≤ g ∧ g < wa.heap.size := fun g hg => by have := RA.out g hg; simpa using this
          have r2 : ∀ g, (Value.slice b2 v.length d2).ownBlock = some g → wa.heap.size ≤ g ∧ g < wb.heap.size := fun g hg => by have := RB.out g hg; simpa using this
          have r3 : ∀ g, (Value.slice b3 l.length d3).ownBlock = some g → wb.heap.size + 1 ≤ g ∧ g < wc.heap.size := fun g hg => by have := RC.out g hg; simpa using this
          have QB : Kept Nil wa wb := PB.out
          have QC : Kept Nil wb wc := ((Kept.refl _ _).alloc _).trans PC.out
          have z1 := QB.size
          have z2 := QC.size
          have z3 := KA.out.size
          have z4 := K2.out.size
          have z5 : w2.heap.size ≤ wa.heap.size := by have := PA.out.size; simp at this; omega
          have HDR : Hid (Drf w2 wb.heap.size b1 b2 b3 d1 d2 d3 v v l wf) := by rw [hwf]; exact Drf.start zC.out KC.out KB.out.size ((OA.out.kept QB).kept QC) (OB.out.kept QC) OC.out (fun e => by have := r1 _ e; omega) (fun e => by have := r2 _ e; omega) (fun e => by have := r3 _ e; omega) (fun g h1 h2 => by have := r1 g h1; have := r2 g h2; omega) (fun g h1 h2 => by have := r1 g h1; have := r3 g h2; omega) (fun g h1 h2 => by have := r2 g h1; have := r3 g h2; omega)
          rw [← hwf]
          obtain ⟨bd, hbd⟩ : ∃ bd, bd = wb.heap.size := ⟨_, rfl⟩
          rw [← hbd] at HDR
          rw [← hbd]
          clear hbd
          clear r1 r2 r3 QB QC z1 z2 z3 z4 z5 hwf
          clear X1 X3 KD KDZ sD sDZ q0 q1 q2 g0 g1 g2 f0 f1 f2 C2 PA RA OA KAZ CA sA sAZ PB RB OB KBZ CB sB sBZ PC RC OC KCZ CC sC sCZ KA KB KC hl1 hl2 hl3; (try clear zA); (try clear zB); (try clear zC); (try clear z0); (try clear z1); (try clear z2); (try clear y0); (try clear y1); (try clear y2); (try clear neA); (try clear neB); (try clear neC); (try clear neD)
          go_wp2
          go_loopw [37] (fun i wr => ∃ k : Nat, ∃ nx le : List Int, ∃ x2 x3 y2 y3, k ≤ ops.length ∧ i = .int .i64 k ∧ Hid (Drf w2 bd b1 x2 x3 d1 y2 y3 v nx le wr) ∧ Hid (Dr v nx le) ∧ Hid (doAll v (ops.take k) v l = some (nx, le))) (fun i _ => ops.length - (intOf i).toNat)
          case atStart => exact ⟨0, v, l, b2, b3, d2, d3, Nat.zero_le _, rfl, HDR.out, HD0.out, rfl⟩
          case round =>
            obtain ⟨k, nx, le, x2, x3, y2, y3, hk, rfl, HDk, HDr, HAk⟩ := hrel
            clear HDR HD0
            have HKk : Hid (Kept Nil w wr) := K2.out.trans HDk.out.kp
            by_cases hlt : k < ops.length
            · obtain ⟨a, rfl, _, e0, e1⟩ := (HO.out.2.2.2.nil HKk.out) k hlt
              have HAT : Hid (doAll v (ops.take (k + 1)) v l = doZ v nx le ops[k].1 ops[k].2) := doAll_at hlt HAk.out
              have HST : Hid (doZ v nx le ops[k].1 ops[k].2 = none → doAll v ops v l = none) := fun hz => doAll_stop hlt HAk.out hz
              have hki : (k : Int) < ops.length := by omega
              generalize ops[k].1 = kd at *
              generalize ops[k].2 = nd at *
              have DO := do_any w2 bd d1 y2 y3 b1 x2 x3 v nx le kd nd (wr.alloc (.cells #[.int .i64 kd, .int .i64 nd] 32)) (HDk.out.grown (grown_alloc (grown_refl _ _) _)) HDr.out
              clear HAk
              go_wp2_with fail
              go_fit DO
              rintro e w5 (⟨hz, rfl, g5⟩ | ⟨nx', le', hz, rfl, x2', x3', y2', y3', D5⟩)
              · have HE : Hid (r = .error 8) := by show r = _; rw [HE.out, HST.out hz]; rfl
                have K5 : Hid (Kept Nil w w5) := (HKk.out.alloc _).grown g5 (fun j hj => by cases hj)
                have N5 : Hid (w5.heap[w.heap.size + 1]? = some (.cells #[.slice none 0 0, .slice none 0 0, .slice none 0 0] 24 (0, 0))) := (((Kept.refl Nil _).alloc _).grown g5 (fun j hj => by cases hj)).block _ _ (HDk.out.kp.block _ _ N2.out (fun x => x.elim)) (fun x => x.elim)
                clear hz g5 DO HAT HST
                have g0 : w5.cell? ⟨w.heap.size + 1, 0, none⟩ = some (.slice none 0 0) := blk_at N5.out 0 rfl
                have f0 : w5.frozen? ⟨w.heap.size + 1, 0, none⟩ = false := blk_free N5.out 0
                have g1 : w5.cell? ⟨w.heap.size + 1, 1, none⟩ = some (.slice none 0 0) := blk_at N5.out 1 rfl
                have f1 : w5.frozen? ⟨w.heap.size + 1, 1, none⟩ = false := blk_free N5.out 1
                have g2 : w5.cell? ⟨w.heap.size + 1, 2, none⟩ = some (.slice none 0 0) := blk_at N5.out 2 rfl
                have f2 : w5.frozen? ⟨w.heap.size + 1, 2, none⟩ = false := blk_free N5.out 2
                go_wp2
                refine bodyPost_ret (v := .tuple #[.agg #[.slice none 0 0, .slice none 0 0, .slice none 0 0], .int .i64 8]) (by simp [results, Try.results10, go_sem, g0, g1, g2]) rfl ?_
                exact .inl ⟨8, HE.out, rfl, ((K5.out.setNew (Nat.le_succ _) _).setNew (Nat.le_succ _) _).setNew (Nat.le_succ _) _⟩
              · have HAT2 : Hid (doAll v (ops.take (k + 1)) v l = some (nx', le')) := HAT.out.trans hz
                have HDr2 : Hid (Dr v nx' le') := doZ_keeps HDr.out hz
                have HD5 : Hid (Drf w2 bd b1 x2' x3' d1 y2' y3' v nx' le' w5) := D5
                clear hz D5 DO HAT HST
                go_wp2
                go_roundw
                case rel => exact ⟨k + 1, nx', le', x2', x3', y2', y3', by omega, by go_num, HD5.out, HDr2.out, HAT2.out⟩
                case measure => simp [intOf]; omega
            · obtain rfl : k = ops.length := by omega
              have HA : Hid (doAll v ops v l = some (nx, le)) := by have := HAk.out; rwa [List.take_length] at this
              have N6 : Hid (wr.heap[w.heap.size + 1]? = some (.cells #[.slice none 0 0, .slice none 0 0, .slice none 0 0] 24 (0, 0))) := HDk.out.kp.block _ _ N2.out (fun x => x.elim)
              have t1 : wr.cell? ⟨bd, 1, none⟩ = some (.slice x2 nx.length y2) := blk_at HDk.out.blk 1 rfl
              have hnx := HDr.out.len
              clear HAk
              by_cases h0 : nx.length = 0
              · have HE : Hid (r = .error 8) := by show r = _; rw [HE.out, HA.out]; exact if_pos h0
                have h0' : ((nx.length : Int) == 0) = true := by rw [h0]; rfl
                clear h0
                have g0 : wr.cell? ⟨w.heap.size + 1, 0, none⟩ = some (.slice none 0 0) := blk_at N6.out 0 rfl
                have f0 : wr.frozen? ⟨w.heap.size + 1, 0, none⟩ = false := blk_free N6.out 0
                have g1 : wr.cell? ⟨w.heap.size + 1, 1, none⟩ = some (.slice none 0 0) := blk_at N6.out 1 rfl
                have f1 : wr.frozen? ⟨w.heap.size + 1, 1, none⟩ = false := blk_free N6.out 1
                have g2 : wr.cell? ⟨w.heap.size + 1, 2, none⟩ = some (.slice none 0 0) := blk_at N6.out 2 rfl
                have f2 : wr.frozen? ⟨w.heap.size + 1, 2, none⟩ = false := blk_free N6.out 2
                go_wp2
                refine bodyPost_ret (v := .tuple #[.agg #[.slice none 0 0, .slice none 0 0, .slice none 0 0], .int .i64 8]) (by simp [results, Try.results10, go_sem, g0, g1, g2]) rfl ?_
                exact .inl ⟨8, HE.out, rfl, ((HKk.out.setNew (Nat.le_succ _) _).setNew (Nat.le_succ _) _).setNew (Nat.le_succ _) _⟩
              · obtain ⟨n', HN'⟩ : ∃ n', Hid (n' = if v = nx then [] else nx) := ⟨_, rfl⟩
                have HE2 : Hid (r = .ok (v, n', le)) := by show r = _; rw [HE.out, HA.out, HN'.out]; exact if_neg h0
                have h0' : ((nx.length : Int) == 0) = false := beq_eq_false_iff_ne.2 (by omega)
                have DC := dconfig_any w2 bd d1 y2 y3 b1 x2 x3 v nx le wr HDk.out HDr.out
                rw [← HN'.out] at DC
                clear h0 HN' HA HE
                go_wp2_with fail
                go_fit DC
                rintro e w6 ⟨z2, u2, rfl, own6, k6⟩
                have O6 : Hid (Own3 w2.heap.size b1 z2 x3 d1 u2 y3 v n' le w6) := own6
                have K6 : Hid (Kept Nil w w6) := K2.out.trans k6
                have N7 : Hid (w6.heap[w.heap.size + 1]? = some (.cells #[.slice none 0 0, .slice none 0 0, .slice none 0 0] 24 (0, 0))) := k6.block _ _ N2.out (fun x => x.elim)
                clear own6 k6 DC t1 N6 HDk HDr
                have g0 : w6.cell? ⟨w.heap.size + 1, 0, none⟩ = some (.slice none 0 0) := blk_at N7.out 0 rfl
                have f0 : w6.frozen? ⟨w.heap.size + 1, 0, none⟩ = false := blk_free N7.out 0
                have g1 : w6.cell? ⟨w.heap.size + 1, 1, none⟩ = some (.slice none 0 0) := blk_at N7.out 1 rfl
                have f1 : w6.frozen? ⟨w.heap.size + 1, 1, none⟩ = false := blk_free N7.out 1
                have g2 : w6.cell? ⟨w.heap.size + 1, 2, none⟩ = some (.slice none 0 0) := blk_at N7.out 2 rfl
                have f2 : w6.frozen? ⟨w.heap.size + 1, 2, none⟩ = false := blk_free N7.out 2
                go_wp2
                refine bodyPost_ret (v := .tuple #[.agg #[.slice b1 v.length d1, .slice z2 n'.length u2, .slice x3 le.length y3], .int .i64 0]) (by simp [results, Try.results10, go_sem, g0, g1, g2]) rfl ?_
                have hlt2 := lt_of_block N2.out
                have hne : ∀ {ao c zs}, OwnInts w2.heap.size w6 ao c zs → (Value.slice ao zs.length c).ownBlock ≠ some (w.heap.size + 1) := fun {ao c zs} ho e => by have := (World.ownsRow.lt ho _ e).1; omega
                have hmv : ∀ {ao c zs} (u0 u1 u2 : Value), OwnInts w2.heap.size w6 ao c zs → OwnInts w.heap.size (((w6.setCell ⟨w.heap.size + 1, 0, none⟩ u0).setCell ⟨w.heap.size + 1, 1, none⟩ u1).setCell ⟨w.heap.size + 1, 2, none⟩ u2) ao c zs := fun {ao c zs} u0 u1 u2 ho => own_mono (own_setNe (own_setNe (own_setNe ho (hne ho) _) (hne ho) _) (hne ho) _) K2.out.size
                exact .inr ⟨v, n', le, HE2.out, b1, z2, x3, d1, u2, y3, rfl, ⟨hmv _ _ _ O6.out.o1, hmv _ _ _ O6.out.o2, hmv _ _ _ O6.out.o3, O6.out.d12, O6.out.d13, O6.out.d23⟩, ((K6.out.setNew (Nat.le_succ _) _).setNew (Nat.le_succ _) _).setNew (Nat.le_succ _) _⟩
        · obtain ⟨wf, hwf⟩ : ∃ wf, wf = ((wc.setCell ⟨wa.heap.size, 0, none⟩ (.slice b1 v.length d1)).setCell ⟨wa.heap.size, 1, none⟩ (.slice b2 v.length d2)).setCell ⟨wa.heap.size, 2, none⟩ (.slice b3 l.length d3) := ⟨_, rfl⟩
          have r1 : ∀ g, (Value.slice b1 v.length d1).ownBlock = some g → w2.heap.size ≤ g ∧ g < wa.heap.size := fun g hg => by have := RA.out g hg; simpa using this
          have r2 : ∀ g, (Value.slice b2 v.length d2).ownBlock = some g → wa.heap.size + 1 ≤ g ∧ g < wb.heap.size := fun g hg => by have := RB.out g hg; simpa using this
          have r3 : ∀ g, (Value.slice b3 l.length d3).ownBlock = some g → wb.heap.size ≤ g ∧ g < wc.heap.size := fun g hg => by have := RC.out g hg; simpa using this
          have QB : Kept Nil wa wb := ((Kept.refl _ _).alloc _).trans PB.out
          have QC : Kept Nil wb wc := PC.out
          have z1 : wa.heap.size + 1 ≤ wb.heap.size := by have := PB.out.size; simpa using this
          have z2 := QC.size
          have z3 := KA.out.size
          have z4 := K2.out.size
          have z5 : w2.heap.size ≤ wa.heap.size := by have := PA.out.size; simp at this; omega
          have HDR : Hid (Drf w2 wa.heap.size b1 b2 b3 d1 d2 d3 v v l wf) := by rw [hwf]; exact Drf.start zC.out KC.out KA.out.size ((OA.out.kept QB).kept QC) (OB.out.kept QC) OC.out (fun e => by have := r1 _ e; omega) (fun e => by have := r2 _ e; omega) (fun e => by have := r3 _ e; omega) (fun g h1 h2 => by have := r1 g h1; have := r2 g h2; omega) (fun g h1 h2 => by have := r1 g h1; have := r3 g h2; omega) (fun g h1 h2 => by have := r2 g h1; have := r3 g h2; omega)
          rw [← hwf]
          obtain ⟨bd, hbd⟩ : ∃ bd, bd = wa.heap.size := ⟨_, rfl⟩
          rw [← hbd] at HDR
          rw [← hbd]
          clear hbd
          clear r1 r2 r3 QB QC z1 z2 z3 z4 z5 hwf
          clear X1 X3 KD KDZ sD sDZ q0 q1 q2 g0 g1 g2 f0 f1 f2 C2 PA RA OA KAZ CA sA sAZ PB RB OB KBZ CB sB sBZ PC RC OC KCZ CC sC sCZ KA KB KC hl1 hl2 hl3; (try clear zA); (try clear zB); (try clear zC); (try clear z0); (try clear z1); (try clear z2); (try clear y0); (try clear y1); (try clear y2); (try clear neA); (try clear neB); (try clear neC); (try clear neD)
          go_wp2
          go_loopw [37] (fun i wr => ∃ k : Nat, ∃ nx le : List Int, ∃ x2 x3 y2 y3, k ≤ ops.length ∧ i = .int .i64 k ∧ Hid (Drf w2 bd b1 x2 x3 d1 y2 y3 v nx le wr) ∧ Hid (Dr v nx le) ∧ Hid (doAll v (ops.take k) v l = some (nx, le))) (fun i _ => ops.length - (intOf i).toNat)
          case atStart => exact ⟨0, v, l, b2, b3, d2, d3, Nat.zero_le _, rfl, HDR.out, HD0.out, rfl⟩
          case round =>
            obtain ⟨k, nx, le, x2, x3, y2, y3, hk, rfl, HDk, HDr, HAk⟩ := hrel
            clear HDR HD0
            have HKk : Hid (Kept Nil w wr) := K2.out.trans HDk.out.kp
            by_cases hlt : k < ops.length
            · obtain ⟨a, rfl, _, e0, e1⟩ := (HO.out.2.2.2.nil HKk.out) k hlt
              have HAT : Hid (doAll v (ops.take (k + 1)) v l = doZ v nx le ops[k].1 ops[k].2) := doAll_at hlt HAk.out
              have HST : Hid (doZ v nx le ops[k].1 ops[k].2 = none → doAll v ops v l = none) := fun hz => doAll_stop hlt HAk.out hz
              have hki : (k : Int) < ops.length := by omega
              generalize ops[k].1 = kd at *
              generalize ops[k].2 = nd at *
              have DO := do_any w2 bd d1 y2 y3 b1 x2 x3 v nx le kd nd (wr.alloc (.cells #[.int .i64 kd, .int .i64 nd] 32)) (HDk.out.grown (grown_alloc (grown_refl _ _) _)) HDr.out
              clear HAk
              go_wp2_with fail
              go_fit DO
              rintro e w5 (⟨hz, rfl, g5⟩ | ⟨nx', le', hz, rfl, x2', x3', y2', y3', D5⟩)
              · have HE : Hid (r = .error 8) := by show r = _; rw [HE.out, HST.out hz]; rfl
                have K5 : Hid (Kept Nil w w5) := (HKk.out.alloc _).grown g5 (fun j hj => by cases hj)
                have N5 : Hid (w5.heap[w.heap.size + 1]? = some (.cells #[.slice none 0 0, .slice none 0 0, .slice none 0 0] 24 (0, 0))) := (((Kept.refl Nil _).alloc _).grown g5 (fun j hj => by cases hj)).block _ _ (HDk.out.kp.block _ _ N2.out (fun x => x.elim)) (fun x => x.elim)
                clear hz g5 DO HAT HST
                have g0 : w5.cell? ⟨w.heap.size + 1, 0, none⟩ = some (.slice none 0 0) := blk_at N5.out 0 rfl
                have f0 : w5.frozen? ⟨w.heap.size + 1, 0, none⟩ = false := blk_free N5.out 0
                have g1 : w5.cell? ⟨w.heap.size + 1, 1, none⟩ = some (.slice none 0 0) := blk_at N5.out 1 rfl
                have f1 : w5.frozen? ⟨w.heap.size + 1, 1, none⟩ = false := blk_free N5.out 1
                have g2 : w5.cell? ⟨w.heap.size + 1, 2, none⟩ = some (.slice none 0 0) := blk_at N5.out 2 rfl
                have f2 : w5.frozen? ⟨w.heap.size + 1, 2, none⟩ = false := blk_free N5.out 2
                go_wp2
                refine bodyPost_ret (v := .tuple #[.agg #[.slice none 0 0, .slice none 0 0, .slice none 0 0], .int .i64 8]) (by simp [results, Try.results10, go_sem, g0, g1, g2]) rfl ?_
                exact .inl ⟨8, HE.out, rfl, ((K5.out.setNew (Nat.le_succ _) _).setNew (Nat.le_succ _) _).setNew (Nat.le_succ _) _⟩
              · have HAT2 : Hid (doAll v (ops.take (k + 1)) v l = some (nx', le')) := HAT.out.trans hz
                have HDr2 : Hid (Dr v nx' le') := doZ_keeps HDr.out hz
                have HD5 : Hid (Drf w2 bd b1 x2' x3' d1 y2' y3' v nx' le' w5) := D5
                clear hz D5 DO HAT HST
                go_wp2
                go_roundw
                case rel => exact ⟨k + 1, nx', le', x2', x3', y2', y3', by omega, by go_num, HD5.out, HDr2.out, HAT2.out⟩
                case measure => simp [intOf]; omega
            · obtain rfl : k = ops.length := by omega
              have HA : Hid (doAll v ops v l = some (nx, le)) := by have := HAk.out; rwa [List.take_length] at this
              have N6 : Hid (wr.heap[w.heap.size + 1]? = some (.cells #[.slice none 0 0, .slice none 0 0, .slice none 0 0] 24 (0, 0))) := HDk.out.kp.block _ _ N2.out (fun x => x.elim)
              have t1 : wr.cell? ⟨bd, 1, none⟩ = some (.slice x2 nx.length y2) := blk_at HDk.out.blk 1 rfl
              have hnx := HDr.out.len
              clear HAk
              by_cases h0 : nx.length = 0
              · have HE : Hid (r = .error 8) := by show r = _; rw [HE.out, HA.out]; exact if_pos h0
                have h0' : ((nx.length : Int) == 0) = true := by rw [h0]; rfl
                clear h0
                have g0 : wr.cell? ⟨w.heap.size + 1, 0, none⟩ = some (.slice none 0 0) := blk_at N6.out 0 rfl
                have f0 : wr.frozen? ⟨w.heap.size + 1, 0, none⟩ = false := blk_free N6.out 0
                have g1 : wr.cell? ⟨w.heap.size + 1, 1, none⟩ = some (.slice none 0 0) := blk_at N6.out 1 rfl
                have f1 : wr.frozen? ⟨w.heap.size + 1, 1, none⟩ = false := blk_free N6.out 1
                have g2 : wr.cell? ⟨w.heap.size + 1, 2, none⟩ = some (.slice none 0 0) := blk_at N6.out 2 rfl
                have f2 : wr.frozen? ⟨w.heap.size + 1, 2, none⟩ = false := blk_free N6.out 2
                go_wp2
                refine bodyPost_ret (v := .tuple #[.agg #[.slice none 0 0, .slice none 0 0, .slice none 0 0], .int .i64 8]) (by simp [results, Try.results10, go_sem, g0, g1, g2]) rfl ?_
                exact .inl ⟨8, HE.out, rfl, ((HKk.out.setNew (Nat.le_succ _) _).setNew (Nat.le_succ _) _).setNew (Nat.le_succ _) _⟩
              · obtain ⟨n', HN'⟩ : ∃ n', Hid (n' = if v = nx then [] else nx) := ⟨_, rfl⟩
                have HE2 : Hid (r = .ok (v, n', le)) := by show r = _; rw [HE.out, HA.out, HN'.out]; exact if_neg h0
                have h0' : ((nx.length : Int) == 0) = false := beq_eq_false_iff_ne.2 (by omega)
                have DC := dconfig_any w2 bd d1 y2 y3 b1 x2 x3 v nx le wr HDk.out HDr.out
                rw [← HN'.out] at DC
                clear h0 HN' HA HE
                go_wp2_with fail
                go_fit DC
                rintro e w6 ⟨z2, u2, rfl, own6, k6⟩
                have O6 : Hid (Own3 w2.heap.size b1 z2 x3 d1 u2 y3 v n' le w6) := own6
                have K6 : Hid (Kept Nil w w6) := K2.out.trans k6
                have N7 : Hid (w6.heap[w.heap.size + 1]? = some (.cells #[.slice none 0 0, .slice none 0 0, .slice none 0 0] 24 (0, 0))) := k6.block _ _ N2.out (fun x => x.elim)
                clear own6 k6 DC t1 N6 HDk HDr
                have g0 : w6.cell? ⟨w.heap.size + 1, 0, none⟩ = some (.slice none 0 0) := blk_at N7.out 0 rfl
                have f0 : w6.frozen? ⟨w.heap.size + 1, 0, none⟩ = false := blk_free N7.out 0
                have g1 : w6.cell? ⟨w.heap.size + 1, 1, none⟩ = some (.slice none 0 0) := blk_at N7.out 1 rfl
                have f1 : w6.frozen? ⟨w.heap.size + 1, 1, none⟩ = false := blk_free N7.out 1
                have g2 : w6.cell? ⟨w.heap.size + 1, 2, none⟩ = some (.slice none 0 0) := blk_at N7.out 2 rfl
                have f2 : w6.frozen? ⟨w.heap.size + 1, 2, none⟩ = false := blk_free N7.out 2
                go_wp2
                refine bodyPost_ret (v := .tuple #[.agg #[.slice b1 v.length d1, .slice z2 n'.length u2, .slice x3 le.length y3], .int .i64 0]) (by simp [results, Try.results10, go_sem, g0, g1, g2]) rfl ?_
                have hlt2 := lt_of_block N2.out
                have hne : ∀ {ao c zs}, OwnInts w2.heap.size w6 ao c zs → (Value.slice ao zs.length c).ownBlock ≠ some (w.heap.size + 1) := fun {ao c zs} ho e => by have := (World.ownsRow.lt ho _ e).1; omega
                have hmv : ∀ {ao c zs} (u0 u1 u2 : Value), OwnInts w2.heap.size w6 ao c zs → OwnInts w.heap.size (((w6.setCell ⟨w.heap.size + 1, 0, none⟩ u0).setCell ⟨w.heap.size + 1, 1, none⟩ u1).setCell ⟨w.heap.size + 1, 2, none⟩ u2) ao c zs := fun {ao c zs} u0 u1 u2 ho => own_mono (own_setNe (own_setNe (own_setNe ho (hne ho) _) (hne ho) _) (hne ho) _) K2.out.size
                exact .inr ⟨v, n', le, HE2.out, b1, z2, x3, d1, u2, y3, rfl, ⟨hmv _ _ _ O6.out.o1, hmv _ _ _ O6.out.o2, hmv _ _ _ O6.out.o3, O6.out.d12, O6.out.d13, O6.out.d23⟩, ((K6.out.setNew (Nat.le_succ _) _).setNew (Nat.le_succ _) _).setNew (Nat.le_succ _) _⟩
        · obtain ⟨wf, hwf⟩ : ∃ wf, wf = ((wc.setCell ⟨w2.heap.size, 0, none⟩ (.slice b1 v.length d1)).setCell ⟨w2.heap.size, 1, none⟩ (.slice b2 v.length d2)).setCell ⟨w2.heap.size, 2, none⟩ (.slice b3 l.length d3) := ⟨_, rfl⟩
          have r1 : ∀ g, (Value.slice b1 v.length d1).ownBlock = some g → w2.heap.size + 1 ≤ g ∧ g < wa.heap.size := fun g hg => by have := RA.out g hg; simpa using this
          have r2 : ∀ g, (Value.slice b2 v.length d2).ownBlock = some g → wa.heap.size ≤ g ∧ g < wb.heap.size := fun g hg => by have := RB.out g hg; simpa using this
          have r3 : ∀ g, (Value.slice b3 l.length d3).ownBlock = some g → wb.heap.size ≤ g ∧ g < wc.heap.size := fun g hg => by have := RC.out g hg; simpa using this
          have QB : Kept Nil wa wb := PB.out
          have QC : Kept Nil wb wc := PC.out
          have z1 := QB.size
          have z2 := QC.size
          have z3 := KA.out.size
          have z4 := K2.out.size
          have z5 : w2.heap.size + 1 ≤ wa.heap.size := by have := PA.out.size; simpa using this
          have HDR : Hid (Drf w2 w2.heap.size b1 b2 b3 d1 d2 d3 v v l wf) := by rw [hwf]; exact Drf.start zC.out KC.out (Nat.le_refl _) ((OA.out.kept QB).kept QC) (OB.out.kept QC) OC.out (fun e => by have := r1 _ e; omega) (fun e => by have := r2 _ e; omega) (fun e => by have := r3 _ e; omega) (fun g h1 h2 => by have := r1 g h1; have := r2 g h2; omega) (fun g h1 h2 => by have := r1 g h1; have := r3 g h2; omega) (fun g h1 h2 => by have := r2 g h1; have := r3 g h2; omega)
          rw [← hwf]
          obtain ⟨bd, hbd⟩ : ∃ bd, bd = w2.heap.size := ⟨_, rfl⟩
          rw [← hbd] at HDR
          rw [← hbd]
          clear hbd
          clear r1 r2 r3 QB QC z1 z2 z3 z4 z5 hwf
          clear X1 X3 KD KDZ sD sDZ q0 q1 q2 g0 g1 g2 f0 f1 f2 C2 PA RA OA KAZ CA sA sAZ PB RB OB KBZ CB sB sBZ PC RC OC KCZ CC sC sCZ KA KB KC hl1 hl2 hl3; (try clear zA); (try clear zB); (try clear zC); (try clear z0); (try clear z1); (try clear z2); (try clear y0); (try clear y1); (try clear y2); (try clear neA); (try clear neB); (try clear neC); (try clear neD)
          go_wp2
          go_loopw [37] (fun i wr => ∃ k : Nat, ∃ nx le : List Int, ∃ x2 x3 y2 y3, k ≤ ops.length ∧ i = .int .i64 k ∧ Hid (Drf w2 bd b1 x2 x3 d1 y2 y3 v nx le wr) ∧ Hid (Dr v nx le) ∧ Hid (doAll v (ops.take k) v l = some (nx, le))) (fun i _ => ops.length - (intOf i).toNat)
          case atStart => exact ⟨0, v, l, b2, b3, d2, d3, Nat.zero_le _, rfl, HDR.out, HD0.out, rfl⟩
          case round =>
            obtain ⟨k, nx, le, x2, x3, y2, y3, hk, rfl, HDk, HDr, HAk⟩ := hrel
            clear HDR HD0
            have HKk : Hid (Kept Nil w wr) := K2.out.trans HDk.out.kp
            by_cases hlt : k < ops.length
            · obtain ⟨a, rfl, _, e0, e1⟩ := (HO.out.2.2.2.nil HKk.out) k hlt
              have HAT : Hid (doAll v (ops.take (k + 1)) v l = doZ v nx le ops[k].1 ops[k].2) := doAll_at hlt HAk.out
              have HST : Hid (doZ v nx le ops[k].1 ops[k].2 = none → doAll v ops v l = none) := fun hz => doAll_stop hlt HAk.out hz
              have hki : (k : Int) < ops.length := by omega
              generalize ops[k].1 = kd at *
              generalize ops[k].2 = nd at *
              have DO := do_any w2 bd d1 y2 y3 b1 x2 x3 v nx le kd nd (wr.alloc (.cells #[.int .i64 kd, .int .i64 nd] 32)) (HDk.out.grown (grown_alloc (grown_refl _ _) _)) HDr.out
              clear HAk
              go_wp2_with fail
              go_fit DO
              rintro e w5 (⟨hz, rfl, g5⟩ | ⟨nx', le', hz, rfl, x2', x3', y2', y3', D5⟩)
              · have HE : Hid (r = .error 8) := by show r = _; rw [HE.out, HST.out hz]; rfl
                have K5 : Hid (Kept Nil w w5) := (HKk.out.alloc _).grown g5 (fun j hj => by cases hj)
                have N5 : Hid (w5.heap[w.heap.size + 1]? = some (.cells #[.slice none 0 0, .slice none 0 0, .slice none 0 0] 24 (0, 0))) := (((Kept.refl Nil _).alloc _).grown g5 (fun j hj => by cases hj)).block _ _ (HDk.out.kp.block _ _ N2.out (fun x => x.elim)) (fun x => x.elim)
                clear hz g5 DO HAT HST
                have g0 : w5.cell? ⟨w.heap.size + 1, 0, none⟩ = some (.slice none 0 0) := blk_at N5.out 0 rfl
                have f0 : w5.frozen? ⟨w.heap.size + 1, 0, none⟩ = false := blk_free N5.out 0
                have g1 : w5.cell? ⟨w.heap.size + 1, 1, none⟩ = some (.slice none 0 0) := blk_at N5.out 1 rfl
                have f1 : w5.frozen? ⟨w.heap.size + 1, 1, none⟩ = false := blk_free N5.out 1
                have g2 : w5.cell? ⟨w.heap.size + 1, 2, none⟩ = some (.slice none 0 0) := blk_at N5.out 2 rfl
                have f2 : w5.frozen? ⟨w.heap.size + 1, 2, none⟩ = false := blk_free N5.out 2
                go_wp2
                refine bodyPost_ret (v := .tuple #[.agg #[.slice none 0 0, .slice none 0 0, .slice none 0 0], .int .i64 8]) (by simp [results, Try.results10, go_sem, g0, g1, g2]) rfl ?_
                exact .inl ⟨8, HE.out, rfl, ((K5.out.setNew (Nat.le_succ _) _).setNew (Nat.le_succ _) _).setNew (Nat.le_succ _) _⟩
              · have HAT2 : Hid (doAll v (ops.take (k + 1)) v l = some (nx', le')) := HAT.out.trans hz
                have HDr2 : Hid (Dr v nx' le') := doZ_keeps HDr.out hz
                have HD5 : Hid (Drf w2 bd b1 x2' x3' d1 y2' y3' v nx' le' w5) := D5
                clear hz D5 DO HAT HST
                go_wp2
                go_roundw
                case rel => exact ⟨k + 1, nx', le', x2', x3', y2', y3', by omega, by go_num, HD5.out, HDr2.out, HAT2.out⟩
                case measure => simp [intOf]; omega
            · obtain rfl : k = ops.length := by omega
              have HA : Hid (doAll v ops v l = some (nx, le)) := by have := HAk.out; rwa [List.take_length] at this
              have N6 : Hid (wr.heap[w.heap.size + 1]? = some (.cells #[.slice none 0 0, .slice none 0 0, .slice none 0 0] 24 (0, 0))) := HDk.out.kp.block _ _ N2.out (fun x => x.elim)
              have t1 : wr.cell? ⟨bd, 1, none⟩ = some (.slice x2 nx.length y2) := blk_at HDk.out.blk 1 rfl
              have hnx := HDr.out.len
              clear HAk
              by_cases h0 : nx.length = 0
              · have HE : Hid (r = .error 8) := by show r = _; rw [HE.out, HA.out]; exact if_pos h0
                have h0' : ((nx.length : Int) == 0) = true := by rw [h0]; rfl
                clear h0
                have g0 : wr.cell? ⟨w.heap.size + 1, 0, none⟩ = some (.slice none 0 0) := blk_at N6.out 0 rfl
                have f0 : wr.frozen? ⟨w.heap.size + 1, 0, none⟩ = false := blk_free N6.out 0
                have g1 : wr.cell? ⟨w.heap.size + 1, 1, none⟩ = some (.slice none 0 0) := blk_at N6.out 1 rfl
                have f1 : wr.frozen? ⟨w.heap.size + 1, 1, none⟩ = false := blk_free N6.out 1
                have g2 : wr.cell? ⟨w.heap.size + 1, 2, none⟩ = some (.slice none 0 0) := blk_at N6.out 2 rfl
                have f2 : wr.frozen? ⟨w.heap.size + 1, 2, none⟩ = false := blk_free N6.out 2
                go_wp2
                refine bodyPost_ret (v := .tuple #[.agg #[.slice none 0 0, .slice none 0 0, .slice none 0 0], .int .i64 8]) (by simp [results, Try.results10, go_sem, g0, g1, g2]) rfl ?_
                exact .inl ⟨8, HE.out, rfl, ((HKk.out.setNew (Nat.le_succ _) _).setNew (Nat.le_succ _) _).setNew (Nat.le_succ _) _⟩
              · obtain ⟨n', HN'⟩ : ∃ n', Hid (n' = if v = nx then [] else nx) := ⟨_, rfl⟩
                have HE2 : Hid (r = .ok (v, n', le)) := by show r = _; rw [HE.out, HA.out, HN'.out]; exact if_neg h0
                have h0' : ((nx.length : Int) == 0) = false := beq_eq_false_iff_ne.2 (by omega)
                have DC := dconfig_any w2 bd d1 y2 y3 b1 x2 x3 v nx le wr HDk.out HDr.out
                rw [← HN'.out] at DC
                clear h0 HN' HA HE
                go_wp2_with fail
                go_fit DC
                rintro e w6 ⟨z2, u2, rfl, own6, k6⟩
                have O6 : Hid (Own3 w2.heap.size b1 z2 x3 d1 u2 y3 v n' le w6) := own6
                have K6 : Hid (Kept Nil w w6) := K2.out.trans k6
                have N7 : Hid (w6.heap[w.heap.size + 1]? = some (.cells #[.slice none 0 0, .slice none 0 0, .slice none 0 0] 24 (0, 0))) := k6.block _ _ N2.out (fun x => x.elim)
                clear own6 k6 DC t1 N6 HDk HDr
                have g0 : w6.cell? ⟨w.heap.size + 1, 0, none⟩ = some (.slice none 0 0) := blk_at N7.out 0 rfl
                have f0 : w6.frozen? ⟨w.heap.size + 1, 0, none⟩ = false := blk_free N7.out 0
                have g1 : w6.cell? ⟨w.heap.size + 1, 1, none⟩ = some (.slice none 0 0) := blk_at N7.out 1 rfl
                have f1 : w6.frozen? ⟨w.heap.size + 1, 1, none⟩ = false := blk_free N7.out 1
                have g2 : w6.cell? ⟨w.heap.size + 1, 2, none⟩ = some (.slice none 0 0) := blk_at N7.out 2 rfl
                have f2 : w6.frozen? ⟨w.heap.size + 1, 2, none⟩ = false := blk_free N7.out 2
                go_wp2
                refine bodyPost_ret (v := .tuple #[.agg #[.slice b1 v.length d1, .slice z2 n'.length u2, .slice x3 le.length y3], .int .i64 0]) (by simp [results, Try.results10, go_sem, g0, g1, g2]) rfl ?_
                have hlt2 := lt_of_block N2.out
                have hne : ∀ {ao c zs}, OwnInts w2.heap.size w6 ao c zs → (Value.slice ao zs.length c).ownBlock ≠ some (w.heap.size + 1) := fun {ao c zs} ho e => by have := (World.ownsRow.lt ho _ e).1; omega
                have hmv : ∀ {ao c zs} (u0 u1 u2 : Value), OwnInts w2.heap.size w6 ao c zs → OwnInts w.heap.size (((w6.setCell ⟨w.heap.size + 1, 0, none⟩ u0).setCell ⟨w.heap.size + 1, 1, none⟩ u1).setCell ⟨w.heap.size + 1, 2, none⟩ u2) ao c zs := fun {ao c zs} u0 u1 u2 ho => own_mono (own_setNe (own_setNe (own_setNe ho (hne ho) _) (hne ho) _) (hne ho) _) K2.out.size
                exact .inr ⟨v, n', le, HE2.out, b1, z2, x3, d1, u2, y3, rfl, ⟨hmv _ _ _ O6.out.o1, hmv _ _ _ O6.out.o2, hmv _ _ _ O6.out.o3, O6.out.d12, O6.out.d13, O6.out.d23⟩, ((K6.out.setNew (Nat.le_succ _) _).setNew (Nat.le_succ _) _).setNew (Nat.le_succ _) _⟩

end Go.Proofs.Ytijklginabipgaa
