/-
  ConfigExact: a configuration held, written over; operations cloned, and held.
-/
import Derived.Test.YtijklginabipgaaWExact5
namespace Go.Proofs.Ytijklginabipgaa
open Go.RowKit

set_option maxRecDepth 100000 in
set_option maxHeartbeats 2000000 in
theorem heldConfig_yes (B B2 d1 d2 d3 c1 c2 c3 : Nat) (x1 x2 x3 a1 a2 a3 : Option Addr) (v n l : List Int) (w : World) (h1 : XRow B w x1 d1 v) (h2 : XRow B w x2 d2 n) (h3 : XRow B w x3 d3 l) (h : CfRows B2 w a1 a2 a3 v n l) (hl1 : v.length ≤ 1048576) (hl2 : n.length ≤ 1048576) (hl3 : l.length ≤ 1048576) :
    Calls Try.prog 28 #[.agg #[.slice x1 v.length d1, .slice x2 n.length d2, .slice x3 l.length d3], .agg #[.slice a1 v.length c1, .slice a2 n.length c2, .slice a3 l.length c3]] w fun e w' => e = .returned (.bool true) ∧ Kept Nil w w' := by
  obtain ⟨W, hW⟩ : ∃ W, W = (w.alloc (.cells #[.slice x1 v.length d1, .slice x2 n.length d2, .slice x3 l.length d3] 24)).alloc (.cells #[.slice a1 v.length c1, .slice a2 n.length c2, .slice a3 l.length c3] 24) := ⟨_, rfl⟩
  have KW : Hid (Kept Nil w W) := by rw [hW]; exact ((Kept.refl _ _).alloc _).alloc _
  have HA : Hid (W.heap[w.heap.size]? = some (.cells #[.slice x1 v.length d1, .slice x2 n.length d2, .slice x3 l.length d3] 24 (0, 0))) := by rw [hW]; exact blk_past (blk_new _ _) _
  have HB : Hid (W.heap[w.heap.size + 1]? = some (.cells #[.slice a1 v.length c1, .slice a2 n.length c2, .slice a3 l.length c3] 24 (0, 0))) := by
    have := blk_new (w.alloc (.cells #[.slice x1 v.length d1, .slice x2 n.length d2, .slice x3 l.length d3] 24)) (.cells #[.slice a1 v.length c1, .slice a2 n.length c2, .slice a3 l.length c3] 24)
    rw [show (w.alloc (.cells #[.slice x1 v.length d1, .slice x2 n.length d2, .slice x3 l.length d3] 24)).heap.size = w.heap.size + 1 by simp] at this
    rw [hW]
    exact this
  have S1 := heldInts_yes B B2 d1 c1 x1 a1 v W (h1.kept KW.out) (h.nil KW.out).r1 hl1
  have S2 := fun X (hx : Kept Nil W X) => heldInts_yes B B2 d2 c2 x2 a2 n X ((h2.kept KW.out).kept hx) (h.nil (KW.out.trans hx)).r2 hl2
  have S3 := fun X (hx : Kept Nil W X) => heldInts_yes B B2 d3 c3 x3 a3 l X ((h3.kept KW.out).kept hx) (h.nil (KW.out.trans hx)).r3 hl3
  have p0 : W.cell? ⟨w.heap.size, 0, none⟩ = some (.slice x1 v.length d1) := blk_at HA.out 0 rfl
  have r0 : W.cell? ⟨w.heap.size + 1, 0, none⟩ = some (.slice a1 v.length c1) := blk_at HB.out 0 rfl
  clear h h1 h2 h3
  go_enter Try.func28, Try.ntmps28
  go_wp2_with fail
  rw [← hW]
  clear hW
  go_fit S1
  rintro e w1 ⟨rfl, k1⟩
  have K1 : Hid (Kept Nil W w1) := k1
  have p1 : w1.cell? ⟨w.heap.size, 1, none⟩ = some (.slice x2 n.length d2) := blk_at (k1.block _ _ HA.out (fun x => x.elim)) 1 rfl
  have r1 : w1.cell? ⟨w.heap.size + 1, 1, none⟩ = some (.slice a2 n.length c2) := blk_at (k1.block _ _ HB.out (fun x => x.elim)) 1 rfl
  clear k1 S1 p0 r0
  go_wp2_with fail
  go_fit (S2 w1 K1.out)
  rintro e w2 ⟨rfl, k2⟩
  have K2 : Hid (Kept Nil W w2) := K1.out.trans k2
  have p2 : w2.cell? ⟨w.heap.size, 2, none⟩ = some (.slice x3 l.length d3) := blk_at (K2.out.block _ _ HA.out (fun x => x.elim)) 2 rfl
  have r2 : w2.cell? ⟨w.heap.size + 1, 2, none⟩ = some (.slice a3 l.length c3) := blk_at (K2.out.block _ _ HB.out (fun x => x.elim)) 2 rfl
  clear k2 S2 p1 r1
  go_wp2_with fail
  go_fit (S3 w2 K2.out)
  rintro e w3 ⟨rfl, k3⟩
  have K3 : Hid (Kept Nil w w3) := (KW.out.trans K2.out).trans k3
  clear k3 S3
  go_wp2
  go_ret
  exact ⟨rfl, K3.out⟩

theorem own_setI {B g c k : Nat} {w : World} {zs : List Int} (h : OwnInts B w (some ⟨g, 0, none⟩) c zs) (z : Int) : OwnInts B (w.setCell ⟨g, k, none⟩ (.int .i64 z)) (some ⟨g, 0, none⟩) c (zs.set k z) := by
  have := own_setAt h k (.int .i64 z)
  unfold OwnInts
  rw [List.length_set, List.map_set]
  exact this
theorem src_two {w : World} (z y : Int) : Src Try.prog 1 22 (.slice (some ⟨w.heap.size, 0, none⟩) 2 2) 2 [.int .i64 z, .int .i64 y] (w.alloc (.cells #[.int .i64 z, .int .i64 y] 3)) := by
  refine Src.ofSlice _ Try.underlying22 _ 2 2 _ rfl ?_ ?_
  · intro j u hj
    match j, hj with
    | 0, hj | 1, hj =>
      simp at hj
      subst hj
      simp [Addr.add]
  · intro u hu
    simp at hu
    rcases hu with rfl | rfl <;> rfl

set_option maxRecDepth 100000 in
set_option maxHeartbeats 2000000 in
theorem overInts_any (B c : Nat) (ao : Option Addr) (zs : List Int) (w : World) (h : OwnInts B w ao c zs) (hB : B ≤ w.heap.size) (hl : zs.length ≤ 4000000) :
    Calls Try.prog 31 #[.slice ao zs.length c] w fun e w' => e = .returned (.tuple #[]) ∧ w.grownBy w' (Value.slice ao zs.length c).ownBlock := by
  obtain ⟨i0, hi, hz0, hz1, hz2⟩ := info_parts Try.infoInt
  have HO0 : Hid (OwnInts B w ao c zs) := h
  clear h
  go_enter Try.func31, Try.ntmps31
  go_wp2
  go_loopw [2] (fun i wr => ∃ k : Nat, ∃ ys : List Int, k ≤ zs.length ∧ i = .int .i64 k ∧ Hid (ys.length = zs.length) ∧ Hid (OwnInts B wr ao c ys) ∧ Hid (w.grownBy wr (Value.slice ao zs.length c).ownBlock)) (fun i _ => zs.length - (intOf i).toNat)
  case atStart => exact ⟨0, zs, Nat.zero_le _, rfl, rfl, HO0.out, grown_refl _ _⟩
  case round =>
    obtain ⟨k, ys, hk, rfl, HL, HO, HG⟩ := hrel
    clear HO0
    by_cases hlt : k < zs.length
    · have hly : k < ys.length := by rw [HL.out]; exact hlt
      obtain ⟨g, cur, rfl, hbg, hb, h1, h2, h3, h4⟩ := own_blockI HO.out (by omega)
      have hki : (k : Int) < zs.length := by omega
      have hc : ∃ u, wr.cell? ⟨g, k, none⟩ = some u := ⟨_, by rw [blk_cell hb, Array.getElem?_eq_getElem (by omega)]⟩
      obtain ⟨u, hcell⟩ := hc
      have hfz : wr.frozen? ⟨g, k, none⟩ = false := blk_free hb k
      have HO2 : Hid (OwnInts B (wr.setCell ⟨g, k, none⟩ (.int .i64 (-7))) (some ⟨g, 0, none⟩) c (ys.set k (-7))) := own_setI HO.out (-7)
      have HG2 : Hid (w.grownBy (wr.setCell ⟨g, k, none⟩ (.int .i64 (-7))) (Value.slice (some ⟨g, 0, none⟩) zs.length c).ownBlock) := grown_trans HG.out ⟨rfl, rfl, rfl, by simp [World.setCell], fun j _ hne => by
        rw [Below.heap_setCell _ _ _ _ (fun e => hne (by rw [e]; rfl))]⟩
      clear hb h1 h2 h3 h4
      go_wp2
      go_roundw
      case rel => exact ⟨k + 1, ys.set k (-7), by omega, by go_num, (List.length_set ..).trans HL.out, HO2.out, HG2.out⟩
      case measure => simp [intOf]; omega
    · have ho : wr.ownsRow B 3 1 (.slice ao zs.length c) zs.length (ys.map (Value.int .i64)) := by have := HO.out; unfold OwnInts at this; rw [HL.out] at this; exact this
      have HLL : Hid (zs.length + 2 ≤ maxLen ∧ (zs.length + 2) * 8 ≤ 140737488355328) := by constructor; unfold maxLen; omega; omega
      have HSZ : Hid (B ≤ wr.heap.size) := Nat.le_trans hB HG.out.size
      go_wp2_with (first | (at_builtin; go_must (refine wpList_append_src _ rfl _ _ 22 22 rfl B 3 i0 (.int .i64 0) 1 8 Try.underlying22 hi hz0 hz1 hz2 rfl _ _ _ rfl (World.ownsRow.alloc ho _) (.slice (some ⟨wr.heap.size, 0, none⟩) 2 2) 2 [.int .i64 (-7), .int .i64 (-7)] rfl (src_two _ _) HLL.out.1 HLL.out.2 (le_alloc HSZ.out _) ?_); intro ao' c' w2 ho' hg'; have HG2 : Hid (w.grownBy w2 (Value.slice ao zs.length c).ownBlock) := grown_trans (grown_alloc HG.out _) hg'; clear hg' ho'))
      go_end0
      exact ⟨rfl, HG2.out⟩

set_option maxRecDepth 100000 in
set_option maxHeartbeats 2000000 in
theorem overConfig_any (w0 : World) (c1 c2 c3 : Nat) (a1 a2 a3 : Option Addr) (v n l : List Int) (w : World) (h : Own3 w0.heap.size a1 a2 a3 c1 c2 c3 v n l w) (hk : Kept Nil w0 w) (h1 : v.length ≤ 4000000) (h2 : n.length ≤ 4000000) (h3 : l.length ≤ 4000000) :
    Calls Try.prog 30 #[.agg #[.slice a1 v.length c1, .slice a2 n.length c2, .slice a3 l.length c3]] w fun e w' => e = .returned (.tuple #[]) ∧ Kept Nil w0 w' := by
  obtain ⟨W, hW⟩ : ∃ W, W = w.alloc (.cells #[.slice a1 v.length c1, .slice a2 n.length c2, .slice a3 l.length c3] 24) := ⟨_, rfl⟩
  have HOW : Hid (Own3 w0.heap.size a1 a2 a3 c1 c2 c3 v n l W) := by rw [hW]; exact h.grown ((Kept.refl _ _).alloc _)
  have KW : Hid (Kept Nil w0 W) := by rw [hW]; exact hk.alloc _
  have HB : Hid (W.heap[w.heap.size]? = some (.cells #[.slice a1 v.length c1, .slice a2 n.length c2, .slice a3 l.length c3] 24 (0, 0))) := by rw [hW]; exact blk_new _ _
  have HNE : Hid ((Value.slice a1 v.length c1).ownBlock ≠ some w.heap.size ∧ (Value.slice a2 n.length c2).ownBlock ≠ some w.heap.size ∧ (Value.slice a3 l.length c3).ownBlock ≠ some w.heap.size) := ⟨fun e => by have := (World.ownsRow.lt h.o1 _ e).2; omega, fun e => by have := (World.ownsRow.lt h.o2 _ e).2; omega, fun e => by have := (World.ownsRow.lt h.o3 _ e).2; omega⟩
  have S1 := overInts_any _ c1 a1 v W HOW.out.o1 KW.out.size h1
  have q0 : W.cell? ⟨w.heap.size, 0, none⟩ = some (.slice a1 v.length c1) := blk_at HB.out 0 rfl
  clear h hk
  go_enter Try.func30, Try.ntmps30
  go_wp2_with fail
  rw [← hW]
  clear hW
  go_fit S1
  rintro e w1 ⟨rfl, g1⟩
  have B1 : Hid (w1.heap[w.heap.size]? = some (.cells #[.slice a1 v.length c1, .slice a2 n.length c2, .slice a3 l.length c3] 24 (0, 0))) := by show _ = _; rw [g1.block _ (lt_of_block HB.out) (fun e => HNE.out.1 e.symm)]; exact HB.out
  have O2 : Hid (OwnInts w0.heap.size w1 a2 c2 n) := HOW.out.o2.far g1 (fun g hg e => HOW.out.d12 g e.symm hg)
  have O3 : Hid (OwnInts w0.heap.size w1 a3 c3 l) := HOW.out.o3.far g1 (fun g hg e => HOW.out.d13 g e.symm hg)
  have K1 : Hid (Kept Nil w0 w1) := KW.out.grown g1 (own_row HOW.out.o1)
  have S2 := overInts_any _ c2 a2 n w1 O2.out K1.out.size h2
  have q1 : w1.cell? ⟨w.heap.size, 1, none⟩ = some (.slice a2 n.length c2) := blk_at B1.out 1 rfl
  clear g1 S1 q0
  go_wp2_with fail
  go_fit S2
  rintro e w2 ⟨rfl, g2⟩
  have B2 : Hid (w2.heap[w.heap.size]? = some (.cells #[.slice a1 v.length c1, .slice a2 n.length c2, .slice a3 l.length c3] 24 (0, 0))) := by show _ = _; rw [g2.block _ (lt_of_block B1.out) (fun e => HNE.out.2.1 e.symm)]; exact B1.out
  have O32 : Hid (OwnInts w0.heap.size w2 a3 c3 l) := O3.out.far g2 (fun g hg e => HOW.out.d23 g e.symm hg)
  have K2 : Hid (Kept Nil w0 w2) := K1.out.grown g2 (own_row O2.out)
  have S3 := overInts_any _ c3 a3 l w2 O32.out K2.out.size h3
  have q2 : w2.cell? ⟨w.heap.size, 2, none⟩ = some (.slice a3 l.length c3) := blk_at B2.out 2 rfl
  clear g2 S2 q1
  go_wp2_with fail
  go_fit S3
  rintro e w3 ⟨rfl, g3⟩
  have K3 : Hid (Kept Nil w0 w3) := K2.out.grown g3 (own_row O32.out)
  clear g3 S3
  go_wp2
  go_end0
  exact ⟨rfl, K3.out⟩

end Go.Proofs.Ytijklginabipgaa
