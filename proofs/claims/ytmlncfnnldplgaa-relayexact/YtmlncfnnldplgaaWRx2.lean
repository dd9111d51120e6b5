/-
  Relays: the law's overPackets.
-/
import Derived.Test.YtmlncfnnldplgaaWRx1
namespace Go.Proofs.Ytmlncfnnldplgaa
open Go.RowKit

/-- A row of packets, whatever its cells hold. -/
def AnyPk (B : Nat) (w : World) (ao : Option Addr) (c n : Nat) : Prop := ∃ xs, w.ownsRow B 34 5 (.slice ao n c) n xs
theorem OwnPk.any {B c : Nat} {w : World} {ao : Option Addr} {l : List Pk} (h : OwnPk B w ao c l) : AnyPk B w ao c l.length := ⟨_, h⟩
theorem AnyPk.block {B c n : Nat} {w : World} {ao : Option Addr} (h : AnyPk B w ao c n) (h0 : 0 < n) : ∃ g cs, ao = some ⟨g, 0, none⟩ ∧ w.heap[g]? = some (.cells cs 34 (0, 0)) ∧ n * 5 ≤ cs.size := by
  obtain ⟨xs, _, h | ⟨g, cap, cur, hv, _, hb, h1, _, h3, _⟩⟩ := h
  · omega
  · cases hv
    exact ⟨g, cur, rfl, hb, by rw [h3]; exact Nat.mul_le_mul_right _ h1⟩
theorem AnyPk.set {B c n g : Nat} {w : World} (h : AnyPk B w (some ⟨g, 0, .none⟩) c n) (i : Nat) (v : Value) : AnyPk B (w.setCell ⟨g, i, .none⟩ v) (some ⟨g, 0, .none⟩) c n := by
  obtain ⟨xs, _, h | ⟨g', cap, cur, hv, hB, hb, h1, h2, h3, _⟩⟩ := h
  · exact absurd h.1 (by simp)
  · cases hv
    have hs : (cur.setIfInBounds i v).size = c * 5 := by simpa using h3
    refine ⟨(cur.setIfInBounds i v).toList.take (n * 5), ?_, .inr ⟨g, c, _, rfl, hB, blk_set hb _ _, h1, h2, hs, rfl⟩⟩
    rw [List.length_take, Array.length_toList, hs]
    exact Nat.min_eq_left (Nat.mul_le_mul_right _ h1)
set_option maxRecDepth 100000 in
set_option maxHeartbeats 4000000 in
theorem overPk_any (B c n : Nat) (ao : Option Addr) (w : World) (h : AnyPk B w ao c n) (hB : B ≤ w.heap.size) (hl : n ≤ 4000000) :
    Calls Try.prog 14 #[.slice ao n c] w fun e w' => e = .returned (.tuple #[]) ∧ Kept (fun q _ => (Value.slice ao n c).ownBlock = some q) w w' := by
  obtain ⟨i0, hi, hz0, hz1, hz2⟩ := info_parts Try.infoOwnPk
  have HO0 : Hid (AnyPk B w ao c n) := h
  clear h
  go_enter Try.func14, Try.ntmps14
  go_wp2
  go_loopw [2] (fun i wr => ∃ k : Nat, k ≤ n ∧ i = .int .i64 k ∧ Hid (AnyPk B wr ao c n) ∧ Hid (Kept (fun q _ => (Value.slice ao n c).ownBlock = some q) w wr)) (fun i _ => n - (intOf i).toNat)
  case atStart => exact ⟨0, Nat.zero_le _, rfl, HO0.out, Kept.refl _ _⟩
  case round =>
    obtain ⟨k, hk, rfl, HO, HG⟩ := hrel
    clear HO0
    by_cases hlt : k < n
    · obtain ⟨g, cs, rfl, hb, hs⟩ := HO.out.block (by omega)
      have hki : (k : Int) < n := by omega
      have hc : ∀ r, r < 5 → ∃ u, wr.cell? ⟨g, k * 5 + r, none⟩ = some u := fun r hr => ⟨_, by rw [blk_cell hb, Array.getElem?_eq_getElem (by omega)]⟩
      obtain ⟨u0, c0⟩ := hc 0 (by omega)
      obtain ⟨u1, c1⟩ := hc 1 (by omega)
      obtain ⟨u2, c2⟩ := hc 2 (by omega)
      obtain ⟨u3, c3⟩ := hc 3 (by omega)
      obtain ⟨u4, c4⟩ := hc 4 (by omega)
      rw [Nat.add_zero] at c0
      have f0 := blk_free hb (k * 5)
      have f1 := blk_free hb (k * 5 + 1)
      have f2 := blk_free hb (k * 5 + 2)
      have f3 := blk_free hb (k * 5 + 3)
      have f4 := blk_free hb (k * 5 + 4)
      clear hc hb hs
      go_wp2
      go_roundw
      case rel => exact ⟨k + 1, by omega, by go_num, (((((HO.out.set _ _).set _ _).set _ _).set _ _).set _ _), (((((HG.out.setT (fun _ _ => rfl) _ _).setT (fun _ _ => rfl) _ _).setT (fun _ _ => rfl) _ _).setT (fun _ _ => rfl) _ _).setT (fun _ _ => rfl) _ _)⟩
      case measure => simp [intOf]; omega
    · obtain ⟨xs, ho⟩ := HO.out
      have HLL : Hid (n + 1 ≤ maxLen ∧ (n + 1) * 48 ≤ 140737488355328) := by constructor; unfold maxLen; omega; omega
      have HSZ : Hid (B ≤ wr.heap.size) := Nat.le_trans hB HG.out.size
      have SR := oneOwnPk_src wr ⟨0, 0, -7, false, []⟩
      obtain rfl : k = n := by omega
      go_wp2_with (at_builtin; go_must (refine wpList_append_src _ rfl _ _ 28 28 rfl B 34 i0 (.agg #[.int .i64 0, .int .i64 0, .int .i64 0, .bool false, .string ⟨#[]⟩]) 5 48 Try.underlying28 hi hz0 hz1 hz2 rfl (.slice ao k c) k xs rfl (World.ownsRow.alloc ho _) (.slice (some ⟨wr.heap.size, 0, none⟩) 1 1) 1 [.int .i64 0, .int .i64 0, .int .i64 (-7), .bool false, .string (bs [])] rfl SR HLL.out.1 HLL.out.2 (le_alloc HSZ.out _) ?_); intro a6 c6 w10 ho6 hg6; have K10 : Hid (Kept (fun q _ => (Value.slice ao k c).ownBlock = some q) w w10) := (HG.out.alloc _).grownT hg6 (fun _ hk _ _ => hk); clear ho6 hg6)
      go_end0
      exact ⟨rfl, K10.out⟩
end Go.Proofs.Ytmlncfnnldplgaa
