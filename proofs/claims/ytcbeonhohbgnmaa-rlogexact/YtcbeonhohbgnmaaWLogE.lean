/-
  What is written over by its owner: no other block turns.
-/
import Derived.Test.YtcbeonhohbgnmaaWLogD
namespace Go.Proofs.Ytcbeonhohbgnmaa
open Go.RowKit

/-- The block of a row of one's own, alone. -/
def Mine (v : Value) : Nat → Obj → Prop := fun k _ => v.ownBlock = some k
theorem src_two {w : World} : Src Try.prog 4 78 (.slice (some ⟨w.heap.size, 0, none⟩) 2 2) 2 [.int .i64 (-7), .int .i64 0, .int .i64 0, .string (bs []), .int .i64 (-7), .int .i64 0, .int .i64 0, .string (bs [])] (w.alloc (.cells #[.int .i64 (-7), .int .i64 0, .int .i64 0, .string (bs []), .int .i64 (-7), .int .i64 0, .int .i64 0, .string (bs [])] 48)) := by
  refine Src.ofSlice _ Try.underlying78 _ 2 2 _ rfl ?_ ?_
  · intro j u hj
    match j, hj with
    | 0, hj | 1, hj | 2, hj | 3, hj | 4, hj | 5, hj | 6, hj | 7, hj =>
      simp at hj
      subst hj
      simp [Addr.add]
  · intro u hu
    simp at hu
    rcases hu with rfl | rfl | rfl | rfl | rfl | rfl | rfl | rfl <;> rfl
theorem blk_some {w : World} {g m : Nat} {cur : Array Value} {t : TypeId} (h : w.heap[g]? = some (.cells cur t (0, 0))) (hs : cur.size = m) (i : Nat) (hi : i < m) : ∃ v, w.cell? ⟨g, i, none⟩ = some v := by
  rw [blk_cell h i]
  exact ⟨cur[i], Array.getElem?_eq_getElem (by omega)⟩

theorem blk_set4 {w : World} {g m : Nat} {cur : Array Value} {t : TypeId} (h : w.heap[g]? = some (.cells cur t (0, 0))) (hs : cur.size = m) (i0 i1 i2 i3 : Nat) (u0 u1 u2 u3 : Value) : ∃ cur' : Array Value, cur'.size = m ∧ ((((w.setCell ⟨g, i0, none⟩ u0).setCell ⟨g, i1, none⟩ u1).setCell ⟨g, i2, none⟩ u2).setCell ⟨g, i3, none⟩ u3).heap[g]? = some (.cells cur' t (0, 0)) :=
  ⟨_, by simp [hs], blk_set (blk_set (blk_set (blk_set h i0 u0) i1 u1) i2 u2) i3 u3⟩
theorem mine4 {w wr : World} {g n c : Nat} (h : Kept (Mine (.slice (some ⟨g, 0, none⟩) n c)) w wr) (i0 i1 i2 i3 : Nat) (u0 u1 u2 u3 : Value) : Kept (Mine (.slice (some ⟨g, 0, none⟩) n c)) w ((((wr.setCell ⟨g, i0, none⟩ u0).setCell ⟨g, i1, none⟩ u1).setCell ⟨g, i2, none⟩ u2).setCell ⟨g, i3, none⟩ u3) :=
  (((h.setCell (p := ⟨g, i0, none⟩) (fun _ => rfl) u0).setCell (p := ⟨g, i1, none⟩) (fun _ => rfl) u1).setCell (p := ⟨g, i2, none⟩) (fun _ => rfl) u2).setCell (p := ⟨g, i3, none⟩) (fun _ => rfl) u3
theorem own_any {w : World} {B g n c : Nat} {cur : Array Value} (h1 : B ≤ g) (h2 : n ≤ c) (h3 : c ≤ maxLen) (h4 : w.heap[g]? = some (.cells cur 48 (0, 0))) (h5 : cur.size = c * 4) : ∃ xs, w.ownsRow B 48 4 (.slice (some ⟨g, 0, none⟩) n c) n xs :=
  ⟨cur.toList.take (n * 4), by rw [List.length_take, Array.length_toList, h5]; omega, .inr ⟨g, c, cur, rfl, h1, h4, h2, h3, h5, rfl⟩⟩

set_option maxRecDepth 100000 in
set_option maxHeartbeats 2000000 in
theorem overRow_any (B c n : Nat) (ao : Option Addr) (xs0 : List Value) (w : World) (h : w.ownsRow B 48 4 (.slice ao n c) n xs0) (hl : (n : Int) ≤ 2199023255552) (hB : B ≤ w.heap.size) :
    Calls Try.prog 85 #[.slice ao n c] w fun e w' => e = .returned (.tuple #[]) ∧ Kept (Mine (.slice ao n c)) w w' := by
  obtain ⟨i0, hii, hz0, hz1, hz2⟩ := info_parts Try.infoEn
  have HLL : Hid (n + 2 ≤ maxLen ∧ (n + 2) * 40 ≤ 140737488355328) := by constructor <;> (try unfold maxLen) <;> omega
  have HB : Hid (B ≤ w.heap.size) := hB
  go_enter Try.func85, Try.ntmps85
  go_wp2
  go_loopw [2] (fun i wr => ∃ k : Nat, k ≤ n ∧ i = .int .i64 k ∧ Hid (∃ xs, wr.ownsRow B 48 4 (.slice ao n c) n xs) ∧ Hid (Kept (Mine (.slice ao n c)) w wr)) (fun i _ => n - (intOf i).toNat)
  case atStart => exact ⟨0, Nat.zero_le _, rfl, ⟨_, h⟩, Kept.refl _ _⟩
  case round =>
    obtain ⟨k, hk, rfl, HO, HK⟩ := hrel
    clear h hB
    by_cases hlt : k < n
    · obtain ⟨xs, ho⟩ := HO.out
      rcases ho.2 with ⟨_, h0⟩ | ⟨g, cap, cur, hv, hgB, hh, hn, hcm, hcs, hxs⟩
      · omega
      · simp only [Value.slice.injEq] at hv
        obtain ⟨rfl, _, rfl⟩ := hv
        have hki : (k : Int) < n := by omega
        obtain ⟨v0, c0⟩ := blk_some hh hcs (k * 4) (by omega)
        obtain ⟨v1, c1⟩ := blk_some hh hcs (k * 4 + 1) (by omega)
        obtain ⟨v2, c2⟩ := blk_some hh hcs (k * 4 + 2) (by omega)
        obtain ⟨v3, c3⟩ := blk_some hh hcs (k * 4 + 3) (by omega)
        have f0 := blk_free hh (k * 4)
        have f1 := blk_free hh (k * 4 + 1)
        have f2 := blk_free hh (k * 4 + 2)
        have f3 := blk_free hh (k * 4 + 3)
        have haddr : (⟨g, 0, none⟩ : Addr).add (k * 4) = ⟨g, k * 4, none⟩ := addr_addE g (k * 4)
        have HH : Hid (B ≤ g ∧ n ≤ c ∧ c ≤ maxLen ∧ wr.heap[g]? = some (.cells cur 48 (0, 0)) ∧ cur.size = c * 4) := ⟨hgB, hn, hcm, hh, hcs⟩
        clear ho hh hcs hxs hn hcm hgB
        go_wp2
        go_roundw
        case rel =>
          obtain ⟨a1, a2, a3, a4, a5⟩ := HH.out
          obtain ⟨cur', hs', hb'⟩ := blk_set4 a4 a5 (k * 4) (k * 4 + 1) (k * 4 + 2) (k * 4 + 3) (.int .i64 (-7)) (.int .i64 0) (.int .i64 0) (.string ⟨#[]⟩)
          exact ⟨k + 1, by omega, by go_num, own_any a1 a2 a3 hb' hs', mine4 HK.out _ _ _ _ _ _ _ _⟩
        case measure => simp [intOf]; omega
    · obtain ⟨xs, ho⟩ := HO.out
      have HO' : Hid (wr.ownsRow B 48 4 (.slice ao n c) n xs) := ho
      have HSZ : Hid (B ≤ wr.heap.size) := Nat.le_trans HB.out HK.out.size
      clear ho
      go_wp2_with (at_builtin; go_must (refine wpList_append_src _ rfl _ _ 78 78 rfl B 48 i0 (.agg #[.int .i64 0, .int .i64 0, .int .i64 0, .string ⟨#[]⟩]) 4 40 Try.underlying78 hii hz0 hz1 hz2 rfl _ _ _ rfl (World.ownsRow.alloc HO'.out _) (.slice (some ⟨wr.heap.size, 0, none⟩) 2 2) 2 [.int .i64 (-7), .int .i64 0, .int .i64 0, .string (bs []), .int .i64 (-7), .int .i64 0, .int .i64 0, .string (bs [])] rfl src_two HLL.out.1 HLL.out.2 (le_alloc HSZ.out _) ?_); intro ao2 c2 w2 ho2 hg2; have HK2 : Hid (Kept (Mine (.slice ao n c)) w w2) := (HK.out.alloc _).trans ⟨hg2.os, hg2.tape, hg2.output, hg2.size, fun j o hj hx => (hg2.block j (lt_of_block hj) (fun e => hx e.symm)).trans hj⟩; clear ho2 hg2)
      go_end0
      exact ⟨rfl, HK2.out⟩

theorem overEntries_any {B c : Nat} {ao : Option Addr} {es : List En} {w : World} (h : OwnEs B w ao c es) (hl : (es.length : Int) ≤ 2199023255552) (hB : B ≤ w.heap.size) :
    Calls Try.prog 85 #[.slice ao es.length c] w fun e w' => e = .returned (.tuple #[]) ∧ Kept (Mine (.slice ao es.length c)) w w' := overRow_any B c es.length ao _ w h hl hB

end Go.Proofs.Ytcbeonhohbgnmaa
