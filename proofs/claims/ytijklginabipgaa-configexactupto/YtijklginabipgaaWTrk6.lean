/-
  config.Members: all nodes, rising, none twice (Concat, Sort, Compact).
-/
import Derived.Test.YtijklginabipgaaWTrk5
import Derived.Test.YtijklginabipgaaWShelf
import Derived.Sort.OwnSortedInts
import Derived.Deep.DeepFit
namespace Go.Proofs.Ytijklginabipgaa
open Go.RowKit

def mem (v n l : List Int) : List Int := Lib.compact ((v ++ n ++ l).mergeSort fun x y => decide (x ≤ y))
theorem own_prefix {B g n k cap : Nat} {e : TypeId} {w : World} {xs : List Value} (h : w.ownsRow B e 1 (.slice (some ⟨g, 0, none⟩) n cap) n xs) (hk : k ≤ n) : w.ownsRow B e 1 (.slice (some ⟨g, 0, none⟩) k cap) k (xs.take k) := by
  rcases h.2 with ⟨h1, _⟩ | ⟨g', cap', cur, hv, hb, hh, h1, h2, h3, h4⟩
  · simp at h1
  · simp only [Value.slice.injEq, Option.some.injEq, Addr.mk.injEq, true_and, and_true] at hv
    obtain ⟨rfl, rfl⟩ := hv
    have hx := h.1
    refine ⟨by simp; omega, .inr ⟨g, cap, cur, rfl, hb, hh, by omega, h2, h3, ?_⟩⟩
    rw [← h4, List.take_take]
    congr 1
    omega
theorem own_block {B n cap : Nat} {e : TypeId} {w : World} {ao : Option Addr} {xs : List Value} (h : w.ownsRow B e 1 (.slice ao n cap) n xs) (hn : 0 < n) : ∃ g cur, ao = some ⟨g, 0, none⟩ ∧ B ≤ g ∧ w.heap[g]? = some (.cells cur e (0, 0)) ∧ n ≤ cap ∧ cap ≤ maxLen ∧ cur.size = cap * 1 ∧ cur.toList.take n = xs := by
  rcases h.2 with ⟨_, h0⟩ | ⟨g', cap', cur, hv, hb, hh, h1, h2, h3, h4⟩
  · omega
  · simp only [Value.slice.injEq] at hv
    obtain ⟨rfl, _, rfl⟩ := hv
    exact ⟨g', cur, rfl, hb, hh, h1, h2, h3, by rw [Nat.mul_one] at h4; exact h4⟩
theorem grow_none (w : World) : Go.Sort.grow w #[] = w := by simp [Go.Sort.grow]

set_option maxRecDepth 100000 in
set_option maxHeartbeats 2000000 in
theorem members_any (B c1 c2 c3 : Nat) (a1 a2 a3 : Option Addr) (v n l : List Int) (w : World) (h : CfRows B w a1 a2 a3 v n l) (h0 : 0 < v.length) (h1 : v.length ≤ 1000) (h2 : n.length ≤ 1000) (h3 : l.length ≤ 1000) :
    Calls Try.prog 17 #[.agg #[.slice a1 v.length c1, .slice a2 n.length c2, .slice a3 l.length c3]] w fun e w' => ∃ ao c, e = .returned (.slice ao (mem v n l).length c) ∧ OwnInts w.heap.size w' ao c (mem v n l) ∧ Kept Nil w w' := by
  have HC : Hid (((w.alloc (.cells #[.slice a1 v.length c1, .slice a2 n.length c2, .slice a3 l.length c3] 24)).alloc (.cells #[.slice a1 v.length c1, .slice a2 n.length c2, .slice a3 l.length c3] 22)).heap[w.heap.size + 1]? = some (.cells #[.slice a1 v.length c1, .slice a2 n.length c2, .slice a3 l.length c3] 22 (0, 0))) := by
    have := blk_new (w.alloc (.cells #[.slice a1 v.length c1, .slice a2 n.length c2, .slice a3 l.length c3] 24)) (.cells #[.slice a1 v.length c1, .slice a2 n.length c2, .slice a3 l.length c3] 22)
    rwa [show (w.alloc (.cells #[.slice a1 v.length c1, .slice a2 n.length c2, .slice a3 l.length c3] 24)).heap.size = w.heap.size + 1 by simp] at this
  have CC := concat_any B (w.heap.size + 1) c1 c2 c3 a1 a2 a3 v n l _ ((h.alloc _).alloc _) HC.out h0 h1 h2 h3
  have hlen1 : (v ++ n ++ l).length ≤ 3000 := by simp; omega
  have hlen0 : 0 < (v ++ n ++ l).length := by simp; omega
  have HM : Hid (mem v n l = Lib.compact ((v ++ n ++ l).mergeSort fun x y => decide (x ≤ y))) := rfl
  generalize v ++ n ++ l = zs at *
  clear h HC
  go_enter Try.func17, Try.ntmps17
  go_wp2_with fail
  go_fit CC
  rintro e w2 ⟨ao, cap, rfl, o2, k2⟩
  have K2 : Hid (Kept Nil w w2) := (((Kept.refl _ _).alloc _).alloc _).trans k2
  obtain ⟨g, cur, rfl, hbg, hh, hn1, hn2, hn3, hn4⟩ := own_block o2 (by omega)
  have hg : w.heap.size ≤ g := by simp at hbg; omega
  have SS := Try.slices_Sort_int g 0 cap zs w2 (Go.holds_of_blockI hh hn4) (lt_of_block hh) (by omega)
  have HMS : Hid ((zs.mergeSort fun x y => decide (x ≤ y)).length = zs.length) := List.length_mergeSort _
  generalize zs.mergeSort (fun x y => decide (x ≤ y)) = ts at *
  have HH : Hid (w2.heap[g]? = some (.cells cur 3 (0, 0))) := hh
  have HN : Hid (cap ≤ maxLen ∧ cur.size = cap * 1 ∧ zs.length ≤ cap) := ⟨hn2, hn3, hn1⟩
  clear o2 k2 CC hn2 hn3 hn4 hh
  go_wp2_with fail
  go_fit SS
  rintro e w3 ⟨rfl, m, os, hw3⟩
  have hms := HMS.out
  have hb3 : w3.heap[g]? = some (.cells (Go.Sort.putCells (Value.int .i64) 0 ts.toArray cur) 3 (0, 0)) := by rw [hw3]; exact Go.heap_sortedI _ HH.out
  have ht3 : (Go.Sort.putCells (Value.int .i64) 0 ts.toArray cur).toList.take ts.length = ts.map (Value.int .i64) := Go.take_putCellsI cur ts (by have := HN.out; omega)
  have hs3 : (Go.Sort.putCells (Value.int .i64) 0 ts.toArray cur).size = cap * 1 := by have := HN.out; simp [Go.Sort.putCells]; omega
  have K3 : Hid (Kept Nil w w3) := K2.out.grown (by rw [hw3]; exact Go.grownBy_sortedI _) (fun k hk => by simp at hk; omega)
  have CP := Try.slices_Compact_int g 0 cap ts w3 (Go.holds_of_blockI hb3 ht3) (by omega) (by omega)
  rw [hms] at CP
  have hcl := Lib.compact_length_le ts
  generalize Go.Sort.putCells (Value.int .i64) 0 ts.toArray cur = cur3 at *
  have HB3 : Hid (w3.heap[g]? = some (.cells cur3 3 (0, 0))) := hb3
  have HS3 : Hid (cur3.size = cap * 1) := hs3
  clear hw3 SS hb3 ht3 hs3
  have hcz : (Lib.compact ts).length ≤ zs.length := by omega
  clear hms hcl
  have HCL : Hid (Lib.compact ts = mem v n l) := HM.out.symm
  generalize Lib.compact ts = cs at *
  go_wp2_with fail
  go_fit CP
  rintro e w4 ⟨rfl, q, hw4⟩
  have hfull : (cs ++ List.replicate (zs.length - cs.length) (0 : Int)).length = zs.length := by simp; omega
  have own4 : w4.ownsRow w.heap.size 3 1 (.slice (some ⟨g, 0, none⟩) (cs ++ List.replicate (zs.length - cs.length) (0 : Int)).length cap) (cs ++ List.replicate (zs.length - cs.length) (0 : Int)).length ((cs ++ List.replicate (zs.length - cs.length) (0 : Int)).map (Value.int .i64)) := by
    rw [hw4, ← grow_none (Go.Sort.putRow _ _ _ _ _)]
    exact Go.ownsRow_sortedI rfl hg HB3.out (by rw [hfull]; omega) HN.out.1 HS3.out
  have O4 : Hid (OwnInts w.heap.size w4 (some ⟨g, 0, none⟩) cap cs) := by
    have := own_prefix own4 (k := cs.length) (by simp)
    show World.ownsRow _ _ _ _ _ _ _
    simpa using this
  have K4 : Hid (Kept Nil w w4) := K3.out.grown (row := some g) (by rw [hw4, ← grow_none (Go.Sort.putRow _ _ _ _ _)]; exact Go.grownBy_sortedI _) (fun k hk => by simp at hk; omega)
  clear own4 hw4 CP hfull
  go_wp2
  go_ret
  rw [← HCL.out]
  exact ⟨_, _, rfl, O4.out, K4.out⟩

end Go.Proofs.Ytijklginabipgaa
