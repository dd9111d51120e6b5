/-
  ConfigExact: slices.Grow at nil, slices.Concat, config.Members of lists up to 2^20, one of them not empty.
-/
import Derived.Test.YtijklginabipgaaWExact6
import Derived.Test.YtijklginabipgaaWTrk6
import Derived.Deep.DeepFit
namespace Go.Proofs.Ytijklginabipgaa
open Go.RowKit

set_option maxRecDepth 100000 in
set_option maxHeartbeats 2000000 in
theorem growNilX_any (n : Nat) (w : World) (h0 : 0 < n) (hs : n ≤ 4000000) :
    Calls Try.prog 135 #[.slice none 0 0, .int .i64 n] w fun e w' => ∃ ao G, e = .returned (.slice ao 0 G) ∧ w'.ownsRow w.heap.size 3 1 (.slice ao 0 G) 0 [] ∧ Kept Nil w w' := by
  obtain ⟨i0, hi, hz0, hz1, hz2⟩ := info_parts Try.infoInt
  have hrz := fun ty => Lib.run_append_nil_zeros (P := Try.prog) w 22 3 ty 3 i0 (.int .i64 0) .i64 .i64 Try.underlying22 Try.underlying3 hi hz0 n h0 (by omega) (by omega) (by rw [hz2]; omega)
  have hG := grownCap_ge w n 0 3
  have hG2 := grownCap_le_maxLen w n 0 3 (by unfold maxLen; omega)
  generalize grownCap w n 0 3 = G at *
  have HG : Hid (n ≤ G ∧ G ≤ maxLen) := ⟨hG, hG2⟩
  have hG63 : G ≤ 9223372036854775807 := by unfold maxLen at hG2; omega
  have h1 : (0 : Int) < n := by omega
  have h2 : ¬ ((n : Int) < 0) := by omega
  clear hz1 hz2 hi hz0 hG2
  go_enter Try.func135, Try.ntmps135
  go_wp2_with (at_builtin; refine Lib.wpList_append_run _ rfl _ _ _ _ rfl _ _ rfl rfl _ _ (hrz _) ?_)
  all_goals
    go_ret
    refine ⟨_, _, rfl, ?_, ?_⟩
    · have hsz : (Builtin.zeroCells #[Value.int .i64 0] n ++ Builtin.zeroCells #[Value.int .i64 0] (G - n)).size = G * 1 := by
        have := HG.out.1
        simp [Builtin.zeroCells]
        omega
      have hb : ((w.alloc (.cells (Builtin.zeroCells #[Value.int .i64 0] n ++ Builtin.zeroCells #[Value.int .i64 0] (G - n)) 3)).drew).heap[w.heap.size]? = some (.cells (Builtin.zeroCells #[Value.int .i64 0] n ++ Builtin.zeroCells #[Value.int .i64 0] (G - n)) 3 (0, 0)) := blk_new _ _
      exact ⟨rfl, .inr ⟨w.heap.size, G, _, rfl, Nat.le_refl _, hb, Nat.zero_le _, HG.out.2, hsz, by simp⟩⟩
    · exact ((Kept.refl _ _).alloc _).drew

set_option maxRecDepth 100000 in
set_option maxHeartbeats 2000000 in
theorem concatX_any (B b c1 c2 c3 : Nat) (a1 a2 a3 : Option Addr) (v n l : List Int) (w : World) (h : CfRows B w a1 a2 a3 v n l) (hb : w.heap[b]? = some (.cells #[.slice a1 v.length c1, .slice a2 n.length c2, .slice a3 l.length c3] 22 (0, 0))) (h0 : 0 < v.length + n.length + l.length) (h1 : v.length ≤ 1048576) (h2 : n.length ≤ 1048576) (h3 : l.length ≤ 1048576) :
    Calls Try.prog 69 #[.slice (some ⟨b, 0, none⟩) 3 3] w fun e w' => ∃ ao c, e = .returned (.slice ao (v ++ n ++ l).length c) ∧ OwnInts w.heap.size w' ao c (v ++ n ++ l) ∧ Kept Nil w w' := by
  obtain ⟨i0, hi, hz0, hz1, hz2⟩ := info_parts Try.infoInt
  have HR : Hid (CfRows B w a1 a2 a3 v n l) := h
  have HC : Hid (w.heap[b]? = some (.cells #[.slice a1 v.length c1, .slice a2 n.length c2, .slice a3 l.length c3] 22 (0, 0))) := hb
  have q0 := blk_at hb 0 rfl
  have q1 := blk_at hb 1 rfl
  have q2 := blk_at hb 2 rfl
  clear h hb
  go_enter Try.func69, Try.ntmps69
  go_wp2
  go_loop [3, 11] (fun u i => ∃ k y : Nat, k ≤ 3 ∧ y ≤ 3145728 ∧ i = .int .i64 k ∧ u = .int .i64 y ∧ Hid (y = (cat3 v n l k).length)) (fun _ i => 3 - (intOf i).toNat)
  case atStart => exact ⟨0, 0, by omega, by omega, rfl, rfl, rfl⟩
  case round =>
    obtain ⟨k, y, hk, hy, rfl, rfl, HY⟩ := hrel
    rcases (show k = 0 ∨ k = 1 ∨ k = 2 ∨ k = 3 by omega) with rfl | rfl | rfl | rfl
    · have HST : Hid (y + v.length = (cat3 v n l 1).length) := by show _ = _; rw [HY.out]; simp [cat3]; try omega
      go_wp2
      go_round
      case rel => exact ⟨1, y + v.length, by omega, (by rw [HST.out]; simp only [cat3]; omega), by go_num, by go_num, HST.out⟩
      case measure => simp [intOf]
    · have HST : Hid (y + n.length = (cat3 v n l 2).length) := by show _ = _; rw [HY.out]; simp [cat3]; try omega
      go_wp2
      go_round
      case rel => exact ⟨2, y + n.length, by omega, (by rw [HST.out]; simp only [cat3, List.length_append]; omega), by go_num, by go_num, HST.out⟩
      case measure => simp [intOf]
    · have HST : Hid (y + l.length = (cat3 v n l 3).length) := by show _ = _; rw [HY.out]; simp [cat3]; try omega
      go_wp2
      go_round
      case rel => exact ⟨3, y + l.length, by omega, (by rw [HST.out]; simp only [cat3, List.length_append]; omega), by go_num, by go_num, HST.out⟩
      case measure => simp [intOf]
    · have hpos : 0 < y := by rw [HY.out]; simp only [cat3, List.length_append]; omega
      have G := growNilX_any y w hpos (by omega)
      go_wp2_with fail
      refine G.mono ?_
      rintro e w1 ⟨ao1, g1, rfl, o1, k1⟩
      have O1 : Hid (OwnInts w.heap.size w1 ao1 g1 []) := o1
      have K1 : Hid (Kept Nil w w1) := k1
      clear o1 k1 G q0 q1 q2
      go_wp2
      go_loopw [6, 27] (fun u i wr => ∃ k : Nat, ∃ ao c, ∃ xs : List Int, k ≤ 3 ∧ i = .int .i64 k ∧ u = .slice ao xs.length c ∧ Hid (xs = cat3 v n l k) ∧ Hid (OwnInts w.heap.size wr ao c xs) ∧ Hid (Kept Nil w wr)) (fun _ i _ => 3 - (intOf i).toNat)
      case atStart => exact ⟨0, ao1, g1, [], by omega, rfl, rfl, rfl, O1.out, K1.out⟩
      case round =>
        obtain ⟨k, ao, c, xs, hk, rfl, rfl, HX, HO, HK⟩ := hrel
        clear O1 K1
        rcases (show k = 0 ∨ k = 1 ∨ k = 2 ∨ k = 3 by omega) with rfl | rfl | rfl | rfl
        · have HST : Hid (xs ++ v = cat3 v n l 1) := by show _ = _; rw [HX.out]; simp [cat3]
          have HLL : Hid (xs.length + v.length ≤ maxLen ∧ (xs.length + v.length) * 8 ≤ 140737488355328) := by
            have hle : xs.length + v.length ≤ 3145728 := by rw [HX.out]; simp only [cat3, List.length_nil]; omega
            constructor
            · unfold maxLen; omega
            · omega
          have HSRC : Hid (Src Try.prog 1 22 (.slice a1 v.length c1) v.length (v.map (Value.int .i64)) wr) := ((HR.out.nil HK.out).r1).src
          have ho : wr.ownsRow w.heap.size 3 1 (.slice ao xs.length c) xs.length (xs.map (Value.int .i64)) := HO.out
          have q := blk_at (HK.out.block _ _ HC.out (fun x => x.elim)) 0 rfl
          go_wp2_with (first | (at_builtin; go_must (refine wpList_append_src _ rfl _ _ 22 22 rfl w.heap.size 3 i0 (.int .i64 0) 1 8 Try.underlying22 hi hz0 hz1 hz2 rfl _ _ _ rfl ho (.slice a1 v.length c1) v.length (v.map (Value.int .i64)) rfl HSRC.out HLL.out.1 HLL.out.2 HK.out.size ?_); intro ao' c' w2 ho' hg'; have HK2 : Hid (Kept Nil w w2) := HK.out.grown hg' (own_row ho); clear hg'))
          go_roundw
          case rel => exact ⟨1, ao', c', xs ++ v, by omega, by go_num, by rw [List.length_append], HST.out, (by show World.ownsRow _ _ _ _ _ _ _; rw [List.length_append, List.map_append]; exact ho'), HK2.out⟩
          case measure => simp [intOf]
        · have HST : Hid (xs ++ n = cat3 v n l 2) := by show _ = _; rw [HX.out]; simp [cat3]
          have HLL : Hid (xs.length + n.length ≤ maxLen ∧ (xs.length + n.length) * 8 ≤ 140737488355328) := by
            have hle : xs.length + n.length ≤ 3145728 := by rw [HX.out]; simp only [cat3]; omega
            constructor
            · unfold maxLen; omega
            · omega
          have HSRC : Hid (Src Try.prog 1 22 (.slice a2 n.length c2) n.length (n.map (Value.int .i64)) wr) := ((HR.out.nil HK.out).r2).src
          have ho : wr.ownsRow w.heap.size 3 1 (.slice ao xs.length c) xs.length (xs.map (Value.int .i64)) := HO.out
          have q := blk_at (HK.out.block _ _ HC.out (fun x => x.elim)) 1 rfl
          go_wp2_with (first | (at_builtin; go_must (refine wpList_append_src _ rfl _ _ 22 22 rfl w.heap.size 3 i0 (.int .i64 0) 1 8 Try.underlying22 hi hz0 hz1 hz2 rfl _ _ _ rfl ho (.slice a2 n.length c2) n.length (n.map (Value.int .i64)) rfl HSRC.out HLL.out.1 HLL.out.2 HK.out.size ?_); intro ao' c' w2 ho' hg'; have HK2 : Hid (Kept Nil w w2) := HK.out.grown hg' (own_row ho); clear hg'))
          go_roundw
          case rel => exact ⟨2, ao', c', xs ++ n, by omega, by go_num, by rw [List.length_append], HST.out, (by show World.ownsRow _ _ _ _ _ _ _; rw [List.length_append, List.map_append]; exact ho'), HK2.out⟩
          case measure => simp [intOf]
        · have HST : Hid (xs ++ l = cat3 v n l 3) := by show _ = _; rw [HX.out]; simp [cat3]
          have HLL : Hid (xs.length + l.length ≤ maxLen ∧ (xs.length + l.length) * 8 ≤ 140737488355328) := by
            have hle : xs.length + l.length ≤ 3145728 := by rw [HX.out]; simp only [cat3, List.length_append]; omega
            constructor
            · unfold maxLen; omega
            · omega
          have HSRC : Hid (Src Try.prog 1 22 (.slice a3 l.length c3) l.length (l.map (Value.int .i64)) wr) := ((HR.out.nil HK.out).r3).src
          have ho : wr.ownsRow w.heap.size 3 1 (.slice ao xs.length c) xs.length (xs.map (Value.int .i64)) := HO.out
          have q := blk_at (HK.out.block _ _ HC.out (fun x => x.elim)) 2 rfl
          go_wp2_with (first | (at_builtin; go_must (refine wpList_append_src _ rfl _ _ 22 22 rfl w.heap.size 3 i0 (.int .i64 0) 1 8 Try.underlying22 hi hz0 hz1 hz2 rfl _ _ _ rfl ho (.slice a3 l.length c3) l.length (l.map (Value.int .i64)) rfl HSRC.out HLL.out.1 HLL.out.2 HK.out.size ?_); intro ao' c' w2 ho' hg'; have HK2 : Hid (Kept Nil w w2) := HK.out.grown hg' (own_row ho); clear hg'))
          go_roundw
          case rel => exact ⟨3, ao', c', xs ++ l, by omega, by go_num, by rw [List.length_append], HST.out, (by show World.ownsRow _ _ _ _ _ _ _; rw [List.length_append, List.map_append]; exact ho'), HK2.out⟩
          case measure => simp [intOf]
        · go_wp2
          go_ret
          have hx : v ++ n ++ l = xs := HX.out.symm
          rw [hx]
          exact ⟨ao, c, rfl, HO.out, HK.out⟩

set_option maxRecDepth 100000 in
set_option maxHeartbeats 2000000 in
theorem membersX_any (B c1 c2 c3 : Nat) (a1 a2 a3 : Option Addr) (v n l : List Int) (w : World) (h : CfRows B w a1 a2 a3 v n l) (h0 : 0 < v.length + n.length + l.length) (h1 : v.length ≤ 1048576) (h2 : n.length ≤ 1048576) (h3 : l.length ≤ 1048576) :
    Calls Try.prog 17 #[.agg #[.slice a1 v.length c1, .slice a2 n.length c2, .slice a3 l.length c3]] w fun e w' => ∃ ao c, e = .returned (.slice ao (mem v n l).length c) ∧ OwnInts w.heap.size w' ao c (mem v n l) ∧ Kept Nil w w' := by
  have HC : Hid (((w.alloc (.cells #[.slice a1 v.length c1, .slice a2 n.length c2, .slice a3 l.length c3] 24)).alloc (.cells #[.slice a1 v.length c1, .slice a2 n.length c2, .slice a3 l.length c3] 22)).heap[w.heap.size + 1]? = some (.cells #[.slice a1 v.length c1, .slice a2 n.length c2, .slice a3 l.length c3] 22 (0, 0))) := by
    have := blk_new (w.alloc (.cells #[.slice a1 v.length c1, .slice a2 n.length c2, .slice a3 l.length c3] 24)) (.cells #[.slice a1 v.length c1, .slice a2 n.length c2, .slice a3 l.length c3] 22)
    rwa [show (w.alloc (.cells #[.slice a1 v.length c1, .slice a2 n.length c2, .slice a3 l.length c3] 24)).heap.size = w.heap.size + 1 by simp] at this
  have CC := concatX_any B (w.heap.size + 1) c1 c2 c3 a1 a2 a3 v n l _ ((h.alloc _).alloc _) HC.out h0 h1 h2 h3
  have hlen1 : (v ++ n ++ l).length ≤ 3145728 := by simp only [List.length_append]; omega
  have hlen0 : 0 < (v ++ n ++ l).length := by simp only [List.length_append]; omega
  have HM : Hid (mem v n l = Lib.compact ((v ++ n ++ l).mergeSort fun x y => decide (x ≤ y))) := rfl
  generalize v ++ n ++ l = zs at *
  clear h HC
  go_enter Try.func17, Try.ntmps17
  go_wp2_with fail
  go_fit CC
  rintro e w2 ⟨ao, cap, rfl, o2, k2⟩
  have K2 : Hid (Kept Nil w w2) := (((Kept.refl _ _).alloc _).alloc _).trans k2
  obtain ⟨g, cur, rfl, hbg, hh, hn1, hn2, hn3, hn4⟩ := own_block o2 (by omega)
  have hg : w.heap.size ≤ g := by simp at hbg; omega
  have SS := Try.slices_Sort_int g 0 cap zs w2 (Go.holds_of_blockI hh hn4) (lt_of_block hh) (by omega)
  have HMS : Hid ((zs.mergeSort fun x y => decide (x ≤ y)).length = zs.length) := List.length_mergeSort _
  generalize zs.mergeSort (fun x y => decide (x ≤ y)) = ts at *
  have HH : Hid (w2.heap[g]? = some (.cells cur 3 (0, 0))) := hh
  have HN : Hid (cap ≤ maxLen ∧ cur.size = cap * 1 ∧ zs.length ≤ cap) := ⟨hn2, hn3, hn1⟩
  clear o2 k2 CC hn2 hn3 hn4 hh
  go_wp2_with fail
  go_fit SS
  rintro e w3 ⟨rfl, m, os, hw3⟩
  have hms := HMS.out
  have hb3 : w3.heap[g]? = some (.cells (Go.Sort.putCells (Value.int .i64) 0 ts.toArray cur) 3 (0, 0)) := by rw [hw3]; exact Go.heap_sortedI _ HH.out
  have ht3 : (Go.Sort.putCells (Value.int .i64) 0 ts.toArray cur).toList.take ts.length = ts.map (Value.int .i64) := Go.take_putCellsI cur ts (by have := HN.out; omega)
  have hs3 : (Go.Sort.putCells (Value.int .i64) 0 ts.toArray cur).size = cap * 1 := by have := HN.out; simp [Go.Sort.putCells]; omega
  have K3 : Hid (Kept Nil w w3) := K2.out.grown (by rw [hw3]; exact Go.grownBy_sortedI _) (fun k hk => by simp at hk; omega)
  have CP := Try.slices_Compact_int g 0 cap ts w3 (Go.holds_of_blockI hb3 ht3) (by omega) (by omega)
  rw [hms] at CP
  have hcl := Lib.compact_length_le ts
  generalize Go.Sort.putCells (Value.int .i64) 0 ts.toArray cur = cur3 at *
  have HB3 : Hid (w3.heap[g]? = some (.cells cur3 3 (0, 0))) := hb3
  have HS3 : Hid (cur3.size = cap * 1) := hs3
  clear hw3 SS hb3 ht3 hs3
  have hcz : (Lib.compact ts).length ≤ zs.length := by omega
  clear hms hcl
  have HCL : Hid (Lib.compact ts = mem v n l) := HM.out.symm
  generalize Lib.compact ts = cs at *
  go_wp2_with fail
  go_fit CP
  rintro e w4 ⟨rfl, q, hw4⟩
  have hfull : (cs ++ List.replicate (zs.length - cs.length) (0 : Int)).length = zs.length := by simp; omega
  have own4 : w4.ownsRow w.heap.size 3 1 (.slice (some ⟨g, 0, none⟩) (cs ++ List.replicate (zs.length - cs.length) (0 : Int)).length cap) (cs ++ List.replicate (zs.length - cs.length) (0 : Int)).length ((cs ++ List.replicate (zs.length - cs.length) (0 : Int)).map (Value.int .i64)) := by
    rw [hw4, ← grow_none (Go.Sort.putRow _ _ _ _ _)]
    exact Go.ownsRow_sortedI rfl hg HB3.out (by rw [hfull]; omega) HN.out.1 HS3.out
  have O4 : Hid (OwnInts w.heap.size w4 (some ⟨g, 0, none⟩) cap cs) := by
    have := own_prefix own4 (k := cs.length) (by simp)
    show World.ownsRow _ _ _ _ _ _ _
    simpa using this
  have K4 : Hid (Kept Nil w w4) := K3.out.grown (row := some g) (by rw [hw4, ← grow_none (Go.Sort.putRow _ _ _ _ _)]; exact Go.grownBy_sortedI _) (fun k hk => by simp at hk; omega)
  clear own4 hw4 CP hfull
  go_wp2
  go_ret
  rw [← HCL.out]
  exact ⟨_, _, rfl, O4.out, K4.out⟩

end Go.Proofs.Ytijklginabipgaa
