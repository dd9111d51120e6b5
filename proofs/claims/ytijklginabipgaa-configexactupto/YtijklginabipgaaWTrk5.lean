/-
  slices.Concat of three rows of ints.
-/
import Derived.Test.YtijklginabipgaaWTrk4
namespace Go.Proofs.Ytijklginabipgaa
open Go.RowKit

def cat3 (v n l : List Int) : Nat → List Int
  | 0 => []
  | 1 => v
  | 2 => v ++ n
  | _ => v ++ n ++ l

set_option maxRecDepth 100000 in
set_option maxHeartbeats 2000000 in
theorem concat_any (B b c1 c2 c3 : Nat) (a1 a2 a3 : Option Addr) (v n l : List Int) (w : World) (h : CfRows B w a1 a2 a3 v n l) (hb : w.heap[b]? = some (.cells #[.slice a1 v.length c1, .slice a2 n.length c2, .slice a3 l.length c3] 22 (0, 0))) (h0 : 0 < v.length) (h1 : v.length ≤ 1000) (h2 : n.length ≤ 1000) (h3 : l.length ≤ 1000) :
    Calls Try.prog 69 #[.slice (some ⟨b, 0, none⟩) 3 3] w fun e w' => ∃ ao c, e = .returned (.slice ao (v ++ n ++ l).length c) ∧ OwnInts w.heap.size w' ao c (v ++ n ++ l) ∧ Kept Nil w w' := by
  obtain ⟨i0, hi, hz0, hz1, hz2⟩ := info_parts Try.infoInt
  have HR : Hid (CfRows B w a1 a2 a3 v n l) := h
  have HC : Hid (w.heap[b]? = some (.cells #[.slice a1 v.length c1, .slice a2 n.length c2, .slice a3 l.length c3] 22 (0, 0))) := hb
  have q0 := blk_at hb 0 rfl
  have q1 := blk_at hb 1 rfl
  have q2 := blk_at hb 2 rfl
  clear h hb
  go_enter Try.func69, Try.ntmps69
  go_wp2
  go_loop [3, 11] (fun u i => ∃ k y : Nat, k ≤ 3 ∧ y ≤ k * 1000 ∧ i = .int .i64 k ∧ u = .int .i64 y ∧ Hid (y = (cat3 v n l k).length)) (fun _ i => 3 - (intOf i).toNat)
  case atStart => exact ⟨0, 0, by omega, by omega, rfl, rfl, rfl⟩
  case round =>
    obtain ⟨k, y, hk, hy, rfl, rfl, HY⟩ := hrel
    rcases (show k = 0 ∨ k = 1 ∨ k = 2 ∨ k = 3 by omega) with rfl | rfl | rfl | rfl
    · have HST : Hid (y + v.length = (cat3 v n l 1).length) := by show _ = _; rw [HY.out]; simp [cat3]; try omega
      go_wp2
      go_round
      case rel => exact ⟨1, y + v.length, by omega, by omega, by go_num, by go_num, HST.out⟩
      case measure => simp [intOf]
    · have HST : Hid (y + n.length = (cat3 v n l 2).length) := by show _ = _; rw [HY.out]; simp [cat3]; try omega
      go_wp2
      go_round
      case rel => exact ⟨2, y + n.length, by omega, by omega, by go_num, by go_num, HST.out⟩
      case measure => simp [intOf]
    · have HST : Hid (y + l.length = (cat3 v n l 3).length) := by show _ = _; rw [HY.out]; simp [cat3]; try omega
      go_wp2
      go_round
      case rel => exact ⟨3, y + l.length, by omega, by omega, by go_num, by go_num, HST.out⟩
      case measure => simp [intOf]
    · have hpos : 0 < y := by rw [HY.out]; simp [cat3]; omega
      have G := growNil_any y w hpos (by omega)
      go_wp2_with fail
      refine G.mono ?_
      rintro e w1 ⟨ao1, g1, rfl, o1, k1⟩
      have O1 : Hid (OwnInts w.heap.size w1 ao1 g1 []) := o1
      have K1 : Hid (Kept Nil w w1) := k1
      clear o1 k1 G q0 q1 q2
      go_wp2
      go_loopw [6, 27] (fun u i wr => ∃ k : Nat, ∃ ao c, ∃ xs : List Int, k ≤ 3 ∧ i = .int .i64 k ∧ u = .slice ao xs.length c ∧ Hid (xs = cat3 v n l k) ∧ Hid (OwnInts w.heap.size wr ao c xs) ∧ Hid (Kept Nil w wr)) (fun _ i _ => 3 - (intOf i).toNat)
      case atStart => exact ⟨0, ao1, g1, [], by omega, rfl, rfl, rfl, O1.out, K1.out⟩
      case round =>
        obtain ⟨k, ao, c, xs, hk, rfl, rfl, HX, HO, HK⟩ := hrel
        clear O1 K1
        rcases (show k = 0 ∨ k = 1 ∨ k = 2 ∨ k = 3 by omega) with rfl | rfl | rfl | rfl
        · have HST : Hid (xs ++ v = cat3 v n l 1) := by show _ = _; rw [HX.out]; simp [cat3]
          have HLL : Hid (xs.length + v.length ≤ maxLen ∧ (xs.length + v.length) * 8 ≤ 140737488355328) := by
            have hle : xs.length + v.length ≤ 3000 := by rw [HX.out]; simp [cat3]; omega
            constructor
            · unfold maxLen; omega
            · omega
          have HSRC : Hid (Src Try.prog 1 22 (.slice a1 v.length c1) v.length (v.map (Value.int .i64)) wr) := ((HR.out.nil HK.out).r1).src
          have ho : wr.ownsRow w.heap.size 3 1 (.slice ao xs.length c) xs.length (xs.map (Value.int .i64)) := HO.out
          have q := blk_at (HK.out.block _ _ HC.out (fun x => x.elim)) 0 rfl
          go_wp2_with (first | (at_builtin; go_must (refine wpList_append_src _ rfl _ _ 22 22 rfl w.heap.size 3 i0 (.int .i64 0) 1 8 Try.underlying22 hi hz0 hz1 hz2 rfl _ _ _ rfl ho (.slice a1 v.length c1) v.length (v.map (Value.int .i64)) rfl HSRC.out HLL.out.1 HLL.out.2 HK.out.size ?_); intro ao' c' w2 ho' hg'; have HK2 : Hid (Kept Nil w w2) := HK.out.grown hg' (own_row ho); clear hg'))
          go_roundw
          case rel => exact ⟨1, ao', c', xs ++ v, by omega, by go_num, by rw [List.length_append], HST.out, (by show World.ownsRow _ _ _ _ _ _ _; rw [List.length_append, List.map_append]; exact ho'), HK2.out⟩
          case measure => simp [intOf]
        · have HST : Hid (xs ++ n = cat3 v n l 2) := by show _ = _; rw [HX.out]; simp [cat3]
          have HLL : Hid (xs.length + n.length ≤ maxLen ∧ (xs.length + n.length) * 8 ≤ 140737488355328) := by
            have hle : xs.length + n.length ≤ 3000 := by rw [HX.out]; simp [cat3]; omega
            constructor
            · unfold maxLen; omega
            · omega
          have HSRC : Hid (Src Try.prog 1 22 (.slice a2 n.length c2) n.length (n.map (Value.int .i64)) wr) := ((HR.out.nil HK.out).r2).src
          have ho : wr.ownsRow w.heap.size 3 1 (.slice ao xs.length c) xs.length (xs.map (Value.int .i64)) := HO.out
          have q := blk_at (HK.out.block _ _ HC.out (fun x => x.elim)) 1 rfl
          go_wp2_with (first | (at_builtin; go_must (refine wpList_append_src _ rfl _ _ 22 22 rfl w.heap.size 3 i0 (.int .i64 0) 1 8 Try.underlying22 hi hz0 hz1 hz2 rfl _ _ _ rfl ho (.slice a2 n.length c2) n.length (n.map (Value.int .i64)) rfl HSRC.out HLL.out.1 HLL.out.2 HK.out.size ?_); intro ao' c' w2 ho' hg'; have HK2 : Hid (Kept Nil w w2) := HK.out.grown hg' (own_row ho); clear hg'))
          go_roundw
          case rel => exact ⟨2, ao', c', xs ++ n, by omega, by go_num, by rw [List.length_append], HST.out, (by show World.ownsRow _ _ _ _ _ _ _; rw [List.length_append, List.map_append]; exact ho'), HK2.out⟩
          case measure => simp [intOf]
        · have HST : Hid (xs ++ l = cat3 v n l 3) := by show _ = _; rw [HX.out]; simp [cat3]
          have HLL : Hid (xs.length + l.length ≤ maxLen ∧ (xs.length + l.length) * 8 ≤ 140737488355328) := by
            have hle : xs.length + l.length ≤ 3000 := by rw [HX.out]; simp [cat3]; omega
            constructor
            · unfold maxLen; omega
            · omega
          have HSRC : Hid (Src Try.prog 1 22 (.slice a3 l.length c3) l.length (l.map (Value.int .i64)) wr) := ((HR.out.nil HK.out).r3).src
          have ho : wr.ownsRow w.heap.size 3 1 (.slice ao xs.length c) xs.length (xs.map (Value.int .i64)) := HO.out
          have q := blk_at (HK.out.block _ _ HC.out (fun x => x.elim)) 2 rfl
          go_wp2_with (first | (at_builtin; go_must (refine wpList_append_src _ rfl _ _ 22 22 rfl w.heap.size 3 i0 (.int .i64 0) 1 8 Try.underlying22 hi hz0 hz1 hz2 rfl _ _ _ rfl ho (.slice a3 l.length c3) l.length (l.map (Value.int .i64)) rfl HSRC.out HLL.out.1 HLL.out.2 HK.out.size ?_); intro ao' c' w2 ho' hg'; have HK2 : Hid (Kept Nil w w2) := HK.out.grown hg' (own_row ho); clear hg'))
          go_roundw
          case rel => exact ⟨3, ao', c', xs ++ l, by omega, by go_num, by rw [List.length_append], HST.out, (by show World.ownsRow _ _ _ _ _ _ _; rw [List.length_append, List.map_append]; exact ho'), HK2.out⟩
          case measure => simp [intOf]
        · go_wp2
          go_ret
          have hx : v ++ n ++ l = xs := HX.out.symm
          rw [hx]
          exact ⟨ao, c, rfl, HO.out, HK.out⟩

end Go.Proofs.Ytijklginabipgaa
