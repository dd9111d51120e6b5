/-
  May a message be (kinds 1 and 3)?
-/
import Derived.Test.YtijklginabipgaaWMsA
import Derived.Test.YtijklginabipgaaWMsK
import Derived.Test.YtijklginabipgaaWMsG
namespace Go.Proofs.Ytijklginabipgaa
open Go.RowKit

theorem ints6 (w : World) (o : Obj) (x0 x1 x2 x3 x4 x5 : Int) : IntsAt ((w.alloc o).alloc (.cells #[.int .i64 x0, .int .i64 x1, .int .i64 x2, .int .i64 x3, .int .i64 x4, .int .i64 x5] 3)) (w.heap.size + 1) [x0, x1, x2, x3, x4, x5] := by
  have hb := blk_new1 w o (.cells #[.int .i64 x0, .int .i64 x1, .int .i64 x2, .int .i64 x3, .int .i64 x4, .int .i64 x5] 3)
  intro j hj
  simp at hj
  rcases (show j = 0 ∨ j = 1 ∨ j = 2 ∨ j = 3 ∨ j = 4 ∨ j = 5 by omega) with rfl | rfl | rfl | rfl | rfl | rfl
  · exact blk_cell hb 0
  · exact blk_cell hb 1
  · exact blk_cell hb 2
  · exact blk_cell hb 3
  · exact blk_cell hb 4
  · exact blk_cell hb 5

set_option maxRecDepth 100000 in
set_option maxHeartbeats 4000000 in
theorem isMessage_1 (fr td tm : Int) (ix lg : Int) (w : World) (hnum : fromTo 0 [tm, ix, lg, 0, 0, 0] = true) :
    Calls Try.prog 124 #[.agg #[.int .i64 1, .int .i64 fr, .int .i64 td, .int .i64 tm, .int .i64 ix, .int .i64 lg, .int .i64 0, .slice none 0 0, .int .i64 0, .int .i64 0, .slice none 0 0, .slice none 0 0, .slice none 0 0, .string (bs []), .bool false, .int .i64 0, .int .i64 0]] w fun e w' => e = .returned (.bool (isNd fr && isNd td && !(fr == td) && !(tm == 0) && ((ix == 0) == (lg == 0)))) ∧ Kept Nil w w' := by
  have I1 := fun w => isNode_any fr w
  have I2 := fun w => isNode_any td w
  have HN := areNumbers_any (w.heap.size + 1) 6 [tm, ix, lg, 0, 0, 0] _ (ints6 w (.cells #[.int .i64 1, .int .i64 fr, .int .i64 td, .int .i64 tm, .int .i64 ix, .int .i64 lg, .int .i64 0, .slice none 0 0, .int .i64 0, .int .i64 0, .slice none 0 0, .slice none 0 0, .slice none 0 0, .string (bs []), .bool false, .int .i64 0, .int .i64 0] 85) tm ix lg 0 0 0) (by simp)
  rw [hnum] at HN
  have HSt := fun w => strip_1 fr td tm ix lg w
  have HBa := fun w => isBare_yes 1 fr td tm w
  have HF := fun w' (_ : Kept Nil w w') => fits_1 fr td tm ix lg w'
  generalize ((ix == 0) == (lg == 0)) = fb at HF ⊢
  clear hnum
  have HM : Hid (((w.alloc (.cells #[.int .i64 1, .int .i64 fr, .int .i64 td, .int .i64 tm, .int .i64 ix, .int .i64 lg, .int .i64 0, .slice none 0 0, .int .i64 0, .int .i64 0, .slice none 0 0, .slice none 0 0, .slice none 0 0, .string (bs []), .bool false, .int .i64 0, .int .i64 0] 85)).alloc (.cells #[.int .i64 tm, .int .i64 ix, .int .i64 lg, .int .i64 0, .int .i64 0, .int .i64 0] 3)).heap[w.heap.size]? = some (.cells #[.int .i64 1, .int .i64 fr, .int .i64 td, .int .i64 tm, .int .i64 ix, .int .i64 lg, .int .i64 0, .slice none 0 0, .int .i64 0, .int .i64 0, .slice none 0 0, .slice none 0 0, .slice none 0 0, .string (bs []), .bool false, .int .i64 0, .int .i64 0] 85 (0, 0))) := blk_past (blk_new w _) _
  generalize isNd fr = b1 at I1 ⊢
  generalize isNd td = b2 at I2 ⊢
  cases b1 with
  | false =>
    simp only [Bool.false_and]
    go_enter Try.func124, Try.ntmps124
    go_wp2_with fail
    refine (I1 _).mono ?_
    rintro e w1 ⟨rfl, rfl⟩
    go_wp2
    go_ret
    exact ⟨rfl, (Kept.refl _ _).alloc _⟩
  | true =>
  cases b2 with
  | false =>
    simp only [Bool.false_and, Bool.and_false]
    go_enter Try.func124, Try.ntmps124
    go_wp2_with fail
    refine (I1 _).mono ?_
    rintro e w1 ⟨rfl, rfl⟩
    go_wp2_with fail
    refine (I2 _).mono ?_
    rintro e w1 ⟨rfl, rfl⟩
    go_wp2
    go_ret
    exact ⟨rfl, (Kept.refl _ _).alloc _⟩
  | true =>
  by_cases hc : fr = td
  · have hc1 : (fr == td) = true := by simp [hc]
    rw [hc1]
    simp only [Bool.not_true, Bool.true_and, Bool.false_and, Bool.and_false]
    clear hc
    go_enter Try.func124, Try.ntmps124
    go_wp2_with fail
    refine (I1 _).mono ?_
    rintro e w1 ⟨rfl, rfl⟩
    go_wp2_with fail
    refine (I2 _).mono ?_
    rintro e w1 ⟨rfl, rfl⟩
    go_wp2
    go_ret
    exact ⟨rfl, (Kept.refl _ _).alloc _⟩
  · have hc1 : (fr == td) = false := by simp [hc]
    rw [hc1]
    clear hc
    simp only [Bool.not_false, Bool.true_and]
    by_cases ht : tm = 0
    · have ht1 : (tm == 0) = true := by simp [ht]
      rw [ht1]
      clear ht
      simp only [Bool.not_true, Bool.false_and]
      go_enter Try.func124, Try.ntmps124
      go_wp2_with fail
      refine (I1 _).mono ?_
      rintro e w1 ⟨rfl, rfl⟩
      go_wp2_with fail
      refine (I2 _).mono ?_
      rintro e w1 ⟨rfl, rfl⟩
      go_wp2_with fail
      refine HN.mono ?_
      rintro e w1 ⟨rfl, rfl⟩
      go_wp2
      go_ret
      exact ⟨rfl, ((Kept.refl _ _).alloc _).alloc _⟩
    · have ht1 : (tm == 0) = false := by simp [ht]
      rw [ht1]
      clear ht
      simp only [Bool.not_false, Bool.true_and]
      go_enter Try.func124, Try.ntmps124
      go_wp2_with fail
      refine (I1 _).mono ?_
      rintro e w1 ⟨rfl, rfl⟩
      go_wp2_with fail
      refine (I2 _).mono ?_
      rintro e w1 ⟨rfl, rfl⟩
      go_wp2_with fail
      refine HN.mono ?_
      rintro e w1 ⟨rfl, rfl⟩
      go_wp2_with ((with_reducible refine atLoad 85 ?_; go_must (refine wpList_loadW rfl _ _ rfl _ rfl _ _ _ (HM.out) Try.underlying85 rfl Try.sizeMsg rfl ?_)))
      refine (HSt _).mono ?_
      rintro e w1 ⟨rfl, k1⟩
      have K1 : Hid (Kept Nil w w1) := (((Kept.refl _ _).alloc _).alloc _).trans k1
      have X1 : Hid _ := k1.block _ _ HM.out (fun x => x.elim)
      go_wp2_with fail
      refine (HBa _).mono ?_
      rintro e w2 ⟨rfl, k2⟩
      have K2 : Hid (Kept Nil w w2) := K1.out.trans k2
      have X2 := k2.block _ _ X1.out (fun x => x.elim)
      have q0 := blk_at X2 0 rfl
      have q1 := blk_at X2 1 rfl
      have q2 := blk_at X2 2 rfl
      have q3 := blk_at X2 3 rfl
      have q4 := blk_at X2 4 rfl
      have q5 := blk_at X2 5 rfl
      have q6 := blk_at X2 6 rfl
      have q7 := blk_at X2 7 rfl
      have q8 := blk_at X2 8 rfl
      have q9 := blk_at X2 9 rfl
      have q10 := blk_at X2 10 rfl
      have q11 := blk_at X2 11 rfl
      have q12 := blk_at X2 12 rfl
      have q13 := blk_at X2 13 rfl
      have q14 := blk_at X2 14 rfl
      have q15 := blk_at X2 15 rfl
      have q16 := blk_at X2 16 rfl
      go_wp2_with fail
      refine (HF _ K2.out).mono ?_
      rintro e w3 ⟨rfl, k3⟩
      go_wp2
      go_ret
      exact ⟨rfl, K2.out.trans k3⟩

set_option maxRecDepth 100000 in
set_option maxHeartbeats 4000000 in
theorem isMessage_3 (fr td tm : Int) (ix lg : Int) (w : World) (hnum : fromTo 0 [tm, ix, lg, 0, 0, 0] = true) :
    Calls Try.prog 124 #[.agg #[.int .i64 3, .int .i64 fr, .int .i64 td, .int .i64 tm, .int .i64 ix, .int .i64 lg, .int .i64 0, .slice none 0 0, .int .i64 0, .int .i64 0, .slice none 0 0, .slice none 0 0, .slice none 0 0, .string (bs []), .bool false, .int .i64 0, .int .i64 0]] w fun e w' => e = .returned (.bool (isNd fr && isNd td && !(fr == td) && !(tm == 0) && ((ix == 0) == (lg == 0)))) ∧ Kept Nil w w' := by
  have I1 := fun w => isNode_any fr w
  have I2 := fun w => isNode_any td w
  have HN := areNumbers_any (w.heap.size + 1) 6 [tm, ix, lg, 0, 0, 0] _ (ints6 w (.cells #[.int .i64 3, .int .i64 fr, .int .i64 td, .int .i64 tm, .int .i64 ix, .int .i64 lg, .int .i64 0, .slice none 0 0, .int .i64 0, .int .i64 0, .slice none 0 0, .slice none 0 0, .slice none 0 0, .string (bs []), .bool false, .int .i64 0, .int .i64 0] 85) tm ix lg 0 0 0) (by simp)
  rw [hnum] at HN
  have HSt := fun w => strip_3 fr td tm ix lg w
  have HBa := fun w => isBare_yes 3 fr td tm w
  have HF := fun w' (_ : Kept Nil w w') => fits_3 fr td tm ix lg w'
  generalize ((ix == 0) == (lg == 0)) = fb at HF ⊢
  clear hnum
  have HM : Hid (((w.alloc (.cells #[.int .i64 3, .int .i64 fr, .int .i64 td, .int .i64 tm, .int .i64 ix, .int .i64 lg, .int .i64 0, .slice none 0 0, .int .i64 0, .int .i64 0, .slice none 0 0, .slice none 0 0, .slice none 0 0, .string (bs []), .bool false, .int .i64 0, .int .i64 0] 85)).alloc (.cells #[.int .i64 tm, .int .i64 ix, .int .i64 lg, .int .i64 0, .int .i64 0, .int .i64 0] 3)).heap[w.heap.size]? = some (.cells #[.int .i64 3, .int .i64 fr, .int .i64 td, .int .i64 tm, .int .i64 ix, .int .i64 lg, .int .i64 0, .slice none 0 0, .int .i64 0, .int .i64 0, .slice none 0 0, .slice none 0 0, .slice none 0 0, .string (bs []), .bool false, .int .i64 0, .int .i64 0] 85 (0, 0))) := blk_past (blk_new w _) _
  generalize isNd fr = b1 at I1 ⊢
  generalize isNd td = b2 at I2 ⊢
  cases b1 with
  | false =>
    simp only [Bool.false_and]
    go_enter Try.func124, Try.ntmps124
    go_wp2_with fail
    refine (I1 _).mono ?_
    rintro e w1 ⟨rfl, rfl⟩
    go_wp2
    go_ret
    exact ⟨rfl, (Kept.refl _ _).alloc _⟩
  | true =>
  cases b2 with
  | false =>
    simp only [Bool.false_and, Bool.and_false]
    go_enter Try.func124, Try.ntmps124
    go_wp2_with fail
    refine (I1 _).mono ?_
    rintro e w1 ⟨rfl, rfl⟩
    go_wp2_with fail
    refine (I2 _).mono ?_
    rintro e w1 ⟨rfl, rfl⟩
    go_wp2
    go_ret
    exact ⟨rfl, (Kept.refl _ _).alloc _⟩
  | true =>
  by_cases hc : fr = td
  · have hc1 : (fr == td) = true := by simp [hc]
    rw [hc1]
    simp only [Bool.not_true, Bool.true_and, Bool.false_and, Bool.and_false]
    clear hc
    go_enter Try.func124, Try.ntmps124
    go_wp2_with fail
    refine (I1 _).mono ?_
    rintro e w1 ⟨rfl, rfl⟩
    go_wp2_with fail
    refine (I2 _).mono ?_
    rintro e w1 ⟨rfl, rfl⟩
    go_wp2
    go_ret
    exact ⟨rfl, (Kept.refl _ _).alloc _⟩
  · have hc1 : (fr == td) = false := by simp [hc]
    rw [hc1]
    clear hc
    simp only [Bool.not_false, Bool.true_and]
    by_cases ht : tm = 0
    · have ht1 : (tm == 0) = true := by simp [ht]
      rw [ht1]
      clear ht
      simp only [Bool.not_true, Bool.false_and]
      go_enter Try.func124, Try.ntmps124
      go_wp2_with fail
      refine (I1 _).mono ?_
      rintro e w1 ⟨rfl, rfl⟩
      go_wp2_with fail
      refine (I2 _).mono ?_
      rintro e w1 ⟨rfl, rfl⟩
      go_wp2_with fail
      refine HN.mono ?_
      rintro e w1 ⟨rfl, rfl⟩
      go_wp2
      go_ret
      exact ⟨rfl, ((Kept.refl _ _).alloc _).alloc _⟩
    · have ht1 : (tm == 0) = false := by simp [ht]
      rw [ht1]
      clear ht
      simp only [Bool.not_false, Bool.true_and]
      go_enter Try.func124, Try.ntmps124
      go_wp2_with fail
      refine (I1 _).mono ?_
      rintro e w1 ⟨rfl, rfl⟩
      go_wp2_with fail
      refine (I2 _).mono ?_
      rintro e w1 ⟨rfl, rfl⟩
      go_wp2_with fail
      refine HN.mono ?_
      rintro e w1 ⟨rfl, rfl⟩
      go_wp2_with ((with_reducible refine atLoad 85 ?_; go_must (refine wpList_loadW rfl _ _ rfl _ rfl _ _ _ (HM.out) Try.underlying85 rfl Try.sizeMsg rfl ?_)))
      refine (HSt _).mono ?_
      rintro e w1 ⟨rfl, k1⟩
      have K1 : Hid (Kept Nil w w1) := (((Kept.refl _ _).alloc _).alloc _).trans k1
      have X1 : Hid _ := k1.block _ _ HM.out (fun x => x.elim)
      go_wp2_with fail
      refine (HBa _).mono ?_
      rintro e w2 ⟨rfl, k2⟩
      have K2 : Hid (Kept Nil w w2) := K1.out.trans k2
      have X2 := k2.block _ _ X1.out (fun x => x.elim)
      have q0 := blk_at X2 0 rfl
      have q1 := blk_at X2 1 rfl
      have q2 := blk_at X2 2 rfl
      have q3 := blk_at X2 3 rfl
      have q4 := blk_at X2 4 rfl
      have q5 := blk_at X2 5 rfl
      have q6 := blk_at X2 6 rfl
      have q7 := blk_at X2 7 rfl
      have q8 := blk_at X2 8 rfl
      have q9 := blk_at X2 9 rfl
      have q10 := blk_at X2 10 rfl
      have q11 := blk_at X2 11 rfl
      have q12 := blk_at X2 12 rfl
      have q13 := blk_at X2 13 rfl
      have q14 := blk_at X2 14 rfl
      have q15 := blk_at X2 15 rfl
      have q16 := blk_at X2 16 rfl
      go_wp2_with fail
      refine (HF _ K2.out).mono ?_
      rintro e w3 ⟨rfl, k3⟩
      go_wp2
      go_ret
      exact ⟨rfl, K2.out.trans k3⟩

end Go.Proofs.Ytijklginabipgaa
