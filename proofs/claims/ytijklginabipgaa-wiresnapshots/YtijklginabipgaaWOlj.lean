/-
  Joined: WMsJ, WMsB, WMsL.
-/
import Derived.Test.YtijklginabipgaaWMsI
import Derived.Test.YtijklginabipgaaWMsH
import Derived.Test.YtijklginabipgaaWMs0
/-
  May a message be (kind 5)?
-/
namespace Go.Proofs.Ytijklginabipgaa
open Go.RowKit

set_option maxRecDepth 100000 in
set_option maxHeartbeats 4000000 in
theorem isMessage_5 (fr td tm : Int) (ix lg cm cx : Int) (ae : Option Addr) (B ce : Nat) (es : List En) (w : World) (hr : EntRow B w ae es) (h0 : 0 ≤ ix) (h1 : ix ≤ 1099511627775) (hl : (es.length : Int) ≤ 9223372036854775807) (hnum : fromTo 0 [tm, ix, lg, cm, 0, cx] = true) :
    Calls Try.prog 124 #[.agg #[.int .i64 5, .int .i64 fr, .int .i64 td, .int .i64 tm, .int .i64 ix, .int .i64 lg, .int .i64 cm, .slice ae es.length ce, .int .i64 0, .int .i64 0, .slice none 0 0, .slice none 0 0, .slice none 0 0, .string (bs []), .bool false, .int .i64 0, .int .i64 cx]] w fun e w' => e = .returned (.bool (isNd fr && isNd td && !(fr == td) && !(tm == 0) && (decide (lg ≤ tm) && (decide (es.length ≤ 8) && followB tm ix lg es) && ((ix == 0) == (lg == 0))))) ∧ Kept Nil w w' := by
  have I1 := fun w => isNode_any fr w
  have I2 := fun w => isNode_any td w
  have HN := areNumbers_any (w.heap.size + 1) 6 [tm, ix, lg, cm, 0, cx] _ (ints6 w (.cells #[.int .i64 5, .int .i64 fr, .int .i64 td, .int .i64 tm, .int .i64 ix, .int .i64 lg, .int .i64 cm, .slice ae es.length ce, .int .i64 0, .int .i64 0, .slice none 0 0, .slice none 0 0, .slice none 0 0, .string (bs []), .bool false, .int .i64 0, .int .i64 cx] 85) tm ix lg cm 0 cx) (by simp)
  rw [hnum] at HN
  have HSt := fun w => strip_5 fr td tm ix lg cm cx ae es.length ce w
  have HBa := fun w => isBare_yes 5 fr td tm w
  have HR : Hid (EntRow B w ae es) := hr
  have HF := fun w' (hk : Kept Nil w w') => fits_5 fr td tm ix lg cm cx ae B ce es w' (HR.out.nil hk) h0 h1 hl
  generalize (decide (lg ≤ tm) && (decide (es.length ≤ 8) && followB tm ix lg es) && ((ix == 0) == (lg == 0))) = fb at HF ⊢
  clear hnum hr h0 h1 hl
  have HM : Hid (((w.alloc (.cells #[.int .i64 5, .int .i64 fr, .int .i64 td, .int .i64 tm, .int .i64 ix, .int .i64 lg, .int .i64 cm, .slice ae es.length ce, .int .i64 0, .int .i64 0, .slice none 0 0, .slice none 0 0, .slice none 0 0, .string (bs []), .bool false, .int .i64 0, .int .i64 cx] 85)).alloc (.cells #[.int .i64 tm, .int .i64 ix, .int .i64 lg, .int .i64 cm, .int .i64 0, .int .i64 cx] 3)).heap[w.heap.size]? = some (.cells #[.int .i64 5, .int .i64 fr, .int .i64 td, .int .i64 tm, .int .i64 ix, .int .i64 lg, .int .i64 cm, .slice ae es.length ce, .int .i64 0, .int .i64 0, .slice none 0 0, .slice none 0 0, .slice none 0 0, .string (bs []), .bool false, .int .i64 0, .int .i64 cx] 85 (0, 0))) := blk_past (blk_new w _) _
  generalize isNd fr = b1 at I1 ⊢
  generalize isNd td = b2 at I2 ⊢
  cases b1 with
  | false =>
    simp only [Bool.false_and]
    go_enter Try.func124, Try.ntmps124
    go_wp2_with fail
    refine (I1 _).mono ?_
    rintro e w1 ⟨rfl, rfl⟩
    go_wp2
    go_ret
    exact ⟨rfl, (Kept.refl _ _).alloc _⟩
  | true =>
  cases b2 with
  | false =>
    simp only [Bool.false_and, Bool.and_false]
    go_enter Try.func124, Try.ntmps124
    go_wp2_with fail
    refine (I1 _).mono ?_
    rintro e w1 ⟨rfl, rfl⟩
    go_wp2_with fail
    refine (I2 _).mono ?_
    rintro e w1 ⟨rfl, rfl⟩
    go_wp2
    go_ret
    exact ⟨rfl, (Kept.refl _ _).alloc _⟩
  | true =>
  by_cases hc : fr = td
  · have hc1 : (fr == td) = true := by simp [hc]
    rw [hc1]
    simp only [Bool.not_true, Bool.true_and, Bool.false_and, Bool.and_false]
    clear hc
    go_enter Try.func124, Try.ntmps124
    go_wp2_with fail
    refine (I1 _).mono ?_
    rintro e w1 ⟨rfl, rfl⟩
    go_wp2_with fail
    refine (I2 _).mono ?_
    rintro e w1 ⟨rfl, rfl⟩
    go_wp2
    go_ret
    exact ⟨rfl, (Kept.refl _ _).alloc _⟩
  · have hc1 : (fr == td) = false := by simp [hc]
    rw [hc1]
    clear hc
    simp only [Bool.not_false, Bool.true_and]
    by_cases ht : tm = 0
    · have ht1 : (tm == 0) = true := by simp [ht]
      rw [ht1]
      clear ht
      simp only [Bool.not_true, Bool.false_and]
      go_enter Try.func124, Try.ntmps124
      go_wp2_with fail
      refine (I1 _).mono ?_
      rintro e w1 ⟨rfl, rfl⟩
      go_wp2_with fail
      refine (I2 _).mono ?_
      rintro e w1 ⟨rfl, rfl⟩
      go_wp2_with fail
      refine HN.mono ?_
      rintro e w1 ⟨rfl, rfl⟩
      go_wp2
      go_ret
      exact ⟨rfl, ((Kept.refl _ _).alloc _).alloc _⟩
    · have ht1 : (tm == 0) = false := by simp [ht]
      rw [ht1]
      clear ht
      simp only [Bool.not_false, Bool.true_and]
      go_enter Try.func124, Try.ntmps124
      go_wp2_with fail
      refine (I1 _).mono ?_
      rintro e w1 ⟨rfl, rfl⟩
      go_wp2_with fail
      refine (I2 _).mono ?_
      rintro e w1 ⟨rfl, rfl⟩
      go_wp2_with fail
      refine HN.mono ?_
      rintro e w1 ⟨rfl, rfl⟩
      go_wp2_with ((with_reducible refine atLoad 85 ?_; go_must (refine wpList_loadW rfl _ _ rfl _ rfl _ _ _ (HM.out) Try.underlying85 rfl Try.sizeMsg rfl ?_)))
      refine (HSt _).mono ?_
      rintro e w1 ⟨rfl, k1⟩
      have K1 : Hid (Kept Nil w w1) := (((Kept.refl _ _).alloc _).alloc _).trans k1
      have X1 : Hid _ := k1.block _ _ HM.out (fun x => x.elim)
      go_wp2_with fail
      refine (HBa _).mono ?_
      rintro e w2 ⟨rfl, k2⟩
      have K2 : Hid (Kept Nil w w2) := K1.out.trans k2
      have X2 := k2.block _ _ X1.out (fun x => x.elim)
      have q0 := blk_at X2 0 rfl
      have q1 := blk_at X2 1 rfl
      have q2 := blk_at X2 2 rfl
      have q3 := blk_at X2 3 rfl
      have q4 := blk_at X2 4 rfl
      have q5 := blk_at X2 5 rfl
      have q6 := blk_at X2 6 rfl
      have q7 := blk_at X2 7 rfl
      have q8 := blk_at X2 8 rfl
      have q9 := blk_at X2 9 rfl
      have q10 := blk_at X2 10 rfl
      have q11 := blk_at X2 11 rfl
      have q12 := blk_at X2 12 rfl
      have q13 := blk_at X2 13 rfl
      have q14 := blk_at X2 14 rfl
      have q15 := blk_at X2 15 rfl
      have q16 := blk_at X2 16 rfl
      go_wp2_with fail
      refine (HF _ K2.out).mono ?_
      rintro e w3 ⟨rfl, k3⟩
      go_wp2
      go_ret
      exact ⟨rfl, K2.out.trans k3⟩

end Go.Proofs.Ytijklginabipgaa

/-
  A message without the fields that its kind has (kind 7).
-/
namespace Go.Proofs.Ytijklginabipgaa
open Go.RowKit

set_option maxRecDepth 100000 in
set_option maxHeartbeats 4000000 in
theorem strip_7 (fr td tm : Int) (cx si st : Int) (a1 a2 a3 : Option Addr) (n1 n2 n3 c1 c2 c3 : Nat) (dt : List UInt8) (w : World) :
    Calls Try.prog 176 #[.agg #[.int .i64 7, .int .i64 fr, .int .i64 td, .int .i64 tm, .int .i64 0, .int .i64 0, .int .i64 0, .slice none 0 0, .int .i64 si, .int .i64 st, .slice a1 n1 c1, .slice a2 n2 c2, .slice a3 n3 c3, .string (bs dt), .bool false, .int .i64 0, .int .i64 cx]] w fun e w' => e = .returned (.agg #[.int .i64 7, .int .i64 fr, .int .i64 td, .int .i64 tm, .int .i64 0, .int .i64 0, .int .i64 0, .slice none 0 0, .int .i64 0, .int .i64 0, .slice none 0 0, .slice none 0 0, .slice none 0 0, .string (bs []), .bool false, .int .i64 0, .int .i64 0]) ∧ Kept Nil w w' := by
  go_enter Try.func176, Try.ntmps176
  go_wp2_with (first | (with_reducible refine atLoad 85 ?_; go_must (refine wpList_loadW rfl _ _ rfl _ rfl _ _ _ (blk_past (blk_new w _) _) Try.underlying85 rfl Try.sizeMsg rfl ?_)) | (with_reducible refine atStore 85 ?_; go_must (refine wpList_storeW rfl _ _ _ rfl _ #[.int .i64 7, .int .i64 fr, .int .i64 td, .int .i64 tm, .int .i64 0, .int .i64 0, .int .i64 0, .slice none 0 0, .int .i64 0, .int .i64 0, .slice none 0 0, .slice none 0 0, .slice none 0 0, .string (bs []), .bool false, .int .i64 0, .int .i64 0] _ _ rfl rfl (blk_new1 w _ _) rfl Try.sizeMsg rfl (one17 rfl rfl rfl rfl rfl rfl rfl rfl rfl rfl rfl rfl rfl rfl rfl rfl rfl) ?_); intro w9 hb9 hk9 hs9))
  refine bodyPost_ret (results_cellW rfl rfl hb9 Try.underlying85 rfl Try.sizeMsg rfl) rfl ⟨rfl, Kept.ofNew (((Kept.refl _ _).alloc _).alloc _) hk9 (fun k _ h => by have : k = w.heap.size + 1 := h; omega)⟩

end Go.Proofs.Ytijklginabipgaa

/-
  May a message be (kind 7)?
-/
namespace Go.Proofs.Ytijklginabipgaa
open Go.RowKit

set_option maxRecDepth 100000 in
set_option maxHeartbeats 4000000 in
theorem isMessage_7 (fr td tm : Int) (cx si st : Int) (B c1 c2 c3 : Nat) (a1 a2 a3 : Option Addr) (v n l : List Int) (dt : List UInt8) (w : World) (hr : CfRows B w a1 a2 a3 v n l) (h1 : (v.length : Int) ≤ 9223372036854775807) (h2 : (n.length : Int) ≤ 9223372036854775807) (h3 : (l.length : Int) ≤ 9223372036854775807) (hd : dt.length ≤ maxLen) (hnum : fromTo 0 [tm, 0, 0, 0, 0, cx] = true) :
    Calls Try.prog 124 #[.agg #[.int .i64 7, .int .i64 fr, .int .i64 td, .int .i64 tm, .int .i64 0, .int .i64 0, .int .i64 0, .slice none 0 0, .int .i64 si, .int .i64 st, .slice a1 v.length c1, .slice a2 n.length c2, .slice a3 l.length c3, .string (bs dt), .bool false, .int .i64 0, .int .i64 cx]] w fun e w' => e = .returned (.bool (isNd fr && isNd td && !(fr == td) && !(tm == 0) && (snOk si st v n l dt && decide (st ≤ tm)))) ∧ Kept Nil w w' := by
  have I1 := fun w => isNode_any fr w
  have I2 := fun w => isNode_any td w
  have HN := areNumbers_any (w.heap.size + 1) 6 [tm, 0, 0, 0, 0, cx] _ (ints6 w (.cells #[.int .i64 7, .int .i64 fr, .int .i64 td, .int .i64 tm, .int .i64 0, .int .i64 0, .int .i64 0, .slice none 0 0, .int .i64 si, .int .i64 st, .slice a1 v.length c1, .slice a2 n.length c2, .slice a3 l.length c3, .string (bs dt), .bool false, .int .i64 0, .int .i64 cx] 85) tm 0 0 0 0 cx) (by simp)
  rw [hnum] at HN
  have HSt := fun w => strip_7 fr td tm cx si st a1 a2 a3 v.length n.length l.length c1 c2 c3 dt w
  have HBa := fun w => isBare_yes 7 fr td tm w
  have HR : Hid (CfRows B w a1 a2 a3 v n l) := hr
  have HF := fun w' (hk : Kept Nil w w') => fits_7 fr td tm cx si st B c1 c2 c3 a1 a2 a3 v n l dt w' (HR.out.nil hk) h1 h2 h3 hd
  generalize (snOk si st v n l dt && decide (st ≤ tm)) = fb at HF ⊢
  clear hnum hr h1 h2 h3 hd
  have HM : Hid (((w.alloc (.cells #[.int .i64 7, .int .i64 fr, .int .i64 td, .int .i64 tm, .int .i64 0, .int .i64 0, .int .i64 0, .slice none 0 0, .int .i64 si, .int .i64 st, .slice a1 v.length c1, .slice a2 n.length c2, .slice a3 l.length c3, .string (bs dt), .bool false, .int .i64 0, .int .i64 cx] 85)).alloc (.cells #[.int .i64 tm, .int .i64 0, .int .i64 0, .int .i64 0, .int .i64 0, .int .i64 cx] 3)).heap[w.heap.size]? = some (.cells #[.int .i64 7, .int .i64 fr, .int .i64 td, .int .i64 tm, .int .i64 0, .int .i64 0, .int .i64 0, .slice none 0 0, .int .i64 si, .int .i64 st, .slice a1 v.length c1, .slice a2 n.length c2, .slice a3 l.length c3, .string (bs dt), .bool false, .int .i64 0, .int .i64 cx] 85 (0, 0))) := blk_past (blk_new w _) _
  generalize isNd fr = b1 at I1 ⊢
  generalize isNd td = b2 at I2 ⊢
  cases b1 with
  | false =>
    simp only [Bool.false_and]
    go_enter Try.func124, Try.ntmps124
    go_wp2_with fail
    refine (I1 _).mono ?_
    rintro e w1 ⟨rfl, rfl⟩
    go_wp2
    go_ret
    exact ⟨rfl, (Kept.refl _ _).alloc _⟩
  | true =>
  cases b2 with
  | false =>
    simp only [Bool.false_and, Bool.and_false]
    go_enter Try.func124, Try.ntmps124
    go_wp2_with fail
    refine (I1 _).mono ?_
    rintro e w1 ⟨rfl, rfl⟩
    go_wp2_with fail
    refine (I2 _).mono ?_
    rintro e w1 ⟨rfl, rfl⟩
    go_wp2
    go_ret
    exact ⟨rfl, (Kept.refl _ _).alloc _⟩
  | true =>
  by_cases hc : fr = td
  · have hc1 : (fr == td) = true := by simp [hc]
    rw [hc1]
    simp only [Bool.not_true, Bool.true_and, Bool.false_and, Bool.and_false]
    clear hc
    go_enter Try.func124, Try.ntmps124
    go_wp2_with fail
    refine (I1 _).mono ?_
    rintro e w1 ⟨rfl, rfl⟩
    go_wp2_with fail
    refine (I2 _).mono ?_
    rintro e w1 ⟨rfl, rfl⟩
    go_wp2
    go_ret
    exact ⟨rfl, (Kept.refl _ _).alloc _⟩
  · have hc1 : (fr == td) = false := by simp [hc]
    rw [hc1]
    clear hc
    simp only [Bool.not_false, Bool.true_and]
    by_cases ht : tm = 0
    · have ht1 : (tm == 0) = true := by simp [ht]
      rw [ht1]
      clear ht
      simp only [Bool.not_true, Bool.false_and]
      go_enter Try.func124, Try.ntmps124
      go_wp2_with fail
      refine (I1 _).mono ?_
      rintro e w1 ⟨rfl, rfl⟩
      go_wp2_with fail
      refine (I2 _).mono ?_
      rintro e w1 ⟨rfl, rfl⟩
      go_wp2_with fail
      refine HN.mono ?_
      rintro e w1 ⟨rfl, rfl⟩
      go_wp2
      go_ret
      exact ⟨rfl, ((Kept.refl _ _).alloc _).alloc _⟩
    · have ht1 : (tm == 0) = false := by simp [ht]
      rw [ht1]
      clear ht
      simp only [Bool.not_false, Bool.true_and]
      go_enter Try.func124, Try.ntmps124
      go_wp2_with fail
      refine (I1 _).mono ?_
      rintro e w1 ⟨rfl, rfl⟩
      go_wp2_with fail
      refine (I2 _).mono ?_
      rintro e w1 ⟨rfl, rfl⟩
      go_wp2_with fail
      refine HN.mono ?_
      rintro e w1 ⟨rfl, rfl⟩
      go_wp2_with ((with_reducible refine atLoad 85 ?_; go_must (refine wpList_loadW rfl _ _ rfl _ rfl _ _ _ (HM.out) Try.underlying85 rfl Try.sizeMsg rfl ?_)))
      refine (HSt _).mono ?_
      rintro e w1 ⟨rfl, k1⟩
      have K1 : Hid (Kept Nil w w1) := (((Kept.refl _ _).alloc _).alloc _).trans k1
      have X1 : Hid _ := k1.block _ _ HM.out (fun x => x.elim)
      go_wp2_with fail
      refine (HBa _).mono ?_
      rintro e w2 ⟨rfl, k2⟩
      have K2 : Hid (Kept Nil w w2) := K1.out.trans k2
      have X2 := k2.block _ _ X1.out (fun x => x.elim)
      have q0 := blk_at X2 0 rfl
      have q1 := blk_at X2 1 rfl
      have q2 := blk_at X2 2 rfl
      have q3 := blk_at X2 3 rfl
      have q4 := blk_at X2 4 rfl
      have q5 := blk_at X2 5 rfl
      have q6 := blk_at X2 6 rfl
      have q7 := blk_at X2 7 rfl
      have q8 := blk_at X2 8 rfl
      have q9 := blk_at X2 9 rfl
      have q10 := blk_at X2 10 rfl
      have q11 := blk_at X2 11 rfl
      have q12 := blk_at X2 12 rfl
      have q13 := blk_at X2 13 rfl
      have q14 := blk_at X2 14 rfl
      have q15 := blk_at X2 15 rfl
      have q16 := blk_at X2 16 rfl
      go_wp2_with fail
      refine (HF _ K2.out).mono ?_
      rintro e w3 ⟨rfl, k3⟩
      go_wp2
      go_ret
      exact ⟨rfl, K2.out.trans k3⟩

end Go.Proofs.Ytijklginabipgaa
