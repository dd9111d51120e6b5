/-
  The document's PutRequest where the request may not be; PutRequest, whole.
-/
import Derived.Test.YtihgefdpnokoeaaWReq7
namespace Go.Proofs.Ytihgefdpnokoeaa
open Go.RowKit

set_option maxRecDepth 100000 in
set_option maxHeartbeats 8000000 in
theorem refPutRequest_not (cl nm kd ifv tm : Int) (key val : List UInt8) (w : World) (hk : key.length ≤ maxLen) (hv : val.length ≤ maxLen) (h : Rq.ok ⟨cl, nm, kd, key, val, ifv, tm⟩ = false) :
    Calls Try.prog 22 #[.agg #[.int .i64 cl, .int .i64 nm, .int .i64 kd, .string (bs key), .string (bs val), .int .i64 ifv, .int .i64 tm]] w fun e w' => e = .returned (.tuple #[.string (bs []), .int .i64 5]) ∧ Kept Nil w w' := by
  have HC := fun w => refIsCommand_any kd ifv key val w hk hv
  have ht := bs_toList
  have HB : Hid (_) := blk_new w (.cells #[.int .i64 cl, .int .i64 nm, .int .i64 kd, .string (bs key), .string (bs val), .int .i64 ifv, .int .i64 tm] 41)
  by_cases hnum : isNum cl = true ∧ isNum nm = true ∧ isNum tm = true
  · obtain ⟨e1, e2, e3⟩ := hnum
    have b1 := isNum_nat e1
    have b2 := isNum_nat e2
    have b3 := isNum_nat e3
    have B1 : 0 ≤ cl := by omega
    have B2 : cl ≤ 1099511627775 := by omega
    have B3 : 0 ≤ nm := by omega
    have B4 : nm ≤ 1099511627775 := by omega
    have B5 : 0 ≤ tm := by omega
    have B6 : tm ≤ 1099511627775 := by omega
    by_cases c0 : cl = 0
    · have hn : Rq.none ⟨cl, nm, kd, key, val, ifv, tm⟩ = false := by
        unfold Rq.ok at h
        simp only [e1, e2, e3, Bool.and_self, Bool.true_and] at h
        rwa [if_pos c0] at h
      unfold Rq.none at hn
      generalize isCmd kd key val ifv = okb at HC
      subst c0
      clear h hk hv e1 e2 e3 b1 b2 b3
      by_cases d1 : kd = 0
      · subst d1
        by_cases d2 : key = []
        · subst d2
          by_cases d3 : val = []
          · subst d3
            have d4 : ¬ ifv = 0 := by simpa using hn
            have d5 : (ifv == 0) = false := by simpa using d4
            clear hn d4
            go_enter Try.func22, Try.ntmps22
            go_wp2_with fail
            refine (HC _).mono ?_
            rintro e w1 ⟨rfl, k1⟩
            have X1 := k1.block _ _ HB.out (fun x => x.elim)
            have q0 := blk_at X1 0 rfl
            have q1 := blk_at X1 1 rfl
            have q2 := blk_at X1 2 rfl
            have q3 := blk_at X1 3 rfl
            have q4 := blk_at X1 4 rfl
            have q5 := blk_at X1 5 rfl
            have q6 := blk_at X1 6 rfl
            clear X1
            go_wp2
            all_goals go_ret2
            all_goals exact ⟨rfl, ((Kept.refl _ _).alloc _).trans k1⟩
          · have d5 : val.isEmpty = false := by simpa using d3
            clear hn
            go_enter Try.func22, Try.ntmps22
            go_wp2_with fail
            refine (HC _).mono ?_
            rintro e w1 ⟨rfl, k1⟩
            have X1 := k1.block _ _ HB.out (fun x => x.elim)
            have q0 := blk_at X1 0 rfl
            have q1 := blk_at X1 1 rfl
            have q2 := blk_at X1 2 rfl
            have q3 := blk_at X1 3 rfl
            have q4 := blk_at X1 4 rfl
            have q5 := blk_at X1 5 rfl
            have q6 := blk_at X1 6 rfl
            clear X1
            go_wp2
            all_goals go_ret2
            all_goals exact ⟨rfl, ((Kept.refl _ _).alloc _).trans k1⟩
        · have d5 : key.isEmpty = false := by simpa using d2
          clear hn
          go_enter Try.func22, Try.ntmps22
          go_wp2_with fail
          refine (HC _).mono ?_
          rintro e w1 ⟨rfl, k1⟩
          have X1 := k1.block _ _ HB.out (fun x => x.elim)
          have q0 := blk_at X1 0 rfl
          have q1 := blk_at X1 1 rfl
          have q2 := blk_at X1 2 rfl
          have q3 := blk_at X1 3 rfl
          have q4 := blk_at X1 4 rfl
          have q5 := blk_at X1 5 rfl
          have q6 := blk_at X1 6 rfl
          clear X1
          go_wp2
          all_goals go_ret2
          all_goals exact ⟨rfl, ((Kept.refl _ _).alloc _).trans k1⟩
      · have d5 : (kd == 0) = false := by simpa using d1
        clear hn
        go_enter Try.func22, Try.ntmps22
        go_wp2_with fail
        refine (HC _).mono ?_
        rintro e w1 ⟨rfl, k1⟩
        have X1 := k1.block _ _ HB.out (fun x => x.elim)
        have q0 := blk_at X1 0 rfl
        have q1 := blk_at X1 1 rfl
        have q2 := blk_at X1 2 rfl
        have q3 := blk_at X1 3 rfl
        have q4 := blk_at X1 4 rfl
        have q5 := blk_at X1 5 rfl
        have q6 := blk_at X1 6 rfl
        clear X1
        go_wp2
        all_goals go_ret2
        all_goals exact ⟨rfl, ((Kept.refl _ _).alloc _).trans k1⟩
    · have hn : isCmd kd key val ifv = false := by
        unfold Rq.ok at h
        simp only [e1, e2, e3, Bool.and_self, Bool.true_and] at h
        rwa [if_neg c0] at h
      rw [hn] at HC
      have c1 : (cl == 0) = false := by simpa using c0
      have c2 : (cl != 0) = true := by simpa using c0
      clear h hk hv e1 e2 e3 b1 b2 b3 hn c0
      go_enter Try.func22, Try.ntmps22
      go_wp2_with fail
      refine (HC _).mono ?_
      rintro e w1 ⟨rfl, k1⟩
      have X1 := k1.block _ _ HB.out (fun x => x.elim)
      have q0 := blk_at X1 0 rfl
      have q1 := blk_at X1 1 rfl
      have q2 := blk_at X1 2 rfl
      have q3 := blk_at X1 3 rfl
      have q4 := blk_at X1 4 rfl
      have q5 := blk_at X1 5 rfl
      have q6 := blk_at X1 6 rfl
      clear X1
      go_wp2
      all_goals go_ret2
      all_goals exact ⟨rfl, ((Kept.refl _ _).alloc _).trans k1⟩
  · have hr : cl < 0 ∨ 1099511627775 < cl ∨ (0 ≤ cl ∧ cl ≤ 1099511627775 ∧ (nm < 0 ∨ 1099511627775 < nm ∨ (0 ≤ nm ∧ nm ≤ 1099511627775 ∧ (tm < 0 ∨ 1099511627775 < tm)))) := by
      simp only [isNum, Bool.and_eq_true, decide_eq_true_eq] at hnum
      omega
    generalize isCmd kd key val ifv = okb at HC
    clear h hk hv hnum
    rcases hr with g | g | ⟨g1, g2, g | g | ⟨g3, g4, g | g⟩⟩
    · go_enter Try.func22, Try.ntmps22
      go_wp2_with fail
      refine (HC _).mono ?_
      rintro e w1 ⟨rfl, k1⟩
      have X1 := k1.block _ _ HB.out (fun x => x.elim)
      have q0 := blk_at X1 0 rfl
      have q1 := blk_at X1 1 rfl
      have q2 := blk_at X1 2 rfl
      have q3 := blk_at X1 3 rfl
      have q4 := blk_at X1 4 rfl
      have q5 := blk_at X1 5 rfl
      have q6 := blk_at X1 6 rfl
      clear X1
      go_wp2
      all_goals go_ret2
      all_goals exact ⟨rfl, ((Kept.refl _ _).alloc _).trans k1⟩
    · go_enter Try.func22, Try.ntmps22
      go_wp2_with fail
      refine (HC _).mono ?_
      rintro e w1 ⟨rfl, k1⟩
      have X1 := k1.block _ _ HB.out (fun x => x.elim)
      have q0 := blk_at X1 0 rfl
      have q1 := blk_at X1 1 rfl
      have q2 := blk_at X1 2 rfl
      have q3 := blk_at X1 3 rfl
      have q4 := blk_at X1 4 rfl
      have q5 := blk_at X1 5 rfl
      have q6 := blk_at X1 6 rfl
      clear X1
      go_wp2
      all_goals go_ret2
      all_goals exact ⟨rfl, ((Kept.refl _ _).alloc _).trans k1⟩
    · go_enter Try.func22, Try.ntmps22
      go_wp2_with fail
      refine (HC _).mono ?_
      rintro e w1 ⟨rfl, k1⟩
      have X1 := k1.block _ _ HB.out (fun x => x.elim)
      have q0 := blk_at X1 0 rfl
      have q1 := blk_at X1 1 rfl
      have q2 := blk_at X1 2 rfl
      have q3 := blk_at X1 3 rfl
      have q4 := blk_at X1 4 rfl
      have q5 := blk_at X1 5 rfl
      have q6 := blk_at X1 6 rfl
      clear X1
      go_wp2
      all_goals go_ret2
      all_goals exact ⟨rfl, ((Kept.refl _ _).alloc _).trans k1⟩
    · go_enter Try.func22, Try.ntmps22
      go_wp2_with fail
      refine (HC _).mono ?_
      rintro e w1 ⟨rfl, k1⟩
      have X1 := k1.block _ _ HB.out (fun x => x.elim)
      have q0 := blk_at X1 0 rfl
      have q1 := blk_at X1 1 rfl
      have q2 := blk_at X1 2 rfl
      have q3 := blk_at X1 3 rfl
      have q4 := blk_at X1 4 rfl
      have q5 := blk_at X1 5 rfl
      have q6 := blk_at X1 6 rfl
      clear X1
      go_wp2
      all_goals go_ret2
      all_goals exact ⟨rfl, ((Kept.refl _ _).alloc _).trans k1⟩
    · go_enter Try.func22, Try.ntmps22
      go_wp2_with fail
      refine (HC _).mono ?_
      rintro e w1 ⟨rfl, k1⟩
      have X1 := k1.block _ _ HB.out (fun x => x.elim)
      have q0 := blk_at X1 0 rfl
      have q1 := blk_at X1 1 rfl
      have q2 := blk_at X1 2 rfl
      have q3 := blk_at X1 3 rfl
      have q4 := blk_at X1 4 rfl
      have q5 := blk_at X1 5 rfl
      have q6 := blk_at X1 6 rfl
      clear X1
      go_wp2
      all_goals go_ret2
      all_goals exact ⟨rfl, ((Kept.refl _ _).alloc _).trans k1⟩
    · go_enter Try.func22, Try.ntmps22
      go_wp2_with fail
      refine (HC _).mono ?_
      rintro e w1 ⟨rfl, k1⟩
      have X1 := k1.block _ _ HB.out (fun x => x.elim)
      have q0 := blk_at X1 0 rfl
      have q1 := blk_at X1 1 rfl
      have q2 := blk_at X1 2 rfl
      have q3 := blk_at X1 3 rfl
      have q4 := blk_at X1 4 rfl
      have q5 := blk_at X1 5 rfl
      have q6 := blk_at X1 6 rfl
      clear X1
      go_wp2
      all_goals go_ret2
      all_goals exact ⟨rfl, ((Kept.refl _ _).alloc _).trans k1⟩

theorem refPutRequest_any (cl nm kd ifv tm : Int) (key val : List UInt8) (w : World) (hk : key.length ≤ maxLen) (hv : val.length ≤ maxLen) :
    Calls Try.prog 22 #[.agg #[.int .i64 cl, .int .i64 nm, .int .i64 kd, .string (bs key), .string (bs val), .int .i64 ifv, .int .i64 tm]] w fun e w' => e = .returned (.tuple #[.string (bs (putReq ⟨cl, nm, kd, key, val, ifv, tm⟩).1), .int .i64 (putReq ⟨cl, nm, kd, key, val, ifv, tm⟩).2]) ∧ Kept Nil w w' := by
  cases hq : Rq.ok ⟨cl, nm, kd, key, val, ifv, tm⟩ with
  | false => rw [putReq_no hq]; exact refPutRequest_not cl nm kd ifv tm key val w hk hv hq
  | true =>
    rw [putReq_ok hq]
    obtain ⟨a1, a2, a3, a4, a5, a6, a7⟩ := ok_facts hq
    have b1 := (isNum_nat a1).1
    have b2 := (isNum_nat a2).1
    have b3 := (isNum_nat a3).1
    have b4 := (isNum_nat a4).1
    have b5 := (isNum_nat a5).1
    simp only at b1 b2 b3 b4 b5
    have H := refPutRequest_yes cl.toNat nm.toNat kd.toNat ifv.toNat tm.toNat key val w (by rw [b1, b2, b3, b4, b5]; exact hq)
    rw [b1, b2, b3, b4, b5] at H
    exact H

end Go.Proofs.Ytihgefdpnokoeaa
