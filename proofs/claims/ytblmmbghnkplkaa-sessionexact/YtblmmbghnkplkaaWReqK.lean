/-
  The document's PutRequest (WReq7 and WReq8 without the readers).
-/
import Derived.Test.YtblmmbghnkplkaaWOlf
import Derived.Test.YtblmmbghnkplkaaWCmdR
import Derived.Test.YtblmmbghnkplkaaWTab10
namespace Go.Proofs.Ytblmmbghnkplkaa
open Go.RowKit


theorem putReq_ok {q : Rq} (h : q.ok = true) : putReq q = (encReq q.cl.toNat q.nm.toNat q.kd.toNat q.key q.val q.ifv.toNat q.tm.toNat, 0) := by unfold putReq; rw [h]; rfl
theorem putReq_no {q : Rq} (h : q.ok = false) : putReq q = ([], 5) := by unfold putReq; rw [h]; rfl
theorem enc3 (a b c : Nat) : encAll [a, b, c] = enc a ++ enc b ++ enc c := by simp [encAll]

set_option maxRecDepth 100000 in
set_option maxHeartbeats 4000000 in
theorem refPutRequest_yes (cl nm kd ifv tm : Nat) (key val : List UInt8) (w : World) (h : Rq.ok ⟨cl, nm, kd, key, val, ifv, tm⟩ = true) :
    Calls Try.prog 90 #[.agg #[.int .i64 cl, .int .i64 nm, .int .i64 kd, .string (bs key), .string (bs val), .int .i64 ifv, .int .i64 tm]] w fun e w' => e = .returned (.tuple #[.string (bs (encReq cl nm kd key val ifv tm)), .int .i64 0]) ∧ Kept Nil w w' := by
  obtain ⟨a1, a2, a3, a4, a5, a6, a7⟩ := ok_facts h
  simp only at a1 a2 a3 a4 a5 a6 a7
  have b1 := (isNum_nat a1).2
  have b2 := (isNum_nat a2).2
  have b3 := (isNum_nat a3).2
  have b4 := (isNum_nat a4).2
  have b5 := (isNum_nat a5).2
  simp only [Int.toNat_natCast] at b1 b2 b3 b4 b5
  have N1 := fun w => refNum_any cl b1 w
  have N2 := fun w => refNum_any nm b2 w
  have N3 := fun w => refNum_any tm b3 w
  have N4 := fun w => refNum_any kd b4 w
  have N5 := fun w => refNum_any ifv b5 w
  have X1 := fun w => refTextOf_any key w (by omega)
  have X2 := fun w => refTextOf_any val w (by omega)
  have l1 := enc_len6 b1
  have l2 := enc_len6 b2
  have l3 := enc_len6 b3
  have l4 := enc_len6 b4
  have l5 := enc_len6 b5
  have l6 : (encText key).length ≤ 22 := by have := encText_len (l := key) (by omega); omega
  have l7 : (encText val).length ≤ 70 := by have := encText_len (l := val) (by omega); omega
  have HC := fun w => refIsCommand_any kd ifv key val w (by unfold maxLen; omega) (by unfold maxLen; omega)
  have hap := bs_append
  have hsz := bs_size
  have ht := bs_toList
  have B1 : (cl : Int) ≤ 1099511627775 := by omega
  have B2 : (nm : Int) ≤ 1099511627775 := by omega
  have B3 : (tm : Int) ≤ 1099511627775 := by omega
  have HB : Hid (_) := blk_new w (.cells #[.int .i64 cl, .int .i64 nm, .int .i64 kd, .string (bs key), .string (bs val), .int .i64 ifv, .int .i64 tm] 75)
  clear a1 a2 a3 a4 a5 a6 a7 b1 b2 b3 b4 b5
  by_cases c0 : cl = 0
  · subst c0
    have hn : Rq.none ⟨(0 : Nat), nm, kd, key, val, ifv, tm⟩ = true := by
      unfold Rq.ok at h
      simp only [Bool.and_eq_true] at h
      have := h.2
      rwa [if_pos (by rfl)] at this
    unfold Rq.none at hn
    simp only [Bool.and_eq_true, decide_eq_true_eq, List.isEmpty_iff] at hn
    obtain ⟨⟨⟨d1, d2⟩, d3⟩, d4⟩ := hn
    obtain rfl : kd = 0 := by omega
    obtain rfl : ifv = 0 := by omega
    subst d2 d3
    have hz : isCmd ((0 : Nat) : Int) [] [] ((0 : Nat) : Int) = false := by decide
    rw [hz] at HC
    have HE : Hid (encReq 0 nm 0 [] [] 0 tm = enc 0 ++ (enc nm ++ enc tm)) := by show encReq 0 nm 0 [] [] 0 tm = _; unfold encReq; rw [enc3, if_pos rfl, List.append_nil, List.append_assoc]
    rw [HE.out]
    clear d1 d4 h hz
    go_enter Try.func90, Try.ntmps90
    go_wp2_with fail
    refine (HC _).mono ?_
    rintro e w1 ⟨rfl, k1⟩
    have X1b : Hid (_) := k1.block _ _ HB.out (fun x => x.elim)
    have q1_0 := blk_at X1b.out 0 rfl
    have q1_1 := blk_at X1b.out 1 rfl
    have q1_2 := blk_at X1b.out 2 rfl
    have q1_3 := blk_at X1b.out 3 rfl
    have q1_4 := blk_at X1b.out 4 rfl
    have q1_5 := blk_at X1b.out 5 rfl
    have q1_6 := blk_at X1b.out 6 rfl
    go_wp2_with fail
    refine (N1 _).mono ?_
    rintro e w2 ⟨rfl, k2⟩
    have X2b : Hid (_) := k2.block _ _ X1b.out (fun x => x.elim)
    have q2_0 := blk_at X2b.out 0 rfl
    have q2_1 := blk_at X2b.out 1 rfl
    have q2_6 := blk_at X2b.out 6 rfl
    clear q1_0 q1_1 q1_2 q1_3 q1_4 q1_5 q1_6
    go_wp2_with fail
    refine (N2 _).mono ?_
    rintro e w3 ⟨rfl, k3⟩
    have X3b : Hid (_) := k3.block _ _ X2b.out (fun x => x.elim)
    have q3_0 := blk_at X3b.out 0 rfl
    have q3_6 := blk_at X3b.out 6 rfl
    clear q2_0 q2_1 q2_6
    go_wp2_with fail
    refine (N3 _).mono ?_
    rintro e w4 ⟨rfl, k4⟩
    have X4b : Hid (_) := k4.block _ _ X3b.out (fun x => x.elim)
    have q4_0 := blk_at X4b.out 0 rfl
    clear q3_0 q3_6
    go_wp2
    go_ret2
    refine ⟨rfl, ?_⟩
    exact ((((Kept.refl _ _).alloc _).trans k1).trans k2).trans (k3.trans k4)
  · have hn : isCmd kd key val ifv = true := by
      unfold Rq.ok at h
      simp only [Bool.and_eq_true] at h
      have := h.2
      rwa [if_neg (by omega)] at this
    rw [hn] at HC
    have HE : Hid (encReq cl nm kd key val ifv tm = enc cl ++ (enc nm ++ (enc tm ++ (enc kd ++ (encText key ++ (encText val ++ enc ifv)))))) := by show encReq cl nm kd key val ifv tm = _; unfold encReq encCmd; rw [enc3, if_neg c0]; simp only [List.append_assoc]
    rw [HE.out]
    have hkd : ¬ kd = 0 := by rintro rfl; simp [isCmd] at hn
    have hkd' : ((kd : Int) == 0) = false := by simpa using hkd
    have c1 : ((cl : Int) == 0) = false := by simpa using c0
    have c2 : ((cl : Int) != 0) = true := by simpa using c0
    clear h hn c0
    go_enter Try.func90, Try.ntmps90
    go_wp2_with fail
    refine (HC _).mono ?_
    rintro e w1 ⟨rfl, k1⟩
    have X1b : Hid (_) := k1.block _ _ HB.out (fun x => x.elim)
    have q1_0 := blk_at X1b.out 0 rfl
    have q1_1 := blk_at X1b.out 1 rfl
    have q1_2 := blk_at X1b.out 2 rfl
    have q1_3 := blk_at X1b.out 3 rfl
    have q1_4 := blk_at X1b.out 4 rfl
    have q1_5 := blk_at X1b.out 5 rfl
    have q1_6 := blk_at X1b.out 6 rfl
    go_wp2_with fail
    all_goals refine (N1 _).mono ?_
    all_goals rintro e w2 ⟨rfl, k2⟩
    all_goals have X2b : Hid (_) := k2.block _ _ X1b.out (fun x => x.elim)
    all_goals have q2_0 := blk_at X2b.out 0 rfl
    all_goals have q2_1 := blk_at X2b.out 1 rfl
    all_goals have q2_6 := blk_at X2b.out 6 rfl
    all_goals go_wp2_with fail
    all_goals refine (N2 _).mono ?_
    all_goals rintro e w3 ⟨rfl, k3⟩
    all_goals have X3b : Hid (_) := k3.block _ _ X2b.out (fun x => x.elim)
    all_goals have q3_0 := blk_at X3b.out 0 rfl
    all_goals have q3_6 := blk_at X3b.out 6 rfl
    all_goals go_wp2_with fail
    all_goals refine (N3 _).mono ?_
    all_goals rintro e w4 ⟨rfl, k4⟩
    all_goals have X4b : Hid (_) := k4.block _ _ X3b.out (fun x => x.elim)
    all_goals have q4_0 := blk_at X4b.out 0 rfl
    all_goals have q4_2 := blk_at X4b.out 2 rfl
    all_goals go_wp2_with fail
    all_goals refine (N4 _).mono ?_
    all_goals rintro e w5 ⟨rfl, k5⟩
    all_goals have X5b : Hid (_) := k5.block _ _ X4b.out (fun x => x.elim)
    all_goals have q5_3 := blk_at X5b.out 3 rfl
    all_goals go_wp2_with fail
    all_goals refine (X1 _).mono ?_
    all_goals rintro e w6 ⟨rfl, k6⟩
    all_goals have X6b : Hid (_) := k6.block _ _ X5b.out (fun x => x.elim)
    all_goals have q6_4 := blk_at X6b.out 4 rfl
    all_goals go_wp2_with fail
    all_goals refine (X2 _).mono ?_
    all_goals rintro e w7 ⟨rfl, k7⟩
    all_goals have X7b : Hid (_) := k7.block _ _ X6b.out (fun x => x.elim)
    all_goals have q7_5 := blk_at X7b.out 5 rfl
    all_goals go_wp2_with fail
    all_goals refine (N5 _).mono ?_
    all_goals rintro e w8 ⟨rfl, k8⟩
    all_goals have X8b : Hid (_) := k8.block _ _ X7b.out (fun x => x.elim)
    all_goals go_wp2
    all_goals go_ret2
    all_goals refine ⟨rfl, ?_⟩
    all_goals exact (((((((((Kept.refl _ _).alloc _).trans k1).trans k2).trans k3).trans k4).trans k5).trans k6).trans k7).trans k8



set_option maxRecDepth 100000 in
set_option maxHeartbeats 8000000 in
theorem refPutRequest_not (cl nm kd ifv tm : Int) (key val : List UInt8) (w : World) (hk : key.length ≤ maxLen) (hv : val.length ≤ maxLen) (h : Rq.ok ⟨cl, nm, kd, key, val, ifv, tm⟩ = false) :
    Calls Try.prog 90 #[.agg #[.int .i64 cl, .int .i64 nm, .int .i64 kd, .string (bs key), .string (bs val), .int .i64 ifv, .int .i64 tm]] w fun e w' => e = .returned (.tuple #[.string (bs []), .int .i64 5]) ∧ Kept Nil w w' := by
  have HC := fun w => refIsCommand_any kd ifv key val w hk hv
  have ht := bs_toList
  have HB : Hid (_) := blk_new w (.cells #[.int .i64 cl, .int .i64 nm, .int .i64 kd, .string (bs key), .string (bs val), .int .i64 ifv, .int .i64 tm] 75)
  by_cases hnum : isNum cl = true ∧ isNum nm = true ∧ isNum tm = true
  · obtain ⟨e1, e2, e3⟩ := hnum
    have b1 := isNum_nat e1
    have b2 := isNum_nat e2
    have b3 := isNum_nat e3
    have B1 : 0 ≤ cl := by omega
    have B2 : cl ≤ 1099511627775 := by omega
    have B3 : 0 ≤ nm := by omega
    have B4 : nm ≤ 1099511627775 := by omega
    have B5 : 0 ≤ tm := by omega
    have B6 : tm ≤ 1099511627775 := by omega
    by_cases c0 : cl = 0
    · have hn : Rq.none ⟨cl, nm, kd, key, val, ifv, tm⟩ = false := by
        unfold Rq.ok at h
        simp only [e1, e2, e3, Bool.and_self, Bool.true_and] at h
        rwa [if_pos c0] at h
      unfold Rq.none at hn
      generalize isCmd kd key val ifv = okb at HC
      subst c0
      clear h hk hv e1 e2 e3 b1 b2 b3
      by_cases d1 : kd = 0
      · subst d1
        by_cases d2 : key = []
        · subst d2
          by_cases d3 : val = []
          · subst d3
            have d4 : ¬ ifv = 0 := by simpa using hn
            have d5 : (ifv == 0) = false := by simpa using d4
            clear hn d4
            go_enter Try.func90, Try.ntmps90
            go_wp2_with fail
            refine (HC _).mono ?_
            rintro e w1 ⟨rfl, k1⟩
            have X1 := k1.block _ _ HB.out (fun x => x.elim)
            have q0 := blk_at X1 0 rfl
            have q1 := blk_at X1 1 rfl
            have q2 := blk_at X1 2 rfl
            have q3 := blk_at X1 3 rfl
            have q4 := blk_at X1 4 rfl
            have q5 := blk_at X1 5 rfl
            have q6 := blk_at X1 6 rfl
            clear X1
            go_wp2
            all_goals go_ret2
            all_goals exact ⟨rfl, ((Kept.refl _ _).alloc _).trans k1⟩
          · have d5 : val.isEmpty = false := by simpa using d3
            clear hn
            go_enter Try.func90, Try.ntmps90
            go_wp2_with fail
            refine (HC _).mono ?_
            rintro e w1 ⟨rfl, k1⟩
            have X1 := k1.block _ _ HB.out (fun x => x.elim)
            have q0 := blk_at X1 0 rfl
            have q1 := blk_at X1 1 rfl
            have q2 := blk_at X1 2 rfl
            have q3 := blk_at X1 3 rfl
            have q4 := blk_at X1 4 rfl
            have q5 := blk_at X1 5 rfl
            have q6 := blk_at X1 6 rfl
            clear X1
            go_wp2
            all_goals go_ret2
            all_goals exact ⟨rfl, ((Kept.refl _ _).alloc _).trans k1⟩
        · have d5 : key.isEmpty = false := by simpa using d2
          clear hn
          go_enter Try.func90, Try.ntmps90
          go_wp2_with fail
          refine (HC _).mono ?_
          rintro e w1 ⟨rfl, k1⟩
          have X1 := k1.block _ _ HB.out (fun x => x.elim)
          have q0 := blk_at X1 0 rfl
          have q1 := blk_at X1 1 rfl
          have q2 := blk_at X1 2 rfl
          have q3 := blk_at X1 3 rfl
          have q4 := blk_at X1 4 rfl
          have q5 := blk_at X1 5 rfl
          have q6 := blk_at X1 6 rfl
          clear X1
          go_wp2
          all_goals go_ret2
          all_goals exact ⟨rfl, ((Kept.refl _ _).alloc _).trans k1⟩
      · have d5 : (kd == 0) = false := by simpa using d1
        clear hn
        go_enter Try.func90, Try.ntmps90
        go_wp2_with fail
        refine (HC _).mono ?_
        rintro e w1 ⟨rfl, k1⟩
        have X1 := k1.block _ _ HB.out (fun x => x.elim)
        have q0 := blk_at X1 0 rfl
        have q1 := blk_at X1 1 rfl
        have q2 := blk_at X1 2 rfl
        have q3 := blk_at X1 3 rfl
        have q4 := blk_at X1 4 rfl
        have q5 := blk_at X1 5 rfl
        have q6 := blk_at X1 6 rfl
        clear X1
        go_wp2
        all_goals go_ret2
        all_goals exact ⟨rfl, ((Kept.refl _ _).alloc _).trans k1⟩
    · have hn : isCmd kd key val ifv = false := by
        unfold Rq.ok at h
        simp only [e1, e2, e3, Bool.and_self, Bool.true_and] at h
        rwa [if_neg c0] at h
      rw [hn] at HC
      have c1 : (cl == 0) = false := by simpa using c0
      have c2 : (cl != 0) = true := by simpa using c0
      clear h hk hv e1 e2 e3 b1 b2 b3 hn c0
      go_enter Try.func90, Try.ntmps90
      go_wp2_with fail
      refine (HC _).mono ?_
      rintro e w1 ⟨rfl, k1⟩
      have X1 := k1.block _ _ HB.out (fun x => x.elim)
      have q0 := blk_at X1 0 rfl
      have q1 := blk_at X1 1 rfl
      have q2 := blk_at X1 2 rfl
      have q3 := blk_at X1 3 rfl
      have q4 := blk_at X1 4 rfl
      have q5 := blk_at X1 5 rfl
      have q6 := blk_at X1 6 rfl
      clear X1
      go_wp2
      all_goals go_ret2
      all_goals exact ⟨rfl, ((Kept.refl _ _).alloc _).trans k1⟩
  · have hr : cl < 0 ∨ 1099511627775 < cl ∨ (0 ≤ cl ∧ cl ≤ 1099511627775 ∧ (nm < 0 ∨ 1099511627775 < nm ∨ (0 ≤ nm ∧ nm ≤ 1099511627775 ∧ (tm < 0 ∨ 1099511627775 < tm)))) := by
      simp only [isNum, Bool.and_eq_true, decide_eq_true_eq] at hnum
      omega
    generalize isCmd kd key val ifv = okb at HC
    clear h hk hv hnum
    rcases hr with g | g | ⟨g1, g2, g | g | ⟨g3, g4, g | g⟩⟩
    · go_enter Try.func90, Try.ntmps90
      go_wp2_with fail
      refine (HC _).mono ?_
      rintro e w1 ⟨rfl, k1⟩
      have X1 := k1.block _ _ HB.out (fun x => x.elim)
      have q0 := blk_at X1 0 rfl
      have q1 := blk_at X1 1 rfl
      have q2 := blk_at X1 2 rfl
      have q3 := blk_at X1 3 rfl
      have q4 := blk_at X1 4 rfl
      have q5 := blk_at X1 5 rfl
      have q6 := blk_at X1 6 rfl
      clear X1
      go_wp2
      all_goals go_ret2
      all_goals exact ⟨rfl, ((Kept.refl _ _).alloc _).trans k1⟩
    · go_enter Try.func90, Try.ntmps90
      go_wp2_with fail
      refine (HC _).mono ?_
      rintro e w1 ⟨rfl, k1⟩
      have X1 := k1.block _ _ HB.out (fun x => x.elim)
      have q0 := blk_at X1 0 rfl
      have q1 := blk_at X1 1 rfl
      have q2 := blk_at X1 2 rfl
      have q3 := blk_at X1 3 rfl
      have q4 := blk_at X1 4 rfl
      have q5 := blk_at X1 5 rfl
      have q6 := blk_at X1 6 rfl
      clear X1
      go_wp2
      all_goals go_ret2
      all_goals exact ⟨rfl, ((Kept.refl _ _).alloc _).trans k1⟩
    · go_enter Try.func90, Try.ntmps90
      go_wp2_with fail
      refine (HC _).mono ?_
      rintro e w1 ⟨rfl, k1⟩
      have X1 := k1.block _ _ HB.out (fun x => x.elim)
      have q0 := blk_at X1 0 rfl
      have q1 := blk_at X1 1 rfl
      have q2 := blk_at X1 2 rfl
      have q3 := blk_at X1 3 rfl
      have q4 := blk_at X1 4 rfl
      have q5 := blk_at X1 5 rfl
      have q6 := blk_at X1 6 rfl
      clear X1
      go_wp2
      all_goals go_ret2
      all_goals exact ⟨rfl, ((Kept.refl _ _).alloc _).trans k1⟩
    · go_enter Try.func90, Try.ntmps90
      go_wp2_with fail
      refine (HC _).mono ?_
      rintro e w1 ⟨rfl, k1⟩
      have X1 := k1.block _ _ HB.out (fun x => x.elim)
      have q0 := blk_at X1 0 rfl
      have q1 := blk_at X1 1 rfl
      have q2 := blk_at X1 2 rfl
      have q3 := blk_at X1 3 rfl
      have q4 := blk_at X1 4 rfl
      have q5 := blk_at X1 5 rfl
      have q6 := blk_at X1 6 rfl
      clear X1
      go_wp2
      all_goals go_ret2
      all_goals exact ⟨rfl, ((Kept.refl _ _).alloc _).trans k1⟩
    · go_enter Try.func90, Try.ntmps90
      go_wp2_with fail
      refine (HC _).mono ?_
      rintro e w1 ⟨rfl, k1⟩
      have X1 := k1.block _ _ HB.out (fun x => x.elim)
      have q0 := blk_at X1 0 rfl
      have q1 := blk_at X1 1 rfl
      have q2 := blk_at X1 2 rfl
      have q3 := blk_at X1 3 rfl
      have q4 := blk_at X1 4 rfl
      have q5 := blk_at X1 5 rfl
      have q6 := blk_at X1 6 rfl
      clear X1
      go_wp2
      all_goals go_ret2
      all_goals exact ⟨rfl, ((Kept.refl _ _).alloc _).trans k1⟩
    · go_enter Try.func90, Try.ntmps90
      go_wp2_with fail
      refine (HC _).mono ?_
      rintro e w1 ⟨rfl, k1⟩
      have X1 := k1.block _ _ HB.out (fun x => x.elim)
      have q0 := blk_at X1 0 rfl
      have q1 := blk_at X1 1 rfl
      have q2 := blk_at X1 2 rfl
      have q3 := blk_at X1 3 rfl
      have q4 := blk_at X1 4 rfl
      have q5 := blk_at X1 5 rfl
      have q6 := blk_at X1 6 rfl
      clear X1
      go_wp2
      all_goals go_ret2
      all_goals exact ⟨rfl, ((Kept.refl _ _).alloc _).trans k1⟩

theorem refPutRequest_any (cl nm kd ifv tm : Int) (key val : List UInt8) (w : World) (hk : key.length ≤ maxLen) (hv : val.length ≤ maxLen) :
    Calls Try.prog 90 #[.agg #[.int .i64 cl, .int .i64 nm, .int .i64 kd, .string (bs key), .string (bs val), .int .i64 ifv, .int .i64 tm]] w fun e w' => e = .returned (.tuple #[.string (bs (putReq ⟨cl, nm, kd, key, val, ifv, tm⟩).1), .int .i64 (putReq ⟨cl, nm, kd, key, val, ifv, tm⟩).2]) ∧ Kept Nil w w' := by
  cases hq : Rq.ok ⟨cl, nm, kd, key, val, ifv, tm⟩ with
  | false => rw [putReq_no hq]; exact refPutRequest_not cl nm kd ifv tm key val w hk hv hq
  | true =>
    rw [putReq_ok hq]
    obtain ⟨a1, a2, a3, a4, a5, a6, a7⟩ := ok_facts hq
    have b1 := (isNum_nat a1).1
    have b2 := (isNum_nat a2).1
    have b3 := (isNum_nat a3).1
    have b4 := (isNum_nat a4).1
    have b5 := (isNum_nat a5).1
    simp only at b1 b2 b3 b4 b5
    have H := refPutRequest_yes cl.toNat nm.toNat kd.toNat ifv.toNat tm.toNat key val w (by rw [b1, b2, b3, b4, b5]; exact hq)
    rw [b1, b2, b3, b4, b5] at H
    exact H

end Go.Proofs.Ytblmmbghnkplkaa
