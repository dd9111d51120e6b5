/-
  Which entries may be, by the program and by the document's answer; an entry written by either.
-/
import Derived.Test.YtijklginabipgaaWOld
import Derived.Deep.QuietTactic
import Derived.BigQuiet
import Derived.RegionCalls
import Derived.Deep.RegionWith
namespace Go.Proofs.Ytijklginabipgaa
open Go.RowKit

/-- An entry, plainly. -/
structure En where
  ix : Int
  tm : Int
  kd : Int
  dt : List UInt8
def isCnt (x : Int) : Bool := decide (1 ≤ x) && decide (x ≤ 1099511627775)
def En.ok (x : En) : Bool := isCnt x.ix && isCnt x.tm && (if x.kd = 0 then x.dt.isEmpty else if x.kd = 1 ∨ x.kd = 2 then decide (x.dt.length ≤ 256) else false)

theorem ints2 (w : World) (o : Obj) (x y : Int) : IntsAt ((w.alloc o).alloc (.cells #[.int .i64 x, .int .i64 y] 3)) (w.heap.size + 1) [x, y] := by
  have hb := blk_new (w.alloc o) (.cells #[.int .i64 x, .int .i64 y] 3)
  rw [show (w.alloc o).heap.size = w.heap.size + 1 by simp] at hb
  intro j hj
  simp at hj
  rcases (show j = 0 ∨ j = 1 by omega) with rfl | rfl
  · exact blk_cell hb 0
  · exact blk_cell hb 1

set_option maxRecDepth 100000 in
set_option maxHeartbeats 2000000 in
theorem isEntry_any (ix tm kd : Int) (dt : List UInt8) (w : World) (hd : dt.length ≤ maxLen) :
    Calls Try.prog 82 #[.agg #[.int .i64 ix, .int .i64 tm, .int .i64 kd, .string (bs dt)]] w fun e w' => e = .returned (.bool (En.ok ⟨ix, tm, kd, dt⟩)) ∧ Kept Nil w w' := by
  have HN := areCounts_any (w.heap.size + 1) 2 [ix, tm] _ (ints2 w (.cells #[.int .i64 ix, .int .i64 tm, .int .i64 kd, .string (bs dt)] 52) ix tm) (by simp)
  have ef : fromTo 1 [ix, tm] = (isCnt ix && isCnt tm) := by simp [fromTo, isCnt]
  rw [ef] at HN
  have ht := bs_toList
  have hsz := bs_size dt
  have hd' : (dt.length : Int) ≤ 9223372036854775807 := by unfold maxLen at hd; omega
  clear hd ef
  by_cases c1 : (isCnt ix && isCnt tm) = true
  · rw [c1] at HN
    have C1 : Hid ((isCnt ix && isCnt tm) = true) := c1
    clear c1
    by_cases k0 : kd = 0
    · subst k0
      have C2 : Hid (En.ok ⟨ix, tm, 0, dt⟩ = dt.isEmpty) := by show En.ok _ = _; unfold En.ok; rw [C1.out]; rfl
      rw [C2.out]
      go_enter Try.func82, Try.ntmps82
      go_wp2_with (first | (go_at_call 140; go_must (refine HN.mono ?_); rintro e w1 ⟨rfl, rfl⟩))
      all_goals go_ret
      all_goals refine ⟨ret_bool ?_, ((Kept.refl _ _).alloc _).alloc _⟩
      all_goals (cases dt <;> simp_all)
    · have k0' : (kd == 0) = false := by simpa using k0
      by_cases k1 : kd = 1 ∨ kd = 2
      · have C2 : Hid (En.ok ⟨ix, tm, kd, dt⟩ = decide (dt.length ≤ 256)) := by show En.ok _ = _; unfold En.ok; rw [C1.out]; simp only [if_neg k0, if_pos k1, Bool.true_and]
        rw [C2.out]
        clear k0
        rcases k1 with rfl | rfl
        · by_cases h : dt.length ≤ 256
          · have h' : (dt.length : Int) ≤ 256 := by omega
            rw [decide_eq_true h]
            clear h
            go_enter Try.func82, Try.ntmps82
            go_wp2_with (first | (go_at_call 140; go_must (refine HN.mono ?_); rintro e w1 ⟨rfl, rfl⟩))
            go_ret
            exact ⟨rfl, ((Kept.refl _ _).alloc _).alloc _⟩
          · have h' : ¬ (dt.length : Int) ≤ 256 := by omega
            rw [decide_eq_false h]
            clear h
            go_enter Try.func82, Try.ntmps82
            go_wp2_with (first | (go_at_call 140; go_must (refine HN.mono ?_); rintro e w1 ⟨rfl, rfl⟩))
            go_ret
            exact ⟨ret_bool (decide_eq_false (by omega)), ((Kept.refl _ _).alloc _).alloc _⟩
        · by_cases h : dt.length ≤ 256
          · have h' : (dt.length : Int) ≤ 256 := by omega
            rw [decide_eq_true h]
            clear h
            go_enter Try.func82, Try.ntmps82
            go_wp2_with (first | (go_at_call 140; go_must (refine HN.mono ?_); rintro e w1 ⟨rfl, rfl⟩))
            go_ret
            exact ⟨rfl, ((Kept.refl _ _).alloc _).alloc _⟩
          · have h' : ¬ (dt.length : Int) ≤ 256 := by omega
            rw [decide_eq_false h]
            clear h
            go_enter Try.func82, Try.ntmps82
            go_wp2_with (first | (go_at_call 140; go_must (refine HN.mono ?_); rintro e w1 ⟨rfl, rfl⟩))
            go_ret
            exact ⟨ret_bool (decide_eq_false (by omega)), ((Kept.refl _ _).alloc _).alloc _⟩
      · have C2 : Hid (En.ok ⟨ix, tm, kd, dt⟩ = false) := by show En.ok _ = _; unfold En.ok; rw [C1.out]; simp only [if_neg k0, if_neg k1, Bool.and_false]
        have k1' : (kd == 1) = false := by simp; omega
        have k2' : (kd == 2) = false := by simp; omega
        rw [C2.out]
        clear k0 k1
        go_enter Try.func82, Try.ntmps82
        go_wp2_with (first | (go_at_call 140; go_must (refine HN.mono ?_); rintro e w1 ⟨rfl, rfl⟩))
        go_ret
        exact ⟨rfl, ((Kept.refl _ _).alloc _).alloc _⟩
  · have c1 : (isCnt ix && isCnt tm) = false := by simpa using c1
    rw [c1] at HN
    have C2 : Hid (En.ok ⟨ix, tm, kd, dt⟩ = false) := by show En.ok _ = _; unfold En.ok; rw [c1]; rfl
    rw [C2.out]
    clear c1
    go_enter Try.func82, Try.ntmps82
    go_wp2_with (first | (go_at_call 140; go_must (refine HN.mono ?_); rintro e w1 ⟨rfl, rfl⟩))
    go_ret
    exact ⟨rfl, ((Kept.refl _ _).alloc _).alloc _⟩

/-! ### the document's -/
set_option maxRecDepth 100000 in
theorem refIn_any (x lo hi : Int) (w : World) :
    Calls Try.prog 143 #[.int .i64 x, .int .i64 lo, .int .i64 hi] w fun e w' => e = .returned (.bool (decide (lo ≤ x) && decide (x ≤ hi))) ∧ w' = w := by
  by_cases h1 : lo ≤ x
  · by_cases h2 : x ≤ hi
    · rw [decide_eq_true h1, decide_eq_true h2]
      go_enter Try.func143, Try.ntmps143
      go_wp2
      go_ret
      exact ⟨rfl, rfl⟩
    · rw [decide_eq_true h1, decide_eq_false h2]
      go_enter Try.func143, Try.ntmps143
      go_wp2
      go_ret
      exact ⟨rfl, rfl⟩
  · rw [decide_eq_false h1]
    go_enter Try.func143, Try.ntmps143
    go_wp2
    go_ret
    exact ⟨rfl, rfl⟩

theorem refCnt_any (x : Int) (w : World) :
    Calls Try.prog 143 #[.int .i64 x, .int .i64 1, .int .i64 1099511627775] w fun e w' => e = .returned (.bool (isCnt x)) ∧ w' = w := refIn_any x 1 1099511627775 w

set_option maxRecDepth 100000 in
set_option maxHeartbeats 2000000 in
theorem refIsEntry_any (ix tm kd : Int) (dt : List UInt8) (w : World) (hd : dt.length ≤ maxLen) :
    Calls Try.prog 84 #[.agg #[.int .i64 ix, .int .i64 tm, .int .i64 kd, .string (bs dt)]] w fun e w' => e = .returned (.bool (En.ok ⟨ix, tm, kd, dt⟩)) ∧ Kept Nil w w' := by
  have I1 := fun w => refCnt_any ix w
  have I2 := fun w => refCnt_any tm w
  have hd' : (dt.length : Int) ≤ 9223372036854775807 := by unfold maxLen at hd; omega
  have ht := bs_toList
  have hsz := bs_size dt
  have HO : Hid (En.ok ⟨ix, tm, kd, dt⟩ = (isCnt ix && isCnt tm && (if kd = 0 then dt.isEmpty else if kd = 1 ∨ kd = 2 then decide (dt.length ≤ 256) else false))) := rfl
  rw [HO.out]
  clear hd HO
  generalize isCnt ix = b1 at *
  generalize isCnt tm = b2 at *
  cases b1 with
  | false =>
    simp only [Bool.false_and]
    go_enter Try.func84, Try.ntmps84
    go_wp2_with fail
    refine (I1 _).mono ?_
    rintro e w1 ⟨rfl, rfl⟩
    go_wp2_with fail
    refine (I2 _).mono ?_
    rintro e w1 ⟨rfl, rfl⟩
    go_wp2
    go_ret
    exact ⟨rfl, (Kept.refl _ _).alloc _⟩
  | true =>
    cases b2 with
    | false =>
      simp only [Bool.and_false, Bool.false_and]
      go_enter Try.func84, Try.ntmps84
      go_wp2_with fail
      refine (I1 _).mono ?_
      rintro e w1 ⟨rfl, rfl⟩
      go_wp2_with fail
      refine (I2 _).mono ?_
      rintro e w1 ⟨rfl, rfl⟩
      go_wp2
      go_ret
      exact ⟨rfl, (Kept.refl _ _).alloc _⟩
    | true =>
      simp only [Bool.true_and]
      by_cases k0 : kd = 0
      · rw [if_pos k0]
        subst k0
        cases hb : dt.isEmpty with
        | true =>
          have he : (dt == []) = true := by cases dt <;> simp_all
          have h : (dt.length : Int) ≤ 256 := by cases dt <;> simp_all
          clear hb
          go_enter Try.func84, Try.ntmps84
          go_wp2_with fail
          refine (I1 _).mono ?_
          rintro e w1 ⟨rfl, rfl⟩
          go_wp2_with fail
          refine (I2 _).mono ?_
          rintro e w1 ⟨rfl, rfl⟩
          go_wp2
          go_ret
          exact ⟨rfl, (Kept.refl _ _).alloc _⟩
        | false =>
          have he : (dt == []) = false := by cases dt <;> simp_all
          clear hb
          by_cases h : (dt.length : Int) ≤ 256
          · go_enter Try.func84, Try.ntmps84
            go_wp2_with fail
            refine (I1 _).mono ?_
            rintro e w1 ⟨rfl, rfl⟩
            go_wp2_with fail
            refine (I2 _).mono ?_
            rintro e w1 ⟨rfl, rfl⟩
            go_wp2
            go_ret
            exact ⟨rfl, (Kept.refl _ _).alloc _⟩
          · go_enter Try.func84, Try.ntmps84
            go_wp2_with fail
            refine (I1 _).mono ?_
            rintro e w1 ⟨rfl, rfl⟩
            go_wp2_with fail
            refine (I2 _).mono ?_
            rintro e w1 ⟨rfl, rfl⟩
            go_wp2
            go_ret
            exact ⟨rfl, (Kept.refl _ _).alloc _⟩
      · rw [if_neg k0]
        have k0' : (kd != 0) = true := by simpa using k0
        by_cases k1 : kd = 1 ∨ kd = 2
        · rw [if_pos k1]
          have g1 : 0 ≤ kd := by omega
          have g2 : kd ≤ 2 := by omega
          clear k0 k1
          by_cases h : dt.length ≤ 256
          · rw [decide_eq_true h]
            have h' : (dt.length : Int) ≤ 256 := by omega
            clear h
            go_enter Try.func84, Try.ntmps84
            go_wp2_with fail
            refine (I1 _).mono ?_
            rintro e w1 ⟨rfl, rfl⟩
            go_wp2_with fail
            refine (I2 _).mono ?_
            rintro e w1 ⟨rfl, rfl⟩
            go_wp2
            go_ret
            exact ⟨rfl, (Kept.refl _ _).alloc _⟩
          · rw [decide_eq_false h]
            have h' : ¬ (dt.length : Int) ≤ 256 := by omega
            clear h
            go_enter Try.func84, Try.ntmps84
            go_wp2_with fail
            refine (I1 _).mono ?_
            rintro e w1 ⟨rfl, rfl⟩
            go_wp2_with fail
            refine (I2 _).mono ?_
            rintro e w1 ⟨rfl, rfl⟩
            go_wp2
            go_ret
            exact ⟨rfl, (Kept.refl _ _).alloc _⟩
        · rw [if_neg k1]
          by_cases g1 : 0 ≤ kd
          · have g2 : ¬ kd ≤ 2 := by omega
            clear k0 k1
            go_enter Try.func84, Try.ntmps84
            go_wp2_with fail
            refine (I1 _).mono ?_
            rintro e w1 ⟨rfl, rfl⟩
            go_wp2_with fail
            refine (I2 _).mono ?_
            rintro e w1 ⟨rfl, rfl⟩
            go_wp2
            go_ret
            exact ⟨rfl, (Kept.refl _ _).alloc _⟩
          · clear k0 k1
            go_enter Try.func84, Try.ntmps84
            go_wp2_with fail
            refine (I1 _).mono ?_
            rintro e w1 ⟨rfl, rfl⟩
            go_wp2_with fail
            refine (I2 _).mono ?_
            rintro e w1 ⟨rfl, rfl⟩
            go_wp2
            go_ret
            exact ⟨rfl, (Kept.refl _ _).alloc _⟩

end Go.Proofs.Ytijklginabipgaa
