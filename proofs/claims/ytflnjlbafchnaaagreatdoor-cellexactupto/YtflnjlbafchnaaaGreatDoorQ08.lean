/-
  Joined: WCmd.
-/
import Derived.Test.YtflnjlbafchnaaaGreatDoorQ00
/-
  Which commands may be: the program's IsCommand and the document's: the same plain test.
-/
namespace Go.Proofs.YtflnjlbafchnaaaGreatDoor
open Go.RowKit

theorem fromTo_one (x : Int) : fromTo 0 [x] = isNum x := by simp [fromTo, isNum]
def isCmd (k : Int) (key val : List UInt8) (i : Int) : Bool :=
  decide (key.length ≤ 16) && decide (val.length ≤ 64) && isNum i &&
    (if k = 6 then val.isEmpty
     else if k = 2 ∨ k = 3 then val.isEmpty && decide (i = 0) && !key.isEmpty
     else if k = 1 ∨ k = 5 then decide (i = 0) && !key.isEmpty
     else if k = 4 then !key.isEmpty else false)
theorem ints1 (w : World) (o : Obj) (x : Int) : IntsAt ((w.alloc o).alloc (.cells #[.int .i64 x] 3)) (w.heap.size + 1) [x] := by
  intro j hj
  obtain rfl : j = 0 := by simp at hj; exact hj
  have := blk_new (w.alloc o) (.cells #[.int .i64 x] 3)
  rw [show (w.alloc o).heap.size = w.heap.size + 1 by simp] at this
  exact blk_cell this 0

set_option maxRecDepth 100000 in
set_option maxHeartbeats 4000000 in
theorem isCommand_any (k i : Int) (key val : List UInt8) (w : World) (hk : key.length ≤ maxLen) (hv : val.length ≤ maxLen) :
    Calls Tryz.prog 69 #[.agg #[.int .i64 k, .string (bs key), .string (bs val), .int .i64 i]] w fun e w' => e = .returned (.bool (isCmd k key val i)) ∧ Kept Nil w w' := by
  have z1 := bs_size key
  have z2 := bs_size val
  have ht := bs_toList
  unfold maxLen at hk hv
  have HN := areNumbers_any (w.heap.size + 1) 1 [i] _ (ints1 w (.cells #[.int .i64 k, .string (bs key), .string (bs val), .int .i64 i] 31) i) (by simp)
  rw [fromTo_one] at HN
  by_cases c1 : key.length ≤ 16
  · by_cases c2 : val.length ≤ 64
    · by_cases c3 : isNum i = true
      · rw [c3] at HN
        rcases (show k = 6 ∨ k = 2 ∨ k = 3 ∨ k = 1 ∨ k = 5 ∨ k = 4 ∨ (k ≠ 6 ∧ k ≠ 2 ∧ k ≠ 3 ∧ k ≠ 1 ∧ k ≠ 5 ∧ k ≠ 4) by omega) with rfl | rfl | rfl | rfl | rfl | rfl | ⟨n6, n2, n3, n1, n5, n4⟩
        · have C3 : Hid (isNum i = true) := c3; clear c3
          go_enter Tryz.func69, Tryz.ntmps69
          go_wp2_with (go_at_call 112; go_must (refine HN.mono ?_); rintro e w1 ⟨rfl, rfl⟩)
          go_ret
          exact ⟨ret_bool (by simp [isCmd, c1, c2, C3.out]), by first | exact (Kept.refl _ _).alloc _ | exact ((Kept.refl _ _).alloc _).alloc _⟩
        · by_cases c4 : val = []
          · subst c4
            by_cases c5 : i = 0
            · subst c5
              clear c3
              go_enter Tryz.func69, Tryz.ntmps69
              go_wp2_with (go_at_call 112; go_must (refine HN.mono ?_); rintro e w1 ⟨rfl, rfl⟩)
              go_ret
              exact ⟨ret_bool (by simp [isCmd, isNum, c1]), by first | exact (Kept.refl _ _).alloc _ | exact ((Kept.refl _ _).alloc _).alloc _⟩
            · have c6 : (i != 0) = true := by simpa using c5
              have C3 : Hid (isNum i = true) := c3; clear c3
              go_enter Tryz.func69, Tryz.ntmps69
              go_wp2_with (go_at_call 112; go_must (refine HN.mono ?_); rintro e w1 ⟨rfl, rfl⟩)
              go_ret
              exact ⟨ret_bool (by simp [isCmd, c1, c5]), by first | exact (Kept.refl _ _).alloc _ | exact ((Kept.refl _ _).alloc _).alloc _⟩
          · have c6 : val.isEmpty = false := by simpa using c4
            clear c4
            have C3 : Hid (isNum i = true) := c3; clear c3
            go_enter Tryz.func69, Tryz.ntmps69
            go_wp2_with (go_at_call 112; go_must (refine HN.mono ?_); rintro e w1 ⟨rfl, rfl⟩)
            go_ret
            exact ⟨ret_bool (by simp [isCmd, c6]), by first | exact (Kept.refl _ _).alloc _ | exact ((Kept.refl _ _).alloc _).alloc _⟩
        · by_cases c4 : val = []
          · subst c4
            by_cases c5 : i = 0
            · subst c5
              clear c3
              go_enter Tryz.func69, Tryz.ntmps69
              go_wp2_with (go_at_call 112; go_must (refine HN.mono ?_); rintro e w1 ⟨rfl, rfl⟩)
              go_ret
              exact ⟨ret_bool (by simp [isCmd, isNum, c1]), by first | exact (Kept.refl _ _).alloc _ | exact ((Kept.refl _ _).alloc _).alloc _⟩
            · have c6 : (i != 0) = true := by simpa using c5
              have C3 : Hid (isNum i = true) := c3; clear c3
              go_enter Tryz.func69, Tryz.ntmps69
              go_wp2_with (go_at_call 112; go_must (refine HN.mono ?_); rintro e w1 ⟨rfl, rfl⟩)
              go_ret
              exact ⟨ret_bool (by simp [isCmd, c1, c5]), by first | exact (Kept.refl _ _).alloc _ | exact ((Kept.refl _ _).alloc _).alloc _⟩
          · have c6 : val.isEmpty = false := by simpa using c4
            clear c4
            have C3 : Hid (isNum i = true) := c3; clear c3
            go_enter Tryz.func69, Tryz.ntmps69
            go_wp2_with (go_at_call 112; go_must (refine HN.mono ?_); rintro e w1 ⟨rfl, rfl⟩)
            go_ret
            exact ⟨ret_bool (by simp [isCmd, c6]), by first | exact (Kept.refl _ _).alloc _ | exact ((Kept.refl _ _).alloc _).alloc _⟩
        · by_cases c5 : i = 0
          · subst c5
            clear c3
            go_enter Tryz.func69, Tryz.ntmps69
            go_wp2_with (go_at_call 112; go_must (refine HN.mono ?_); rintro e w1 ⟨rfl, rfl⟩)
            go_ret
            exact ⟨ret_bool (by simp [isCmd, isNum, c1, c2]), by first | exact (Kept.refl _ _).alloc _ | exact ((Kept.refl _ _).alloc _).alloc _⟩
          · have c6 : (i != 0) = true := by simpa using c5
            have C3 : Hid (isNum i = true) := c3; clear c3
            go_enter Tryz.func69, Tryz.ntmps69
            go_wp2_with (go_at_call 112; go_must (refine HN.mono ?_); rintro e w1 ⟨rfl, rfl⟩)
            go_ret
            exact ⟨ret_bool (by simp [isCmd, c1, c2, c5]), by first | exact (Kept.refl _ _).alloc _ | exact ((Kept.refl _ _).alloc _).alloc _⟩
        · by_cases c5 : i = 0
          · subst c5
            clear c3
            go_enter Tryz.func69, Tryz.ntmps69
            go_wp2_with (go_at_call 112; go_must (refine HN.mono ?_); rintro e w1 ⟨rfl, rfl⟩)
            go_ret
            exact ⟨ret_bool (by simp [isCmd, isNum, c1, c2]), by first | exact (Kept.refl _ _).alloc _ | exact ((Kept.refl _ _).alloc _).alloc _⟩
          · have c6 : (i != 0) = true := by simpa using c5
            have C3 : Hid (isNum i = true) := c3; clear c3
            go_enter Tryz.func69, Tryz.ntmps69
            go_wp2_with (go_at_call 112; go_must (refine HN.mono ?_); rintro e w1 ⟨rfl, rfl⟩)
            go_ret
            exact ⟨ret_bool (by simp [isCmd, c1, c2, c5]), by first | exact (Kept.refl _ _).alloc _ | exact ((Kept.refl _ _).alloc _).alloc _⟩
        · have C3 : Hid (isNum i = true) := c3; clear c3
          go_enter Tryz.func69, Tryz.ntmps69
          go_wp2_with (go_at_call 112; go_must (refine HN.mono ?_); rintro e w1 ⟨rfl, rfl⟩)
          go_ret
          exact ⟨ret_bool (by simp [isCmd, c1, c2, C3.out]), by first | exact (Kept.refl _ _).alloc _ | exact ((Kept.refl _ _).alloc _).alloc _⟩
        · have C3 : Hid (isNum i = true) := c3; clear c3
          go_enter Tryz.func69, Tryz.ntmps69
          go_wp2_with (go_at_call 112; go_must (refine HN.mono ?_); rintro e w1 ⟨rfl, rfl⟩)
          go_ret
          exact ⟨ret_bool (by simp [isCmd, n1, n2, n3, n4, n5, n6]), by first | exact (Kept.refl _ _).alloc _ | exact ((Kept.refl _ _).alloc _).alloc _⟩
      · have c3 : isNum i = false := by simpa using c3
        rw [c3] at HN
        have C3 : Hid (isNum i = false) := c3; clear c3
        go_enter Tryz.func69, Tryz.ntmps69
        go_wp2_with (go_at_call 112; go_must (refine HN.mono ?_); rintro e w1 ⟨rfl, rfl⟩)
        go_ret
        exact ⟨ret_bool (by simp [isCmd, C3.out]), by first | exact (Kept.refl _ _).alloc _ | exact ((Kept.refl _ _).alloc _).alloc _⟩
    · have C2 : Hid (¬ val.length ≤ 64) := c2; have c2 : ¬ (val.length : Int) ≤ 64 := by omega
      go_enter Tryz.func69, Tryz.ntmps69
      go_wp2_with (go_at_call 112; go_must (refine HN.mono ?_); rintro e w1 ⟨rfl, rfl⟩)
      go_ret
      exact ⟨ret_bool (by simp [isCmd, C2.out]), by first | exact (Kept.refl _ _).alloc _ | exact ((Kept.refl _ _).alloc _).alloc _⟩
  · have C1 : Hid (¬ key.length ≤ 16) := c1; have c1 : ¬ (key.length : Int) ≤ 16 := by omega
    go_enter Tryz.func69, Tryz.ntmps69
    go_wp2_with (go_at_call 112; go_must (refine HN.mono ?_); rintro e w1 ⟨rfl, rfl⟩)
    go_ret
    exact ⟨ret_bool (by simp [isCmd, C1.out]), by first | exact (Kept.refl _ _).alloc _ | exact ((Kept.refl _ _).alloc _).alloc _⟩

end Go.Proofs.YtflnjlbafchnaaaGreatDoor
