/-
  Joined: WCmdR.
-/
import Derived.Test.YtflnjlbafchnaaaGreatDoorQ08
/-
  The document's IsCommand: the same plain test.
-/
namespace Go.Proofs.YtflnjlbafchnaaaGreatDoor
open Go.RowKit

theorem isNum_neg {i : Int} (h : i < 0) : isNum i = false := by simp [isNum]; omega
theorem isNum_big {i : Int} (h : 1099511627775 < i) : isNum i = false := by simp [isNum]; omega
theorem isNum_ok {i : Int} (h : 0 ≤ i) (h2 : i ≤ 1099511627775) : isNum i = true := by simp [isNum, h, h2]

set_option maxRecDepth 100000 in
set_option maxHeartbeats 4000000 in
theorem refIsCommand_any (k i : Int) (key val : List UInt8) (w : World) (hk : key.length ≤ maxLen) (hv : val.length ≤ maxLen) :
    Calls Tryz.prog 82 #[.agg #[.int .i64 k, .string (bs key), .string (bs val), .int .i64 i]] w fun e w' => e = .returned (.bool (isCmd k key val i)) ∧ Kept Nil w w' := by
  have z1 := bs_size key
  have z2 := bs_size val
  have ht := bs_toList
  unfold maxLen at hk hv
  rcases (show k < 1 ∨ 6 < k ∨ k = 1 ∨ k = 2 ∨ k = 3 ∨ k = 4 ∨ k = 5 ∨ k = 6 by omega) with h | h | hk6
  · have n1 : k ≠ 1 := by omega
    have n2 : k ≠ 2 := by omega
    have n3 : k ≠ 3 := by omega
    have n4 : k ≠ 4 := by omega
    have n5 : k ≠ 5 := by omega
    have n6 : k ≠ 6 := by omega
    have HR : Hid (isCmd k key val i = false) := by show isCmd k key val i = false; simp [isCmd, n1, n2, n3, n4, n5, n6]
    clear n1 n2 n3 n4 n5 n6
    go_enter Tryz.func82, Tryz.ntmps82
    go_wp2
    all_goals go_ret
    all_goals exact ⟨ret_bool (by first | (simp [HR.out]; done) | simp [HR.out, *]), (Kept.refl _ _).alloc _⟩
  · have n1 : k ≠ 1 := by omega
    have n2 : k ≠ 2 := by omega
    have n3 : k ≠ 3 := by omega
    have n4 : k ≠ 4 := by omega
    have n5 : k ≠ 5 := by omega
    have n6 : k ≠ 6 := by omega
    have HR : Hid (isCmd k key val i = false) := by show isCmd k key val i = false; simp [isCmd, n1, n2, n3, n4, n5, n6]
    clear n1 n2 n3 n4 n5 n6
    go_enter Tryz.func82, Tryz.ntmps82
    go_wp2
    all_goals go_ret
    all_goals exact ⟨ret_bool (by first | (simp [HR.out]; done) | simp [HR.out, *]), (Kept.refl _ _).alloc _⟩
  · have g1 : 1 ≤ k := by omega
    have g6 : k ≤ 6 := by omega
    by_cases c1 : key.length ≤ 16
    · by_cases c2 : val.length ≤ 64
      · by_cases c3 : i < 0
        · clear hk6
          have HR : Hid (isNum i = false) := isNum_neg c3
          go_enter Tryz.func82, Tryz.ntmps82
          go_wp2
          all_goals go_ret
          all_goals exact ⟨ret_bool (by first | (simp [isCmd, HR.out]; done) | simp [isCmd, HR.out, *]), (Kept.refl _ _).alloc _⟩
        · by_cases c3b : 1099511627775 < i
          · clear hk6
            have HR : Hid (isNum i = false) := isNum_big c3b
            go_enter Tryz.func82, Tryz.ntmps82
            go_wp2
            all_goals go_ret
            all_goals exact ⟨ret_bool (by first | (simp [isCmd, HR.out]; done) | simp [isCmd, HR.out, *]), (Kept.refl _ _).alloc _⟩
          · have C3 : Hid (isNum i = true) := isNum_ok (by omega) (by omega)
            clear g1 g6
            rcases hk6 with rfl | rfl | rfl | rfl | rfl | rfl
            · by_cases c5 : i = 0
              · subst c5
                clear C3
                go_enter Tryz.func82, Tryz.ntmps82
                go_wp2
                all_goals go_ret
                all_goals exact ⟨ret_bool (by first | (simp [isCmd, isNum, c1, c2]; done) | simp [isCmd, isNum, *]), (Kept.refl _ _).alloc _⟩
              · have c6 : (i != 0) = true := by simpa using c5
                go_enter Tryz.func82, Tryz.ntmps82
                go_wp2
                all_goals go_ret
                all_goals exact ⟨ret_bool (by first | (simp [isCmd, c5]; done) | simp [isCmd, *]), (Kept.refl _ _).alloc _⟩
            · by_cases c4 : val = []
              · subst c4
                by_cases c5 : i = 0
                · subst c5
                  clear C3
                  go_enter Tryz.func82, Tryz.ntmps82
                  go_wp2
                  all_goals go_ret
                  all_goals exact ⟨ret_bool (by first | (simp [isCmd, isNum, c1]; done) | simp [isCmd, isNum, *]), (Kept.refl _ _).alloc _⟩
                · have c6 : (i != 0) = true := by simpa using c5
                  go_enter Tryz.func82, Tryz.ntmps82
                  go_wp2
                  all_goals go_ret
                  all_goals exact ⟨ret_bool (by first | (simp [isCmd, c5]; done) | simp [isCmd, *]), (Kept.refl _ _).alloc _⟩
              · have c6 : val.isEmpty = false := by simpa using c4
                clear c4
                go_enter Tryz.func82, Tryz.ntmps82
                go_wp2
                all_goals go_ret
                all_goals exact ⟨ret_bool (by first | (simp [isCmd, c6]; done) | simp [isCmd, *]), (Kept.refl _ _).alloc _⟩
            · by_cases c4 : val = []
              · subst c4
                by_cases c5 : i = 0
                · subst c5
                  clear C3
                  go_enter Tryz.func82, Tryz.ntmps82
                  go_wp2
                  all_goals go_ret
                  all_goals exact ⟨ret_bool (by first | (simp [isCmd, isNum, c1]; done) | simp [isCmd, isNum, *]), (Kept.refl _ _).alloc _⟩
                · have c6 : (i != 0) = true := by simpa using c5
                  go_enter Tryz.func82, Tryz.ntmps82
                  go_wp2
                  all_goals go_ret
                  all_goals exact ⟨ret_bool (by first | (simp [isCmd, c5]; done) | simp [isCmd, *]), (Kept.refl _ _).alloc _⟩
              · have c6 : val.isEmpty = false := by simpa using c4
                clear c4
                go_enter Tryz.func82, Tryz.ntmps82
                go_wp2
                all_goals go_ret
                all_goals exact ⟨ret_bool (by first | (simp [isCmd, c6]; done) | simp [isCmd, *]), (Kept.refl _ _).alloc _⟩
            · go_enter Tryz.func82, Tryz.ntmps82
              go_wp2
              all_goals go_ret
              all_goals exact ⟨ret_bool (by first | (simp [isCmd, c1, c2, C3.out]; done) | simp [isCmd, C3.out, *]), (Kept.refl _ _).alloc _⟩
            · by_cases c5 : i = 0
              · subst c5
                clear C3
                go_enter Tryz.func82, Tryz.ntmps82
                go_wp2
                all_goals go_ret
                all_goals exact ⟨ret_bool (by first | (simp [isCmd, isNum, c1, c2]; done) | simp [isCmd, isNum, *]), (Kept.refl _ _).alloc _⟩
              · have c6 : (i != 0) = true := by simpa using c5
                go_enter Tryz.func82, Tryz.ntmps82
                go_wp2
                all_goals go_ret
                all_goals exact ⟨ret_bool (by first | (simp [isCmd, c5]; done) | simp [isCmd, *]), (Kept.refl _ _).alloc _⟩
            · by_cases c4 : val = []
              · subst c4
                go_enter Tryz.func82, Tryz.ntmps82
                go_wp2
                all_goals go_ret
                all_goals exact ⟨ret_bool (by first | (simp [isCmd, c1, C3.out]; done) | simp [isCmd, C3.out, *]), (Kept.refl _ _).alloc _⟩
              · have c6 : val.isEmpty = false := by simpa using c4
                clear c4
                go_enter Tryz.func82, Tryz.ntmps82
                go_wp2
                all_goals go_ret
                all_goals exact ⟨ret_bool (by first | (simp [isCmd, c6]; done) | simp [isCmd, *]), (Kept.refl _ _).alloc _⟩
      · clear hk6
        have C2 : Hid (¬ val.length ≤ 64) := c2
        have c2 : ¬ (val.length : Int) ≤ 64 := by omega
        go_enter Tryz.func82, Tryz.ntmps82
        go_wp2
        all_goals go_ret
        all_goals exact ⟨ret_bool (by first | (simp [isCmd, C2.out]; done) | simp [isCmd, C2.out, *]), (Kept.refl _ _).alloc _⟩
    · clear hk6
      have C1 : Hid (¬ key.length ≤ 16) := c1
      have c1 : ¬ (key.length : Int) ≤ 16 := by omega
      go_enter Tryz.func82, Tryz.ntmps82
      go_wp2
      all_goals go_ret
      all_goals exact ⟨ret_bool (by first | (simp [isCmd, C1.out]; done) | simp [isCmd, C1.out, *]), (Kept.refl _ _).alloc _⟩

end Go.Proofs.YtflnjlbafchnaaaGreatDoor
