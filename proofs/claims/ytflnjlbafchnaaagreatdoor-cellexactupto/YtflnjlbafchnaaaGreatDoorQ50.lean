/-
  Joined: WCh2, WCx5, WCxK, WCxN.
-/
import Derived.Test.YtflnjlbafchnaaaGreatDoorQ48
import Derived.Test.YtflnjlbafchnaaaGreatDoorQ49
import Derived.Test.YtflnjlbafchnaaaGreatDoorQ36
import Derived.Test.YtflnjlbafchnaaaGreatDoorQ40
import Derived.Test.YtflnjlbafchnaaaGreatDoorQ09
import Derived.Test.YtflnjlbafchnaaaGreatDoorRows
/-
  Cells: isCommand, New (the program), where a job may be.
-/
namespace Go.Proofs.YtflnjlbafchnaaaGreatDoor
open Go.RowKit

set_option maxRecDepth 100000 in
set_option maxHeartbeats 4000000 in
theorem cisCommand_any (kd : Int) (k v : List UInt8) (m : Int) (w : World) (hc : isCmd kd k v m = true) (h6 : kd ≠ 6) (hk : k.length ≤ 15) (hv : v.length ≤ 32) :
    Calls Tryz.prog 76 #[.agg #[.int .i64 kd, .string (bs k), .string (bs v), .int .i64 m]] w fun e w' => e = .returned (.bool true) ∧ Kept Nil w w' := by
  obtain ⟨W, hW⟩ : ∃ W, W = w.alloc (.cells #[.int .i64 kd, .string (bs k), .string (bs v), .int .i64 m] 31) := ⟨_, rfl⟩
  obtain ⟨A, HAe⟩ : ∃ A, Hid (A = w.heap.size) := ⟨_, rfl⟩
  have KW : Hid (Kept Nil w W) := by rw [hW]; exact (Kept.refl _ _).alloc _
  have HA : Hid (W.heap[A]? = some (.cells #[.int .i64 kd, .string (bs k), .string (bs v), .int .i64 m] 31 (0, 0))) := by rw [hW, HAe.out]; exact blk_new _ _
  have IC := isCommand_any kd m k v W (by unfold maxLen; omega) (by unfold maxLen; omega)
  rw [hc] at IC
  have a0 : W.cell? ⟨A, 0, none⟩ = some (.int .i64 kd) := blk_at HA.out 0 rfl
  have a1 : W.cell? ⟨A, 1, none⟩ = some (.string (bs k)) := blk_at HA.out 1 rfl
  have a2 : W.cell? ⟨A, 2, none⟩ = some (.string (bs v)) := blk_at HA.out 2 rfl
  have a3 : W.cell? ⟨A, 3, none⟩ = some (.int .i64 m) := blk_at HA.out 3 rfl
  go_enter Tryz.func76, Tryz.ntmps76
  go_upto_region 1 with fail
  rw [← hW, ← HAe.out]
  clear hW
  go_wp2_with fail
  go_fit IC
  rintro _ w1 ⟨rfl, k1⟩
  have HA1 : Hid (w1.heap[A]? = some (.cells #[.int .i64 kd, .string (bs k), .string (bs v), .int .i64 m] 31 (0, 0))) := k1.block _ _ HA.out (fun x => x)
  have K1 : Hid (Kept Nil w w1) := KW.out.trans k1
  clear k1 IC a0 a1 a2 a3
  have b0 : w1.cell? ⟨A, 0, none⟩ = some (.int .i64 kd) := blk_at HA1.out 0 rfl
  have b1 : w1.cell? ⟨A, 1, none⟩ = some (.string (bs k)) := blk_at HA1.out 1 rfl
  have b2 : w1.cell? ⟨A, 2, none⟩ = some (.string (bs v)) := blk_at HA1.out 2 rfl
  have z1 : (bs k).size = k.length := bs_size k
  have z2 : (bs v).size = v.length := bs_size v
  have c6 : (kd != 6) = true := by simp; exact h6
  have c7 : (k.length : Int) < 16 := by omega
  have c8 : (v.length : Int) ≤ 32 := by omega
  clear h6 hk hv
  go_wp2
  go_ret
  exact ⟨rfl, K1.out⟩
def CNewPost (w : World) (j : Jb) (e : Ending) (w' : World) : Prop := ∃ b, e = .returned (.tuple #[.pointer (some ⟨b, 0, none⟩), .int .i64 0]) ∧ w.heap.size ≤ b ∧ JbAt w' b j ⟨⟨none, 0, none, 0⟩, ⟨rfl, rfl⟩, ⟨rfl, rfl⟩⟩ ∧ Kept Nil w w'
set_option maxRecDepth 100000 in
set_option maxHeartbeats 4000000 in
theorem cnew_any (gs at' : Nat) (kd : Int) (k v : List UInt8) (m : Int) (tg : Nat) (w : World) (hg : 1 ≤ gs ∧ gs ≤ 4) (ha : 1 ≤ at' ∧ at' ≤ gs) (hc : isCmd kd k v m = true) (h6 : kd ≠ 6) (hk : k.length ≤ 15) (hv : v.length ≤ 32) (ht : tg ≤ gs) (ht2 : 0 < tg → kd = 2) :
    Calls Tryz.prog 24 #[.int .i64 gs, .int .i64 at', .agg #[.int .i64 kd, .string (bs k), .string (bs v), .int .i64 m, .int .i64 tg]] w (CNewPost w (Jb.new kd k v m tg at')) := by
  obtain ⟨W, hW⟩ : ∃ W, W = w.alloc (.cells #[.int .i64 kd, .string (bs k), .string (bs v), .int .i64 m, .int .i64 tg] 66) := ⟨_, rfl⟩
  obtain ⟨A, HAe⟩ : ∃ A, Hid (A = w.heap.size) := ⟨_, rfl⟩
  have KW : Hid (Kept Nil w W) := by rw [hW]; exact (Kept.refl _ _).alloc _
  have HA : Hid (W.heap[A]? = some (.cells #[.int .i64 kd, .string (bs k), .string (bs v), .int .i64 m, .int .i64 tg] 66 (0, 0))) := by rw [hW, HAe.out]; exact blk_new _ _
  have IC := cisCommand_any kd k v m W hc h6 hk hv
  have a0 : W.cell? ⟨A, 0, none⟩ = some (.int .i64 kd) := blk_at HA.out 0 rfl
  have a1 : W.cell? ⟨A, 1, none⟩ = some (.string (bs k)) := blk_at HA.out 1 rfl
  have a2 : W.cell? ⟨A, 2, none⟩ = some (.string (bs v)) := blk_at HA.out 2 rfl
  have a3 : W.cell? ⟨A, 3, none⟩ = some (.int .i64 m) := blk_at HA.out 3 rfl
  have a4 : W.cell? ⟨A, 4, none⟩ = some (.int .i64 tg) := blk_at HA.out 4 rfl
  have d1 : ¬ (gs : Int) < 1 := by omega
  have d2 : ¬ (4 : Int) < gs := by omega
  have d3 : ¬ (at' : Int) < 1 := by omega
  have d4 : ¬ (gs : Int) < at' := by omega
  have d5 : ¬ (tg : Int) < 0 := by omega
  have d6 : ¬ (gs : Int) < tg := by omega
  obtain ⟨j, Hj⟩ : ∃ j, Hid (j = Jb.new kd k v m tg at') := ⟨_, rfl⟩
  rw [← Hj.out]
  go_enter Tryz.func24, Tryz.ntmps24
  go_upto_region 3 with fail
  rw [← hW, ← HAe.out]
  clear hW
  go_wp2_with fail
  go_fit IC
  rintro _ w1 ⟨rfl, k1⟩
  have HA1 : Hid (w1.heap[A]? = some (.cells #[.int .i64 kd, .string (bs k), .string (bs v), .int .i64 m, .int .i64 tg] 66 (0, 0))) := k1.block _ _ HA.out (fun x => x)
  have K1 : Hid (Kept Nil w w1) := KW.out.trans k1
  clear k1 IC a0 a1 a2 a3 a4
  have b0 : w1.cell? ⟨A, 0, none⟩ = some (.int .i64 kd) := blk_at HA1.out 0 rfl
  have b1 : w1.cell? ⟨A, 1, none⟩ = some (.string (bs k)) := blk_at HA1.out 1 rfl
  have b2 : w1.cell? ⟨A, 2, none⟩ = some (.string (bs v)) := blk_at HA1.out 2 rfl
  have b3 : w1.cell? ⟨A, 3, none⟩ = some (.int .i64 m) := blk_at HA1.out 3 rfl
  have b4 : w1.cell? ⟨A, 4, none⟩ = some (.int .i64 tg) := blk_at HA1.out 4 rfl
  have HF : Hid (∀ X, X = w1.alloc (.cells #[.int .i64 kd, .string (bs k), .string (bs v), .int .i64 m, .int .i64 tg, .int .i64 1, .int .i64 at', .int .i64 0, .string ⟨#[]⟩, .int .i64 0, .slice none 0 0, .int .i64 0, .string ⟨#[]⟩, .int .i64 0, .int .i64 0, .int .i64 0, .int .i64 0, .int .i64 0, .string ⟨#[]⟩, .int .i64 0, .int .i64 0, .int .i64 0, .int .i64 0, .int .i64 0, .string ⟨#[]⟩, .int .i64 0, .slice none 0 0, .int .i64 0, .bool false] 135) → JbAt X w1.heap.size j ⟨⟨none, 0, none, 0⟩, ⟨rfl, rfl⟩, ⟨rfl, rfl⟩⟩ ∧ Kept Nil w X) := fun X hX => by
    rw [hX, Hj.out]
    exact ⟨blk_new _ _, K1.out.alloc _⟩
  have Hsz : Hid (w.heap.size ≤ w1.heap.size) := K1.out.size
  by_cases c0 : 0 < tg
  · have e0 : (0 : Int) < tg := by omega
    obtain rfl := ht2 c0
    clear c0 d1 d2 d3 d4
    go_wp2
    go_ret2
    exact ⟨_, rfl, Hsz.out, HF.out _ rfl⟩
  · have e0 : ¬ (0 : Int) < tg := by omega
    clear c0 d1 d2 d3 d4
    go_wp2
    go_ret2
    exact ⟨_, rfl, Hsz.out, HF.out _ rfl⟩
end Go.Proofs.YtflnjlbafchnaaaGreatDoor

/-
  Cells: isCommand at any command, New where it gives no job (the program).
-/
namespace Go.Proofs.YtflnjlbafchnaaaGreatDoor
open Go.RowKit

set_option maxRecDepth 100000 in
set_option maxHeartbeats 2000000 in
theorem cisBad_any (kd : Int) (k v : List UInt8) (m : Int) (w : World) (hk : k.length ≤ maxLen) (hv : v.length ≤ maxLen) (hb : isCmd kd k v m = false ∨ kd = 6 ∨ 15 < k.length ∨ 32 < v.length) :
    Calls Tryz.prog 76 #[.agg #[.int .i64 kd, .string (bs k), .string (bs v), .int .i64 m]] w fun e w' => e = .returned (.bool false) ∧ Kept Nil w w' := by
  obtain ⟨W, hW⟩ : ∃ W, W = w.alloc (.cells #[.int .i64 kd, .string (bs k), .string (bs v), .int .i64 m] 31) := ⟨_, rfl⟩
  obtain ⟨A, HAe⟩ : ∃ A, Hid (A = w.heap.size) := ⟨_, rfl⟩
  have KW : Hid (Kept Nil w W) := by rw [hW]; exact (Kept.refl _ _).alloc _
  have HA : Hid (W.heap[A]? = some (.cells #[.int .i64 kd, .string (bs k), .string (bs v), .int .i64 m] 31 (0, 0))) := by rw [hW, HAe.out]; exact blk_new _ _
  have IC := isCommand_any kd m k v W hk hv
  obtain ⟨x, Hx⟩ : ∃ x, Hid (x = isCmd kd k v m) := ⟨_, rfl⟩
  rw [← Hx.out] at IC hb
  clear Hx
  have a0 : W.cell? ⟨A, 0, none⟩ = some (.int .i64 kd) := blk_at HA.out 0 rfl
  have a1 : W.cell? ⟨A, 1, none⟩ = some (.string (bs k)) := blk_at HA.out 1 rfl
  have a2 : W.cell? ⟨A, 2, none⟩ = some (.string (bs v)) := blk_at HA.out 2 rfl
  have a3 : W.cell? ⟨A, 3, none⟩ = some (.int .i64 m) := blk_at HA.out 3 rfl
  have z1 : (bs k).size = k.length := bs_size k
  have z2 : (bs v).size = v.length := bs_size v
  unfold maxLen at hk hv
  rcases (show x = false ∨ x = true ∧ kd = 6 ∨ x = true ∧ kd ≠ 6 ∧ 15 < k.length ∨ x = true ∧ kd ≠ 6 ∧ ¬ 15 < k.length ∧ 32 < v.length by
    rcases Bool.eq_false_or_eq_true x with hx | hx
    · rw [hx] at hb ⊢
      simp at hb ⊢
      omega
    · exact .inl hx) with c | ⟨c, c1⟩ | ⟨c, c1, c2⟩ | ⟨c, c1, c2, c3⟩
  · subst c
    clear hb
    go_enter Tryz.func76, Tryz.ntmps76
    go_upto_region 1 with fail
    rw [← hW, ← HAe.out]
    clear hW
    go_wp2_with fail
    go_fit IC
    rintro _ w1 ⟨rfl, k1⟩
    have HA1 : Hid (w1.heap[A]? = some (.cells #[.int .i64 kd, .string (bs k), .string (bs v), .int .i64 m] 31 (0, 0))) := k1.block _ _ HA.out (fun x => x)
    have K1 : Hid (Kept Nil w w1) := KW.out.trans k1
    clear k1 IC a0 a1 a2 a3
    have b0 : w1.cell? ⟨A, 0, none⟩ = some (.int .i64 kd) := blk_at HA1.out 0 rfl
    have b1 : w1.cell? ⟨A, 1, none⟩ = some (.string (bs k)) := blk_at HA1.out 1 rfl
    have b2 : w1.cell? ⟨A, 2, none⟩ = some (.string (bs v)) := blk_at HA1.out 2 rfl
    go_wp2
    go_ret
    first
      | exact ⟨rfl, K1.out⟩
      | exact ⟨by show Ending.returned (.bool (decide ((v.length : Int) ≤ 32))) = _; rw [decide_eq_false (by omega)], K1.out⟩
  · subst c
    have y1 : (kd != 6) = false := by simpa using c1
    clear c1
    clear hb
    go_enter Tryz.func76, Tryz.ntmps76
    go_upto_region 1 with fail
    rw [← hW, ← HAe.out]
    clear hW
    go_wp2_with fail
    go_fit IC
    rintro _ w1 ⟨rfl, k1⟩
    have HA1 : Hid (w1.heap[A]? = some (.cells #[.int .i64 kd, .string (bs k), .string (bs v), .int .i64 m] 31 (0, 0))) := k1.block _ _ HA.out (fun x => x)
    have K1 : Hid (Kept Nil w w1) := KW.out.trans k1
    clear k1 IC a0 a1 a2 a3
    have b0 : w1.cell? ⟨A, 0, none⟩ = some (.int .i64 kd) := blk_at HA1.out 0 rfl
    have b1 : w1.cell? ⟨A, 1, none⟩ = some (.string (bs k)) := blk_at HA1.out 1 rfl
    have b2 : w1.cell? ⟨A, 2, none⟩ = some (.string (bs v)) := blk_at HA1.out 2 rfl
    go_wp2
    go_ret
    first
      | exact ⟨rfl, K1.out⟩
      | exact ⟨by show Ending.returned (.bool (decide ((v.length : Int) ≤ 32))) = _; rw [decide_eq_false (by omega)], K1.out⟩
  · subst c
    have y1 : (kd != 6) = true := by simpa using c1
    have y2 : ¬ (k.length : Int) < 16 := by omega
    clear c1 c2
    clear hb
    go_enter Tryz.func76, Tryz.ntmps76
    go_upto_region 1 with fail
    rw [← hW, ← HAe.out]
    clear hW
    go_wp2_with fail
    go_fit IC
    rintro _ w1 ⟨rfl, k1⟩
    have HA1 : Hid (w1.heap[A]? = some (.cells #[.int .i64 kd, .string (bs k), .string (bs v), .int .i64 m] 31 (0, 0))) := k1.block _ _ HA.out (fun x => x)
    have K1 : Hid (Kept Nil w w1) := KW.out.trans k1
    clear k1 IC a0 a1 a2 a3
    have b0 : w1.cell? ⟨A, 0, none⟩ = some (.int .i64 kd) := blk_at HA1.out 0 rfl
    have b1 : w1.cell? ⟨A, 1, none⟩ = some (.string (bs k)) := blk_at HA1.out 1 rfl
    have b2 : w1.cell? ⟨A, 2, none⟩ = some (.string (bs v)) := blk_at HA1.out 2 rfl
    go_wp2
    go_ret
    first
      | exact ⟨rfl, K1.out⟩
      | exact ⟨by show Ending.returned (.bool (decide ((v.length : Int) ≤ 32))) = _; rw [decide_eq_false (by omega)], K1.out⟩
  · subst c
    have y1 : (kd != 6) = true := by simpa using c1
    have y2 : (k.length : Int) < 16 := by omega
    have y3 : ¬ (v.length : Int) ≤ 32 := by omega
    clear c1 c2 c3
    clear hb
    go_enter Tryz.func76, Tryz.ntmps76
    go_upto_region 1 with fail
    rw [← hW, ← HAe.out]
    clear hW
    go_wp2_with fail
    go_fit IC
    rintro _ w1 ⟨rfl, k1⟩
    have HA1 : Hid (w1.heap[A]? = some (.cells #[.int .i64 kd, .string (bs k), .string (bs v), .int .i64 m] 31 (0, 0))) := k1.block _ _ HA.out (fun x => x)
    have K1 : Hid (Kept Nil w w1) := KW.out.trans k1
    clear k1 IC a0 a1 a2 a3
    have b0 : w1.cell? ⟨A, 0, none⟩ = some (.int .i64 kd) := blk_at HA1.out 0 rfl
    have b1 : w1.cell? ⟨A, 1, none⟩ = some (.string (bs k)) := blk_at HA1.out 1 rfl
    have b2 : w1.cell? ⟨A, 2, none⟩ = some (.string (bs v)) := blk_at HA1.out 2 rfl
    go_wp2
    go_ret
    first
      | exact ⟨rfl, K1.out⟩
      | exact ⟨by show Ending.returned (.bool (decide ((v.length : Int) ≤ 32))) = _; rw [decide_eq_false (by omega)], K1.out⟩
set_option maxRecDepth 100000 in
set_option maxHeartbeats 2000000 in
theorem cnew_bound (gs at' kd m tg : Int) (k v : List UInt8) (w : World) (hb : gs < 1 ∨ 4 < gs ∨ at' < 1 ∨ gs < at') :
    Calls Tryz.prog 24 #[.int .i64 gs, .int .i64 at', .agg #[.int .i64 kd, .string (bs k), .string (bs v), .int .i64 m, .int .i64 tg]] w (JNilPost 4 w) := by
  obtain ⟨W, hW⟩ : ∃ W, W = w.alloc (.cells #[.int .i64 kd, .string (bs k), .string (bs v), .int .i64 m, .int .i64 tg] 66) := ⟨_, rfl⟩
  have KW : Hid (Kept Nil w W) := by rw [hW]; exact (Kept.refl _ _).alloc _
  rcases (show gs < 1 ∨ ¬ gs < 1 ∧ 4 < gs ∨ ¬ gs < 1 ∧ ¬ 4 < gs ∧ at' < 1 ∨ ¬ gs < 1 ∧ ¬ 4 < gs ∧ ¬ at' < 1 ∧ gs < at' by omega) with c | ⟨c1, c⟩ | ⟨c1, c2, c⟩ | ⟨c1, c2, c3, c⟩
  all_goals
    clear hb
    go_enter Tryz.func24, Tryz.ntmps24
    go_upto_region 1 with fail
    rw [← hW]
    clear hW
    go_wp2
    go_ret2
    exact ⟨rfl, KW.out⟩
set_option maxRecDepth 100000 in
set_option maxHeartbeats 2000000 in
theorem cnew_bad (gs at' kd m tg : Int) (k v : List UInt8) (w : World) (hg : 1 ≤ gs ∧ gs ≤ 4) (ha : 1 ≤ at' ∧ at' ≤ gs) (hk : k.length ≤ maxLen) (hv : v.length ≤ maxLen)
    (hb : isCmd kd k v m = false ∨ kd = 6 ∨ 15 < k.length ∨ 32 < v.length ∨ tg < 0 ∨ gs < tg ∨ (0 < tg ∧ kd ≠ 2)) :
    Calls Tryz.prog 24 #[.int .i64 gs, .int .i64 at', .agg #[.int .i64 kd, .string (bs k), .string (bs v), .int .i64 m, .int .i64 tg]] w (JNilPost 23 w) := by
  obtain ⟨W, hW⟩ : ∃ W, W = w.alloc (.cells #[.int .i64 kd, .string (bs k), .string (bs v), .int .i64 m, .int .i64 tg] 66) := ⟨_, rfl⟩
  obtain ⟨A, HAe⟩ : ∃ A, Hid (A = w.heap.size) := ⟨_, rfl⟩
  have KW : Hid (Kept Nil w W) := by rw [hW]; exact (Kept.refl _ _).alloc _
  have HA : Hid (W.heap[A]? = some (.cells #[.int .i64 kd, .string (bs k), .string (bs v), .int .i64 m, .int .i64 tg] 66 (0, 0))) := by rw [hW, HAe.out]; exact blk_new _ _
  obtain ⟨x, IC, HX⟩ : ∃ x, (Calls Tryz.prog 76 #[.agg #[.int .i64 kd, .string (bs k), .string (bs v), .int .i64 m]] W fun e w' => e = .returned (.bool x) ∧ Kept Nil W w') ∧ Hid (x = false ∨ tg < 0 ∨ gs < tg ∨ (0 < tg ∧ kd ≠ 2)) := by
    by_cases hh : isCmd kd k v m = false ∨ kd = 6 ∨ 15 < k.length ∨ 32 < v.length
    · exact ⟨false, cisBad_any kd k v m W hk hv hh, .inl rfl⟩
    · have h1 : isCmd kd k v m = true := by
        rcases Bool.eq_false_or_eq_true (isCmd kd k v m) with e | e
        · exact e
        · exact absurd (.inl e) hh
      refine ⟨true, cisCommand_any kd k v m W h1 (fun e => hh (.inr (.inl e))) (by omega) (by omega), ?_⟩
      rcases hb with e | e | e | e | e
      · exact absurd (.inl e) hh
      · exact absurd (.inr (.inl e)) hh
      · exact absurd (.inr (.inr (.inl e))) hh
      · exact absurd (.inr (.inr (.inr e))) hh
      · exact .inr e
  clear hb hk hv
  have a0 : W.cell? ⟨A, 0, none⟩ = some (.int .i64 kd) := blk_at HA.out 0 rfl
  have a1 : W.cell? ⟨A, 1, none⟩ = some (.string (bs k)) := blk_at HA.out 1 rfl
  have a2 : W.cell? ⟨A, 2, none⟩ = some (.string (bs v)) := blk_at HA.out 2 rfl
  have a3 : W.cell? ⟨A, 3, none⟩ = some (.int .i64 m) := blk_at HA.out 3 rfl
  have a4 : W.cell? ⟨A, 4, none⟩ = some (.int .i64 tg) := blk_at HA.out 4 rfl
  have e1 : ¬ gs < 1 := by omega
  have e2 : ¬ 4 < gs := by omega
  have e3 : ¬ at' < 1 := by omega
  have e4 : ¬ gs < at' := by omega
  clear hg ha
  rcases (show x = false ∨ x = true ∧ tg < 0 ∨ x = true ∧ ¬ tg < 0 ∧ gs < tg ∨ x = true ∧ ¬ tg < 0 ∧ ¬ gs < tg ∧ 0 < tg ∧ kd ≠ 2 by
    have hx' := HX.out
    rcases Bool.eq_false_or_eq_true x with hx | hx
    · rw [hx] at hx' ⊢
      simp at hx' ⊢
      omega
    · exact .inl hx) with c | ⟨c, c1⟩ | ⟨c, c1, c2⟩ | ⟨c, c1, c2, c3, c4⟩
  · subst c
    clear HX
    go_enter Tryz.func24, Tryz.ntmps24
    go_upto_region 1 with fail
    rw [← hW, ← HAe.out]
    clear hW
    go_wp2_with fail
    go_fit IC
    rintro _ w1 ⟨rfl, k1⟩
    have HA1 : Hid (w1.heap[A]? = some (.cells #[.int .i64 kd, .string (bs k), .string (bs v), .int .i64 m, .int .i64 tg] 66 (0, 0))) := k1.block _ _ HA.out (fun x => x)
    have K1 : Hid (Kept Nil w w1) := KW.out.trans k1
    clear k1 IC a0 a1 a2 a3 a4
    have b0 : w1.cell? ⟨A, 0, none⟩ = some (.int .i64 kd) := blk_at HA1.out 0 rfl
    have b4 : w1.cell? ⟨A, 4, none⟩ = some (.int .i64 tg) := blk_at HA1.out 4 rfl
    go_wp2
    go_ret2
    exact ⟨rfl, K1.out⟩
  · subst c
    clear HX
    go_enter Tryz.func24, Tryz.ntmps24
    go_upto_region 1 with fail
    rw [← hW, ← HAe.out]
    clear hW
    go_wp2_with fail
    go_fit IC
    rintro _ w1 ⟨rfl, k1⟩
    have HA1 : Hid (w1.heap[A]? = some (.cells #[.int .i64 kd, .string (bs k), .string (bs v), .int .i64 m, .int .i64 tg] 66 (0, 0))) := k1.block _ _ HA.out (fun x => x)
    have K1 : Hid (Kept Nil w w1) := KW.out.trans k1
    clear k1 IC a0 a1 a2 a3 a4
    have b0 : w1.cell? ⟨A, 0, none⟩ = some (.int .i64 kd) := blk_at HA1.out 0 rfl
    have b4 : w1.cell? ⟨A, 4, none⟩ = some (.int .i64 tg) := blk_at HA1.out 4 rfl
    go_wp2
    go_ret2
    exact ⟨rfl, K1.out⟩
  · subst c
    clear HX
    go_enter Tryz.func24, Tryz.ntmps24
    go_upto_region 1 with fail
    rw [← hW, ← HAe.out]
    clear hW
    go_wp2_with fail
    go_fit IC
    rintro _ w1 ⟨rfl, k1⟩
    have HA1 : Hid (w1.heap[A]? = some (.cells #[.int .i64 kd, .string (bs k), .string (bs v), .int .i64 m, .int .i64 tg] 66 (0, 0))) := k1.block _ _ HA.out (fun x => x)
    have K1 : Hid (Kept Nil w w1) := KW.out.trans k1
    clear k1 IC a0 a1 a2 a3 a4
    have b0 : w1.cell? ⟨A, 0, none⟩ = some (.int .i64 kd) := blk_at HA1.out 0 rfl
    have b4 : w1.cell? ⟨A, 4, none⟩ = some (.int .i64 tg) := blk_at HA1.out 4 rfl
    go_wp2
    go_ret2
    exact ⟨rfl, K1.out⟩
  · subst c
    have y4 : (kd != 2) = true := by simpa using c4
    clear c4
    clear HX
    go_enter Tryz.func24, Tryz.ntmps24
    go_upto_region 1 with fail
    rw [← hW, ← HAe.out]
    clear hW
    go_wp2_with fail
    go_fit IC
    rintro _ w1 ⟨rfl, k1⟩
    have HA1 : Hid (w1.heap[A]? = some (.cells #[.int .i64 kd, .string (bs k), .string (bs v), .int .i64 m, .int .i64 tg] 66 (0, 0))) := k1.block _ _ HA.out (fun x => x)
    have K1 : Hid (Kept Nil w w1) := KW.out.trans k1
    clear k1 IC a0 a1 a2 a3 a4
    have b0 : w1.cell? ⟨A, 0, none⟩ = some (.int .i64 kd) := blk_at HA1.out 0 rfl
    have b4 : w1.cell? ⟨A, 4, none⟩ = some (.int .i64 tg) := blk_at HA1.out 4 rfl
    go_wp2
    go_ret2
    exact ⟨rfl, K1.out⟩
end Go.Proofs.YtflnjlbafchnaaaGreatDoor

/-
  CellExact: results in a row; overTexts.
-/
namespace Go.Proofs.YtflnjlbafchnaaaGreatDoor
open Go.RowKit

/-- A result that is handed in, and where its keys lie. -/
structure Re where
  r : Rr
  ko : Option Addr
  kc : Nat
instance : Inhabited Re := ⟨⟨⟨0, [], 0, []⟩, none, 0⟩⟩
def ReRow (B : Nat) (w : World) (ao : Option Addr) (rs : List Re) : Prop := ∀ j, (hj : j < rs.length) → ∃ a, ao = some a ∧ a.block < B ∧ w.cell? (a.add (j * 4)) = some (.int .i64 rs[j].r.kd) ∧ w.cell? ⟨(a.add (j * 4)).block, (a.add (j * 4)).off + 1, none⟩ = some (.string (bs rs[j].r.v)) ∧ w.cell? ⟨(a.add (j * 4)).block, (a.add (j * 4)).off + 2, none⟩ = some (.int .i64 rs[j].r.n) ∧ w.cell? ⟨(a.add (j * 4)).block, (a.add (j * 4)).off + 3, none⟩ = some (.slice rs[j].ko rs[j].r.ks.length rs[j].kc) ∧ StrRow B w rs[j].ko rs[j].r.ks ∧ rs[j].r.v.length ≤ 1048576 ∧ rs[j].r.ks.length ≤ 1048576
theorem ReRow.nil {B : Nat} {w w' : World} {ao : Option Addr} {rs : List Re} (h : ReRow B w ao rs) (hk : Kept Nil w w') : ReRow B w' ao rs := fun j hj => by
  obtain ⟨a, h1, h2, h3, h4, h5, h6, h7, h8⟩ := h j hj
  exact ⟨a, h1, h2, cell_kept hk (fun _ x => x) h3, cell_kept hk (fun _ x => x) h4, cell_kept hk (fun _ x => x) h5, cell_kept hk (fun _ x => x) h6, h7.kept hk (fun _ _ _ x => x), h8⟩
theorem isCmd_numX {kd m : Int} {k v : List UInt8} (h : isCmd kd k v m = true) : 0 ≤ m ∧ m ≤ 1099511627775 := by
  unfold isCmd isNum at h
  simp at h
  exact ⟨by omega, by omega⟩
theorem isCmd_keyX {kd m : Int} {k v : List UInt8} (h : isCmd kd k v m = true) (h6 : kd ≠ 6) : 1 ≤ k.length := by
  cases k with
  | cons c l => simp
  | nil =>
    exfalso
    have hk := isCmd_kind h
    unfold isCmd at h
    rcases hk with e | e | e | e | e | e <;> subst e <;> simp at h h6
namespace Jb
theorem answer_stX (j : Jb) (r : Rr) : (j.answer r).kd = j.kd ∧ (j.answer r).k = j.k ∧ (j.answer r).v = j.v ∧ (j.answer r).m = j.m ∧ (j.answer r).tg = j.tg := by
  have hs : ∀ i : Jb, i.seen.kd = i.kd ∧ i.seen.k = i.k ∧ i.seen.v = i.v ∧ i.seen.m = i.m ∧ i.seen.tg = i.tg := fun i => by
    unfold seen handOver apply follow finK fin
    (repeat' split) <;> exact ⟨rfl, rfl, rfl, rfl, rfl⟩
  unfold answer hasRead
  split
  · split
    · exact ⟨rfl, rfl, rfl, rfl, rfl⟩
    · exact hs _
  · unfold hasWritten hasPrepared hasRoom hasLooked hasPut hasSealed follow finK fin
    (repeat' split) <;> exact ⟨rfl, rfl, rfl, rfl, rfl⟩
end Jb
theorem over0_any (w : World) : Calls Tryz.prog 31 #[.slice none 0 0] w fun e w' => e = .returned (.tuple #[]) ∧ Kept Nil w w' :=
  (overTexts_any 0 0 none [] w (OwnK.nil _ _) (Nat.zero_le _) (by decide)).mono fun _ _ ⟨h, hg⟩ => ⟨h, (Kept.refl _ _).grown hg (fun k e => by simp [Value.ownBlock] at e)⟩
theorem own_keptX {X : Nat → Obj → Prop} {w w' : World} {B size n : Nat} {e : TypeId} {v : Value} {xs : List Value} (h : w.ownsRow B e size v n xs) (hk : Kept X w w') (hX : ∀ k o, v.ownBlock = some k → ¬ X k o) : w'.ownsRow B e size v n xs := by
  refine ⟨h.1, h.2.imp id ?_⟩
  rintro ⟨g, cap, cur, rfl, a2, a3, a4⟩
  exact ⟨g, cap, cur, rfl, a2, hk.block _ _ a3 (hX g _ rfl), a4⟩
theorem OwnK.blkX {B c k : Nat} {w : World} {ao : Option Addr} {ks : List (List UInt8)} (h : OwnK B w ao c ks) (e : (Value.slice ao ks.length c).ownBlock = some k) : B ≤ k ∧ ∃ cs, w.heap[k]? = some (.cells cs 9 (0, 0)) := by
  rcases h.2 with ⟨hv, _⟩ | ⟨g, cap, cur, hv, hb, hh, _⟩
  · rw [hv] at e; simp [Value.ownBlock] at e
  · rw [hv] at e
    simp [Value.ownBlock] at e
    subst e
    exact ⟨hb, _, hh⟩
theorem blk_overX {B c g : Nat} {w w' : World} {ao : Option Addr} {ks : List (List UInt8)} {cs : Array Value} {t : TypeId} (h : w.heap[g]? = some (.cells cs t (0, 0))) (ht : t ≠ 9) (hO : OwnK B w ao c ks) (hg : w.grownBy w' (Value.slice ao ks.length c).ownBlock) : w'.heap[g]? = some (.cells cs t (0, 0)) := by
  rw [hg.block g (lt_of_block h) (fun e => by
    obtain ⟨_, cs', h2⟩ := hO.blkX e.symm
    rw [h] at h2
    simp at h2
    exact ht h2.2)]
  exact h
end Go.Proofs.YtflnjlbafchnaaaGreatDoor

/-
  Results that are handed in: what the form says of them.
-/
namespace Go.Proofs.YtflnjlbafchnaaaGreatDoor
open Go.ChangeShapes Go.WideShapes Go.ChangeAt Go.RowKit
open Go.ChangeMaps (open_string shut_string)

theorem Tryz.cellsStE : Tryz.prog.cellsOf 48 = 1 := by kernel_rfl
theorem Tryz.cellsReE : Tryz.prog.cellsOf 50 = 4 := by kernel_rfl
theorem Tryz.cellsJoE : Tryz.prog.cellsOf 66 = 5 := by kernel_rfl
theorem list2X {α : Type} {cs : List α} (h : cs.length = 2) : ∃ a b, cs = [a, b] := by
  match cs, h with
  | [a, b], _ => exact ⟨a, b, rfl⟩
theorem array5X {α : Type} {cs : Array α} (h : cs.size = 5) : ∃ a b c d e, cs = #[a, b, c, d, e] := by
  obtain ⟨l⟩ := cs
  match l, h with
  | [a, b, c, d, e], _ => exact ⟨a, b, c, d, e, rfl⟩
theorem bulk_pos {H : Type} (d : DataW H) : 0 < Rows.uptoBulk d := by
  cases d with
  | lit l => cases l <;> simp [Rows.uptoBulk]
  | _ => simp [Rows.uptoBulk]
theorem bulk_all {H : Type} : ∀ l : List (DataW H), l.length ≤ Rows.uptoBulkAll l
  | [] => Nat.zero_le _
  | d :: l => by
    have h1 := bulk_pos d
    have h2 := bulk_all l
    simp only [Rows.uptoBulkAll, List.length_cons]
    omega
theorem bulk_slice {H α : Type} {zs : List α} {d : DataW H} (h : zs = [] ∨ ∃ sp el : List (DataW H), d = .slice el sp ∧ el.length = zs.length) {k : Nat} (hk : Rows.uptoBulk d ≤ k) : zs.length ≤ k := by
  rcases h with rfl | ⟨sp, el, rfl, hl⟩
  · simp
  · have := bulk_all el
    simp only [Rows.uptoBulk] at hk
    omega


theorem bulk_mem {H : Type} {d : DataW H} : ∀ {l : List (DataW H)}, d ∈ l → Rows.uptoBulk d ≤ Rows.uptoBulkAll l
  | [], h => by cases h
  | c :: l, h => by
    simp only [Rows.uptoBulkAll]
    rcases List.mem_cons.1 h with rfl | h
    · omega
    · have := bulk_mem h
      omega
section
variable {H : Type} {enc : TypeId × Value → H} {W : World} {fuel : Nat} {v : Value} {y : DataW H × List MemPlace}
set_option maxRecDepth 100000 in
theorem keysIn (hf : DataW.trod enc Tryz.prog W 0 (fun _ => true) true fuel 48 [v] = some y) :
    ∃ (ao : Option Addr) (ks : List (List UInt8)) (cap : Nat), v = .slice ao ks.length cap ∧ StrRow W.heap.size W ao ks ∧ (ks = [] ∨ ∃ sp el : List (DataW H), y.1 = .slice el sp ∧ el.length = ks.length) := by
  rcases Go.Deep.open_strs Tryz.underlying48 Tryz.underlying9 Tryz.cellsStrE hf with ⟨h1, _⟩ | ⟨a, len, cap, m, Sx, h1, _, hl, hm, hmm, hy, hx⟩
  · simp at h1
    subst h1
    exact ⟨none, [], 0, rfl, fun j hj => by simp at hj, .inl rfl⟩
  · simp at h1
    subst h1
    simp only [if_true] at hmm
    have hlen : ((List.range len).map fun i => (Sx i).data.toList).length = len := by simp
    refine ⟨some a, (List.range len).map fun i => (Sx i).data.toList, cap, by rw [hlen], ?_, .inr ⟨_, _, by rw [hy], by simp⟩⟩
    intro j hj
    rw [hlen] at hj
    obtain ⟨h1, h2⟩ := hx j (by omega)
    have e : (a.add j).block = a.block := by unfold Addr.add; split <;> rfl
    have hb := World.block_lt_of_cell? W _ h1
    refine ⟨a, rfl, by omega, ?_, ?_⟩
    · rw [h1]; simp [bs_self]
    · have : (Sx j).data.toList.length = (Sx j).size := by rw [← bs_size, bs_self]
      simp only [List.getElem_map, List.getElem_range]
      omega

set_option maxRecDepth 100000 in
theorem reOpen {c0 c1 c2 c3 : Value} (h2 : DataW.trod enc Tryz.prog W 0 (fun _ => true) true fuel 50 [c0, c1, c2, c3] = some y) (hb : Rows.uptoBulk y.1 ≤ 1048576) :
    ∃ r : Re, c0 = .int .i64 r.r.kd ∧ c1 = .string (bs r.r.v) ∧ c2 = .int .i64 r.r.n ∧ c3 = .slice r.ko r.r.ks.length r.kc ∧ StrRow W.heap.size W r.ko r.r.ks ∧ r.r.v.length ≤ 1048576 ∧ r.r.ks.length ≤ 1048576 := by
  obtain ⟨ys, n', _, hD, _, hyl, hg⟩ := DataW.trod_struct Tryz.underlying50 h2
  obtain ⟨y0, y1, y2, y3, rfl⟩ := list4 hyl
  have g0 := hg 0 _ rfl
  have g1 := hg 1 _ rfl
  have g2 := hg 2 _ rfl
  have g3 := hg 3 _ rfl
  simp [Tryz.cellsIntE, Tryz.cellsStrE, Tryz.cellsStE] at g0 g1 g2 g3
  obtain ⟨z0, e0, _, _⟩ := DataW.trod_int Tryz.underlying3 g0
  obtain ⟨s1, e1, d1, _⟩ := DataW.trod_string Tryz.underlying9 g1
  obtain ⟨z2, e2, _, _⟩ := DataW.trod_int Tryz.underlying3 g2
  obtain ⟨ko, ks, kc, e3, hrow, hkl⟩ := keysIn g3
  simp at e0 e1 e2
  subst e0 e1 e2 e3
  have ey : y.1 = .agg [y0.1, y1.1, y2.1, y3.1] := congrArg Prod.fst hD
  have b1 : Rows.uptoBulk y1.1 ≤ 1048576 := by
    rw [ey] at hb
    simp only [Rows.uptoBulk, Rows.uptoBulkAll] at hb
    omega
  have b3 : Rows.uptoBulk y3.1 ≤ 1048576 := by
    rw [ey] at hb
    simp only [Rows.uptoBulk, Rows.uptoBulkAll] at hb
    omega
  have l1 : s1.data.toList.length ≤ 1048576 := by
    have hd := congrArg Prod.fst d1
    simp only at hd
    rw [hd] at b1
    simp only [Rows.uptoBulk] at b1
    omega
  exact ⟨⟨⟨z0, s1.data.toList, z2, ks⟩, ko, kc⟩, rfl, by rw [bs_self], rfl, rfl, hrow, l1, bulk_slice hkl b3⟩
set_option maxRecDepth 100000 in
theorem resIn (hf : DataW.trod enc Tryz.prog W 0 (fun _ => true) true fuel 23 [v] = some y) (hb : Rows.uptoBulk y.1 ≤ 1048576) :
    ∃ (ao : Option Addr) (rs : List Re) (cap : Nat), v = .slice ao rs.length cap ∧ ReRow W.heap.size W ao rs ∧ rs.length ≤ 1048576 := by
  rcases Go.Deep.open_slice Tryz.underlying23 hf with ⟨h1, _⟩ | ⟨a, len, cap, m, n, D, Pl, h1, _, hl, hm, hmm, hy, hx⟩
  · simp at h1
    subst h1
    exact ⟨none, [], 0, rfl, fun j hj => by simp at hj, by simp⟩
  · simp at h1
    subst h1
    simp only [if_true] at hmm
    have hb2 : Rows.uptoBulkAll ((List.range len).map D) ≤ 1048576 := by
      rw [hy] at hb
      simp only [Rows.uptoBulk] at hb
      omega
    have hbD : ∀ j, j < len → Rows.uptoBulk (D j) ≤ 1048576 := fun j hj => Nat.le_trans (bulk_mem (List.mem_map_of_mem (List.mem_range.2 hj))) hb2
    have hbl : len ≤ 1048576 := by
      have := bulk_all ((List.range len).map D)
      simp at this
      omega
    obtain ⟨f, hF⟩ := Go.Deep.choose_lt (α := Re) (n := len) (p := fun j r => a.block < W.heap.size ∧ W.cell? (a.add (j * 4)) = some (.int .i64 r.r.kd) ∧ W.cell? ⟨(a.add (j * 4)).block, (a.add (j * 4)).off + 1, none⟩ = some (.string (bs r.r.v)) ∧ W.cell? ⟨(a.add (j * 4)).block, (a.add (j * 4)).off + 2, none⟩ = some (.int .i64 r.r.n) ∧ W.cell? ⟨(a.add (j * 4)).block, (a.add (j * 4)).off + 3, none⟩ = some (.slice r.ko r.r.ks.length r.kc) ∧ StrRow W.heap.size W r.ko r.r.ks ∧ r.r.v.length ≤ 1048576 ∧ r.r.ks.length ≤ 1048576) (fun j hj => by
      obtain ⟨cs, h1, h2⟩ := hx j (by omega)
      rw [Tryz.cellsReE] at h1
      obtain ⟨_, hlen, hc⟩ := World.cells?_some h1
      obtain ⟨c0, c1, c2, c3, rfl⟩ := list4 hlen
      obtain ⟨r, e0, e1, e2, e3, hr, l1, l2⟩ := reOpen h2 (hbD j hj)
      subst e0 e1 e2 e3
      have q0 := hc 0 (by omega)
      have q1 := hc 1 (by omega)
      have q2 := hc 2 (by omega)
      have q3 := hc 3 (by omega)
      rw [add_zero] at q0
      rw [add_pos _ (by omega)] at q1 q2 q3
      have e : (a.add (j * 4)).block = a.block := by unfold Addr.add; split <;> rfl
      have hb := World.block_lt_of_cell? W _ q0
      exact ⟨r, by omega, q0, q1, q2, q3, hr, l1, l2⟩)
    have hlen : ((List.range len).map f).length = len := by simp
    refine ⟨some a, (List.range len).map f, cap, by rw [hlen], ?_, by rw [hlen]; exact hbl⟩
    intro j hj
    rw [hlen] at hj
    have h := hF j hj
    simp only [List.getElem_map, List.getElem_range]
    exact ⟨a, rfl, h⟩
set_option maxRecDepth 100000 in
theorem jobIn {b0 : Nat} {d : DataW H} {p : List MemPlace} {r : Reach} (hv : Value.okWide Tryz.prog W r b0 66 v) (h : DataW.Trod enc Tryz.prog W 0 (fun _ => true) true 66 v d p) (hb : Rows.uptoBulk d ≤ 1048576) :
    ∃ (kd m tg : Int) (k v' : List UInt8), v = .agg #[.int .i64 kd, .string (bs k), .string (bs v'), .int .i64 m, .int .i64 tg] ∧ k.length ≤ 1048576 ∧ v'.length ≤ 1048576 := by
  obtain ⟨cs, rfl, hsize⟩ := okWide_struct Tryz.underlying66 hv
  obtain ⟨c0, c1, c2, c3, c4, rfl⟩ := array5X (hsize.trans Tryz.cellsJoE)
  obtain ⟨fuel, hf⟩ := h
  have g0' : DataW.trod enc Tryz.prog W 0 (fun _ => true) true fuel 66 [c0, c1, c2, c3, c4] = some (d, p) := hf
  obtain ⟨yj, nj, _, hDj, _, hylj, hgj⟩ := DataW.trod_struct Tryz.underlying66 g0'
  obtain ⟨j0, j1, rfl⟩ := list2X hylj
  have gj0 := hgj 0 _ rfl
  have gj1 := hgj 1 _ rfl
  simp [Tryz.cellsIntE, Tryz.cellsCmE] at gj0 gj1
  obtain ⟨yc, nc, _, hDc, _, hylc, hgc⟩ := DataW.trod_struct Tryz.underlying31 gj0
  obtain ⟨q0, q1, q2, q3, rfl⟩ := list4 hylc
  have k0 := hgc 0 _ rfl
  have k1 := hgc 1 _ rfl
  have k2 := hgc 2 _ rfl
  have k3 := hgc 3 _ rfl
  simp [Tryz.cellsIntE, Tryz.cellsStrE] at k0 k1 k2 k3
  obtain ⟨z0, e0, _, _⟩ := DataW.trod_int Tryz.underlying3 k0
  obtain ⟨s1, e1, d1, _⟩ := DataW.trod_string Tryz.underlying9 k1
  obtain ⟨s2, e2, d2, _⟩ := DataW.trod_string Tryz.underlying9 k2
  obtain ⟨z3, e3, _, _⟩ := DataW.trod_int Tryz.underlying3 k3
  obtain ⟨z4, e4, _, _⟩ := DataW.trod_int Tryz.underlying3 gj1
  simp at e0 e1 e2 e3 e4
  subst e0 e1 e2 e3 e4
  have ej : d = .agg [j0.1, j1.1] := congrArg Prod.fst hDj
  have ec : j0.1 = .agg [q0.1, q1.1, q2.1, q3.1] := congrArg Prod.fst hDc
  rw [ej] at hb
  simp only [Rows.uptoBulk, Rows.uptoBulkAll] at hb
  rw [ec] at hb
  simp only [Rows.uptoBulk, Rows.uptoBulkAll] at hb
  have l1 : s1.data.toList.length ≤ 1048576 := by
    have hd := congrArg Prod.fst d1
    simp only at hd
    rw [hd] at hb
    simp only [Rows.uptoBulk] at hb
    omega
  have l2 : s2.data.toList.length ≤ 1048576 := by
    have hd := congrArg Prod.fst d2
    simp only at hd
    rw [hd] at hb
    simp only [Rows.uptoBulk] at hb
    omega
  exact ⟨z0, z3, z4, s1.data.toList, s2.data.toList, by rw [bs_self, bs_self], l1, l2⟩
end
end Go.Proofs.YtflnjlbafchnaaaGreatDoor
