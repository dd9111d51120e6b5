/-
  Joined: WCx4.
-/
import Derived.Test.YtflnjlbafchnaaaGreatDoorQ48
import Derived.Test.YtflnjlbafchnaaaGreatDoorQ26
/-
  Cells: NewJob (the document's).
-/
namespace Go.Proofs.YtflnjlbafchnaaaGreatDoor
open Go.RowKit

def JNewPost (w : World) (j : Jb) (e : Ending) (w' : World) : Prop := ∃ b, e = .returned (.tuple #[.pointer (some ⟨b, 0, none⟩), .int .i64 0]) ∧ w.heap.size ≤ b ∧ JdAt w' b j ⟨none, 0, none, 0⟩ ∧ Kept Nil w w'
def JNilPost (c : Int) (w : World) (e : Ending) (w' : World) : Prop := e = .returned (.tuple #[.pointer none, .int .i64 c]) ∧ Kept Nil w w'
set_option maxRecDepth 100000 in
set_option maxHeartbeats 2000000 in
theorem jnew_bound (gs at' kd m tg : Int) (k v : List UInt8) (w : World) (hb : gs < 1 ∨ 4 < gs ∨ at' < 1 ∨ gs < at') :
    Calls Tryz.prog 26 #[.int .i64 gs, .int .i64 at', .agg #[.int .i64 kd, .string (bs k), .string (bs v), .int .i64 m, .int .i64 tg]] w (JNilPost 4 w) := by
  obtain ⟨W, hW⟩ : ∃ W, W = w.alloc (.cells #[.int .i64 kd, .string (bs k), .string (bs v), .int .i64 m, .int .i64 tg] 66) := ⟨_, rfl⟩
  have KW : Hid (Kept Nil w W) := by rw [hW]; exact (Kept.refl _ _).alloc _
  rcases (show gs < 1 ∨ ¬ gs < 1 ∧ 4 < gs ∨ ¬ gs < 1 ∧ ¬ 4 < gs ∧ at' < 1 ∨ ¬ gs < 1 ∧ ¬ 4 < gs ∧ ¬ at' < 1 ∧ gs < at' by omega) with c | ⟨c1, c⟩ | ⟨c1, c2, c⟩ | ⟨c1, c2, c3, c⟩
  all_goals
    clear hb
    go_enter Tryz.func26, Tryz.ntmps26
    go_upto_region 1 with fail
    rw [← hW]
    clear hW
    go_wp2
    go_ret2
    exact ⟨rfl, KW.out⟩
set_option maxRecDepth 100000 in
set_option maxHeartbeats 2000000 in
theorem jnew_bad (gs at' kd m tg : Int) (k v : List UInt8) (w : World) (hg : 1 ≤ gs ∧ gs ≤ 4) (ha : 1 ≤ at' ∧ at' ≤ gs) (hk : k.length ≤ 4611686018427387904) (hv : v.length ≤ 4611686018427387904)
    (hb : isCmd kd k v m = false ∨ kd = 6 ∨ 15 < k.length ∨ 32 < v.length ∨ tg < 0 ∨ gs < tg ∨ (0 < tg ∧ kd ≠ 2)) :
    Calls Tryz.prog 26 #[.int .i64 gs, .int .i64 at', .agg #[.int .i64 kd, .string (bs k), .string (bs v), .int .i64 m, .int .i64 tg]] w (JNilPost 23 w) := by
  obtain ⟨W, hW⟩ : ∃ W, W = w.alloc (.cells #[.int .i64 kd, .string (bs k), .string (bs v), .int .i64 m, .int .i64 tg] 66) := ⟨_, rfl⟩
  obtain ⟨A, HAe⟩ : ∃ A, Hid (A = w.heap.size) := ⟨_, rfl⟩
  have KW : Hid (Kept Nil w W) := by rw [hW]; exact (Kept.refl _ _).alloc _
  have HA : Hid (W.heap[A]? = some (.cells #[.int .i64 kd, .string (bs k), .string (bs v), .int .i64 m, .int .i64 tg] 66 (0, 0))) := by rw [hW, HAe.out]; exact blk_new _ _
  obtain ⟨C, HCe⟩ : ∃ C, Hid (C = W.heap.size) := ⟨_, rfl⟩
  obtain ⟨V, hV⟩ : ∃ V, V = W.alloc (.cells #[.int .i64 kd, .string (bs k), .string (bs v), .int .i64 m] 31) := ⟨_, rfl⟩
  have KV : Hid (Kept Nil w V) := by rw [hV]; exact KW.out.alloc _
  have HC : Hid (V.heap[C]? = some (.cells #[.int .i64 kd, .string (bs k), .string (bs v), .int .i64 m] 31 (0, 0))) := by rw [hV, HCe.out]; exact blk_new _ _
  have HAV : Hid (V.heap[A]? = some (.cells #[.int .i64 kd, .string (bs k), .string (bs v), .int .i64 m, .int .i64 tg] 66 (0, 0))) := by rw [hV]; exact blk_past HA.out _
  have IC := refIsCommand_any kd m k v V (by unfold maxLen; omega) (by unfold maxLen; omega)
  have a0 : W.cell? ⟨A, 0, none⟩ = some (.int .i64 kd) := blk_at HA.out 0 rfl
  have a1 : W.cell? ⟨A, 1, none⟩ = some (.string (bs k)) := blk_at HA.out 1 rfl
  have a2 : W.cell? ⟨A, 2, none⟩ = some (.string (bs v)) := blk_at HA.out 2 rfl
  have a3 : W.cell? ⟨A, 3, none⟩ = some (.int .i64 m) := blk_at HA.out 3 rfl
  have b0 : V.cell? ⟨C, 0, none⟩ = some (.int .i64 kd) := blk_at HC.out 0 rfl
  have b1 : V.cell? ⟨C, 1, none⟩ = some (.string (bs k)) := blk_at HC.out 1 rfl
  have b2 : V.cell? ⟨C, 2, none⟩ = some (.string (bs v)) := blk_at HC.out 2 rfl
  have b3 : V.cell? ⟨C, 3, none⟩ = some (.int .i64 m) := blk_at HC.out 3 rfl
  have z1 : (bs k).size = k.length := bs_size k
  have z2 : (bs v).size = v.length := bs_size v
  have e1 : ¬ gs < 1 := by omega
  have e2 : ¬ 4 < gs := by omega
  have e3 : ¬ at' < 1 := by omega
  have e4 : ¬ gs < at' := by omega
  obtain ⟨x, Hx⟩ : ∃ x, Hid (x = isCmd kd k v m) := ⟨_, rfl⟩
  rw [← Hx.out] at IC
  rw [← Hx.out] at hb
  clear Hx
  rcases (show x = false ∨ x = true ∧ kd = 6 ∨ x = true ∧ kd ≠ 6 ∧ 15 < k.length ∨ x = true ∧ kd ≠ 6 ∧ ¬ 15 < k.length ∧ 32 < v.length ∨ x = true ∧ kd ≠ 6 ∧ ¬ 15 < k.length ∧ ¬ 32 < v.length ∧ tg < 0 ∨ x = true ∧ kd ≠ 6 ∧ ¬ 15 < k.length ∧ ¬ 32 < v.length ∧ ¬ tg < 0 ∧ gs < tg ∨ x = true ∧ kd ≠ 6 ∧ ¬ 15 < k.length ∧ ¬ 32 < v.length ∧ ¬ tg < 0 ∧ ¬ gs < tg ∧ 0 < tg ∧ kd ≠ 2 by
    rcases Bool.eq_false_or_eq_true x with hx | hx
    · rw [hx] at hb ⊢
      simp at hb ⊢
      omega
    · exact .inl hx) with c | ⟨c, c1⟩ | ⟨c, c1, c2⟩ | ⟨c, c1, c2, c3⟩ | ⟨c, c1, c2, c3, c4⟩ | ⟨c, c1, c2, c3, c4, c5⟩ | ⟨c, c1, c2, c3, c4, c5, c6, c7⟩
  · subst c
    clear hb hg ha
    go_enter Tryz.func26, Tryz.ntmps26
    go_upto_region 1 with fail
    rw [← hW, ← HAe.out]
    clear hW
    go_upto_region 4 with fail
    rw [← HCe.out, ← hV]
    clear hV a0 a1 a2 a3
    go_wp2_with fail
    go_fit IC
    rintro _ w1 ⟨rfl, k1⟩
    have HC1 : Hid (w1.heap[C]? = some (.cells #[.int .i64 kd, .string (bs k), .string (bs v), .int .i64 m] 31 (0, 0))) := k1.block _ _ HC.out (fun x => x)
    have HA1 : Hid (w1.heap[A]? = some (.cells #[.int .i64 kd, .string (bs k), .string (bs v), .int .i64 m, .int .i64 tg] 66 (0, 0))) := k1.block _ _ HAV.out (fun x => x)
    have K1 : Hid (Kept Nil w w1) := KV.out.trans k1
    clear k1 IC b0 b1 b2 b3
    have d0 : w1.cell? ⟨C, 0, none⟩ = some (.int .i64 kd) := blk_at HC1.out 0 rfl
    have d1 : w1.cell? ⟨C, 1, none⟩ = some (.string (bs k)) := blk_at HC1.out 1 rfl
    have d2 : w1.cell? ⟨C, 2, none⟩ = some (.string (bs v)) := blk_at HC1.out 2 rfl
    have d3 : w1.cell? ⟨C, 3, none⟩ = some (.int .i64 m) := blk_at HC1.out 3 rfl
    have d4 : w1.cell? ⟨A, 4, none⟩ = some (.int .i64 tg) := blk_at HA1.out 4 rfl
    go_wp2
    go_ret2
    exact ⟨rfl, K1.out⟩
  · subst c
    have y1 : (kd == 6) = true := by simpa using c1
    clear c1
    clear hb hg ha
    go_enter Tryz.func26, Tryz.ntmps26
    go_upto_region 1 with fail
    rw [← hW, ← HAe.out]
    clear hW
    go_upto_region 4 with fail
    rw [← HCe.out, ← hV]
    clear hV a0 a1 a2 a3
    go_wp2_with fail
    go_fit IC
    rintro _ w1 ⟨rfl, k1⟩
    have HC1 : Hid (w1.heap[C]? = some (.cells #[.int .i64 kd, .string (bs k), .string (bs v), .int .i64 m] 31 (0, 0))) := k1.block _ _ HC.out (fun x => x)
    have HA1 : Hid (w1.heap[A]? = some (.cells #[.int .i64 kd, .string (bs k), .string (bs v), .int .i64 m, .int .i64 tg] 66 (0, 0))) := k1.block _ _ HAV.out (fun x => x)
    have K1 : Hid (Kept Nil w w1) := KV.out.trans k1
    clear k1 IC b0 b1 b2 b3
    have d0 : w1.cell? ⟨C, 0, none⟩ = some (.int .i64 kd) := blk_at HC1.out 0 rfl
    have d1 : w1.cell? ⟨C, 1, none⟩ = some (.string (bs k)) := blk_at HC1.out 1 rfl
    have d2 : w1.cell? ⟨C, 2, none⟩ = some (.string (bs v)) := blk_at HC1.out 2 rfl
    have d3 : w1.cell? ⟨C, 3, none⟩ = some (.int .i64 m) := blk_at HC1.out 3 rfl
    have d4 : w1.cell? ⟨A, 4, none⟩ = some (.int .i64 tg) := blk_at HA1.out 4 rfl
    go_wp2
    go_ret2
    exact ⟨rfl, K1.out⟩
  · subst c
    have y1 : (kd == 6) = false := by simpa using c1
    have y2 : (15 : Int) < k.length := by omega
    clear c1 c2
    clear hb hg ha
    go_enter Tryz.func26, Tryz.ntmps26
    go_upto_region 1 with fail
    rw [← hW, ← HAe.out]
    clear hW
    go_upto_region 4 with fail
    rw [← HCe.out, ← hV]
    clear hV a0 a1 a2 a3
    go_wp2_with fail
    go_fit IC
    rintro _ w1 ⟨rfl, k1⟩
    have HC1 : Hid (w1.heap[C]? = some (.cells #[.int .i64 kd, .string (bs k), .string (bs v), .int .i64 m] 31 (0, 0))) := k1.block _ _ HC.out (fun x => x)
    have HA1 : Hid (w1.heap[A]? = some (.cells #[.int .i64 kd, .string (bs k), .string (bs v), .int .i64 m, .int .i64 tg] 66 (0, 0))) := k1.block _ _ HAV.out (fun x => x)
    have K1 : Hid (Kept Nil w w1) := KV.out.trans k1
    clear k1 IC b0 b1 b2 b3
    have d0 : w1.cell? ⟨C, 0, none⟩ = some (.int .i64 kd) := blk_at HC1.out 0 rfl
    have d1 : w1.cell? ⟨C, 1, none⟩ = some (.string (bs k)) := blk_at HC1.out 1 rfl
    have d2 : w1.cell? ⟨C, 2, none⟩ = some (.string (bs v)) := blk_at HC1.out 2 rfl
    have d3 : w1.cell? ⟨C, 3, none⟩ = some (.int .i64 m) := blk_at HC1.out 3 rfl
    have d4 : w1.cell? ⟨A, 4, none⟩ = some (.int .i64 tg) := blk_at HA1.out 4 rfl
    go_wp2
    go_ret2
    exact ⟨rfl, K1.out⟩
  · subst c
    have y1 : (kd == 6) = false := by simpa using c1
    have y2 : ¬ (15 : Int) < k.length := by omega
    have y3 : (32 : Int) < v.length := by omega
    clear c1 c2 c3
    clear hb hg ha
    go_enter Tryz.func26, Tryz.ntmps26
    go_upto_region 1 with fail
    rw [← hW, ← HAe.out]
    clear hW
    go_upto_region 4 with fail
    rw [← HCe.out, ← hV]
    clear hV a0 a1 a2 a3
    go_wp2_with fail
    go_fit IC
    rintro _ w1 ⟨rfl, k1⟩
    have HC1 : Hid (w1.heap[C]? = some (.cells #[.int .i64 kd, .string (bs k), .string (bs v), .int .i64 m] 31 (0, 0))) := k1.block _ _ HC.out (fun x => x)
    have HA1 : Hid (w1.heap[A]? = some (.cells #[.int .i64 kd, .string (bs k), .string (bs v), .int .i64 m, .int .i64 tg] 66 (0, 0))) := k1.block _ _ HAV.out (fun x => x)
    have K1 : Hid (Kept Nil w w1) := KV.out.trans k1
    clear k1 IC b0 b1 b2 b3
    have d0 : w1.cell? ⟨C, 0, none⟩ = some (.int .i64 kd) := blk_at HC1.out 0 rfl
    have d1 : w1.cell? ⟨C, 1, none⟩ = some (.string (bs k)) := blk_at HC1.out 1 rfl
    have d2 : w1.cell? ⟨C, 2, none⟩ = some (.string (bs v)) := blk_at HC1.out 2 rfl
    have d3 : w1.cell? ⟨C, 3, none⟩ = some (.int .i64 m) := blk_at HC1.out 3 rfl
    have d4 : w1.cell? ⟨A, 4, none⟩ = some (.int .i64 tg) := blk_at HA1.out 4 rfl
    go_wp2
    go_ret2
    exact ⟨rfl, K1.out⟩
  · subst c
    have y1 : (kd == 6) = false := by simpa using c1
    have y2 : ¬ (15 : Int) < k.length := by omega
    have y3 : ¬ (32 : Int) < v.length := by omega
    clear c1 c2 c3
    clear hb hg ha
    go_enter Tryz.func26, Tryz.ntmps26
    go_upto_region 1 with fail
    rw [← hW, ← HAe.out]
    clear hW
    go_upto_region 4 with fail
    rw [← HCe.out, ← hV]
    clear hV a0 a1 a2 a3
    go_wp2_with fail
    go_fit IC
    rintro _ w1 ⟨rfl, k1⟩
    have HC1 : Hid (w1.heap[C]? = some (.cells #[.int .i64 kd, .string (bs k), .string (bs v), .int .i64 m] 31 (0, 0))) := k1.block _ _ HC.out (fun x => x)
    have HA1 : Hid (w1.heap[A]? = some (.cells #[.int .i64 kd, .string (bs k), .string (bs v), .int .i64 m, .int .i64 tg] 66 (0, 0))) := k1.block _ _ HAV.out (fun x => x)
    have K1 : Hid (Kept Nil w w1) := KV.out.trans k1
    clear k1 IC b0 b1 b2 b3
    have d0 : w1.cell? ⟨C, 0, none⟩ = some (.int .i64 kd) := blk_at HC1.out 0 rfl
    have d1 : w1.cell? ⟨C, 1, none⟩ = some (.string (bs k)) := blk_at HC1.out 1 rfl
    have d2 : w1.cell? ⟨C, 2, none⟩ = some (.string (bs v)) := blk_at HC1.out 2 rfl
    have d3 : w1.cell? ⟨C, 3, none⟩ = some (.int .i64 m) := blk_at HC1.out 3 rfl
    have d4 : w1.cell? ⟨A, 4, none⟩ = some (.int .i64 tg) := blk_at HA1.out 4 rfl
    go_wp2
    go_ret2
    exact ⟨rfl, K1.out⟩
  · subst c
    have y1 : (kd == 6) = false := by simpa using c1
    have y2 : ¬ (15 : Int) < k.length := by omega
    have y3 : ¬ (32 : Int) < v.length := by omega
    clear c1 c2 c3
    clear hb hg ha
    go_enter Tryz.func26, Tryz.ntmps26
    go_upto_region 1 with fail
    rw [← hW, ← HAe.out]
    clear hW
    go_upto_region 4 with fail
    rw [← HCe.out, ← hV]
    clear hV a0 a1 a2 a3
    go_wp2_with fail
    go_fit IC
    rintro _ w1 ⟨rfl, k1⟩
    have HC1 : Hid (w1.heap[C]? = some (.cells #[.int .i64 kd, .string (bs k), .string (bs v), .int .i64 m] 31 (0, 0))) := k1.block _ _ HC.out (fun x => x)
    have HA1 : Hid (w1.heap[A]? = some (.cells #[.int .i64 kd, .string (bs k), .string (bs v), .int .i64 m, .int .i64 tg] 66 (0, 0))) := k1.block _ _ HAV.out (fun x => x)
    have K1 : Hid (Kept Nil w w1) := KV.out.trans k1
    clear k1 IC b0 b1 b2 b3
    have d0 : w1.cell? ⟨C, 0, none⟩ = some (.int .i64 kd) := blk_at HC1.out 0 rfl
    have d1 : w1.cell? ⟨C, 1, none⟩ = some (.string (bs k)) := blk_at HC1.out 1 rfl
    have d2 : w1.cell? ⟨C, 2, none⟩ = some (.string (bs v)) := blk_at HC1.out 2 rfl
    have d3 : w1.cell? ⟨C, 3, none⟩ = some (.int .i64 m) := blk_at HC1.out 3 rfl
    have d4 : w1.cell? ⟨A, 4, none⟩ = some (.int .i64 tg) := blk_at HA1.out 4 rfl
    go_wp2
    go_ret2
    exact ⟨rfl, K1.out⟩
  · subst c
    have y1 : (kd == 6) = false := by simpa using c1
    have y2 : ¬ (15 : Int) < k.length := by omega
    have y3 : ¬ (32 : Int) < v.length := by omega
    clear c1 c2 c3
    have y4 : (kd != 2) = true := by simpa using c7
    clear c7
    clear hb hg ha
    go_enter Tryz.func26, Tryz.ntmps26
    go_upto_region 1 with fail
    rw [← hW, ← HAe.out]
    clear hW
    go_upto_region 4 with fail
    rw [← HCe.out, ← hV]
    clear hV a0 a1 a2 a3
    go_wp2_with fail
    go_fit IC
    rintro _ w1 ⟨rfl, k1⟩
    have HC1 : Hid (w1.heap[C]? = some (.cells #[.int .i64 kd, .string (bs k), .string (bs v), .int .i64 m] 31 (0, 0))) := k1.block _ _ HC.out (fun x => x)
    have HA1 : Hid (w1.heap[A]? = some (.cells #[.int .i64 kd, .string (bs k), .string (bs v), .int .i64 m, .int .i64 tg] 66 (0, 0))) := k1.block _ _ HAV.out (fun x => x)
    have K1 : Hid (Kept Nil w w1) := KV.out.trans k1
    clear k1 IC b0 b1 b2 b3
    have d0 : w1.cell? ⟨C, 0, none⟩ = some (.int .i64 kd) := blk_at HC1.out 0 rfl
    have d1 : w1.cell? ⟨C, 1, none⟩ = some (.string (bs k)) := blk_at HC1.out 1 rfl
    have d2 : w1.cell? ⟨C, 2, none⟩ = some (.string (bs v)) := blk_at HC1.out 2 rfl
    have d3 : w1.cell? ⟨C, 3, none⟩ = some (.int .i64 m) := blk_at HC1.out 3 rfl
    have d4 : w1.cell? ⟨A, 4, none⟩ = some (.int .i64 tg) := blk_at HA1.out 4 rfl
    go_wp2
    go_ret2
    exact ⟨rfl, K1.out⟩
set_option maxRecDepth 100000 in
set_option maxHeartbeats 2000000 in
theorem jnew_ok (gs at' : Nat) (kd m : Int) (tg : Nat) (k v : List UInt8) (w : World) (hg : 1 ≤ gs ∧ gs ≤ 4) (ha : 1 ≤ at' ∧ at' ≤ gs) (hc : isCmd kd k v m = true) (h6 : kd ≠ 6) (hk : k.length ≤ 15) (hv : v.length ≤ 32) (ht : tg ≤ gs) (ht2 : 0 < tg → kd = 2) :
    Calls Tryz.prog 26 #[.int .i64 gs, .int .i64 at', .agg #[.int .i64 kd, .string (bs k), .string (bs v), .int .i64 m, .int .i64 tg]] w (JNewPost w (Jb.new kd k v m tg at')) := by
  obtain ⟨W, hW⟩ : ∃ W, W = w.alloc (.cells #[.int .i64 kd, .string (bs k), .string (bs v), .int .i64 m, .int .i64 tg] 66) := ⟨_, rfl⟩
  obtain ⟨A, HAe⟩ : ∃ A, Hid (A = w.heap.size) := ⟨_, rfl⟩
  have KW : Hid (Kept Nil w W) := by rw [hW]; exact (Kept.refl _ _).alloc _
  have HA : Hid (W.heap[A]? = some (.cells #[.int .i64 kd, .string (bs k), .string (bs v), .int .i64 m, .int .i64 tg] 66 (0, 0))) := by rw [hW, HAe.out]; exact blk_new _ _
  obtain ⟨C, HCe⟩ : ∃ C, Hid (C = W.heap.size) := ⟨_, rfl⟩
  obtain ⟨V, hV⟩ : ∃ V, V = W.alloc (.cells #[.int .i64 kd, .string (bs k), .string (bs v), .int .i64 m] 31) := ⟨_, rfl⟩
  have KV : Hid (Kept Nil w V) := by rw [hV]; exact KW.out.alloc _
  have HC : Hid (V.heap[C]? = some (.cells #[.int .i64 kd, .string (bs k), .string (bs v), .int .i64 m] 31 (0, 0))) := by rw [hV, HCe.out]; exact blk_new _ _
  have HAV : Hid (V.heap[A]? = some (.cells #[.int .i64 kd, .string (bs k), .string (bs v), .int .i64 m, .int .i64 tg] 66 (0, 0))) := by rw [hV]; exact blk_past HA.out _
  have IC := refIsCommand_any kd m k v V (by unfold maxLen; omega) (by unfold maxLen; omega)
  have a0 : W.cell? ⟨A, 0, none⟩ = some (.int .i64 kd) := blk_at HA.out 0 rfl
  have a1 : W.cell? ⟨A, 1, none⟩ = some (.string (bs k)) := blk_at HA.out 1 rfl
  have a2 : W.cell? ⟨A, 2, none⟩ = some (.string (bs v)) := blk_at HA.out 2 rfl
  have a3 : W.cell? ⟨A, 3, none⟩ = some (.int .i64 m) := blk_at HA.out 3 rfl
  have b0 : V.cell? ⟨C, 0, none⟩ = some (.int .i64 kd) := blk_at HC.out 0 rfl
  have b1 : V.cell? ⟨C, 1, none⟩ = some (.string (bs k)) := blk_at HC.out 1 rfl
  have b2 : V.cell? ⟨C, 2, none⟩ = some (.string (bs v)) := blk_at HC.out 2 rfl
  have b3 : V.cell? ⟨C, 3, none⟩ = some (.int .i64 m) := blk_at HC.out 3 rfl
  have z1 : (bs k).size = k.length := bs_size k
  have z2 : (bs v).size = v.length := bs_size v
  have e1 : ¬ (gs : Int) < 1 := by omega
  have e2 : ¬ (4 : Int) < gs := by omega
  have e3 : ¬ (at' : Int) < 1 := by omega
  have e4 : ¬ (gs : Int) < at' := by omega
  have y1 : (kd == 6) = false := by simpa using h6
  have y2 : ¬ (15 : Int) < k.length := by omega
  have y3 : ¬ (32 : Int) < v.length := by omega
  have y4 : ¬ (tg : Int) < 0 := by omega
  have y5 : ¬ (gs : Int) < tg := by omega
  obtain ⟨j, Hj⟩ : ∃ j, Hid (j = Jb.new kd k v m tg at') := ⟨_, rfl⟩
  rw [← Hj.out]
  rw [hc] at IC
  clear hc h6 hk hv
  go_enter Tryz.func26, Tryz.ntmps26
  go_upto_region 1 with fail
  rw [← hW, ← HAe.out]
  clear hW
  go_upto_region 4 with fail
  rw [← HCe.out, ← hV]
  clear hV a0 a1 a2 a3
  go_wp2_with fail
  go_fit IC
  rintro _ w1 ⟨rfl, k1⟩
  have HC1 : Hid (w1.heap[C]? = some (.cells #[.int .i64 kd, .string (bs k), .string (bs v), .int .i64 m] 31 (0, 0))) := k1.block _ _ HC.out (fun x => x)
  have HA1 : Hid (w1.heap[A]? = some (.cells #[.int .i64 kd, .string (bs k), .string (bs v), .int .i64 m, .int .i64 tg] 66 (0, 0))) := k1.block _ _ HAV.out (fun x => x)
  have K1 : Hid (Kept Nil w w1) := KV.out.trans k1
  clear k1 IC b0 b1 b2 b3
  have d0 : w1.cell? ⟨C, 0, none⟩ = some (.int .i64 kd) := blk_at HC1.out 0 rfl
  have d1 : w1.cell? ⟨C, 1, none⟩ = some (.string (bs k)) := blk_at HC1.out 1 rfl
  have d2 : w1.cell? ⟨C, 2, none⟩ = some (.string (bs v)) := blk_at HC1.out 2 rfl
  have d3 : w1.cell? ⟨C, 3, none⟩ = some (.int .i64 m) := blk_at HC1.out 3 rfl
  have d4 : w1.cell? ⟨A, 4, none⟩ = some (.int .i64 tg) := blk_at HA1.out 4 rfl
  have HF : Hid (∀ X, X = w1.alloc (.cells #[.int .i64 at', .int .i64 tg, .int .i64 kd, .string (bs k), .string (bs v), .int .i64 m, .int .i64 1, .int .i64 0, .int .i64 0, .int .i64 0, .int .i64 0, .string ⟨#[]⟩, .int .i64 0, .int .i64 0, .int .i64 0, .int .i64 0, .string ⟨#[]⟩, .int .i64 0, .int .i64 0, .bool false, .int .i64 1, .int .i64 0, .string ⟨#[]⟩, .int .i64 0, .slice none 0 0, .int .i64 0, .string ⟨#[]⟩, .int .i64 0, .slice none 0 0] 142) → JdAt X w1.heap.size j ⟨none, 0, none, 0⟩ ∧ Kept Nil w X) := fun X hX => by
    rw [hX, Hj.out]
    exact ⟨blk_new _ _, K1.out.alloc _⟩
  have Hsz : Hid (w.heap.size ≤ w1.heap.size) := K1.out.size
  by_cases c0 : 0 < tg
  · have e0 : (0 : Int) < tg := by omega
    obtain rfl := ht2 c0
    clear c0
    go_wp2
    go_ret2
    exact ⟨_, rfl, Hsz.out, HF.out _ rfl⟩
  · have e0 : ¬ (0 : Int) < tg := by omega
    clear c0
    go_wp2
    go_ret2
    exact ⟨_, rfl, Hsz.out, HF.out _ rfl⟩
end Go.Proofs.YtflnjlbafchnaaaGreatDoor
