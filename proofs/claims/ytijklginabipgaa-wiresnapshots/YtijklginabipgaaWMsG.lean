/-
  A message that has no field of a kind is bare.
-/
import Derived.Test.YtijklginabipgaaWOle
namespace Go.Proofs.Ytijklginabipgaa
open Go.RowKit

set_option maxRecDepth 100000 in
set_option maxHeartbeats 4000000 in
theorem isBare_yes (kd fr td tm : Int) (w : World) :
    Calls Try.prog 175 #[.agg #[.int .i64 kd, .int .i64 fr, .int .i64 td, .int .i64 tm, .int .i64 0, .int .i64 0, .int .i64 0, .slice none 0 0, .int .i64 0, .int .i64 0, .slice none 0 0, .slice none 0 0, .slice none 0 0, .string (bs []), .bool false, .int .i64 0, .int .i64 0]] w fun e w' => e = .returned (.bool true) ∧ Kept Nil w w' := by
  have HS : ∀ w', Calls Try.prog 58 #[.agg #[.slice none 0 0, .slice none 0 0, .slice none 0 0], .agg #[.slice none 0 0, .slice none 0 0, .slice none 0 0]] w' fun e w'' => e = .returned (.bool true) ∧ Kept Nil w' w'' := fun w' => same_yes 0 0 0 0 0 0 0 0 none none none none none none [] [] [] w' ⟨intRow_nil _ _ _, intRow_nil _ _ _, intRow_nil _ _ _⟩ ⟨intRow_nil _ _ _, intRow_nil _ _ _, intRow_nil _ _ _⟩ (by simp) (by simp) (by simp)
  have HB : Hid (_) := blk_new (w.alloc (.cells #[.int .i64 kd, .int .i64 fr, .int .i64 td, .int .i64 tm, .int .i64 0, .int .i64 0, .int .i64 0, .slice none 0 0, .int .i64 0, .int .i64 0, .slice none 0 0, .slice none 0 0, .slice none 0 0, .string (bs []), .bool false, .int .i64 0, .int .i64 0] 85)) (.cells #[.int .i64 0, .int .i64 0, .slice none 0 0, .slice none 0 0, .slice none 0 0, .string (bs [])] 61)
  rw [show (w.alloc (.cells #[.int .i64 kd, .int .i64 fr, .int .i64 td, .int .i64 tm, .int .i64 0, .int .i64 0, .int .i64 0, .slice none 0 0, .int .i64 0, .int .i64 0, .slice none 0 0, .slice none 0 0, .slice none 0 0, .string (bs []), .bool false, .int .i64 0, .int .i64 0] 85)).heap.size = w.heap.size + 1 by simp] at HB
  go_enter Try.func175, Try.ntmps175
  go_wp2_with (go_at_call 58; go_must (refine (HS _).mono ?_); rintro e w1 ⟨rfl, k1⟩; have q5 := blk_at (k1.block _ _ HB.out (fun x => x.elim)) 5 rfl)
  go_ret
  exact ⟨ret_bool (by rw [bs_toList]; rfl), (((Kept.refl _ _).alloc _).alloc _).trans k1⟩

end Go.Proofs.Ytijklginabipgaa
