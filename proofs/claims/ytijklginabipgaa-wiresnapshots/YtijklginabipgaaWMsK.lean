/-
  Does what a message's kind has go together (kinds 1, 3, 2, 4, 6, none)?
-/
import Derived.Test.YtijklginabipgaaWMs0
namespace Go.Proofs.Ytijklginabipgaa
open Go.RowKit

set_option maxRecDepth 100000 in
set_option maxHeartbeats 4000000 in
theorem fits_1 (fr td tm : Int) (ix lg : Int) (w : World) :
    Calls Try.prog 177 #[.agg #[.int .i64 1, .int .i64 fr, .int .i64 td, .int .i64 tm, .int .i64 ix, .int .i64 lg, .int .i64 0, .slice none 0 0, .int .i64 0, .int .i64 0, .slice none 0 0, .slice none 0 0, .slice none 0 0, .string (bs []), .bool false, .int .i64 0, .int .i64 0]] w fun e w' => e = .returned (.bool ((ix == 0) == (lg == 0))) ∧ Kept Nil w w' := by
  go_enter Try.func177, Try.ntmps177
  go_wp2
  go_ret
  exact ⟨rfl, (Kept.refl _ _).alloc _⟩

set_option maxRecDepth 100000 in
set_option maxHeartbeats 4000000 in
theorem fits_3 (fr td tm : Int) (ix lg : Int) (w : World) :
    Calls Try.prog 177 #[.agg #[.int .i64 3, .int .i64 fr, .int .i64 td, .int .i64 tm, .int .i64 ix, .int .i64 lg, .int .i64 0, .slice none 0 0, .int .i64 0, .int .i64 0, .slice none 0 0, .slice none 0 0, .slice none 0 0, .string (bs []), .bool false, .int .i64 0, .int .i64 0]] w fun e w' => e = .returned (.bool ((ix == 0) == (lg == 0))) ∧ Kept Nil w w' := by
  go_enter Try.func177, Try.ntmps177
  go_wp2
  go_ret
  exact ⟨rfl, (Kept.refl _ _).alloc _⟩

set_option maxRecDepth 100000 in
set_option maxHeartbeats 4000000 in
theorem fits_2 (fr td tm : Int) (rj : Bool) (w : World) :
    Calls Try.prog 177 #[.agg #[.int .i64 2, .int .i64 fr, .int .i64 td, .int .i64 tm, .int .i64 0, .int .i64 0, .int .i64 0, .slice none 0 0, .int .i64 0, .int .i64 0, .slice none 0 0, .slice none 0 0, .slice none 0 0, .string (bs []), .bool rj, .int .i64 0, .int .i64 0]] w fun e w' => e = .returned (.bool true) ∧ Kept Nil w w' := by
  go_enter Try.func177, Try.ntmps177
  go_wp2
  go_ret
  exact ⟨rfl, (Kept.refl _ _).alloc _⟩

set_option maxRecDepth 100000 in
set_option maxHeartbeats 4000000 in
theorem fits_4 (fr td tm : Int) (rj : Bool) (w : World) :
    Calls Try.prog 177 #[.agg #[.int .i64 4, .int .i64 fr, .int .i64 td, .int .i64 tm, .int .i64 0, .int .i64 0, .int .i64 0, .slice none 0 0, .int .i64 0, .int .i64 0, .slice none 0 0, .slice none 0 0, .slice none 0 0, .string (bs []), .bool rj, .int .i64 0, .int .i64 0]] w fun e w' => e = .returned (.bool true) ∧ Kept Nil w w' := by
  go_enter Try.func177, Try.ntmps177
  go_wp2
  go_ret
  exact ⟨rfl, (Kept.refl _ _).alloc _⟩

set_option maxRecDepth 100000 in
set_option maxHeartbeats 4000000 in
theorem fits_6 (fr td tm : Int) (ix hn cx : Int) (rj : Bool) (w : World) :
    Calls Try.prog 177 #[.agg #[.int .i64 6, .int .i64 fr, .int .i64 td, .int .i64 tm, .int .i64 ix, .int .i64 0, .int .i64 0, .slice none 0 0, .int .i64 0, .int .i64 0, .slice none 0 0, .slice none 0 0, .slice none 0 0, .string (bs []), .bool rj, .int .i64 hn, .int .i64 cx]] w fun e w' => e = .returned (.bool true) ∧ Kept Nil w w' := by
  go_enter Try.func177, Try.ntmps177
  go_wp2
  go_ret
  exact ⟨rfl, (Kept.refl _ _).alloc _⟩

set_option maxRecDepth 100000 in
set_option maxHeartbeats 4000000 in
theorem fits_o (kd : Int) (fr td tm : Int)  (w : World) (hk : kd = 0 ∨ 7 < kd) :
    Calls Try.prog 177 #[.agg #[.int .i64 kd, .int .i64 fr, .int .i64 td, .int .i64 tm, .int .i64 0, .int .i64 0, .int .i64 0, .slice none 0 0, .int .i64 0, .int .i64 0, .slice none 0 0, .slice none 0 0, .slice none 0 0, .string (bs []), .bool false, .int .i64 0, .int .i64 0]] w fun e w' => e = .returned (.bool false) ∧ Kept Nil w w' := by
  have k1 : (kd == 1) = false := by simp; omega
  have k2 : (kd == 2) = false := by simp; omega
  have k3 : (kd == 3) = false := by simp; omega
  have k4 : (kd == 4) = false := by simp; omega
  have k5 : (kd == 5) = false := by simp; omega
  have k6 : (kd == 6) = false := by simp; omega
  have k7 : (kd == 7) = false := by simp; omega
  clear hk
  go_enter Try.func177, Try.ntmps177
  go_wp2
  go_ret
  exact ⟨rfl, (Kept.refl _ _).alloc _⟩

end Go.Proofs.Ytijklginabipgaa
