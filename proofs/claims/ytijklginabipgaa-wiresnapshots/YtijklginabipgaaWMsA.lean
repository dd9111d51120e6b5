/-
  A message without the fields that its kind has.
-/
import Derived.Test.YtijklginabipgaaWMs0
namespace Go.Proofs.Ytijklginabipgaa
open Go.RowKit

set_option maxRecDepth 100000 in
set_option maxHeartbeats 4000000 in
theorem strip_1 (fr td tm : Int) (ix lg : Int) (w : World) :
    Calls Try.prog 176 #[.agg #[.int .i64 1, .int .i64 fr, .int .i64 td, .int .i64 tm, .int .i64 ix, .int .i64 lg, .int .i64 0, .slice none 0 0, .int .i64 0, .int .i64 0, .slice none 0 0, .slice none 0 0, .slice none 0 0, .string (bs []), .bool false, .int .i64 0, .int .i64 0]] w fun e w' => e = .returned (.agg #[.int .i64 1, .int .i64 fr, .int .i64 td, .int .i64 tm, .int .i64 0, .int .i64 0, .int .i64 0, .slice none 0 0, .int .i64 0, .int .i64 0, .slice none 0 0, .slice none 0 0, .slice none 0 0, .string (bs []), .bool false, .int .i64 0, .int .i64 0]) ∧ Kept Nil w w' := by
  go_enter Try.func176, Try.ntmps176
  go_wp2_with (first | (with_reducible refine atLoad 85 ?_; go_must (refine wpList_loadW rfl _ _ rfl _ rfl _ _ _ (blk_past (blk_new w _) _) Try.underlying85 rfl Try.sizeMsg rfl ?_)) | (with_reducible refine atStore 85 ?_; go_must (refine wpList_storeW rfl _ _ _ rfl _ #[.int .i64 1, .int .i64 fr, .int .i64 td, .int .i64 tm, .int .i64 0, .int .i64 0, .int .i64 0, .slice none 0 0, .int .i64 0, .int .i64 0, .slice none 0 0, .slice none 0 0, .slice none 0 0, .string (bs []), .bool false, .int .i64 0, .int .i64 0] _ _ rfl rfl (blk_new1 w _ _) rfl Try.sizeMsg rfl (one17 rfl rfl rfl rfl rfl rfl rfl rfl rfl rfl rfl rfl rfl rfl rfl rfl rfl) ?_); intro w9 hb9 hk9 hs9))
  refine bodyPost_ret (results_cellW rfl rfl hb9 Try.underlying85 rfl Try.sizeMsg rfl) rfl ⟨rfl, Kept.ofNew (((Kept.refl _ _).alloc _).alloc _) hk9 (fun k _ h => by have : k = w.heap.size + 1 := h; omega)⟩

set_option maxRecDepth 100000 in
set_option maxHeartbeats 4000000 in
theorem strip_3 (fr td tm : Int) (ix lg : Int) (w : World) :
    Calls Try.prog 176 #[.agg #[.int .i64 3, .int .i64 fr, .int .i64 td, .int .i64 tm, .int .i64 ix, .int .i64 lg, .int .i64 0, .slice none 0 0, .int .i64 0, .int .i64 0, .slice none 0 0, .slice none 0 0, .slice none 0 0, .string (bs []), .bool false, .int .i64 0, .int .i64 0]] w fun e w' => e = .returned (.agg #[.int .i64 3, .int .i64 fr, .int .i64 td, .int .i64 tm, .int .i64 0, .int .i64 0, .int .i64 0, .slice none 0 0, .int .i64 0, .int .i64 0, .slice none 0 0, .slice none 0 0, .slice none 0 0, .string (bs []), .bool false, .int .i64 0, .int .i64 0]) ∧ Kept Nil w w' := by
  go_enter Try.func176, Try.ntmps176
  go_wp2_with (first | (with_reducible refine atLoad 85 ?_; go_must (refine wpList_loadW rfl _ _ rfl _ rfl _ _ _ (blk_past (blk_new w _) _) Try.underlying85 rfl Try.sizeMsg rfl ?_)) | (with_reducible refine atStore 85 ?_; go_must (refine wpList_storeW rfl _ _ _ rfl _ #[.int .i64 3, .int .i64 fr, .int .i64 td, .int .i64 tm, .int .i64 0, .int .i64 0, .int .i64 0, .slice none 0 0, .int .i64 0, .int .i64 0, .slice none 0 0, .slice none 0 0, .slice none 0 0, .string (bs []), .bool false, .int .i64 0, .int .i64 0] _ _ rfl rfl (blk_new1 w _ _) rfl Try.sizeMsg rfl (one17 rfl rfl rfl rfl rfl rfl rfl rfl rfl rfl rfl rfl rfl rfl rfl rfl rfl) ?_); intro w9 hb9 hk9 hs9))
  refine bodyPost_ret (results_cellW rfl rfl hb9 Try.underlying85 rfl Try.sizeMsg rfl) rfl ⟨rfl, Kept.ofNew (((Kept.refl _ _).alloc _).alloc _) hk9 (fun k _ h => by have : k = w.heap.size + 1 := h; omega)⟩

set_option maxRecDepth 100000 in
set_option maxHeartbeats 4000000 in
theorem strip_2 (fr td tm : Int) (rj : Bool) (w : World) :
    Calls Try.prog 176 #[.agg #[.int .i64 2, .int .i64 fr, .int .i64 td, .int .i64 tm, .int .i64 0, .int .i64 0, .int .i64 0, .slice none 0 0, .int .i64 0, .int .i64 0, .slice none 0 0, .slice none 0 0, .slice none 0 0, .string (bs []), .bool rj, .int .i64 0, .int .i64 0]] w fun e w' => e = .returned (.agg #[.int .i64 2, .int .i64 fr, .int .i64 td, .int .i64 tm, .int .i64 0, .int .i64 0, .int .i64 0, .slice none 0 0, .int .i64 0, .int .i64 0, .slice none 0 0, .slice none 0 0, .slice none 0 0, .string (bs []), .bool false, .int .i64 0, .int .i64 0]) ∧ Kept Nil w w' := by
  go_enter Try.func176, Try.ntmps176
  go_wp2_with (first | (with_reducible refine atLoad 85 ?_; go_must (refine wpList_loadW rfl _ _ rfl _ rfl _ _ _ (blk_past (blk_new w _) _) Try.underlying85 rfl Try.sizeMsg rfl ?_)) | (with_reducible refine atStore 85 ?_; go_must (refine wpList_storeW rfl _ _ _ rfl _ #[.int .i64 2, .int .i64 fr, .int .i64 td, .int .i64 tm, .int .i64 0, .int .i64 0, .int .i64 0, .slice none 0 0, .int .i64 0, .int .i64 0, .slice none 0 0, .slice none 0 0, .slice none 0 0, .string (bs []), .bool false, .int .i64 0, .int .i64 0] _ _ rfl rfl (blk_new1 w _ _) rfl Try.sizeMsg rfl (one17 rfl rfl rfl rfl rfl rfl rfl rfl rfl rfl rfl rfl rfl rfl rfl rfl rfl) ?_); intro w9 hb9 hk9 hs9))
  refine bodyPost_ret (results_cellW rfl rfl hb9 Try.underlying85 rfl Try.sizeMsg rfl) rfl ⟨rfl, Kept.ofNew (((Kept.refl _ _).alloc _).alloc _) hk9 (fun k _ h => by have : k = w.heap.size + 1 := h; omega)⟩

set_option maxRecDepth 100000 in
set_option maxHeartbeats 4000000 in
theorem strip_4 (fr td tm : Int) (rj : Bool) (w : World) :
    Calls Try.prog 176 #[.agg #[.int .i64 4, .int .i64 fr, .int .i64 td, .int .i64 tm, .int .i64 0, .int .i64 0, .int .i64 0, .slice none 0 0, .int .i64 0, .int .i64 0, .slice none 0 0, .slice none 0 0, .slice none 0 0, .string (bs []), .bool rj, .int .i64 0, .int .i64 0]] w fun e w' => e = .returned (.agg #[.int .i64 4, .int .i64 fr, .int .i64 td, .int .i64 tm, .int .i64 0, .int .i64 0, .int .i64 0, .slice none 0 0, .int .i64 0, .int .i64 0, .slice none 0 0, .slice none 0 0, .slice none 0 0, .string (bs []), .bool false, .int .i64 0, .int .i64 0]) ∧ Kept Nil w w' := by
  go_enter Try.func176, Try.ntmps176
  go_wp2_with (first | (with_reducible refine atLoad 85 ?_; go_must (refine wpList_loadW rfl _ _ rfl _ rfl _ _ _ (blk_past (blk_new w _) _) Try.underlying85 rfl Try.sizeMsg rfl ?_)) | (with_reducible refine atStore 85 ?_; go_must (refine wpList_storeW rfl _ _ _ rfl _ #[.int .i64 4, .int .i64 fr, .int .i64 td, .int .i64 tm, .int .i64 0, .int .i64 0, .int .i64 0, .slice none 0 0, .int .i64 0, .int .i64 0, .slice none 0 0, .slice none 0 0, .slice none 0 0, .string (bs []), .bool false, .int .i64 0, .int .i64 0] _ _ rfl rfl (blk_new1 w _ _) rfl Try.sizeMsg rfl (one17 rfl rfl rfl rfl rfl rfl rfl rfl rfl rfl rfl rfl rfl rfl rfl rfl rfl) ?_); intro w9 hb9 hk9 hs9))
  refine bodyPost_ret (results_cellW rfl rfl hb9 Try.underlying85 rfl Try.sizeMsg rfl) rfl ⟨rfl, Kept.ofNew (((Kept.refl _ _).alloc _).alloc _) hk9 (fun k _ h => by have : k = w.heap.size + 1 := h; omega)⟩

set_option maxRecDepth 100000 in
set_option maxHeartbeats 4000000 in
theorem strip_5 (fr td tm : Int) (ix lg cm cx : Int) (ae : Option Addr) (ne ce : Nat) (w : World) :
    Calls Try.prog 176 #[.agg #[.int .i64 5, .int .i64 fr, .int .i64 td, .int .i64 tm, .int .i64 ix, .int .i64 lg, .int .i64 cm, .slice ae ne ce, .int .i64 0, .int .i64 0, .slice none 0 0, .slice none 0 0, .slice none 0 0, .string (bs []), .bool false, .int .i64 0, .int .i64 cx]] w fun e w' => e = .returned (.agg #[.int .i64 5, .int .i64 fr, .int .i64 td, .int .i64 tm, .int .i64 0, .int .i64 0, .int .i64 0, .slice none 0 0, .int .i64 0, .int .i64 0, .slice none 0 0, .slice none 0 0, .slice none 0 0, .string (bs []), .bool false, .int .i64 0, .int .i64 0]) ∧ Kept Nil w w' := by
  go_enter Try.func176, Try.ntmps176
  go_wp2_with (first | (with_reducible refine atLoad 85 ?_; go_must (refine wpList_loadW rfl _ _ rfl _ rfl _ _ _ (blk_past (blk_new w _) _) Try.underlying85 rfl Try.sizeMsg rfl ?_)) | (with_reducible refine atStore 85 ?_; go_must (refine wpList_storeW rfl _ _ _ rfl _ #[.int .i64 5, .int .i64 fr, .int .i64 td, .int .i64 tm, .int .i64 0, .int .i64 0, .int .i64 0, .slice none 0 0, .int .i64 0, .int .i64 0, .slice none 0 0, .slice none 0 0, .slice none 0 0, .string (bs []), .bool false, .int .i64 0, .int .i64 0] _ _ rfl rfl (blk_new1 w _ _) rfl Try.sizeMsg rfl (one17 rfl rfl rfl rfl rfl rfl rfl rfl rfl rfl rfl rfl rfl rfl rfl rfl rfl) ?_); intro w9 hb9 hk9 hs9))
  refine bodyPost_ret (results_cellW rfl rfl hb9 Try.underlying85 rfl Try.sizeMsg rfl) rfl ⟨rfl, Kept.ofNew (((Kept.refl _ _).alloc _).alloc _) hk9 (fun k _ h => by have : k = w.heap.size + 1 := h; omega)⟩

set_option maxRecDepth 100000 in
set_option maxHeartbeats 4000000 in
theorem strip_6 (fr td tm : Int) (ix hn cx : Int) (rj : Bool) (w : World) :
    Calls Try.prog 176 #[.agg #[.int .i64 6, .int .i64 fr, .int .i64 td, .int .i64 tm, .int .i64 ix, .int .i64 0, .int .i64 0, .slice none 0 0, .int .i64 0, .int .i64 0, .slice none 0 0, .slice none 0 0, .slice none 0 0, .string (bs []), .bool rj, .int .i64 hn, .int .i64 cx]] w fun e w' => e = .returned (.agg #[.int .i64 6, .int .i64 fr, .int .i64 td, .int .i64 tm, .int .i64 0, .int .i64 0, .int .i64 0, .slice none 0 0, .int .i64 0, .int .i64 0, .slice none 0 0, .slice none 0 0, .slice none 0 0, .string (bs []), .bool false, .int .i64 0, .int .i64 0]) ∧ Kept Nil w w' := by
  go_enter Try.func176, Try.ntmps176
  go_wp2_with (first | (with_reducible refine atLoad 85 ?_; go_must (refine wpList_loadW rfl _ _ rfl _ rfl _ _ _ (blk_past (blk_new w _) _) Try.underlying85 rfl Try.sizeMsg rfl ?_)) | (with_reducible refine atStore 85 ?_; go_must (refine wpList_storeW rfl _ _ _ rfl _ #[.int .i64 6, .int .i64 fr, .int .i64 td, .int .i64 tm, .int .i64 0, .int .i64 0, .int .i64 0, .slice none 0 0, .int .i64 0, .int .i64 0, .slice none 0 0, .slice none 0 0, .slice none 0 0, .string (bs []), .bool false, .int .i64 0, .int .i64 0] _ _ rfl rfl (blk_new1 w _ _) rfl Try.sizeMsg rfl (one17 rfl rfl rfl rfl rfl rfl rfl rfl rfl rfl rfl rfl rfl rfl rfl rfl rfl) ?_); intro w9 hb9 hk9 hs9))
  refine bodyPost_ret (results_cellW rfl rfl hb9 Try.underlying85 rfl Try.sizeMsg rfl) rfl ⟨rfl, Kept.ofNew (((Kept.refl _ _).alloc _).alloc _) hk9 (fun k _ h => by have : k = w.heap.size + 1 := h; omega)⟩

set_option maxRecDepth 100000 in
set_option maxHeartbeats 4000000 in
theorem strip_o (kd : Int) (fr td tm : Int)  (w : World) (hk : kd = 0 ∨ 7 < kd) :
    Calls Try.prog 176 #[.agg #[.int .i64 kd, .int .i64 fr, .int .i64 td, .int .i64 tm, .int .i64 0, .int .i64 0, .int .i64 0, .slice none 0 0, .int .i64 0, .int .i64 0, .slice none 0 0, .slice none 0 0, .slice none 0 0, .string (bs []), .bool false, .int .i64 0, .int .i64 0]] w fun e w' => e = .returned (.agg #[.int .i64 kd, .int .i64 fr, .int .i64 td, .int .i64 tm, .int .i64 0, .int .i64 0, .int .i64 0, .slice none 0 0, .int .i64 0, .int .i64 0, .slice none 0 0, .slice none 0 0, .slice none 0 0, .string (bs []), .bool false, .int .i64 0, .int .i64 0]) ∧ Kept Nil w w' := by
  have k1 : (kd == 1) = false := by simp; omega
  have k2 : (kd == 2) = false := by simp; omega
  have k3 : (kd == 3) = false := by simp; omega
  have k4 : (kd == 4) = false := by simp; omega
  have k5 : (kd == 5) = false := by simp; omega
  have k6 : (kd == 6) = false := by simp; omega
  have k7 : (kd == 7) = false := by simp; omega
  clear hk
  go_enter Try.func176, Try.ntmps176
  go_wp2_with (first | (with_reducible refine atLoad 85 ?_; go_must (refine wpList_loadW rfl _ _ rfl _ rfl _ _ _ (blk_past (blk_new w _) _) Try.underlying85 rfl Try.sizeMsg rfl ?_)) | (with_reducible refine atStore 85 ?_; go_must (refine wpList_storeW rfl _ _ _ rfl _ #[.int .i64 kd, .int .i64 fr, .int .i64 td, .int .i64 tm, .int .i64 0, .int .i64 0, .int .i64 0, .slice none 0 0, .int .i64 0, .int .i64 0, .slice none 0 0, .slice none 0 0, .slice none 0 0, .string (bs []), .bool false, .int .i64 0, .int .i64 0] _ _ rfl rfl (blk_new1 w _ _) rfl Try.sizeMsg rfl (one17 rfl rfl rfl rfl rfl rfl rfl rfl rfl rfl rfl rfl rfl rfl rfl rfl rfl) ?_); intro w9 hb9 hk9 hs9))
  refine bodyPost_ret (results_cellW rfl rfl hb9 Try.underlying85 rfl Try.sizeMsg rfl) rfl ⟨rfl, Kept.ofNew (((Kept.refl _ _).alloc _).alloc _) hk9 (fun k _ h => by have : k = w.heap.size + 1 := h; omega)⟩

end Go.Proofs.Ytijklginabipgaa
