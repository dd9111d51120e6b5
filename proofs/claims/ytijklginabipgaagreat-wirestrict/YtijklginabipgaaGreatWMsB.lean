/-
  A message without the fields that its kind has (kind 7).
-/
import Derived.Test.YtijklginabipgaaGreatWMs0
namespace Go.Proofs.YtijklginabipgaaGreat
open Go.RowKit

set_option maxRecDepth 100000 in
set_option maxHeartbeats 4000000 in
theorem strip_7 (fr td tm : Int) (cx si st : Int) (a1 a2 a3 : Option Addr) (n1 n2 n3 c1 c2 c3 : Nat) (dt : List UInt8) (w : World) :
    Calls Tryz.prog 73 #[.agg #[.int .i64 7, .int .i64 fr, .int .i64 td, .int .i64 tm, .int .i64 0, .int .i64 0, .int .i64 0, .slice none 0 0, .int .i64 si, .int .i64 st, .slice a1 n1 c1, .slice a2 n2 c2, .slice a3 n3 c3, .string (bs dt), .bool false, .int .i64 0, .int .i64 cx]] w fun e w' => e = .returned (.agg #[.int .i64 7, .int .i64 fr, .int .i64 td, .int .i64 tm, .int .i64 0, .int .i64 0, .int .i64 0, .slice none 0 0, .int .i64 0, .int .i64 0, .slice none 0 0, .slice none 0 0, .slice none 0 0, .string (bs []), .bool false, .int .i64 0, .int .i64 0]) ∧ Kept Nil w w' := by
  go_enter Tryz.func73, Tryz.ntmps73
  go_wp2_with (first | (with_reducible refine atLoad 49 ?_; go_must (refine wpList_loadW rfl _ _ rfl _ rfl _ _ _ (blk_past (blk_new w _) _) Tryz.underlying49 rfl Tryz.sizeMsg rfl ?_)) | (with_reducible refine atStore 49 ?_; go_must (refine wpList_storeW rfl _ _ _ rfl _ #[.int .i64 7, .int .i64 fr, .int .i64 td, .int .i64 tm, .int .i64 0, .int .i64 0, .int .i64 0, .slice none 0 0, .int .i64 0, .int .i64 0, .slice none 0 0, .slice none 0 0, .slice none 0 0, .string (bs []), .bool false, .int .i64 0, .int .i64 0] _ _ rfl rfl (blk_new1 w _ _) rfl Tryz.sizeMsg rfl (one17 rfl rfl rfl rfl rfl rfl rfl rfl rfl rfl rfl rfl rfl rfl rfl rfl rfl) ?_); intro w9 hb9 hk9 hs9))
  refine bodyPost_ret (results_cellW rfl rfl hb9 Tryz.underlying49 rfl Tryz.sizeMsg rfl) rfl ⟨rfl, Kept.ofNew (((Kept.refl _ _).alloc _).alloc _) hk9 (fun k _ h => by have : k = w.heap.size + 1 := h; omega)⟩

end Go.Proofs.YtijklginabipgaaGreat
