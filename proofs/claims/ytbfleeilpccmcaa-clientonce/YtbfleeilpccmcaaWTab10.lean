/-
  A table written by the document's answer: the same bytes.
-/
import Derived.Test.YtbfleeilpccmcaaWTab6
import Derived.Test.YtbfleeilpccmcaaWTabP
namespace Go.Proofs.Ytbfleeilpccmcaa
open Go.RowKit

theorem cat_le {a b : List UInt8} {n m : Nat} (ha : (bs a).size ≤ n) (hb : (bs b).size ≤ m) : (bs a ++ bs b).size ≤ n + m := by
  rw [bs_append, bs_size, List.length_append]
  rw [bs_size] at ha hb
  omega
theorem bs_le {a : List UInt8} {n : Nat} (h : a.length ≤ n) : (bs a).size ≤ n := by rw [bs_size]; exact h
theorem ints4 (w : World) (o : Obj) (x y z u : Int) : IntsAt ((w.alloc o).alloc (.cells #[.int .i64 x, .int .i64 y, .int .i64 z, .int .i64 u] 3)) (w.heap.size + 1) [x, y, z, u] := by
  intro j hj
  have hb := blk_new (w.alloc o) (.cells #[.int .i64 x, .int .i64 y, .int .i64 z, .int .i64 u] 3)
  rw [show (w.alloc o).heap.size = w.heap.size + 1 by simp] at hb
  simp only [List.length_cons, List.length_nil] at hj
  rcases (show j = 0 ∨ j = 1 ∨ j = 2 ∨ j = 3 by omega) with rfl | rfl | rfl | rfl <;> exact blk_cell hb _
def numGet (zs : List Int) (j : Nat) : Int := zs.getD j 0
theorem encAll_step4 (x y z u : Int) {j : Nat} (h : j < 4) : encAll (([x, y, z, u].map Int.toNat).take (j + 1)) = encAll (([x, y, z, u].map Int.toNat).take j) ++ enc (numGet [x, y, z, u] j).toNat := by
  rcases (show j = 0 ∨ j = 1 ∨ j = 2 ∨ j = 3 by omega) with rfl | rfl | rfl | rfl <;> simp [encAll, numGet]
theorem numGet_ok {x y z u : Int} (h1 : isNum x = true) (h2 : isNum y = true) (h3 : isNum z = true) (h4 : isNum u = true) {j : Nat} (h : j < 4) : isNum (numGet [x, y, z, u] j) = true := by
  rcases (show j = 0 ∨ j = 1 ∨ j = 2 ∨ j = 3 by omega) with rfl | rfl | rfl | rfl <;> simp [numGet, *]
theorem encAll_four {x y z u : Int} (h1 : isNum x = true) (h2 : isNum y = true) (h3 : isNum z = true) (h4 : isNum u = true) (j : Nat) : (encAll (([x, y, z, u].map Int.toNat).take j)).length ≤ 24 := by
  have := encAll_len (([x, y, z, u].map Int.toNat).take j) (fun n hn => by
    have hn := List.mem_of_mem_take hn
    simp at hn
    rcases hn with rfl | rfl | rfl | rfl
    · exact (isNum_nat h1).2
    · exact (isNum_nat h2).2
    · exact (isNum_nat h3).2
    · exact (isNum_nat h4).2)
  simp only [List.length_take, List.length_map, List.length_cons, List.length_nil] at this
  omega

end Go.Proofs.Ytbfleeilpccmcaa
