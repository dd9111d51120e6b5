/-
  kv: the document's Apply: delete.
-/
import Derived.Test.YtbfleeilpccmcaaWKv15
import Derived.Test.YtbfleeilpccmcaaWOld
namespace Go.Proofs.Ytbfleeilpccmcaa
open Go.RowKit

/-- What is left behind so many rounds. -/
def delK (r k : Nat) (ps : List Pr) : List Pr := if k ≤ r then ps.take k else delP r (ps.take k)
theorem delK_zero {r : Nat} {ps : List Pr} : delK r 0 ps = [] := by unfold delK; rw [if_pos (Nat.zero_le _)]; rfl
theorem delK_skip {r : Nat} {ps : List Pr} (h : r < ps.length) : delK r r ps = delK r (r + 1) ps := by
  unfold delK
  rw [if_pos (Nat.le_refl _), if_neg (by omega)]
  unfold delP
  rw [List.take_take, Nat.min_eq_left (by omega), List.drop_eq_nil_of_le (by rw [List.length_take]; omega), List.append_nil]
theorem delK_more {r k : Nat} {ps : List Pr} (h : k < ps.length) (hne : k ≠ r) : delK r (k + 1) ps = delK r k ps ++ [ps[k]] := by
  unfold delK
  by_cases hk : k < r
  · rw [if_pos (by omega), if_pos (by omega), List.take_succ_eq_append_getElem h]
  · rw [if_neg (by omega), if_neg (by omega)]
    unfold delP
    rw [List.take_take, List.take_take, Nat.min_eq_left (by omega), Nat.min_eq_left (by omega), List.take_succ_eq_append_getElem h, List.drop_append_of_le_length (by rw [List.length_take]; omega), List.append_assoc]
theorem delK_all {r : Nat} {ps : List Pr} (h : r < ps.length) : delK r ps.length ps = delP r ps := by
  unfold delK
  rw [if_neg (by omega), List.take_length]
end Go.Proofs.Ytbfleeilpccmcaa
