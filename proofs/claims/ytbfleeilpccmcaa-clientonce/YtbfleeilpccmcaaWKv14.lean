/-
  kv: the document's put, where there is room.
-/
import Derived.Test.YtbfleeilpccmcaaWKv13
namespace Go.Proofs.Ytbfleeilpccmcaa
open Go.RowKit

theorem step_first (key : List UInt8) (x : Pr) (o : List Pr) (d : Bool) (p : Pr) : stepP key x (o, d) p = (if p.k = key then (if (!d && !lessB p.k key) = true then (o ++ [x], true) else (o, d)) else ((if (!d && !lessB p.k key) = true then (o ++ [x], true) else (o, d)).1 ++ [p], (if (!d && !lessB p.k key) = true then (o ++ [x], true) else (o, d)).2)) := by
  unfold stepP
  cases d <;> cases lessB p.k key <;> simp
theorem less_asym {a b : List UInt8} (h : lessB a b = true) : lessB b a = false := by
  cases hb : lessB b a with
  | false => rfl
  | true => exact absurd (less_trans h hb) (by rw [less_irrefl]; simp)
theorem le_no {y key : List UInt8} (h : Op.bytesLess y key = true) : Op.bytesLess key y = false ∧ ¬ key = y := ⟨less_asym h, fun e => by subst e; have := less_irrefl key; unfold lessB at this; rw [this] at h; cases h⟩
theorem le_yes {y key : List UInt8} (h : Op.bytesLess y key = false) : Op.bytesLess key y = true ∨ key = y := by
  by_cases e : key = y
  · exact .inr e
  · exact .inl (less_total h (fun x => e x.symm))
end Go.Proofs.Ytbfleeilpccmcaa
