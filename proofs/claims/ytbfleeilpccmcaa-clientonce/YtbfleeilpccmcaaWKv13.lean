/-
  kv: the document's get and put.
-/
import Derived.Test.YtbfleeilpccmcaaWOlb
import Derived.Deep.DeepCutAuto
import Derived.Deep.LoopGhost
namespace Go.Proofs.Ytbfleeilpccmcaa
open Go.RowKit

theorem room_no {ps : List Pr} {n : Int} {x : List UInt8} (h : roomB ps.length n x = false) (key : List UInt8) (i : Nat) : putP key x n i ps = ps ∧ putRr x n ps.length = ⟨4, [], 0, []⟩ := ⟨if_pos h, if_pos h⟩
theorem room_yes {ps : List Pr} {n : Int} {x : List UInt8} (h : roomB ps.length n x = true) (key : List UInt8) (i : Nat) : putP key x n i ps = (if n = 0 then insP i ⟨key, x, n + 1⟩ ps else ps.set i ⟨key, x, n + 1⟩) ∧ putRr x n ps.length = ⟨1, [], n + 1, []⟩ := ⟨if_neg (by rw [h]; simp), if_neg (by rw [h]; simp)⟩
end Go.Proofs.Ytbfleeilpccmcaa
