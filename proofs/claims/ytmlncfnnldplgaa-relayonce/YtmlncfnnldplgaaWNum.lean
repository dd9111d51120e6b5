/-
  Which numbers may be, and numbers written one behind the other: the program's areFrom, AreNumbers, AreCounts, and its writer's numbers.
-/
import Derived.Test.YtmlncfnnldplgaaWWrite
import Derived.Test.YtmlncfnnldplgaaWFrame1
namespace Go.Proofs.Ytmlncfnnldplgaa
open Go.RowKit

theorem blk_at {w : World} {b : Nat} {cs : Array Value} {t : TypeId} {v : Value} (h : w.heap[b]? = some (.cells cs t (0, 0))) (i : Nat) (hv : cs[i]? = some v) : w.cell? ⟨b, i, none⟩ = some v := (blk_cell h i).trans hv

/-- A row of ints in a block of its own. -/
def IntsAt (w : World) (b : Nat) (zs : List Int) : Prop := ∀ j, j < zs.length → w.cell? ⟨b, j, none⟩ = some (.int .i64 (zs.getD j 0))

def fromTo (least : Int) (zs : List Int) : Bool := zs.all fun z => decide (least ≤ z) && decide (z ≤ 1099511627775)

/-- Numbers written one behind the other. -/
def encAll (ns : List Nat) : List UInt8 := ns.flatMap enc
def intsOf (ns : List Nat) : List Int := ns.map fun (n : Nat) => (n : Int)

theorem encAll_len (ns : List Nat) (h : ∀ n ∈ ns, n ≤ 1099511627775) : (encAll ns).length ≤ 6 * ns.length := by
  induction ns with
  | nil => simp [encAll]
  | cons n ns ih =>
    have h1 := enc_len6 (h n (by simp))
    have h2 := ih (fun m hm => h m (by simp [hm]))
    simp only [encAll, List.flatMap_cons, List.length_append, List.length_cons] at h2 ⊢
    omega

end Go.Proofs.Ytmlncfnnldplgaa
