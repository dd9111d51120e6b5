/-
  GetNumbers's own function: so many numbers, the count lying in a cell of its own; what it got.
-/
import Derived.Test.YtmlncfnnldplgaaWTimes
namespace Go.Proofs.Ytmlncfnnldplgaa
open Go.RowKit

theorem own_mono {w : World} {B B' : Nat} {e : TypeId} {size : Nat} {v : Value} {n : Nat} {xs : List Value} (h : w.ownsRow B e size v n xs) (hb : B' ≤ B) : w.ownsRow B' e size v n xs :=
  ⟨h.1, h.2.imp id fun ⟨g, cap, cur, h1, h2, h3⟩ => ⟨g, cap, cur, h1, Nat.le_trans hb h2, h3⟩⟩

theorem OwnNats.through {w w1 w2 : World} {o1 o2 o3 : Obj} {ao : Option Addr} {c : Nat} {ns : List Nat} (h : OwnNats (((w.alloc o1).alloc o2).alloc o3).heap.size w1 ao c ns)
    (hk : Kept (fun k _ => k = w.heap.size ∨ k = w.heap.size + 1) w1 w2) : OwnNats w.heap.size w2 ao c ns := by
  have hb : (((w.alloc o1).alloc o2).alloc o3).heap.size = w.heap.size + 3 := by simp
  rw [hb] at h
  exact own_mono (own_kept h hk (fun k cs hb hx => by omega)) (by omega)

/-- What a reading of a row of numbers hands out. -/
def GotN (ns : List Nat) (w : World) (e : Ending) (w' : World) : Prop := ∃ ao c, e = .returned (.tuple #[.slice ao ns.length c, .int .i64 0]) ∧ OwnNats w.heap.size w' ao c ns ∧ Kept Nil w w'

end Go.Proofs.Ytmlncfnnldplgaa
