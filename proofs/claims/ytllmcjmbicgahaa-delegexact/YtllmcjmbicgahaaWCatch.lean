/-
  The program's read: a reader that gives up is caught, and the error stands in the answer.
-/
import Derived.Test.YtllmcjmbicgahaaWFrame2
namespace Go.Proofs.Ytllmcjmbicgahaa
open Go.RowKit

theorem catch_slots (a b t : Value) : #[a, b] ++ ((Array.replicate 18 undef).setIfInBounds 4 t).setIfInBounds 0 t = #[a, b, t, undef, undef, undef, t, undef, undef, undef, undef, undef, undef, undef, undef, undef, undef, undef, undef, undef] := by
  apply Array.ext'
  simp [List.replicate]

/-- A whole text, read: nothing may be left. -/
def rdAll {α : Type} (r : Except Int (α × List UInt8)) : Except Int α :=
  match r with
  | .ok (a, []) => .ok a
  | .ok (_, _ :: _) => .error 1
  | .error c => .error c

theorem three (w : World) (o1 o2 o3 : Obj) : (((w.alloc o1).alloc o2).alloc o3).heap[w.heap.size]? = some o1 ∧ (((w.alloc o1).alloc o2).alloc o3).heap[w.heap.size + 1]? = some o2 ∧ (((w.alloc o1).alloc o2).alloc o3).heap[w.heap.size + 2]? = some o3 := by
  have e1 : (w.alloc o1).heap.size = w.heap.size + 1 := by simp
  have e2 : ((w.alloc o1).alloc o2).heap.size = w.heap.size + 2 := by simp
  refine ⟨blk_past (blk_past (blk_new w o1) _) _, ?_, ?_⟩
  · have := blk_past (blk_new (w.alloc o1) o2) o3
    rwa [e1] at this
  · have := blk_new ((w.alloc o1).alloc o2) o3
    rwa [e2] at this
theorem Left.ofBlk {b : Nat} {w : World} {l : List UInt8} {t : TypeId} (h : w.heap[b]? = some (.cells #[.string (bs l)] t (0, 0))) : Left ⟨b, 0, none⟩ w l := ⟨blk_cell h 0, blk_free h 0⟩
/-- What is new behind a world may turn. -/
theorem Kept.ofNew {w w1 w' : World} {X : Nat → Obj → Prop} (h1 : Kept Nil w w1) (h : Kept X w1 w') (hX : ∀ k o, X k o → w.heap.size ≤ k) : Kept Nil w w' :=
  Kept.ofBelow ((h1.below (B := w.heap.size) (fun _ _ x => x.elim) (Nat.le_refl _)).trans (h.below hX h1.size)) _

end Go.Proofs.Ytllmcjmbicgahaa
