/-
  The program's writer of a text and of a frame; Frame, and the document's Frame: the same plain bytes.
-/
import Derived.Test.YtllmcjmbicgahaaWWrite
import Derived.Test.YtllmcjmbicgahaaWSum
import Derived.Test.YtllmcjmbicgahaaWRef
import Derived.Laws.IdiomStrings
namespace Go.Proofs.Ytllmcjmbicgahaa
open Go.RowKit

/-- Four bytes, the lowest first. -/
def le4 (c : Nat) : List UInt8 := [UInt8.ofNat (c % 256), UInt8.ofNat (c / 256 % 256), UInt8.ofNat (c / 65536 % 256), UInt8.ofNat (c / 16777216 % 256)]
def encFrame (l : List UInt8) : List UInt8 := encText l ++ le4 (crc l)

theorem byteCells_bs (l : List UInt8) : byteCells (bs l) = cellsOf l := by simp [byteCells, bs_data, cellsOf]
theorem src_str (l : List UInt8) (w : World) : Src Try.prog 1 9 (.string (bs l)) l.length (cellsOf l) w := by
  have := Src.ofString w (P := Try.prog) Try.underlying9 (bs l)
  rwa [bs_size, byteCells_bs] at this

def leN : Nat → Nat → List UInt8
  | 0, _ => []
  | k + 1, c => UInt8.ofNat (c % 256) :: leN k (c / 256)
theorem le4_eq (c : Nat) : leN 4 c = le4 c := by
  simp only [leN, le4]
  rw [Nat.div_div_eq_div_mul, Nat.div_div_eq_div_mul]

/-- What a new writer has turned is nothing that was there. -/
theorem Kept.newWr {w w' : World} {o : Obj} (h : Kept (Wr w.heap.size) (w.alloc o) w') : Kept Nil w w' := by
  have h2 := (h.mono (Y := fun k _ => w.heap.size ≤ k) (by
    rintro k o (rfl | ⟨hk, _⟩)
    · exact Nat.le_refl _
    · exact Nat.le_of_lt hk)).below (B := w.heap.size) (fun k o hk => hk) (by simp)
  exact Kept.ofBelow (((Below.refl _ _).alloc (Nat.le_refl _) o).trans h2) _

/-! ### both at once -/
/-- What a frame is made of, or that it can't be: the bytes and the error. -/
def putFrame (s : List UInt8) : List UInt8 × Int := if s.length ≤ 65536 then (encFrame s, 0) else ([], 4)

end Go.Proofs.Ytllmcjmbicgahaa
