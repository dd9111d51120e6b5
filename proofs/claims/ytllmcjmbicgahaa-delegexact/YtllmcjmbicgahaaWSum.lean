/-
  The program's Sum and the document's: each answers the plain sum of WCrc.
-/
import Derived.Test.YtllmcjmbicgahaaProg
import Derived.Test.YtllmcjmbicgahaaWCrc
import Derived.Outline
import Derived.Laws.BitsAllLaws
namespace Go.Proofs.Ytllmcjmbicgahaa
open Go.RowKit

theorem u32_facts (x : Nat) (hx : x < 4294967296) : bits .and .u32 (x : Int) 1 = ((x % 2 : Nat) : Int) ∧ bits .xor .u32 ((x / 2 : Nat) : Int) 2197175160 = ((x / 2 ^^^ 2197175160 : Nat) : Int) := by
  constructor
  · have := u32_and_nat x 1 hx (by omega)
    rw [nat_mask1] at this
    exact this
  · exact u32_xor_nat (x / 2) 2197175160 (by omega) (by omega)

theorem xor_max (x : Nat) (hx : x < 4294967296) : bits BinOp.xor IntKind.u32 IntKind.u32.max (x : Int) = ((4294967295 - x : Nat) : Int) := by
  have e : IntKind.u32.max = ((4294967295 : Nat) : Int) := by decide
  rw [e, u32_xor_nat _ _ (by omega) hx]
  congr 1
  have h : (4294967295 : Nat) = 2 ^ 32 - 1 := by decide
  rw [h]
  apply Nat.eq_of_testBit_eq
  intro i
  rw [Nat.testBit_xor, Nat.testBit_two_pow_sub_one]
  have := Nat.testBit_two_pow_sub_succ (x := x) (n := 32) (by omega) i
  have e2 : 2 ^ 32 - 1 - x = 2 ^ 32 - (x + 1) := by omega
  rw [e2, this]
  by_cases hi : i < 32
  · simp [hi]
  · have : x.testBit i = false := Nat.testBit_lt_two_pow (Nat.lt_of_lt_of_le (by omega : x < 2 ^ 32) (Nat.pow_le_pow_right (by omega) (by omega)))
    simp [hi, this]

end Go.Proofs.Ytllmcjmbicgahaa
