/-
  What the document's reader does, method by method, in the plain readings of WBase; and its Sum.
-/
import Derived.Test.YtmlncfnnldplgaaProg
import Derived.Test.YtmlncfnnldplgaaWCrc
import Derived.Outline
import Derived.Laws.BitsAllLaws
namespace Go.Proofs.Ytmlncfnnldplgaa
open Go.RowKit

theorem i64_xor_nat (a b : Nat) (ha : a < 9223372036854775808) (hb : b < 9223372036854775808) : bits .xor .i64 (a : Int) (b : Int) = ((a ^^^ b : Nat) : Int) := by
  show IntKind.i64.wrap ((BitVec.ofInt 64 (a : Int) ^^^ BitVec.ofInt 64 (b : Int)).toNat : Int) = _
  rw [BitVec.toNat_xor, ofInt_u64 a (by omega), ofInt_u64 b (by omega)]
  have : a ^^^ b < 2 ^ 63 := Nat.xor_lt_two_pow (by omega) (by omega)
  rw [IntKind.wrap_i64]; omega

theorem tmod_nat (n m : Nat) : (n : Int).tmod (m : Int) = ((n % m : Nat) : Int) := by
  rw [Int.tmod_eq_emod_of_nonneg (by omega)]; rfl

theorem stText (most : Nat) (st : Except Int (List UInt8)) : stRun (rdText most) [] st = stRun (rdTake (stRun (rdUpTo most) 0 st).1) [] (stRun (rdUpTo most) 0 st).2 := by
  cases st with
  | error c => rfl
  | ok l =>
    cases hr : rdUpTo most l with
    | error c => rw [stRun_no hr, stRun_no (c := c) (by unfold rdText; rw [hr]), stRun_err]
    | ok r =>
      obtain ⟨n, t⟩ := r
      rw [stRun_ok hr]
      have e : rdText most l = rdTake n t := by unfold rdText; rw [hr]
      cases h2 : rdTake n t with
      | error c => rw [stRun_no (h2 ▸ e), stRun_no h2]
      | ok r2 => obtain ⟨a, u⟩ := r2; rw [stRun_ok (h2 ▸ e), stRun_ok h2]

/-- The error that the document's reader ends with: bytes that are left are one, too. -/
def stEnd (st : Except Int (List UInt8)) : Int :=
  match st with
  | .ok [] => 0
  | .ok _ => 1
  | .error c => c

end Go.Proofs.Ytmlncfnnldplgaa
