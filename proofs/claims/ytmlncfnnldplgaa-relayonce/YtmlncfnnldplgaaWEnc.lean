/-
  The document's writers of a number and of a text, in plain bytes.
-/
import Derived.Test.YtmlncfnnldplgaaProg
import Derived.Test.YtmlncfnnldplgaaWBase
import Derived.Outline
import Derived.Laws.BitsAllLaws
import Derived.Laws.BytesArg
namespace Go.Proofs.Ytmlncfnnldplgaa
open Go.RowKit

/-- A number's bytes. -/
def encF : Nat → Nat → List UInt8
  | 0, n => [UInt8.ofNat n]
  | f + 1, n => if n < 128 then [UInt8.ofNat n] else UInt8.ofNat (128 + n % 128) :: encF f (n / 128)
def enc (n : Nat) : List UInt8 := encF n n
theorem encF_small {n : Nat} (h : n < 128) : ∀ f, encF f n = [UInt8.ofNat n]
  | 0 => rfl
  | f + 1 => by rw [encF, if_pos h]
theorem encF_same : ∀ (f g n : Nat), n ≤ f → n ≤ g → encF f n = encF g n
  | 0, g, n, hf, _ => by rw [encF_small (by omega) 0, encF_small (by omega) g]
  | f + 1, 0, n, _, hg => by rw [encF_small (by omega) 0, encF_small (by omega) (f + 1)]
  | f + 1, g + 1, n, hf, hg => by
    by_cases h : n < 128
    · rw [encF_small h, encF_small h]
    · rw [encF, encF, if_neg h, if_neg h, encF_same f g (n / 128) (by omega) (by omega)]
theorem enc_small {n : Nat} (h : n < 128) : enc n = [UInt8.ofNat n] := encF_small h n
theorem enc_big {n : Nat} (h : ¬ n < 128) : enc n = UInt8.ofNat (128 + n % 128) :: enc (n / 128) := by
  unfold enc
  obtain ⟨m, rfl⟩ : ∃ m, n = m + 1 := ⟨n - 1, by omega⟩
  rw [encF, if_neg h, encF_same m ((m + 1) / 128) ((m + 1) / 128) (by omega) (by omega)]
theorem ofNat_toNat {n : Nat} (h : n < 256) : (UInt8.ofNat n).toNat = n := by rw [UInt8.toNat_ofNat']; omega
theorem enc_small_byte {n : Nat} (h : n < 128) : ∃ d : UInt8, enc n = [d] ∧ d.toNat = n := ⟨_, enc_small h, ofNat_toNat (by omega)⟩
theorem enc_big_byte {n : Nat} (h : ¬ n < 128) : ∃ d : UInt8, enc n = d :: enc (n / 128) ∧ d.toNat = 128 + n % 128 := ⟨_, enc_big h, ofNat_toNat (by omega)⟩
theorem or_high : ∀ x, x < 256 → x ||| 128 = 128 + x % 128 := by decide +kernel
theorem or128 (r : Nat) : bits .or .u8 ((r : Int) % 256) 128 = ((128 + r % 128 : Nat) : Int) := by
  have e : ((r : Int) % 256) = ((r % 256 : Nat) : Int) := by omega
  have := u8_or_nat (r % 256) 128 (by omega) (by omega)
  rw [e]
  refine this.trans ?_
  rw [or_high _ (by omega)]
  omega
def encText (l : List UInt8) : List UInt8 := enc l.length ++ l
theorem enc_length (n : Nat) : ∀ k, n < 128 ^ (k + 1) → (enc n).length ≤ k + 1 := by
  intro k
  induction k generalizing n with
  | zero => intro h; rw [enc_small (by omega)]; simp
  | succ k ih =>
    intro h
    by_cases hn : n < 128
    · rw [enc_small hn]; simp
    · rw [enc_big hn]
      have : n / 128 < 128 ^ (k + 1) := by
        rw [Nat.div_lt_iff_lt_mul (by omega)]
        rw [Nat.pow_succ] at h
        exact h
      have := ih _ this
      simp; omega

/-- A literal's bytes as a string. -/
theorem conv1 (w : World) (x : Int) :
    (convert 140 9 (.slice (some ⟨w.heap.size, 0, none⟩) 1 1)).run Try.prog (w.alloc (.cells #[.int .u8 x] 5)) = .ok (.string (bs [UInt8.ofNat x.toNat])) (w.alloc (.cells #[.int .u8 x] 5)) := by
  refine (run_convert_bytes_arg _ 140 5 Try.underlying140 Try.underlying5 w.heap.size 0 1 1 [x] rfl ?_ 9 Try.underlying9).trans ?_
  · intro i hi
    obtain rfl : i = 0 := by omega
    exact blk_cell (blk_new w _) 0
  · rfl

theorem enc_len6 {n : Nat} (h : n ≤ 1099511627775) : (enc n).length ≤ 6 := enc_length _ 5 (by omega)

end Go.Proofs.Ytmlncfnnldplgaa
