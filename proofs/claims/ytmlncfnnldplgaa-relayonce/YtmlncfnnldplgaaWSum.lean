/-
  The program's Sum and the document's: each answers the plain sum of WCrc.
-/
import Derived.Test.YtmlncfnnldplgaaProg
import Derived.Test.YtmlncfnnldplgaaWCrc
import Derived.Outline
import Derived.Laws.BitsAllLaws
namespace Go.Proofs.Ytmlncfnnldplgaa
open Go.RowKit

theorem u32_facts (x : Nat) (hx : x < 4294967296) : bits .and .u32 (x : Int) 1 = ((x % 2 : Nat) : Int) ∧ bits .xor .u32 ((x / 2 : Nat) : Int) 2197175160 = ((x / 2 ^^^ 2197175160 : Nat) : Int) := by
  constructor
  · have := u32_and_nat x 1 hx (by omega)
    rw [nat_mask1] at this
    exact this
  · exact u32_xor_nat (x / 2) 2197175160 (by omega) (by omega)

theorem xor_max (x : Nat) (hx : x < 4294967296) : bits BinOp.xor IntKind.u32 IntKind.u32.max (x : Int) = ((4294967295 - x : Nat) : Int) := by
  have e : IntKind.u32.max = ((4294967295 : Nat) : Int) := by decide
  rw [e, u32_xor_nat _ _ (by omega) hx]
  congr 1
  have h : (4294967295 : Nat) = 2 ^ 32 - 1 := by decide
  rw [h]
  apply Nat.eq_of_testBit_eq
  intro i
  rw [Nat.testBit_xor, Nat.testBit_two_pow_sub_one]
  have := Nat.testBit_two_pow_sub_succ (x := x) (n := 32) (by omega) i
  have e2 : 2 ^ 32 - 1 - x = 2 ^ 32 - (x + 1) := by omega
  rw [e2, this]
  by_cases hi : i < 32
  · simp [hi]
  · have : x.testBit i = false := Nat.testBit_lt_two_pow (Nat.lt_of_lt_of_le (by omega : x < 2 ^ 32) (Nat.pow_le_pow_right (by omega) (by omega)))
    simp [hi, this]

set_option maxHeartbeats 1000000 in
theorem sum_any (l : List UInt8) (w : World) (hl : l.length ≤ maxLen) :
    Calls Try.prog 89 #[.string (bs l)] w fun e w' => e = .returned (.int .u32 (crc l)) ∧ w' = w := by
  unfold maxLen at hl
  have hsz := bs_size l
  go_enter Try.func89, Try.ntmps89
  go_wp2
  go_loop [3, 8] (fun c i => ∃ k : Nat, ∃ x : Nat, k ≤ l.length ∧ i = .int .i64 k ∧ Hid (x = crcReg (l.take k)) ∧ x < 4294967296 ∧ c = .int .u32 x) (fun _ i => l.length - (intOf i).toNat)
  case atStart => exact ⟨0, 4294967295, Nat.zero_le _, rfl, rfl, by omega, rfl⟩
  case round =>
    obtain ⟨k, x, hk, rfl, HX, hr, rfl⟩ := hrel
    by_cases hlt : k < l.length
    · obtain ⟨c, hcl⟩ : ∃ c, l[k] = c := ⟨_, rfl⟩
      have hat : ∀ h, (bs l)[k]'h = c := fun h => (bs_at l k h).trans hcl
      have hc := c.toNat_lt
      have hmod : (c.toNat : Int) % 4294967296 = c.toNat := by omega
      have hx := u32_xor_nat x (c.toNat) hr (by omega)
      have hy := xor_lt hr (b := c.toNat) (by omega)
      obtain ⟨y, hY⟩ : ∃ y, y = x ^^^ c.toNat := ⟨_, rfl⟩
      rw [← hY] at hx hy
      have HY : Hid (crcSteps 8 y = crcReg (l.take (k + 1))) := by
        rw [List.take_succ_eq_append_getElem hlt, crcReg_snoc, ← HX.out, hcl, hY]; rfl
      clear hY hc hcl
      go_wp2
      go_loop [3, 17] (fun c i => ∃ j : Nat, ∃ z : Nat, j ≤ 8 ∧ i = .int .i64 j ∧ Hid (crcSteps (8 - j) z = crcReg (l.take (k + 1))) ∧ z < 4294967296 ∧ c = .int .u32 z) (fun _ i => 8 - (intOf i).toNat)
      case atStart => exact ⟨0, y, Nat.zero_le _, rfl, HY, hy, rfl⟩
      case round =>
        obtain ⟨j, z, hj, rfl, HZ, hz, rfl⟩ := hrel
        by_cases hj8 : j < 8
        · have hf := u32_facts z hz
          obtain ⟨hf1, hf2⟩ := hf
          have HS : Hid (crcSteps (8 - (j + 1)) (crcStep z) = crcReg (l.take (k + 1))) := by
            have := HZ.out
            rw [show 8 - j = (8 - (j + 1)) + 1 by omega] at this
            exact this
          have hst := crcStep_lt hz
          by_cases hodd : z % 2 = 1
          · have HE : Hid (crcStep z = z / 2 ^^^ 2197175160) := by unfold crcStep; exact if_pos hodd
            have hf1' : bits .and .u32 (z : Int) 1 = 1 := by rw [hf1, hodd]; rfl
            clear hf1 hodd
            go_wp2
            go_round
            case rel => exact ⟨j + 1, crcStep z, by omega, by go_num, HS, hst, by rw [HE.out, ← hf2]; rfl⟩
            case measure => simp [intOf]; omega
          · have HE : Hid (crcStep z = z / 2) := by unfold crcStep; exact if_neg hodd
            have hf1' : bits .and .u32 (z : Int) 1 = 0 := by rw [hf1, show z % 2 = 0 by omega]; rfl
            clear hf1 hodd
            go_wp2
            go_round
            case rel => exact ⟨j + 1, crcStep z, by omega, by go_num, HS, hst, by rw [HE.out]; rfl⟩
            case measure => simp [intOf]; omega
        · have HE : Hid (z = crcReg (l.take (k + 1))) := by
            have := HZ.out
            rw [show 8 - j = 0 by omega] at this
            exact this
          go_wp2
          go_round
          case rel => exact ⟨k + 1, z, by omega, by go_num, HE, hz, rfl⟩
          case measure => simp [intOf]; omega
    · have hm := xor_max x hr
      have HE : Hid (x = crcReg l) := by
        have := HX.out
        rw [List.take_of_length_le (by omega)] at this
        exact this
      go_wp2
      go_ret
      exact ⟨ret_int (by rw [HE.out]; rfl), rfl⟩
end Go.Proofs.Ytmlncfnnldplgaa
