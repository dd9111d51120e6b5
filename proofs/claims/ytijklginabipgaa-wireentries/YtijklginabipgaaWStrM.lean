/-
  WireStrict: numbers and texts that are read are what would be written (plain).
-/
import Derived.Test.YtijklginabipgaaWOld
namespace Go.Proofs.Ytijklginabipgaa
open Go.RowKit

theorem numGo_strict : ∀ {l : List UInt8} {k x n : Nat} {t : List UInt8}, numGo k x l = .ok (n, t) → ∃ m, n = x + m * 2 ^ (7 * k) ∧ (m ≠ 0 ∨ k = 0) ∧ l = enc m ++ t := by
  intro l
  induction l with
  | nil => intro k x n t h; simp [numGo] at h
  | cons c l ih =>
    intro k x n t h
    have hc : c.toNat < 256 := c.toNat_lt
    by_cases h1 : k ≤ 5 ∧ x + c.toNat % 128 * 2 ^ (7 * k) ≤ maxNum ∧ (c.toNat ≠ 0 ∨ k = 0)
    · by_cases h2 : c.toNat < 128
      · rw [numGo_end h1 h2] at h
        simp only [Except.ok.injEq, Prod.mk.injEq] at h
        obtain ⟨rfl, rfl⟩ := h
        refine ⟨c.toNat, by rw [Nat.mod_eq_of_lt h2], h1.2.2, ?_⟩
        rw [enc_small h2]
        simp
      · rw [numGo_more h1 h2] at h
        obtain ⟨m, e1, e2, e3⟩ := ih h
        have hm : m ≠ 0 := e2.resolve_right (by omega)
        refine ⟨c.toNat % 128 + 128 * m, ?_, .inl (by omega), ?_⟩
        · rw [e1, show 7 * (k + 1) = 7 * k + 7 by omega, Nat.pow_add, Nat.add_mul, Nat.add_assoc]
          congr 2
          rw [show (2 : Nat) ^ 7 = 128 from rfl, Nat.mul_comm 128 m, Nat.mul_assoc, Nat.mul_comm 128 (2 ^ (7 * k))]
        · rw [e3, enc_big (n := c.toNat % 128 + 128 * m) (by omega)]
          have e4 : (c.toNat % 128 + 128 * m) % 128 = c.toNat % 128 := by omega
          have e5 : (c.toNat % 128 + 128 * m) / 128 = m := by omega
          have e6 : 128 + c.toNat % 128 = c.toNat := by omega
          rw [e4, e5, e6]
          simp
    · rw [numGo_bad h1] at h
      cases h
theorem rdNum_strict {l t : List UInt8} {n : Nat} (h : rdNum l = .ok (n, t)) : l = enc n ++ t := by
  obtain ⟨m, e1, _, e3⟩ := numGo_strict h
  have e : n = m := by rw [e1]; simp
  rw [e3, e]
theorem rdUpTo_strict {most : Nat} {l t : List UInt8} {n : Nat} (h : rdUpTo most l = .ok (n, t)) : l = enc n ++ t ∧ n ≤ most := by
  unfold rdUpTo at h
  split at h
  · rename_i m u hr
    split at h
    · rename_i hm
      simp only [Except.ok.injEq, Prod.mk.injEq] at h
      obtain ⟨rfl, rfl⟩ := h
      exact ⟨rdNum_strict hr, hm⟩
    · cases h
  · cases h
theorem rdText_strict {most : Nat} {l t s : List UInt8} (h : rdText most l = .ok (s, t)) : l = encText s ++ t ∧ s.length ≤ most := by
  unfold rdText at h
  split at h
  · rename_i n u hr
    obtain ⟨e1, e2⟩ := rdUpTo_strict hr
    unfold rdTake at h
    split at h
    · rename_i hn
      simp only [Except.ok.injEq, Prod.mk.injEq] at h
      obtain ⟨rfl, rfl⟩ := h
      have hl : (u.take n).length = n := by rw [List.length_take, Nat.min_eq_left hn]
      refine ⟨?_, by rw [hl]; exact e2⟩
      unfold encText
      rw [hl, List.append_assoc, List.take_append_drop, e1]
    · cases h
  · cases h

end Go.Proofs.Ytijklginabipgaa
