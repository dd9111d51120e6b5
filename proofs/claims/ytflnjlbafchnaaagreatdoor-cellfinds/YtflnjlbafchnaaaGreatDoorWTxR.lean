/-
  Transactions: the document's decimal and amount.
-/
import Derived.Test.YtflnjlbafchnaaaGreatDoorWTmB
import Derived.Laws.IdiomStrings
namespace Go.Proofs.YtflnjlbafchnaaaGreatDoor
open Go.RowKit

set_option maxRecDepth 100000 in
set_option maxHeartbeats 1000000 in
theorem refDecimal_any : ∀ (n : Nat), n ≤ 9223372036854775807 → ∀ (w : World), Calls Tryz.prog 55 #[.int .i64 n] w fun e w' => e = .returned (.string (bs (Lib.decDigits n))) ∧ Kept Nil w w' := fun n => by
  induction n using Nat.strongRecOn with
  | ind n ih =>
    intro hn w
    have hr : Int.tmod (n : Int) 10 = ((n % 10 : Nat) : Int) := rfl
    have hq : Int.tdiv (n : Int) 10 = ((n / 10 : Nat) : Int) := rfl
    have hm : n % 10 < 10 := Nat.mod_lt _ (by omega)
    obtain ⟨d, HDe⟩ : ∃ d, Hid (d = n % 10) := ⟨_, rfl⟩
    rw [← HDe.out] at hr hm
    obtain ⟨y, HY⟩ : ∃ y : UInt8, Hid (y = UInt8.ofNat (48 + d)) := ⟨_, rfl⟩
    have hcv : (convert 159 9 (.slice (some ⟨w.heap.size, 0, none⟩) 1 1)).run Tryz.prog (w.alloc (.cells #[.int .u8 (48 + (d : Int))] 5)) = .ok (.string (bs [y])) (w.alloc (.cells #[.int .u8 (48 + (d : Int))] 5)) := by
      refine run_convert_bytes_back _ _ _ _ ⟨w.heap.size, 0, none⟩ 1 [y] Tryz.underlying159 Tryz.underlying5 Tryz.underlying9 ?_
      intro j hj
      obtain rfl : j = 0 := by simp at hj; omega
      rw [HY.out]
      show (w.alloc (.cells #[.int .u8 (48 + (d : Int))] 5)).cell? ⟨w.heap.size, 0, none⟩ = _
      simp
      omega
    by_cases c : n < 10
    · have he : Lib.decDigits n = [y] := by
        rw [decDigits_small c, HY.out, HDe.out, Nat.mod_eq_of_lt c]
      rw [he]
      have c' : (n : Int) < 10 := by omega
      clear ih
      go_enter Tryz.func55, Tryz.ntmps55
      go_wp2
      go_ret
      exact ⟨rfl, (Kept.refl _ _).alloc _⟩
    · have he : bs (Lib.decDigits (n / 10)) ++ bs [y] = bs (Lib.decDigits n) := by
        rw [bs_append, HY.out, HDe.out]
        conv => rhs; rw [Lib.decDigits, dif_neg c]
      have hl1 : (bs (Lib.decDigits (n / 10))).size ≤ 9223372036854775800 := by
        rw [bs_size, Lib.decDigits_length]
        exact nDig_le _
      have hl2 : (bs [y]).size = 1 := rfl
      have c' : ¬ (n : Int) < 10 := by omega
      have IH := ih (n / 10) (by omega) (by omega) (w.alloc (.cells #[.int .u8 (48 + (d : Int))] 5))
      clear ih
      go_enter Tryz.func55, Tryz.ntmps55
      go_wp2_with fail
      go_fit IH
      rintro _ w1 ⟨rfl, k1⟩
      have K1 : Hid (Kept Nil w w1) := ((Kept.refl _ _).alloc _).trans k1
      clear k1 IH hcv
      go_wp2
      go_ret
      exact ⟨rfl, K1.out⟩

theorem amtGo_at {most x k : Nat} {l : List UInt8} (h : k < l.length) : amtGo most x (l.drop k) = if 48 ≤ l[k].toNat ∧ l[k].toNat ≤ 57 ∧ x ≤ most then amtGo most (10 * x + (l[k].toNat - 48)) (l.drop (k + 1)) else none := by
  rw [List.drop_eq_getElem_cons h]
  rfl
set_option maxRecDepth 100000 in
set_option maxHeartbeats 2000000 in
theorem refAmount_any (l : List UInt8) (most : Nat) (hl : l.length ≤ maxLen) (hm : most ≤ 999999999) (w : World) :
    Calls Tryz.prog 110 #[.string (bs l), .int .i64 most] w fun e w' => e = .returned (.int .i64 (amtZ most l)) ∧ w' = w := by
  unfold maxLen at hl
  have hsz := bs_size l
  obtain ⟨z, HZ⟩ : ∃ z, Hid (z = amtZ most l) := ⟨_, rfl⟩
  rw [← HZ.out]
  go_enter Tryz.func110, Tryz.ntmps110
  go_wp2
  go_loop [5, 6] (fun n i => ∃ k x : Nat, k ≤ l.length ∧ i = .int .i64 k ∧ n = .int .i64 x ∧ x ≤ 10000000000 ∧ Hid (amtGo most 0 l = amtGo most x (l.drop k))) (fun _ i => l.length - (intOf i).toNat)
  case atStart => exact ⟨0, 0, Nat.zero_le _, rfl, rfl, by omega, rfl⟩
  case round =>
    obtain ⟨k, x, hk, rfl, rfl, hx, HA⟩ := hrel
    by_cases hlt : k < l.length
    · have HB : Hid (amtGo most 0 l = if 48 ≤ l[k].toNat ∧ l[k].toNat ≤ 57 ∧ x ≤ most then amtGo most (10 * x + (l[k].toNat - 48)) (l.drop (k + 1)) else none) := HA.out.trans (amtGo_at hlt)
      obtain ⟨c, hcl⟩ : ∃ c, l[k] = c := ⟨_, rfl⟩
      have hat : ∀ h, (bs l)[k]'h = c := fun h => (bs_at l k h).trans hcl
      rw [hcl] at HB
      clear hcl HA
      have hc := c.toNat_lt
      by_cases c1 : c.toNat < 48
      · obtain rfl : z = -1 := HZ.out.trans (amtGo_none (HB.out.trans (if_neg (by omega))))
        go_wp2
        go_ret
        exact ⟨rfl, rfl⟩
      · by_cases c2 : 57 < c.toNat
        · obtain rfl : z = -1 := HZ.out.trans (amtGo_none (HB.out.trans (if_neg (by omega))))
          go_wp2
          go_ret
          exact ⟨rfl, rfl⟩
        · by_cases c3 : most < x
          · obtain rfl : z = -1 := HZ.out.trans (amtGo_none (HB.out.trans (if_neg (by omega))))
            go_wp2
            go_ret
            exact ⟨rfl, rfl⟩
          · have HC : Hid (amtGo most 0 l = amtGo most (10 * x + (c.toNat - 48)) (l.drop (k + 1))) := HB.out.trans (if_pos ⟨by omega, by omega, by omega⟩)
            clear HB
            go_wp2
            go_round
            case rel => exact ⟨k + 1, 10 * x + (c.toNat - 48), by omega, by go_num, by go_num, by omega, HC⟩
            case measure => simp [intOf]; omega
    · have HC : Hid (amtGo most 0 l = some x) := by
        have := HA.out
        rw [List.drop_of_length_le (by omega)] at this
        exact this
      have HD : Hid (z = if l = [] ∨ most < x ∨ (l[0]? = some 48 ∧ 1 < l.length) then -1 else (x : Int)) := HZ.out.trans (amtGo_some HC.out)
      clear HA HC
      by_cases e0 : l = []
      · obtain rfl : z = -1 := HD.out.trans (if_pos (.inl e0))
        have hne : ((bs l).toList == ([] : List UInt8)) = true := by rw [bs_toList, e0]; rfl
        clear e0 HD
        go_wp2
        go_ret
        exact ⟨rfl, rfl⟩
      · have hne : ((bs l).toList == ([] : List UInt8)) = false := by
          rw [bs_toList]
          cases l with
          | nil => exact absurd rfl e0
          | cons _ _ => rfl
        have hpos : 0 < l.length := List.length_pos_iff.2 e0
        obtain ⟨c, hcl⟩ : ∃ c, l[0] = c := ⟨_, rfl⟩
        have hat : ∀ h, (bs l)[0]'h = c := fun h => (bs_at l 0 h).trans hcl
        have HC0 : Hid (l[0]? = some c) := by show _ = _; rw [List.getElem?_eq_getElem hpos, hcl]
        clear hcl
        by_cases c1 : most < x
        · obtain rfl : z = -1 := HD.out.trans (if_pos (.inr (.inl c1)))
          go_wp2
          go_ret
          exact ⟨rfl, rfl⟩
        · by_cases c2 : c = 48
          · subst c2
            by_cases c3 : 1 < l.length
            · obtain rfl : z = -1 := HD.out.trans (if_pos (.inr (.inr ⟨HC0.out, c3⟩)))
              go_wp2
              go_ret
              exact ⟨rfl, rfl⟩
            · obtain rfl : z = x := HD.out.trans (if_neg (by rintro (h | h | h); exact e0 h; exact c1 h; exact c3 h.2))
              go_wp2
              go_ret
              exact ⟨rfl, rfl⟩
          · obtain rfl : z = x := HD.out.trans (if_neg (by
              rintro (h | h | h)
              · exact e0 h
              · exact c1 h
              · rw [HC0.out] at h
                exact c2 (Option.some.inj h.1)))
            have c2' : ((c.toNat : Int) == 48) = false := by
              have : c.toNat ≠ 48 := fun e => c2 (by rw [← UInt8.toNat_inj]; exact e)
              simp
              omega
            go_wp2
            go_ret
            exact ⟨rfl, rfl⟩
end Go.Proofs.YtflnjlbafchnaaaGreatDoor
