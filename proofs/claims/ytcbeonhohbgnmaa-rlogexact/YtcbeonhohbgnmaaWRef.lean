/-
  What the document's reader does, method by method, in the plain readings of WBase; and its Sum.
-/
import Derived.Test.YtcbeonhohbgnmaaProg
import Derived.Test.YtcbeonhohbgnmaaWCrc
import Derived.Outline
import Derived.Laws.BitsAllLaws
namespace Go.Proofs.Ytcbeonhohbgnmaa
open Go.RowKit

/-- The document's reader in memory. -/
def RSt (b : Nat) (w : World) (st : Except Int (List UInt8)) : Prop :=
  match st with
  | .ok l => l.length ≤ maxLen ∧ w.heap[b]? = some (.cells #[.string (bs l), .int .i64 0] 141 (0, 0))
  | .error c => c ≠ 0 ∧ w.heap[b]? = some (.cells #[.string (bs []), .int .i64 c] 141 (0, 0))

theorem bad_any (b : Nat) (l : List UInt8) (c : Int) (w : World) (h : w.heap[b]? = some (.cells #[.string (bs l), .int .i64 0] 141 (0, 0))) (hc : c ≠ 0) :
    Calls Try.prog 106 #[.pointer (some ⟨b, 0, none⟩), .int .i64 c] w fun e w' => e = .returned (.tuple #[]) ∧ RSt b w' (.error c) ∧ Kept (One b) w w' := by
  have h0 : w.cell? ⟨b, 0, none⟩ = some (.string (bs l)) := blk_cell h 0
  have h1 : w.cell? ⟨b, 1, none⟩ = some (.int .i64 0) := blk_cell h 1
  have f0 := blk_free h 0
  have f1 := blk_free h 1
  have H : Hid (RSt b ((w.setCell ⟨b, 1, none⟩ (.int .i64 c)).setCell ⟨b, 0, none⟩ (.string (bs []))) (.error c)) := ⟨hc, blk_set (blk_set h 1 _) 0 _⟩
  clear h
  go_enter Try.func106, Try.ntmps106
  go_wp2
  go_end0
  exact ⟨rfl, H.out, ((Kept.refl _ _).setCell (fun _ => rfl) _).setCell (fun _ => rfl) _⟩

theorem refTake_any (b n : Nat) (st : Except Int (List UInt8)) (w : World) (h : RSt b w st) :
    Calls Try.prog 92 #[.pointer (some ⟨b, 0, none⟩), .int .i64 n] w fun e w' => e = .returned (.string (bs (stRun (rdTake n) [] st).1)) ∧ RSt b w' (stRun (rdTake n) [] st).2 ∧ Kept (One b) w w' := by
  cases st with
  | error c =>
    obtain ⟨hc, hb⟩ := h
    have h1 : w.cell? ⟨b, 1, none⟩ = some (.int .i64 c) := blk_cell hb 1
    have hc' : (c != 0) = true := by simpa using hc
    go_enter Try.func92, Try.ntmps92
    go_wp2
    go_ret
    exact ⟨rfl, ⟨hc, hb⟩, .refl _ _⟩
  | ok l =>
    obtain ⟨hl, hb⟩ := h
    have h0 : w.cell? ⟨b, 0, none⟩ = some (.string (bs l)) := blk_cell hb 0
    have h1 : w.cell? ⟨b, 1, none⟩ = some (.int .i64 0) := blk_cell hb 1
    have f0 := blk_free hb 0
    by_cases hn : n ≤ l.length
    · have hr : rdTake n l = .ok (l.take n, l.drop n) := if_pos hn
      rw [stRun_ok hr]
      simp only
      have hn' : n ≤ (bs l).size := by rw [bs_size]; exact hn
      have H : Hid (RSt b (w.setCell ⟨b, 0, none⟩ (.string ((bs l).extract n (bs l).size))) (.ok (l.drop n))) := ⟨by simp; omega, by rw [bs_drop]; exact blk_set hb 0 _⟩
      rw [← bs_take]
      clear hn hr hb hl
      go_enter Try.func92, Try.ntmps92
      go_wp2
      go_ret
      exact ⟨rfl, H.out, (Kept.refl _ _).setCell (fun _ => rfl) _⟩
    · have hr : rdTake n l = .error 3 := if_neg hn
      rw [stRun_no hr]
      simp only
      have hn' : ¬ n ≤ (bs l).size := by rw [bs_size]; exact hn
      clear hn hr
      go_enter Try.func92, Try.ntmps92
      go_wp2_with (go_at_call 106; refine (bad_any b l 3 _ hb (by decide)).mono ?_; rintro e w' ⟨rfl, h2, h3⟩)
      go_ret
      exact ⟨rfl, by assumption, by assumption⟩

theorem i64_xor_nat (a b : Nat) (ha : a < 9223372036854775808) (hb : b < 9223372036854775808) : bits .xor .i64 (a : Int) (b : Int) = ((a ^^^ b : Nat) : Int) := by
  show IntKind.i64.wrap ((BitVec.ofInt 64 (a : Int) ^^^ BitVec.ofInt 64 (b : Int)).toNat : Int) = _
  rw [BitVec.toNat_xor, ofInt_u64 a (by omega), ofInt_u64 b (by omega)]
  have : a ^^^ b < 2 ^ 63 := Nat.xor_lt_two_pow (by omega) (by omega)
  rw [IntKind.wrap_i64]; omega

theorem tmod_nat (n m : Nat) : (n : Int).tmod (m : Int) = ((n % m : Nat) : Int) := by
  rw [Int.tmod_eq_emod_of_nonneg (by omega)]; rfl

set_option maxHeartbeats 1000000 in
theorem refSum_any (l : List UInt8) (w : World) (hl : l.length ≤ maxLen) :
    Calls Try.prog 20 #[.string (bs l)] w fun e w' => e = .returned (.int .i64 (crc l)) ∧ w' = w := by
  unfold maxLen at hl
  have hsz := bs_size l
  go_enter Try.func20, Try.ntmps20
  go_wp2
  go_loop [3, 4] (fun c i => ∃ k : Nat, ∃ x : Nat, k ≤ l.length ∧ i = .int .i64 k ∧ Hid (x = crcReg (l.take k)) ∧ x < 4294967296 ∧ c = .int .i64 x) (fun _ i => l.length - (intOf i).toNat)
  case atStart => exact ⟨0, 4294967295, Nat.zero_le _, rfl, rfl, by omega, rfl⟩
  case round =>
    obtain ⟨k, x, hk, rfl, HX, hr, rfl⟩ := hrel
    by_cases hlt : k < l.length
    · obtain ⟨c, hcl⟩ : ∃ c, l[k] = c := ⟨_, rfl⟩
      have hat : ∀ h, (bs l)[k]'h = c := fun h => (bs_at l k h).trans hcl
      have hc := c.toNat_lt
      have HY : Hid (refSteps c.toNat 8 x = crcReg (l.take (k + 1))) := by
        rw [List.take_succ_eq_append_getElem hlt, crcReg_snoc, ← HX.out, hcl]; exact byte_same _ _
      clear hcl
      go_wp2
      go_loop [3, 5] (fun c' i => ∃ j : Nat, ∃ z : Nat, j ≤ 8 ∧ i = .int .i64 j ∧ Hid (z = refSteps c.toNat j x) ∧ z < 4294967296 ∧ c' = .int .i64 z) (fun _ i => 8 - (intOf i).toNat)
      case atStart => exact ⟨0, x, Nat.zero_le _, rfl, rfl, hr, rfl⟩
      case round =>
        obtain ⟨j, z, hj, rfl, HZ, hz, rfl⟩ := hrel
        by_cases hj8 : j < 8
        · have hq : c.toNat / 2 ^ j < 256 := Nat.lt_of_le_of_lt (Nat.div_le_self _ _) hc
          have e1 : ((c.toNat : Int) / 2 ^ j) = ((c.toNat / 2 ^ j : Nat) : Int) := by push_cast; rfl
          have hf : bits .xor .i64 (z : Int) ((c.toNat : Int) / 2 ^ j) = ((z ^^^ c.toNat / 2 ^ j : Nat) : Int) := by rw [e1]; exact i64_xor_nat _ _ (by omega) (by omega)
          have e2 : ((z : Int) / 2) = ((z / 2 : Nat) : Int) := by omega
          have hg : bits .xor .i64 ((z : Int) / 2) 2197175160 = ((z / 2 ^^^ 2197175160 : Nat) : Int) := by rw [e2]; exact i64_xor_nat _ 2197175160 (by omega) (by omega)
          have hlt2 := refSteps_lt c.toNat hc x hr (j + 1)
          have HS : Hid (refSteps c.toNat (j + 1) x = refStep z c.toNat j) := by rw [HZ.out]; rfl
          rw [HS.out] at hlt2
          clear e1 e2 hq
          by_cases hodd : (z ^^^ c.toNat / 2 ^ j) % 2 = 1
          · have HE : Hid (refStep z c.toNat j = z / 2 ^^^ 2197175160) := by unfold refStep; exact if_pos hodd
            have ht : ((bits .xor .i64 (z : Int) ((c.toNat : Int) / 2 ^ j)).tmod 2 == 1) = true := by rw [hf, show (2 : Int) = ((2 : Nat) : Int) from rfl, tmod_nat, hodd]; rfl
            clear hf hodd
            go_wp2
            go_round
            case rel => exact ⟨j + 1, refStep z c.toNat j, by omega, by go_num, HS.out.symm, hlt2, by rw [HE.out, ← hg]⟩
            case measure => simp [intOf]; omega
          · have HE : Hid (refStep z c.toNat j = z / 2) := by unfold refStep; exact if_neg hodd
            have ht : ((bits .xor .i64 (z : Int) ((c.toNat : Int) / 2 ^ j)).tmod 2 == 1) = false := by rw [hf, show (2 : Int) = ((2 : Nat) : Int) from rfl, tmod_nat, show (z ^^^ c.toNat / 2 ^ j) % 2 = 0 by omega]; rfl
            clear hf hodd
            go_wp2
            go_round
            case rel => exact ⟨j + 1, refStep z c.toNat j, by omega, by go_num, HS.out.symm, hlt2, by rw [HE.out]; rfl⟩
            case measure => simp [intOf]; omega
        · have HE : Hid (z = crcReg (l.take (k + 1))) := by
            obtain rfl : j = 8 := by omega
            exact HZ.out.trans HY.out
          go_wp2
          go_round
          case rel => exact ⟨k + 1, z, by omega, by go_num, HE, hz, rfl⟩
          case measure => simp [intOf]; omega
    · have HE : Hid (x = crcReg l) := by
        have := HX.out
        rw [List.take_of_length_le (by omega)] at this
        exact this
      go_wp2
      go_ret
      exact ⟨ret_int (by rw [HE.out]; have := crcReg_lt l; unfold crc; omega), rfl⟩

theorem refTake_one (b : Nat) (c : UInt8) (t : List UInt8) (w : World) (h : RSt b w (.ok (c :: t))) :
    Calls Try.prog 92 #[.pointer (some ⟨b, 0, none⟩), .int .i64 1] w fun e w' => e = .returned (.string (bs [c])) ∧ w'.cell? ⟨b, 1, none⟩ = some (.int .i64 0) ∧ RSt b w' (.ok t) ∧ Kept (One b) w w' := by
  refine (refTake_any b 1 _ w h).mono ?_
  rintro e w' ⟨rfl, h2, h3⟩
  have hr : rdTake 1 (c :: t) = .ok ([c], t) := by unfold rdTake; rw [if_pos (by simp)]; rfl
  rw [stRun_ok hr] at h2 ⊢
  exact ⟨rfl, blk_cell h2.2 1, h2, h3⟩

set_option maxRecDepth 100000 in
set_option maxHeartbeats 2000000 in
theorem refNumber_any (b : Nat) (st : Except Int (List UInt8)) (w : World) (h : RSt b w st) :
    Calls Try.prog 99 #[.pointer (some ⟨b, 0, none⟩)] w fun e w' => e = .returned (.int .i64 (stRun rdNum 0 st).1) ∧ RSt b w' (stRun rdNum 0 st).2 ∧ Kept (One b) w w' := by
  cases st with
  | error c =>
    rw [stRun_err]
    simp only
    obtain ⟨hc, hb⟩ := id h
    have hc' : (c != 0) = true := by simpa using hc
    go_enter Try.func99, Try.ntmps99
    go_wp2
    refine wp_loop_rounds 1 ?_
    rw [rounds_succ]
    go_wp2_with (go_at_call 92; refine (refTake_any b 1 (.error c) _ h).mono ?_; rintro e w' ⟨rfl, hs, h3⟩; have h4 := blk_cell hs.2 1)
    go_ret
    exact ⟨rfl, by assumption, by assumption⟩
  | ok l =>
    go_enter Try.func99, Try.ntmps99
    go_wp2
    go_loopw [3, 4] (fun n s wr => ∃ k : Nat, ∃ x : Nat, ∃ t : List UInt8, k ≤ 6 ∧ Hid (rdNum l = numGo k x t) ∧ x < 2 ^ (7 * k) ∧ n = .int .i64 x ∧ s = .int .i64 k ∧ RSt b wr (.ok t) ∧ Kept (One b) w wr) (fun _ s _ => 50 - (intOf s).toNat)
    case atStart => exact ⟨0, 0, l, by omega, rfl, by omega, rfl, rfl, h, .refl _ _⟩
    case round =>
      obtain ⟨k, x, t, hk, ht, hx, rfl, rfl, hs, hw⟩ := hrel
      clear h
      cases t with
      | nil =>
        have HR : Hid (stRun rdNum 0 (.ok l) = (0, .error 3)) := stRun_no (ht.out.trans (numGo_nil _ _))
        go_wp2_with (go_at_call 92; refine (refTake_any b 1 (.ok []) _ hs).mono ?_; rintro e w' ⟨rfl, hs', h3⟩; have h4 : w'.cell? ⟨b, 1, none⟩ = some (.int .i64 3) := blk_cell hs'.2 1)
        go_ret
        rw [HR.out]
        exact ⟨rfl, by assumption, hw.trans (by assumption)⟩
      | cons c t =>
        have h1 : (bs [c]).size = 1 := by rw [bs_size]; rfl
        have h2 : ∀ h, ((bs [c])[0]'h) = c := fun h => by rw [bs_at]; rfl
        have hc := c.toNat_lt
        have hp := pow7 k hk
        have hlt := step_lt hx (show c.toNat % 128 < 128 by omega)
        have hm0 : c.toNat % 128 * 2 ^ (7 * k) ≤ 127 * 4398046511104 := Nat.mul_le_mul (by omega) hp
        obtain ⟨y, hy⟩ : ∃ y, y = c.toNat % 128 * 2 ^ (7 * k) := ⟨_, rfl⟩
        have hy2 : wrap64 ((c.toNat : Int) % 128 * 2 ^ (7 * k)) = (y : Int) := by
          have : ((c.toNat : Int) % 128 * 2 ^ (7 * k)) = (y : Int) := by rw [hy]; push_cast; rfl
          rw [this, wrap64]; omega
        rw [← hy] at hm0 hlt
        have HY : Hid (y = c.toNat % 128 * 2 ^ (7 * k)) := hy
        by_cases hb : k ≤ 5 ∧ x + c.toNat % 128 * 2 ^ (7 * k) ≤ maxNum ∧ (c.toNat ≠ 0 ∨ k = 0)
        · have hm : (x : Int) + y ≤ 1099511627775 := by rw [← hy] at hb; unfold maxNum at hb; omega
          by_cases h128 : c.toNat < 128
          · have HR : Hid (stRun rdNum 0 (.ok l) = (x + y, .ok t)) := by rw [hy]; exact stRun_ok (ht.out.trans (numGo_end hb h128))
            obtain ⟨hb1, hb2, hb3⟩ := hb
            clear hb2 hy
            by_cases hcz : c.toNat = 0
            · have hkz : ¬ 0 < k := by omega
              clear hb3 hcz
              go_wp2_with (first | (go_at_call 92; refine (refTake_one b c t _ hs).mono ?_; rintro e w' ⟨rfl, h4, hs', h3⟩))
              all_goals
                go_ret
                rw [HR.out]
                exact ⟨ret_int (by show _ = ((x + y : Nat) : Int); omega), by assumption, hw.trans (by assumption)⟩
            · have hcz2 : ((c.toNat : Int) == 0) = false := by simpa using hcz
              clear hb3
              go_wp2_with (first | (go_at_call 92; refine (refTake_one b c t _ hs).mono ?_; rintro e w' ⟨rfl, h4, hs', h3⟩))
              all_goals
                go_ret
                rw [HR.out]
                exact ⟨ret_int (by show _ = ((x + y : Nat) : Int); omega), by assumption, hw.trans (by assumption)⟩
          · have HR : Hid (rdNum l = numGo (k + 1) (x + y) t) := by rw [hy]; exact ht.out.trans (numGo_more hb h128)
            obtain ⟨hb1, hb2, hb3⟩ := hb
            have hcz : ¬ c.toNat = 0 := by omega
            have hcz2 : ((c.toNat : Int) == 0) = false := by simpa using hcz
            clear hb2 hy hb3
            go_wp2_with (first | (go_at_call 92; refine (refTake_one b c t _ hs).mono ?_; rintro e w' ⟨rfl, h4, hs', h3⟩))
            all_goals
              go_roundw
              case rel => exact ⟨k + 1, x + y, t, by omega, HR, hlt, by go_num, by go_num, by assumption, hw.trans (by assumption)⟩
              case measure => simp [intOf]; omega
        · have HR : Hid (stRun rdNum 0 (.ok l) = (0, .error 1)) := stRun_no (ht.out.trans (numGo_bad hb))
          by_cases hk5 : k ≤ 5
          · by_cases hm : (x : Int) + y ≤ 1099511627775
            · have hcz : c.toNat = 0 := by rw [← hy] at hb; unfold maxNum at hb; omega
              have hkz : 0 < k := by rw [← hy] at hb; unfold maxNum at hb; omega
              have hcz2 : ((c.toNat : Int) == 0) = true := by simp [hcz]
              clear hcz hb hy
              go_wp2_with (first | (go_at_call 92; refine (refTake_one b c t _ hs).mono ?_; rintro e w' ⟨rfl, h4, hs', h3⟩) | (go_at_call 106; refine (bad_any b t 1 _ (by assumption : RSt b _ (.ok t)).2 (by decide)).mono ?_; rintro e w2 ⟨rfl, hs2, h5⟩))
              all_goals
                go_ret
                rw [HR.out]
                exact ⟨rfl, hs2, hw.trans (h3.trans h5)⟩
            · clear hb hy
              go_wp2_with (first | (go_at_call 92; refine (refTake_one b c t _ hs).mono ?_; rintro e w' ⟨rfl, h4, hs', h3⟩) | (go_at_call 106; refine (bad_any b t 1 _ (by assumption : RSt b _ (.ok t)).2 (by decide)).mono ?_; rintro e w2 ⟨rfl, hs2, h5⟩))
              all_goals
                go_ret
                rw [HR.out]
                exact ⟨rfl, hs2, hw.trans (h3.trans h5)⟩
          · clear hb hy
            go_wp2_with (first | (go_at_call 92; refine (refTake_one b c t _ hs).mono ?_; rintro e w' ⟨rfl, h4, hs', h3⟩) | (go_at_call 106; refine (bad_any b t 1 _ (by assumption : RSt b _ (.ok t)).2 (by decide)).mono ?_; rintro e w2 ⟨rfl, hs2, h5⟩))
            all_goals
              go_ret
              rw [HR.out]
              exact ⟨rfl, hs2, hw.trans (h3.trans h5)⟩

set_option maxHeartbeats 1000000 in
theorem refUpTo_any (b most : Nat) (st : Except Int (List UInt8)) (w : World) (h : RSt b w st) :
    Calls Try.prog 140 #[.pointer (some ⟨b, 0, none⟩), .int .i64 most] w fun e w' => e = .returned (.int .i64 (stRun (rdUpTo most) 0 st).1) ∧ RSt b w' (stRun (rdUpTo most) 0 st).2 ∧ Kept (One b) w w' := by
  by_cases hg : ∃ l n t, st = .ok l ∧ rdNum l = .ok (n, t) ∧ ¬ n ≤ most
  · obtain ⟨l, n, t, rfl, hr, hn⟩ := hg
    have HR : Hid (stRun (rdUpTo most) 0 (.ok l) = (0, .error 4)) := stRun_no (by unfold rdUpTo; rw [hr]; exact if_neg hn)
    have hn' : (stRun rdNum 0 (.ok l)).1 = n := by rw [stRun_ok hr]
    have hst : (stRun rdNum 0 (.ok l)).2 = .ok t := by rw [stRun_ok hr]
    have H := refNumber_any b _ w h
    rw [hn', hst] at H
    clear hn' hst hr h
    go_enter Try.func140, Try.ntmps140
    go_wp2_with (first | (go_at_call 99; refine H.mono ?_; rintro e w' ⟨rfl, hs, hk⟩) | (go_at_call 106; refine (bad_any b t 4 _ hs.2 (by decide)).mono ?_; rintro e w2 ⟨rfl, hs2, hk2⟩))
    go_ret
    rw [HR.out]
    exact ⟨rfl, hs2, hk.trans hk2⟩
  · have H := refNumber_any b _ w h
    have HR : Hid (stRun (rdUpTo most) 0 st = stRun rdNum 0 st ∧ (stRun rdNum 0 st).1 ≤ most) := by
      cases st with
      | error c => exact ⟨rfl, Nat.zero_le _⟩
      | ok l =>
        cases hr : rdNum l with
        | error c => rw [stRun_no hr, stRun_no (c := c) (by unfold rdUpTo; rw [hr])]; exact ⟨rfl, Nat.zero_le _⟩
        | ok r =>
          obtain ⟨n, t⟩ := r
          have hn : n ≤ most := Decidable.byContradiction fun hn => hg ⟨l, n, t, rfl, hr, hn⟩
          rw [stRun_ok hr, stRun_ok (a := n) (t := t) (by unfold rdUpTo; rw [hr]; exact if_pos hn)]
          exact ⟨rfl, hn⟩
    rw [HR.out.1]
    have hn := HR.out.2
    obtain ⟨n, hN⟩ : ∃ n, n = (stRun rdNum 0 st).1 := ⟨_, rfl⟩
    obtain ⟨s2, hS⟩ : ∃ s2, s2 = (stRun rdNum 0 st).2 := ⟨_, rfl⟩
    rw [← hN] at hn
    rw [← hN, ← hS] at H ⊢
    clear hN hS HR hg h
    go_enter Try.func140, Try.ntmps140
    go_wp2_with (first | (go_at_call 99; refine H.mono ?_; rintro e w' ⟨rfl, hs, hk⟩))
    go_ret
    exact ⟨rfl, hs, hk⟩

theorem stText (most : Nat) (st : Except Int (List UInt8)) : stRun (rdText most) [] st = stRun (rdTake (stRun (rdUpTo most) 0 st).1) [] (stRun (rdUpTo most) 0 st).2 := by
  cases st with
  | error c => rfl
  | ok l =>
    cases hr : rdUpTo most l with
    | error c => rw [stRun_no hr, stRun_no (c := c) (by unfold rdText; rw [hr]), stRun_err]
    | ok r =>
      obtain ⟨n, t⟩ := r
      rw [stRun_ok hr]
      have e : rdText most l = rdTake n t := by unfold rdText; rw [hr]
      cases h2 : rdTake n t with
      | error c => rw [stRun_no (h2 ▸ e), stRun_no h2]
      | ok r2 => obtain ⟨a, u⟩ := r2; rw [stRun_ok (h2 ▸ e), stRun_ok h2]

theorem refText_any (b most : Nat) (st : Except Int (List UInt8)) (w : World) (h : RSt b w st) :
    Calls Try.prog 91 #[.pointer (some ⟨b, 0, none⟩), .int .i64 most] w fun e w' => e = .returned (.string (bs (stRun (rdText most) [] st).1)) ∧ RSt b w' (stRun (rdText most) [] st).2 ∧ Kept (One b) w w' := by
  rw [stText]
  have H := refUpTo_any b most st w h
  obtain ⟨n, hN⟩ : ∃ n, n = (stRun (rdUpTo most) 0 st).1 := ⟨_, rfl⟩
  obtain ⟨s2, hS⟩ : ∃ s2, s2 = (stRun (rdUpTo most) 0 st).2 := ⟨_, rfl⟩
  rw [← hN, ← hS] at H ⊢
  clear hN hS h
  go_enter Try.func91, Try.ntmps91
  go_wp2_with (first | (go_at_call 140; refine H.mono ?_; rintro e w' ⟨rfl, hs, hk⟩) | (go_at_call 92; refine (refTake_any b n s2 _ hs).mono ?_; rintro e w2 ⟨rfl, hs2, hk2⟩))
  go_ret
  exact ⟨rfl, hs2, hk.trans hk2⟩

/-- The error that the document's reader ends with: bytes that are left are one, too. -/
def stEnd (st : Except Int (List UInt8)) : Int :=
  match st with
  | .ok [] => 0
  | .ok _ => 1
  | .error c => c

theorem refEnd_any (b : Nat) (st : Except Int (List UInt8)) (w : World) (h : RSt b w st) :
    Calls Try.prog 100 #[.pointer (some ⟨b, 0, none⟩)] w fun e w' => e = .returned (.int .i64 (stEnd st)) ∧ Kept (One b) w w' := by
  match st, h with
  | .error c, ⟨hc, hb⟩ =>
    have h1 : w.cell? ⟨b, 1, none⟩ = some (.int .i64 c) := blk_cell hb 1
    have hc' : (c == 0) = false := by simpa using hc
    clear hc
    go_enter Try.func100, Try.ntmps100
    go_wp2
    go_ret
    exact ⟨rfl, .refl _ _⟩
  | .ok [], ⟨hl, hb⟩ =>
    have h0 : w.cell? ⟨b, 0, none⟩ = some (.string (bs [])) := blk_cell hb 0
    have h1 : w.cell? ⟨b, 1, none⟩ = some (.int .i64 0) := blk_cell hb 1
    have hq := bs_toList []
    go_enter Try.func100, Try.ntmps100
    go_wp2
    go_ret
    exact ⟨rfl, .refl _ _⟩
  | .ok (c :: t), ⟨hl, hb⟩ =>
    have h0 : w.cell? ⟨b, 0, none⟩ = some (.string (bs (c :: t))) := blk_cell hb 0
    have h1 : w.cell? ⟨b, 1, none⟩ = some (.int .i64 0) := blk_cell hb 1
    have f1 := blk_free hb 1
    have hq := bs_toList (c :: t)
    go_enter Try.func100, Try.ntmps100
    go_wp2
    go_ret
    exact ⟨rfl, (Kept.refl _ _).setCell (fun _ => rfl) _⟩

end Go.Proofs.Ytcbeonhohbgnmaa
