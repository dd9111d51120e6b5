/-
  What the program's reader does, method by method: must, take, number, upTo, text: each answers by the plain reading of WBase, or gives up by its panic, and turns the reader's one cell alone.
-/
import Derived.Test.YtmlncfnnldplgaaProg
import Derived.Test.YtmlncfnnldplgaaWBase
import Derived.Outline
import Derived.Deep.DeepMust
import Derived.Laws.BitsAllLaws
namespace Go.Proofs.Ytmlncfnnldplgaa
open Go.RowKit

def up (c : Int) : List PanicEntry := [{ v := .iface 183 (.agg #[.int .i64 c]), recovered := false }]

theorem must_ok (c : Int) (w : World) : Calls Try.prog 98 #[.bool true, .int .i64 c] w fun e w' => e = .returned (.tuple #[]) ∧ w' = w := by
  go_enter Try.func98, Try.ntmps98
  go_wp2
  go_end0
  exact ⟨rfl, rfl⟩

theorem must_no (c : Int) (w : World) : Calls Try.prog 98 #[.bool false, .int .i64 c] w fun e w' => e = .panicked (up c) ∧ w' = w := by
  go_enter Try.func98, Try.ntmps98
  go_wp2
  exact ⟨rfl, rfl, rfl⟩

theorem take_ok (p : Addr) (l : List UInt8) (n : Nat) (w : World) (hc : w.cell? p = some (.string (bs l))) (hz : w.frozen? p = false) (hn : n ≤ l.length) :
    Calls Try.prog 101 #[.pointer (some p), .int .i64 n] w fun e w' => e = .returned (.string (bs (l.take n))) ∧ w' = w.setCell p (.string (bs (l.drop n))) := by
  have hn' : n ≤ (bs l).size := by rw [bs_size]; exact hn
  rw [← bs_take, ← bs_drop]
  clear hn
  go_enter Try.func101, Try.ntmps101
  go_wp2_with (go_at_call 98; refine (must_ok _ _).mono ?_; rintro e w' ⟨rfl, rfl⟩)
  go_ret
  exact ⟨rfl, rfl⟩

theorem take_no (p : Addr) (l : List UInt8) (n : Nat) (w : World) (hc : w.cell? p = some (.string (bs l))) (hz : w.frozen? p = false) (hn : l.length < n)  :
    Calls Try.prog 101 #[.pointer (some p), .int .i64 n] w fun e w' => e = .panicked (up 3) ∧ w' = w := by
  have hn' : ¬ n ≤ (bs l).size := by rw [bs_size]; omega
  clear hn
  go_enter Try.func101, Try.ntmps101
  go_wp2_with (go_at_call 98; refine (must_no _ _).mono ?_; rintro e w' ⟨rfl, rfl⟩)
  exact ⟨rfl, rfl, rfl⟩

/-- The reader's cell, told by the bytes that are left. -/
structure Left (p : Addr) (w : World) (l : List UInt8) : Prop where
  cell : w.cell? p = some (.string (bs l))
  free : w.frozen? p = false

theorem Left.set {p : Addr} {w : World} {l : List UInt8} (h : Left p w l) (t : List UInt8) : Left p (w.setCell p (.string (bs t))) t :=
  ⟨World.cell?_setCell_same _ _ _ (by rw [h.cell]), by rw [World.frozen?_setCell]; exact h.free⟩

/-- What a reader's method leaves: by its reading, the value and what is left; or its panic. -/
def RdPost {α : Type} (p : Addr) (w : World) (r : Except Int (α × List UInt8)) (V : α → World → Value → Prop) (e : Ending) (w' : World) : Prop :=
  match r with
  | .ok (a, t) => (∃ v, e = .returned v ∧ V a w' v) ∧ Left p w' t ∧ Kept (One p.block) w w'
  | .error c => e = .panicked (up c) ∧ Kept (One p.block) w w'

theorem RdPost.ok {α : Type} {p : Addr} {w : World} {r : Except Int (α × List UInt8)} {V : α → World → Value → Prop} {f : Nat} {args : Array Value} {a : α} {t : List UInt8}
    (h : Calls Try.prog f args w (RdPost p w r V)) (hr : r = .ok (a, t)) :
    Calls Try.prog f args w fun e w' => ∃ v, e = .returned v ∧ V a w' v ∧ w'.cell? p = some (.string (bs t)) ∧ w'.frozen? p = false ∧ Kept (One p.block) w w' := by
  refine h.mono ?_
  intro e w' h
  subst hr
  obtain ⟨⟨v, h1, h2⟩, h3, h4⟩ := h
  exact ⟨v, h1, h2, h3.cell, h3.free, h4⟩

theorem RdPost.no {α : Type} {p : Addr} {w : World} {r : Except Int (α × List UInt8)} {V : α → World → Value → Prop} {f : Nat} {args : Array Value} {c : Int}
    (h : Calls Try.prog f args w (RdPost p w r V)) (hr : r = .error c) :
    Calls Try.prog f args w fun e w' => e = .panicked (up c) ∧ Kept (One p.block) w w' := by
  refine h.mono ?_
  intro e w' h
  subst hr
  exact h

theorem i64_or_nat (a b : Nat) (ha : a < 9223372036854775808) (hb : b < 9223372036854775808) : bits .or .i64 (a : Int) (b : Int) = ((a ||| b : Nat) : Int) := by
  show IntKind.i64.wrap ((BitVec.ofInt 64 (a : Int) ||| BitVec.ofInt 64 (b : Int)).toNat : Int) = _
  rw [BitVec.toNat_or, ofInt_u64 a (by omega), ofInt_u64 b (by omega)]
  have : a ||| b < 2 ^ 63 := Nat.or_lt_two_pow (by omega) (by omega)
  rw [IntKind.wrap_i64]; omega

theorem or_fact (k x : Nat) (c : UInt8) (hk : k ≤ 6) (hx : x < 2 ^ (7 * k)) :
    bits BinOp.or IntKind.i64 (x : Int) (wrap64 (wrap64 (bits BinOp.and IntKind.u8 (c.toNat : Int) 127) * 2 ^ (7 * k))) = ((x + c.toNat % 128 * 2 ^ (7 * k) : Nat) : Int) := by
  have hc : c.toNat < 256 := c.toNat_lt
  have hp := pow7 k hk
  have e1 : bits BinOp.and IntKind.u8 (c.toNat : Int) 127 = ((c.toNat % 128 : Nat) : Int) := by
    have := u8_and_nat c.toNat 127 hc (by omega)
    rw [nat_mask7] at this
    exact this
  have hm : c.toNat % 128 * 2 ^ (7 * k) ≤ 127 * 4398046511104 := Nat.mul_le_mul (by omega) hp
  have e2 : wrap64 ((c.toNat % 128 : Nat) : Int) = ((c.toNat % 128 : Nat) : Int) := by unfold wrap64; omega
  have e3 : wrap64 (((c.toNat % 128 : Nat) : Int) * 2 ^ (7 * k)) = ((c.toNat % 128 * 2 ^ (7 * k) : Nat) : Int) := by
    have : (((c.toNat % 128 : Nat) : Int) * 2 ^ (7 * k)) = ((c.toNat % 128 * 2 ^ (7 * k) : Nat) : Int) := by push_cast; rfl
    rw [this]; unfold wrap64; omega
  rw [e1, e2, e3, i64_or_nat _ _ (by omega) (by omega), or_add hx]

def NumV : Nat → World → Value → Prop := fun n _ v => v = .int .i64 n

set_option maxRecDepth 100000 in
set_option maxHeartbeats 1000000 in
theorem number_any (p : Addr) (l : List UInt8) (w : World) (hl : Left p w l) :
    Calls Try.prog 103 #[.pointer (some p)] w (RdPost p w (rdNum l) NumV) := by
  obtain ⟨hc, hz⟩ := hl
  go_enter Try.func103, Try.ntmps103
  go_wp2
  go_loopw [3, 4] (fun n s wr => ∃ k : Nat, ∃ x : Nat, ∃ t : List UInt8, k ≤ 6 ∧ Hid (rdNum l = numGo k x t) ∧ x < 2 ^ (7 * k) ∧ n = .int .i64 x ∧ s = .int .i64 (7 * k : Nat) ∧ Left p wr t ∧ Kept (One p.block) w wr) (fun _ s _ => 50 - (intOf s).toNat)
  case atStart => exact ⟨0, 0, l, by omega, rfl, by omega, rfl, rfl, ⟨hc, hz⟩, .refl _ _⟩
  case round =>
    obtain ⟨k, x, t, hk, ht, hx, rfl, rfl, ⟨hcc, hzz⟩, hw⟩ := hrel
    clear hc hz
    cases t with
    | nil =>
      go_wp2_with (go_at_call 101; refine (take_no p [] 1 _ hcc hzz (by simp)).mono ?_; rintro e w' ⟨rfl, rfl⟩)
      rw [ht.out, numGo_nil]
      exact ⟨rfl, rfl, hw⟩
    | cons c t =>
      have h1 : (bs [c]).size = 1 := by rw [bs_size]; rfl
      have h2 : ∀ h, ((bs [c])[0]'h) = c := fun h => by rw [bs_at]; rfl
      have h3 := or_fact k x c hk hx
      have hlt := step_lt hx (show c.toNat % 128 < 128 by omega)
      have hw2 : Kept (One p.block) w (wr.setCell p (.string (bs t))) := hw.setCell (fun _ => rfl) _
      have hl2 : Left p (wr.setCell p (.string (bs t))) t := Left.set ⟨hcc, hzz⟩ t
      have HP : Hid (Kept (One p.block) w (wr.setCell p (.string (bs t))) ∧ Left p (wr.setCell p (.string (bs t))) t) := ⟨hw2, hl2⟩
      clear hw2 hl2
      obtain ⟨z, hz⟩ : ∃ z, z = x + c.toNat % 128 * 2 ^ (7 * k) := ⟨_, rfl⟩
      rw [← hz] at h3 hlt
      have HD : Hid (z = x + c.toNat % 128 * 2 ^ (7 * k)) := hz
      by_cases hb : k ≤ 5 ∧ x + c.toNat % 128 * 2 ^ (7 * k) ≤ maxNum ∧ (c.toNat ≠ 0 ∨ k = 0)
      · have hm : (z : Int) ≤ 1099511627775 := by rw [hz]; unfold maxNum at hb; omega
        by_cases h128 : c.toNat < 128
        · have HR : Hid (rdNum l = .ok (z, t)) := by rw [hz]; exact ht.out.trans (numGo_end hb h128)
          obtain ⟨hb1, hb2, hb3⟩ := hb
          clear hb2 hz
          by_cases hcz : c.toNat = 0
          · have hkz : (7 * (k : Int) == 0) = true := by simp; omega
            clear hb3
            have hcz2 : ((c.toNat : Int) != 0) = false := by simp [hcz]
            clear hcz
            go_wp2_with (first | (go_at_call 101; refine (take_ok p (c :: t) 1 _ hcc hzz (by simp)).mono ?_; rintro e w' ⟨rfl, rfl⟩) | (go_at_call 98; refine (must_ok _ _).mono ?_; rintro e w' ⟨rfl, rfl⟩))
            go_ret
            unfold RdPost
            rw [HR.out]
            exact ⟨⟨_, rfl, rfl⟩, HP.out.2, HP.out.1⟩
          · clear hb3
            go_wp2_with (first | (go_at_call 101; refine (take_ok p (c :: t) 1 _ hcc hzz (by simp)).mono ?_; rintro e w' ⟨rfl, rfl⟩) | (go_at_call 98; refine (must_ok _ _).mono ?_; rintro e w' ⟨rfl, rfl⟩))
            go_ret
            unfold RdPost
            rw [HR.out]
            exact ⟨⟨_, rfl, rfl⟩, HP.out.2, HP.out.1⟩
        · have HR : Hid (rdNum l = numGo (k + 1) z t) := by rw [hz]; exact ht.out.trans (numGo_more hb h128)
          obtain ⟨hb1, hb2, hb3⟩ := hb
          have hcz : ¬ c.toNat = 0 := by omega
          clear hb2 hz hb3
          go_wp2_with (first | (go_at_call 101; refine (take_ok p (c :: t) 1 _ hcc hzz (by simp)).mono ?_; rintro e w' ⟨rfl, rfl⟩) | (go_at_call 98; refine (must_ok _ _).mono ?_; rintro e w' ⟨rfl, rfl⟩))
          go_roundw
          case rel => exact ⟨k + 1, z, t, by omega, HR, hlt, rfl, by go_num, HP.out.2, HP.out.1⟩
          case measure => simp [intOf]; omega
      · have HR : Hid (rdNum l = .error 1) := ht.out.trans (numGo_bad hb)
        by_cases hk5 : k ≤ 5
        · by_cases hm : (z : Int) ≤ 1099511627775
          · have hcz : c.toNat = 0 := by unfold maxNum at hb; omega
            have hkz : (7 * (k : Int) == 0) = false := by simp; unfold maxNum at hb; omega
            have hcz2 : ((c.toNat : Int) != 0) = false := by simp [hcz]
            clear hcz hb hz
            go_wp2_with (first | (go_at_call 101; refine (take_ok p (c :: t) 1 _ hcc hzz (by simp)).mono ?_; rintro e w' ⟨rfl, rfl⟩) | (go_at_call 98; refine (must_no _ _).mono ?_; rintro e w' ⟨rfl, rfl⟩))
            unfold bodyPost RdPost
            rw [HR.out]
            exact ⟨rfl, rfl, HP.out.1⟩
          · clear hb hz
            go_wp2_with (first | (go_at_call 101; refine (take_ok p (c :: t) 1 _ hcc hzz (by simp)).mono ?_; rintro e w' ⟨rfl, rfl⟩) | (go_at_call 98; refine (must_no _ _).mono ?_; rintro e w' ⟨rfl, rfl⟩))
            unfold bodyPost RdPost
            rw [HR.out]
            exact ⟨rfl, rfl, HP.out.1⟩
        · clear hb hz
          go_wp2_with (first | (go_at_call 101; refine (take_ok p (c :: t) 1 _ hcc hzz (by simp)).mono ?_; rintro e w' ⟨rfl, rfl⟩) | (go_at_call 98; refine (must_no _ _).mono ?_; rintro e w' ⟨rfl, rfl⟩))
          unfold bodyPost RdPost
          rw [HR.out]
          exact ⟨rfl, rfl, HP.out.1⟩

theorem number_ok {p : Addr} {l t : List UInt8} {n : Nat} {w : World} (hl : Left p w l) (hr : rdNum l = .ok (n, t)) :
    Calls Try.prog 103 #[.pointer (some p)] w fun e w' => e = .returned (.int .i64 n) ∧ w'.cell? p = some (.string (bs t)) ∧ w'.frozen? p = false ∧ Kept (One p.block) w w' := by
  refine (RdPost.ok (number_any p l w hl) hr).mono ?_
  rintro e w' ⟨v, rfl, rfl, h⟩
  exact ⟨rfl, h⟩

theorem number_no {p : Addr} {l : List UInt8} {c : Int} {w : World} (hl : Left p w l) (hr : rdNum l = .error c) :
    Calls Try.prog 103 #[.pointer (some p)] w fun e w' => e = .panicked (up c) ∧ Kept (One p.block) w w' := RdPost.no (number_any p l w hl) hr

theorem upTo_any (p : Addr) (most : Nat) (l : List UInt8) (w : World) (hl : Left p w l) :
    Calls Try.prog 102 #[.pointer (some p), .int .i64 most] w (RdPost p w (rdUpTo most l) NumV) := by
  cases hr : rdNum l with
  | error c =>
    have HR : Hid (rdUpTo most l = .error c) := by unfold rdUpTo; rw [hr]; rfl
    go_enter Try.func102, Try.ntmps102
    go_wp2_with (go_at_call 103; refine (number_no hl hr).mono ?_; rintro e w' ⟨rfl, hk⟩)
    unfold bodyPost RdPost
    rw [HR.out]
    exact ⟨rfl, rfl, hk⟩
  | ok r =>
    obtain ⟨n, t⟩ := r
    by_cases hn : n ≤ most
    · have HR : Hid (rdUpTo most l = .ok (n, t)) := by unfold rdUpTo; rw [hr]; exact if_pos hn
      go_enter Try.func102, Try.ntmps102
      go_wp2_with (first | (go_at_call 103; refine (number_ok hl hr).mono ?_; rintro e w' ⟨rfl, hc', hz', hk⟩) | (go_at_call 98; refine (must_ok _ _).mono ?_; rintro e w' ⟨rfl, rfl⟩))
      go_ret
      unfold RdPost
      rw [HR.out]
      exact ⟨⟨_, rfl, rfl⟩, ⟨by assumption, by assumption⟩, by assumption⟩
    · have HR : Hid (rdUpTo most l = .error 4) := by unfold rdUpTo; rw [hr]; exact if_neg hn
      go_enter Try.func102, Try.ntmps102
      go_wp2_with (first | (go_at_call 103; refine (number_ok hl hr).mono ?_; rintro e w' ⟨rfl, hc', hz', hk⟩) | (go_at_call 98; refine (must_no _ _).mono ?_; rintro e w' ⟨rfl, rfl⟩))
      unfold bodyPost RdPost
      rw [HR.out]
      exact ⟨rfl, rfl, by assumption⟩

theorem upTo_ok {p : Addr} {l t : List UInt8} {most n : Nat} {w : World} (hl : Left p w l) (hr : rdUpTo most l = .ok (n, t)) :
    Calls Try.prog 102 #[.pointer (some p), .int .i64 most] w fun e w' => e = .returned (.int .i64 n) ∧ w'.cell? p = some (.string (bs t)) ∧ w'.frozen? p = false ∧ Kept (One p.block) w w' := by
  refine (RdPost.ok (upTo_any p most l w hl) hr).mono ?_
  rintro e w' ⟨v, rfl, rfl, h⟩
  exact ⟨rfl, h⟩

theorem upTo_no {p : Addr} {l : List UInt8} {most : Nat} {c : Int} {w : World} (hl : Left p w l) (hr : rdUpTo most l = .error c) :
    Calls Try.prog 102 #[.pointer (some p), .int .i64 most] w fun e w' => e = .panicked (up c) ∧ Kept (One p.block) w w' := RdPost.no (upTo_any p most l w hl) hr

def StrV : List UInt8 → World → Value → Prop := fun s _ v => v = .string (bs s)

theorem text_any (p : Addr) (most : Nat) (l : List UInt8) (w : World) (hl : Left p w l) :
    Calls Try.prog 99 #[.pointer (some p), .int .i64 most] w (RdPost p w (rdText most l) StrV) := by
  cases hr : rdUpTo most l with
  | error c =>
    have HR : Hid (rdText most l = .error c) := by unfold rdText; rw [hr]; rfl
    go_enter Try.func99, Try.ntmps99
    go_wp2_with (go_at_call 102; refine (upTo_no hl hr).mono ?_; rintro e w' ⟨rfl, hk⟩)
    unfold bodyPost RdPost
    rw [HR.out]
    exact ⟨rfl, rfl, hk⟩
  | ok r =>
    obtain ⟨n, t⟩ := r
    by_cases hn : n ≤ t.length
    · have HR : Hid (rdText most l = .ok (t.take n, t.drop n)) := by unfold rdText; rw [hr]; exact if_pos hn
      go_enter Try.func99, Try.ntmps99
      go_wp2_with (first | (go_at_call 102; refine (upTo_ok hl hr).mono ?_; rintro e w' ⟨rfl, hc', hz', hk⟩) | (go_at_call 101; refine (take_ok p t n _ hc' hz' hn).mono ?_; rintro e w2 ⟨rfl, rfl⟩))
      go_ret
      unfold RdPost
      rw [HR.out]
      exact ⟨⟨_, rfl, rfl⟩, Left.set (l := t) ⟨by assumption, by assumption⟩ _, Kept.setCell (by assumption) (fun _ => rfl) _⟩
    · have HR : Hid (rdText most l = .error 3) := by unfold rdText; rw [hr]; exact if_neg hn
      go_enter Try.func99, Try.ntmps99
      go_wp2_with (first | (go_at_call 102; refine (upTo_ok hl hr).mono ?_; rintro e w' ⟨rfl, hc', hz', hk⟩) | (go_at_call 101; refine (take_no p t n _ hc' hz' (by omega)).mono ?_; rintro e w2 ⟨rfl, rfl⟩))
      unfold bodyPost RdPost
      rw [HR.out]
      exact ⟨rfl, rfl, by assumption⟩

theorem text_ok {p : Addr} {l s t : List UInt8} {most : Nat} {w : World} (hl : Left p w l) (hr : rdText most l = .ok (s, t)) :
    Calls Try.prog 99 #[.pointer (some p), .int .i64 most] w fun e w' => e = .returned (.string (bs s)) ∧ w'.cell? p = some (.string (bs t)) ∧ w'.frozen? p = false ∧ Kept (One p.block) w w' := by
  refine (RdPost.ok (text_any p most l w hl) hr).mono ?_
  rintro e w' ⟨v, rfl, rfl, h⟩
  exact ⟨rfl, h⟩

theorem text_no {p : Addr} {l : List UInt8} {most : Nat} {c : Int} {w : World} (hl : Left p w l) (hr : rdText most l = .error c) :
    Calls Try.prog 99 #[.pointer (some p), .int .i64 most] w fun e w' => e = .panicked (up c) ∧ Kept (One p.block) w w' := RdPost.no (text_any p most l w hl) hr

end Go.Proofs.Ytmlncfnnldplgaa
