/-
  Slice: the program's.
-/
import Derived.Test.YtcbeonhohbgnmaaWLog7
namespace Go.Proofs.Ytcbeonhohbgnmaa
open Go.RowKit

def slE (base : Int) (n : Nat) (fr most : Int) : Int := if fr ≤ base then 11 else if base + n + 1 < fr ∨ most < 0 then 12 else 0
def slL (base : Int) (es : List En) (fr most : Int) : List En := if slE base es.length fr most = 0 then (es.drop (fr - 1 - base).toNat).take most.toNat else []
/-- What Clone makes of a slice's middle. -/
theorem cloneMid {B c : Nat} {ao : Option Addr} {es : List En} (q m : Nat) {w : World} (h : EntRow B w ao es) (hn : ao = none → es = [] ∧ c = 0) (hl : (es.length : Int) ≤ 1099511627776) (hm : m ≤ es.length - q) :
    Calls Try.prog 166 #[.slice (ao.map (fun x => x.add (q * 4))) m (c - q)] w fun e w' => ∃ ao' c', e = .returned (.slice ao' m c') ∧ OwnEs w.heap.size w' ao' c' ((es.drop q).take m) ∧ Kept Nil w w' := by
  have hlen : ((es.drop q).take m).length = m := by rw [List.length_take, List.length_drop]; omega
  have H := cloneE_any B (c - q) (ao.map (fun x => x.add (q * 4))) ((es.drop q).take m) w ((h.sub q).take m) (fun e => by
    cases ao with
    | some a => cases e
    | none => obtain ⟨rfl, rfl⟩ := hn rfl; exact ⟨by simp, Nat.zero_sub _⟩) (by rw [hlen]; omega)
  rw [hlen] at H
  exact H

set_option maxRecDepth 100000 in
set_option maxHeartbeats 2000000 in
theorem slice_any (B c : Nat) (base bt fr most : Int) (ao : Option Addr) (es : List En) (w : World) (h : EntRow B w ao es) (hn : ao = none → es = [] ∧ c = 0) (hb : 0 ≤ base ∧ base ≤ 1099511627775) (hl : (es.length : Int) ≤ 1099511627776) (hc : es.length ≤ c) (hi : -4611686018427387904 ≤ fr ∧ fr ≤ 4611686018427387904) :
    Calls Try.prog 75 #[.agg #[.int .i64 base, .int .i64 bt, .slice ao es.length c], .int .i64 fr, .int .i64 most] w fun e w' => ∃ ao' c', e = .returned (.tuple #[.slice ao' (slL base es fr most).length c', .int .i64 (slE base es.length fr most)]) ∧ OwnEs w.heap.size w' ao' c' (slL base es fr most) ∧ Kept Nil w w' := by
  have HR : Hid (EntRow B w ao es) := h
  have L := fun w' (hk : Kept Nil w w') => last_any B c base bt ao es w' (HR.out.nil hk) hb (by omega)
  have HBN : Hid (_) := blk_new w (.cells #[.int .i64 base, .int .i64 bt, .slice ao es.length c] 108)
  obtain ⟨hb0, hb1⟩ := hb
  obtain ⟨hi0, hi1⟩ := hi
  clear h
  by_cases h1 : fr ≤ base
  · have e1 : slE base es.length fr most = 11 := if_pos h1
    have e2 : slL base es fr most = [] := if_neg (by rw [e1]; decide)
    rw [e1, e2]
    go_enter Try.func75, Try.ntmps75
    go_wp2
    go_ret2
    exact ⟨none, 0, rfl, World.ownsRow_nil _ _ _ _, (Kept.refl _ _).alloc _⟩
  · by_cases h2 : base + es.length + 1 < fr ∨ most < 0
    · have e1 : slE base es.length fr most = 12 := (if_neg h1).trans (if_pos h2)
      have e2 : slL base es fr most = [] := if_neg (by rw [e1]; decide)
      rw [e1, e2]
      clear e1 e2
      by_cases h3 : base + (es.length : Int) < fr - 1
      · clear h2
        go_enter Try.func75, Try.ntmps75
        go_wp2_with fail
        refine (L _ ((Kept.refl _ _).alloc _)).mono ?_
        rintro e w1 ⟨rfl, k1⟩
        have KK : Hid (Kept Nil w w1) := ((Kept.refl _ _).alloc _).trans k1
        clear k1
        go_wp2
        go_ret2
        exact ⟨none, 0, rfl, World.ownsRow_nil _ _ _ _, KK.out⟩
      · have h4 : most < 0 := by omega
        clear h2
        go_enter Try.func75, Try.ntmps75
        go_wp2_with fail
        refine (L _ ((Kept.refl _ _).alloc _)).mono ?_
        rintro e w1 ⟨rfl, k1⟩
        have KK : Hid (Kept Nil w w1) := ((Kept.refl _ _).alloc _).trans k1
        clear k1
        go_wp2
        go_ret2
        exact ⟨none, 0, rfl, World.ownsRow_nil _ _ _ _, KK.out⟩
    · have e1 : slE base es.length fr most = 0 := (if_neg h1).trans (if_neg h2)
      obtain ⟨q, rfl⟩ : ∃ q : Nat, fr = base + q + 1 := ⟨(fr - 1 - base).toNat, by omega⟩
      obtain ⟨mo, rfl⟩ : ∃ mo : Nat, most = mo := ⟨most.toNat, by omega⟩
      have hq : q ≤ es.length := by omega
      have e2 : slL base es (base + q + 1) mo = (es.drop q).take mo := by
        unfold slL
        rw [if_pos e1, show (base + (q : Int) + 1 - 1 - base).toNat = q by omega, Int.toNat_natCast]
      rw [e1, e2]
      have hsub1 : base + (q : Int) + 1 - 1 = base + q := by omega
      have hsub : base + (q : Int) - base = (q : Int) := by omega
      have h3 : ¬ base + (es.length : Int) < base + (q : Int) := by omega
      clear e1 e2 h2
      go_enter Try.func75, Try.ntmps75
      go_wp2_with fail
      refine (L _ ((Kept.refl _ _).alloc _)).mono ?_
      rintro e w1 ⟨rfl, k1⟩
      have KK : Hid (Kept Nil w w1) := ((Kept.refl _ _).alloc _).trans k1
      have B1 := k1.block _ _ HBN.out (fun x => x.elim)
      obtain ⟨x0, x1, x2⟩ := lookB B1
      clear k1 B1
      by_cases hcq : q < c
      · by_cases hm : es.length - q < mo
        · have HT : Hid ((es.drop q).take mo = (es.drop q).take (es.length - q)) := by
            show _ = _
            rw [List.take_of_length_le (by rw [List.length_drop]; omega), List.take_of_length_le (by rw [List.length_drop]; omega)]
          go_wp2_with fail
          refine (cloneMid q (es.length - q) (HR.out.nil KK.out) hn hl (Nat.le_refl _)).mono ?_
          rintro e w2 ⟨ao', c', rfl, o2, k2⟩
          go_wp2
          go_ret2
          rw [HT.out]
          exact ⟨ao', c', by rw [List.length_take, List.length_drop, Nat.min_self]; rfl, own_mono o2 KK.out.size, KK.out.trans k2⟩
        · go_wp2_with fail
          refine (cloneMid q mo (HR.out.nil KK.out) hn hl (by omega)).mono ?_
          rintro e w2 ⟨ao', c', rfl, o2, k2⟩
          go_wp2
          go_ret2
          exact ⟨ao', c', by rw [List.length_take, List.length_drop, Nat.min_eq_left (by omega)]; rfl, own_mono o2 KK.out.size, KK.out.trans k2⟩
      · obtain rfl : c = q := by omega
        have HD : Hid ((es.drop c).take mo = []) := by show _ = _; rw [show es.drop c = [] from List.drop_eq_nil_of_le (by omega)]; simp
        rcases Nat.eq_zero_or_pos mo with rfl | hm
        all_goals
          go_wp2_with fail
          refine (cloneEnd ao _).mono ?_
          rintro e w2 ⟨ao', c', rfl, o2, k2⟩
          go_wp2
          go_ret2
          rw [HD.out]
          exact ⟨ao', c', rfl, own_mono o2 KK.out.size, KK.out.trans k2⟩

end Go.Proofs.Ytcbeonhohbgnmaa
