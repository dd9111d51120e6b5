/-
  The document's end, TermAt, Last and Fresh of a log; may a log be? (the program's Valid, the document's IsLog).
-/
import Derived.Test.YtopdgkebbdheiaaWLog2
namespace Go.Proofs.Ytopdgkebbdheiaa
open Go.RowKit

set_option maxRecDepth 100000 in
theorem refEndL_any (c : Nat) (base bt : Int) (ao : Option Addr) (n : Nat) (w : World) (hb : 0 ≤ base ∧ base ≤ 1099511627775) (hl : (n : Int) ≤ 281474976710656) :
    Calls Try.prog 90 #[.agg #[.int .i64 base, .int .i64 bt, .slice ao n c]] w fun e w' => e = .returned (.int .i64 (base + n)) ∧ Kept Nil w w' := by
  obtain ⟨hb0, hb1⟩ := hb
  go_enter Try.func90, Try.ntmps90
  go_wp2
  go_ret
  exact ⟨rfl, (Kept.refl _ _).alloc _⟩

set_option maxRecDepth 100000 in
set_option maxHeartbeats 1000000 in
theorem refTermAt_any (B c : Nat) (base bt i : Int) (ao : Option Addr) (es : List En) (w : World) (h : EntRow B w ao es) (hb : 0 ≤ base ∧ base ≤ 1099511627775) (hl : (es.length : Int) ≤ 281474976710656) (hi : -4611686018427387904 ≤ i ∧ i ≤ 4611686018427387904) :
    Calls Try.prog 91 #[.agg #[.int .i64 base, .int .i64 bt, .slice ao es.length c], .int .i64 i] w fun e w' => e = .returned (.tuple #[.int .i64 (tAt base bt es i).1, .int .i64 (tAt base bt es i).2]) ∧ Kept Nil w w' := by
  obtain ⟨hi0, hi1⟩ := hi
  have HR : Hid (EntRow B w ao es) := h
  have L := fun w' => refEndL_any c base bt ao es.length w' hb hl
  have HBN : Hid (_) := blk_new w (.cells #[.int .i64 base, .int .i64 bt, .slice ao es.length c] 53)
  obtain ⟨hb0, hb1⟩ := hb
  clear h
  by_cases h1 : i < base
  · have e1 : tAt base bt es i = (0, 11) := if_pos h1
    rw [e1]
    go_enter Try.func91, Try.ntmps91
    go_wp2
    go_ret2
    exact ⟨rfl, (Kept.refl _ _).alloc _⟩
  · by_cases h3 : i = base
    · subst h3
      have e1 : tAt i bt es i = (bt, 0) := by
        unfold tAt
        rw [if_neg (by omega), if_neg (by omega), show (i - i).toNat = 0 by omega]
        rfl
      rw [e1]
      go_enter Try.func91, Try.ntmps91
      go_wp2
      go_ret2
      exact ⟨rfl, (Kept.refl _ _).alloc _⟩
    · have h3' : (i == base) = false := by simpa using h3
      by_cases h2 : base + es.length < i
      · have e1 : tAt base bt es i = (0, 12) := (if_neg h1).trans (if_pos h2)
        rw [e1]
        clear e1
        go_enter Try.func91, Try.ntmps91
        go_wp2_with fail
        refine (L _).mono ?_
        rintro e w1 ⟨rfl, k1⟩
        have KK : Hid (Kept Nil w w1) := ((Kept.refl _ _).alloc _).trans k1
        clear k1
        go_wp2
        go_ret2
        exact ⟨rfl, KK.out⟩
      · obtain ⟨q, rfl⟩ : ∃ q : Nat, i = base + 1 + q := ⟨(i - base - 1).toNat, by omega⟩
        have hq : q < es.length := by omega
        have e1 : tAt base bt es (base + 1 + q) = (es[q].tm, 0) := by
          refine ((if_neg h1).trans (if_neg h2)).trans ?_
          rw [show (base + 1 + (q : Int) - base).toNat = q + 1 by omega, tmAt_pos (by omega) (show q + 1 - 1 < es.length by omega)]
          rfl
        obtain ⟨t, hte⟩ : ∃ t, es[q].tm = t := ⟨_, rfl⟩
        rw [e1, hte]
        have HTE : Hid (es[q].tm = t) := hte
        have hql : (q : Int) < es.length := by omega
        clear hte
        have hsub : base + 1 + (q : Int) - base = (q : Int) + 1 := by omega
        clear e1
        go_enter Try.func91, Try.ntmps91
        go_wp2_with fail
        refine (L _).mono ?_
        rintro e w1 ⟨rfl, k1⟩
        have KK : Hid (Kept Nil w w1) := ((Kept.refl _ _).alloc _).trans k1
        have B1 := k1.block _ _ HBN.out (fun x => x.elim)
        have c0 := blk_at B1 0 rfl
        have c1 := blk_at B1 1 rfl
        have c2 := blk_at B1 2 rfl
        obtain ⟨a, rfl, ht⟩ := (HR.out.nil KK.out).tm hq
        rw [HTE.out] at ht
        clear k1 B1
        go_wp2
        go_ret2
        exact ⟨rfl, KK.out⟩

theorem tAt_end (base bt : Int) (es : List En) : tAt base bt es (base + es.length) = (tmAt bt es es.length, 0) := by
  unfold tAt
  rw [if_neg (by omega), if_neg (by omega), show (base + (es.length : Int) - base).toNat = es.length by omega]

end Go.Proofs.Ytopdgkebbdheiaa
