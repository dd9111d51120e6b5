/-
  The document's end, TermAt, Last and Fresh of a log; may a log be? (the program's Valid, the document's IsLog).
-/
import Derived.Test.YtcbeonhohbgnmaaWLog2
namespace Go.Proofs.Ytcbeonhohbgnmaa
open Go.RowKit

set_option maxRecDepth 100000 in
theorem refEndL_any (c : Nat) (base bt : Int) (ao : Option Addr) (n : Nat) (w : World) (hb : 0 ≤ base ∧ base ≤ 1099511627775) (hl : (n : Int) ≤ 281474976710656) :
    Calls Try.prog 164 #[.agg #[.int .i64 base, .int .i64 bt, .slice ao n c]] w fun e w' => e = .returned (.int .i64 (base + n)) ∧ Kept Nil w w' := by
  obtain ⟨hb0, hb1⟩ := hb
  go_enter Try.func164, Try.ntmps164
  go_wp2
  go_ret
  exact ⟨rfl, (Kept.refl _ _).alloc _⟩

set_option maxRecDepth 100000 in
set_option maxHeartbeats 1000000 in
theorem refTermAt_any (B c : Nat) (base bt i : Int) (ao : Option Addr) (es : List En) (w : World) (h : EntRow B w ao es) (hb : 0 ≤ base ∧ base ≤ 1099511627775) (hl : (es.length : Int) ≤ 281474976710656) (hi : -4611686018427387904 ≤ i ∧ i ≤ 4611686018427387904) :
    Calls Try.prog 79 #[.agg #[.int .i64 base, .int .i64 bt, .slice ao es.length c], .int .i64 i] w fun e w' => e = .returned (.tuple #[.int .i64 (tAt base bt es i).1, .int .i64 (tAt base bt es i).2]) ∧ Kept Nil w w' := by
  obtain ⟨hi0, hi1⟩ := hi
  have HR : Hid (EntRow B w ao es) := h
  have L := fun w' => refEndL_any c base bt ao es.length w' hb hl
  have HBN : Hid (_) := blk_new w (.cells #[.int .i64 base, .int .i64 bt, .slice ao es.length c] 108)
  obtain ⟨hb0, hb1⟩ := hb
  clear h
  by_cases h1 : i < base
  · have e1 : tAt base bt es i = (0, 11) := if_pos h1
    rw [e1]
    go_enter Try.func79, Try.ntmps79
    go_wp2
    go_ret2
    exact ⟨rfl, (Kept.refl _ _).alloc _⟩
  · by_cases h3 : i = base
    · subst h3
      have e1 : tAt i bt es i = (bt, 0) := by
        unfold tAt
        rw [if_neg (by omega), if_neg (by omega), show (i - i).toNat = 0 by omega]
        rfl
      rw [e1]
      go_enter Try.func79, Try.ntmps79
      go_wp2
      go_ret2
      exact ⟨rfl, (Kept.refl _ _).alloc _⟩
    · have h3' : (i == base) = false := by simpa using h3
      by_cases h2 : base + es.length < i
      · have e1 : tAt base bt es i = (0, 12) := (if_neg h1).trans (if_pos h2)
        rw [e1]
        clear e1
        go_enter Try.func79, Try.ntmps79
        go_wp2_with fail
        refine (L _).mono ?_
        rintro e w1 ⟨rfl, k1⟩
        have KK : Hid (Kept Nil w w1) := ((Kept.refl _ _).alloc _).trans k1
        clear k1
        go_wp2
        go_ret2
        exact ⟨rfl, KK.out⟩
      · obtain ⟨q, rfl⟩ : ∃ q : Nat, i = base + 1 + q := ⟨(i - base - 1).toNat, by omega⟩
        have hq : q < es.length := by omega
        have e1 : tAt base bt es (base + 1 + q) = (es[q].tm, 0) := by
          refine ((if_neg h1).trans (if_neg h2)).trans ?_
          rw [show (base + 1 + (q : Int) - base).toNat = q + 1 by omega, tmAt_pos (by omega) (show q + 1 - 1 < es.length by omega)]
          rfl
        obtain ⟨t, hte⟩ : ∃ t, es[q].tm = t := ⟨_, rfl⟩
        rw [e1, hte]
        have HTE : Hid (es[q].tm = t) := hte
        have hql : (q : Int) < es.length := by omega
        clear hte
        have hsub : base + 1 + (q : Int) - base = (q : Int) + 1 := by omega
        clear e1
        go_enter Try.func79, Try.ntmps79
        go_wp2_with fail
        refine (L _).mono ?_
        rintro e w1 ⟨rfl, k1⟩
        have KK : Hid (Kept Nil w w1) := ((Kept.refl _ _).alloc _).trans k1
        have B1 := k1.block _ _ HBN.out (fun x => x.elim)
        have c0 := blk_at B1 0 rfl
        have c1 := blk_at B1 1 rfl
        have c2 := blk_at B1 2 rfl
        obtain ⟨a, rfl, ht⟩ := (HR.out.nil KK.out).tm hq
        rw [HTE.out] at ht
        clear k1 B1
        go_wp2
        go_ret2
        exact ⟨rfl, KK.out⟩

theorem tAt_end (base bt : Int) (es : List En) : tAt base bt es (base + es.length) = (tmAt bt es es.length, 0) := by
  unfold tAt
  rw [if_neg (by omega), if_neg (by omega), show (base + (es.length : Int) - base).toNat = es.length by omega]

set_option maxRecDepth 100000 in
set_option maxHeartbeats 2000000 in
theorem refLast_any (B c : Nat) (base bt : Int) (ao : Option Addr) (es : List En) (w : World) (h : EntRow B w ao es) (hb : 0 ≤ base ∧ base ≤ 1099511627775) (hl : (es.length : Int) ≤ 281474976710656) :
    Calls Try.prog 81 #[.agg #[.int .i64 base, .int .i64 bt, .slice ao es.length c]] w fun e w' => e = .returned (.tuple #[.int .i64 (base + es.length), .int .i64 (tmAt bt es es.length)]) ∧ Kept Nil w w' := by
  have HR : Hid (EntRow B w ao es) := h
  have E := fun w' => refEndL_any c base bt ao es.length w' hb hl
  have T := fun w' (hk : Kept Nil w w') => refTermAt_any B c base bt (base + es.length) ao es w' (HR.out.nil hk) hb hl (by omega)
  rw [tAt_end] at T
  simp only at T
  generalize tmAt bt es es.length = t at T ⊢
  have HBN : Hid (_) := blk_new w (.cells #[.int .i64 base, .int .i64 bt, .slice ao es.length c] 108)
  clear h
  go_enter Try.func81, Try.ntmps81
  go_upto_region 1 with fail
  go_cut [4, 5] from 6 (fun a b wx => a = .int .i64 t ∧ b = .int .i64 0 ∧ Hid (Kept Nil w wx) ∧ Hid (wx.heap[w.heap.size]? = some (.cells #[.int .i64 base, .int .i64 bt, .slice ao es.length c] 108 (0, 0))))
  case first =>
    go_region_with (first | (go_at_call 164; go_must (refine (E _).mono ?_); rintro e w1 ⟨rfl, k1⟩; have K1 : Hid (Kept Nil w w1) := (((Kept.refl _ _).alloc _).drew).trans k1; have B1 : Hid (w1.heap[w.heap.size]? = some (.cells #[.int .i64 base, .int .i64 bt, .slice ao es.length c] 108 (0, 0))) := k1.block _ _ HBN.out (fun x => x.elim); have x0 := blk_at B1.out 0 rfl; have x1 := blk_at B1.out 1 rfl; have x2 := blk_at B1.out 2 rfl; clear k1) | (go_at_call 79; go_must (refine (T _ K1.out).mono ?_); rintro e w2 ⟨rfl, k2⟩; have K2 : Hid (Kept Nil w w2) := K1.out.trans k2; have B2 : Hid (w2.heap[w.heap.size]? = some (.cells #[.int .i64 base, .int .i64 bt, .slice ao es.length c] 108 (0, 0))) := k2.block _ _ B1.out (fun x => x.elim); clear k2))
    all_goals
      go_wp2_with fail
      go_meet
      exact ⟨rfl, rfl, K2.out, B2.out⟩
  case rest =>
    obtain ⟨rfl, rfl, K2, B2⟩ := hcut
    have x0 := blk_at B2.out 0 rfl
    have x1 := blk_at B2.out 1 rfl
    have x2 := blk_at B2.out 2 rfl
    go_wp2_with fail
    refine (E _).mono ?_
    rintro e w3 ⟨rfl, k3⟩
    go_wp2
    go_ret2
    exact ⟨rfl, K2.out.trans k3⟩

set_option maxRecDepth 100000 in
set_option maxHeartbeats 1000000 in
theorem refFresh_any (B c : Nat) (base bt index term : Int) (ao : Option Addr) (es : List En) (w : World) (h : EntRow B w ao es) (hb : 0 ≤ base ∧ base ≤ 1099511627775) (hl : (es.length : Int) ≤ 281474976710656) :
    Calls Try.prog 83 #[.agg #[.int .i64 base, .int .i64 bt, .slice ao es.length c], .int .i64 index, .int .i64 term] w fun e w' => e = .returned (.bool (freshB base bt es index term)) ∧ Kept Nil w w' := by
  have L := refLast_any B c base bt ao es _ (h.alloc (.cells #[.int .i64 base, .int .i64 bt, .slice ao es.length c] 108)) hb hl
  have hF : freshB base bt es index term = (decide (tmAt bt es es.length < term) || (decide (term = tmAt bt es es.length) && decide (base + es.length ≤ index))) := rfl
  generalize freshB base bt es index term = z at hF ⊢
  generalize tmAt bt es es.length = lt at L hF
  have HF : Hid (z = (decide (lt < term) || (decide (term = lt) && decide (base + (es.length : Int) ≤ index)))) := hF
  clear hF h hb
  by_cases h1 : lt < term
  · go_enter Try.func83, Try.ntmps83
    go_wp2_with fail
    refine L.mono ?_
    rintro e w1 ⟨rfl, k1⟩
    go_wp2
    go_ret
    exact ⟨ret_bool (by rw [HF.out]; rw [decide_eq_true h1]; rfl), ((Kept.refl _ _).alloc _).trans k1⟩
  · by_cases h2 : term = lt
    · subst h2
      go_enter Try.func83, Try.ntmps83
      go_wp2_with fail
      refine L.mono ?_
      rintro e w1 ⟨rfl, k1⟩
      go_wp2
      all_goals
        go_ret
        exact ⟨ret_bool (by rw [HF.out]; simp), ((Kept.refl _ _).alloc _).trans k1⟩
    · have h2' : (term == lt) = false := by simpa using h2
      go_enter Try.func83, Try.ntmps83
      go_wp2_with fail
      refine L.mono ?_
      rintro e w1 ⟨rfl, k1⟩
      go_wp2
      go_ret
      exact ⟨ret_bool (by rw [HF.out]; simp [h2]), ((Kept.refl _ _).alloc _).trans k1⟩

end Go.Proofs.Ytcbeonhohbgnmaa
