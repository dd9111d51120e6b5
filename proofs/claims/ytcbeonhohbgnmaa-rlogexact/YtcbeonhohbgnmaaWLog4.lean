/-
  May a log be? The program's Valid.
-/
import Derived.Test.YtcbeonhohbgnmaaWLog1
namespace Go.Proofs.Ytcbeonhohbgnmaa
open Go.RowKit

/-! ### may a log be? -/
def entsOk : Int → Int → List En → Bool
  | _, _, [] => true
  | ix, tm, e :: t => e.ok && decide (e.ix = ix) && decide (tm ≤ e.tm) && entsOk (ix + 1) e.tm t
def logOk (base bt : Int) (es : List En) : Bool := isNum base && isNum bt && (decide (base = 0) == decide (bt = 0)) && entsOk (base + 1) bt es
theorem entsOk_at {base bt : Int} {es : List En} {k : Nat} (h : k < es.length) : entsOk (base + 1 + k) (tmAt bt es k) (es.drop k) = (es[k].ok && decide (es[k].ix = base + 1 + k) && decide (tmAt bt es k ≤ es[k].tm) && entsOk (base + 1 + (k + 1 : Nat)) (tmAt bt es (k + 1)) (es.drop (k + 1))) := by
  rw [List.drop_eq_getElem_cons h, entsOk, tmAt_pos (show 0 < k + 1 by omega) (show k + 1 - 1 < es.length by omega)]
  simp only [Nat.add_sub_cancel]
  rw [show base + 1 + (k : Int) + 1 = base + 1 + ((k + 1 : Nat) : Int) by omega]
theorem entsOk_end {base bt : Int} {es : List En} {k : Nat} (h : ¬ k < es.length) : entsOk (base + 1 + k) (tmAt bt es k) (es.drop k) = true := by
  rw [List.drop_eq_nil_of_le (by omega)]; rfl
theorem entsOk_start (base bt : Int) (es : List En) : entsOk (base + 1) bt es = entsOk (base + 1 + (0 : Nat)) (tmAt bt es 0) (es.drop 0) := by
  rw [tmAt_zero, List.drop_zero, show base + 1 + ((0 : Nat) : Int) = base + 1 by omega]

set_option maxRecDepth 100000 in
set_option maxHeartbeats 4000000 in
theorem valid_log (B c : Nat) (base bt : Int) (ao : Option Addr) (es : List En) (w : World) (h : EntRow B w ao es) (hl : (es.length : Int) ≤ 281474976710656) :
    Calls Try.prog 66 #[.agg #[.int .i64 base, .int .i64 bt, .slice ao es.length c]] w fun e w' => e = .returned (.bool (logOk base bt es)) ∧ Kept Nil w w' := by
  have HR : Hid (EntRow B w ao es) := h
  have HN := areNumbers_any (w.heap.size + 1) 2 [base, bt] _ (ints2 w (.cells #[.int .i64 base, .int .i64 bt, .slice ao es.length c] 108) base bt) (by simp)
  have ef : fromTo 0 [base, bt] = (isNum base && isNum bt) := by simp [fromTo, isNum]
  rw [ef] at HN
  simp only [List.length_cons, List.length_nil] at HN
  have HBN : Hid (_) := blk_past (blk_new w (.cells #[.int .i64 base, .int .i64 bt, .slice ao es.length c] 108)) (.cells #[.int .i64 base, .int .i64 bt] 3)
  have x0 := blk_at HBN.out 0 rfl
  have x1 := blk_at HBN.out 1 rfl
  have x2 := blk_at HBN.out 2 rfl
  clear h ef
  have hL : logOk base bt es = ((isNum base && isNum bt) && (decide (base = 0) == decide (bt = 0)) && entsOk (base + 1) bt es) := rfl
  cases hn : (isNum base && isNum bt) with
  | false =>
    rw [hn] at HN
    have HL : Hid (logOk base bt es = false) := by rw [hL, hn]; rfl
    clear hL hn
    go_enter Try.func66, Try.ntmps66
    go_wp2_with (go_at_call 107; go_must (refine HN.mono ?_); rintro e w1 ⟨rfl, rfl⟩)
    go_ret
    exact ⟨ret_bool HL.out.symm, ((Kept.refl _ _).alloc _).alloc _⟩
  | true =>
    rw [hn] at HN
    have hb : 0 ≤ base ∧ base ≤ 1099511627775 := by
      simp only [isNum, Bool.and_eq_true, decide_eq_true_eq] at hn
      exact hn.1
    obtain ⟨hb0, hb1⟩ := hb
    cases hz : (decide (base = 0) == decide (bt = 0)) with
    | false =>
      have HL : Hid (logOk base bt es = false) := by rw [hL, hn, hz]; rfl
      clear hL hn
      by_cases h0 : base = 0
      · have h1 : ¬ bt = 0 := fun e => by rw [decide_eq_true h0, decide_eq_true e] at hz; cases hz
        have h0' : (base == 0) = true := by simpa using h0
        have h1' : (bt == 0) = false := by simpa using h1
        clear hz h0 h1
        go_enter Try.func66, Try.ntmps66
        go_wp2_with (go_at_call 107; go_must (refine HN.mono ?_); rintro e w1 ⟨rfl, rfl⟩)
        go_ret
        exact ⟨ret_bool HL.out.symm, ((Kept.refl _ _).alloc _).alloc _⟩
      · have h1 : bt = 0 := Decidable.byContradiction fun e => by rw [decide_eq_false h0, decide_eq_false e] at hz; cases hz
        have h0' : (base == 0) = false := by simpa using h0
        have h1' : (bt == 0) = true := by simpa using h1
        clear hz h0 h1
        go_enter Try.func66, Try.ntmps66
        go_wp2_with (go_at_call 107; go_must (refine HN.mono ?_); rintro e w1 ⟨rfl, rfl⟩)
        go_ret
        exact ⟨ret_bool HL.out.symm, ((Kept.refl _ _).alloc _).alloc _⟩
    | true =>
      have HL : Hid (logOk base bt es = entsOk (base + 1) bt es) := by rw [hL, hn, hz]; rfl
      clear hL hn
      obtain ⟨z, h0', h1'⟩ : ∃ z, (base == 0) = z ∧ (bt == 0) = z := by
        refine ⟨_, rfl, ?_⟩
        have := eq_of_beq hz
        by_cases h0 : base = 0 <;> by_cases h1 : bt = 0
        · simp [h0, h1]
        · simp [h0, h1] at this
        · simp [h0, h1] at this
        · rw [beq_eq_false_iff_ne.2 h0, beq_eq_false_iff_ne.2 h1]
      clear hz
      go_enter Try.func66, Try.ntmps66
      go_wp2_with (go_at_call 107; go_must (refine HN.mono ?_); rintro e w1 ⟨rfl, rfl⟩)
      clear x0 x1 x2 HN
      go_loopw [3, 27] (fun t i wr => ∃ k : Nat, ∃ tk : Int, k ≤ es.length ∧ i = .int .i64 k ∧ t = .int .i64 tk ∧ Hid (tk = tmAt bt es k) ∧ Hid (entsOk (base + 1) bt es = entsOk (base + 1 + k) (tmAt bt es k) (es.drop k)) ∧ Hid (Kept Nil w wr) ∧ Hid (wr.heap[w.heap.size]? = some (.cells #[.int .i64 base, .int .i64 bt, .slice ao es.length c] 108 (0, 0)))) (fun _ i _ => es.length - (intOf i).toNat)
      case atStart => exact ⟨0, bt, by omega, rfl, rfl, rfl, entsOk_start _ _ _, ((Kept.refl _ _).alloc _).alloc _, HBN.out⟩
      case round =>
        obtain ⟨k, tk, hk, rfl, rfl, HTK, HE, HK, HB⟩ := hrel
        clear HBN
        by_cases hlt : k < es.length
        · obtain ⟨a, rfl, _, q0, q1, q2, q3, hd⟩ := HR.out.nil HK.out k hlt
          have hki : (k : Int) < es.length := by omega
          have hst := @entsOk_at base bt es k hlt
          rw [← HTK.out] at hst
          have HN1 : Hid (tmAt bt es (k + 1) = es[k].tm) := by show _ = _; rw [tmAt_pos (by omega) (show k + 1 - 1 < es.length by omega)]; rfl
          have hen : es[k] = ⟨es[k].ix, es[k].tm, es[k].kd, es[k].dt⟩ := rfl
          rw [hen] at hst
          generalize es[k].ix = ix at *
          generalize es[k].tm = tm at *
          generalize es[k].kd = kd at *
          generalize es[k].dt = dt at *
          have I := isEntry_any ix tm kd dt (wr.alloc (.cells #[.int .i64 ix, .int .i64 tm, .int .i64 kd, .string (bs dt)] 48)) hd
          have HBa : Hid (_) := blk_past HB.out (.cells #[.int .i64 ix, .int .i64 tm, .int .i64 kd, .string (bs dt)] 48)
          have HEa : Hid (_) := blk_new wr (.cells #[.int .i64 ix, .int .i64 tm, .int .i64 kd, .string (bs dt)] 48)
          have HST : Hid (entsOk (base + 1 + k) tk (es.drop k) = (En.ok ⟨ix, tm, kd, dt⟩ && decide (ix = base + 1 + k) && decide (tk ≤ tm) && entsOk (base + 1 + (k + 1 : Nat)) (tmAt bt es (k + 1)) (es.drop (k + 1)))) := hst
          clear hst hen hd
          cases hok : En.ok ⟨ix, tm, kd, dt⟩ with
          | false =>
            rw [hok] at I
            have HF : Hid (logOk base bt (es) = false) := by rw [HL.out, HE.out, ← HTK.out, HST.out, hok]; rfl
            clear hok
            go_wp2_with fail
            refine I.mono ?_
            rintro e w1 ⟨rfl, k1⟩
            go_wp2
            go_ret
            exact ⟨ret_bool HF.out.symm, (HK.out.alloc _).trans k1⟩
          | true =>
            rw [hok] at I
            by_cases hix : ix = base + 1 + k
            · have hix' : (ix != base + 1 + (k : Int)) = false := by rw [bne_eq_false_iff_eq]; exact hix
              by_cases htm : tk ≤ tm
              · have HF : Hid (entsOk (base + 1) bt es = entsOk (base + 1 + (k + 1 : Nat)) (tmAt bt es (k + 1)) (es.drop (k + 1))) := by show _ = _; rw [HE.out, ← HTK.out, HST.out, hok, decide_eq_true hix, decide_eq_true htm]; rfl
                clear hok hix
                go_wp2_with fail
                refine I.mono ?_
                rintro e w1 ⟨rfl, k1⟩
                have B1 : Hid (_) := k1.block _ _ HBa.out (fun x => x.elim)
                have E1 := k1.block _ _ HEa.out (fun x => x.elim)
                have y0 := blk_at B1.out 0 rfl
                have z0 := blk_at E1 0 rfl
                have z1 := blk_at E1 1 rfl
                have KK : Hid (Kept Nil w w1) := (HK.out.alloc _).trans k1
                clear k1 E1
                go_wp2
                go_roundw
                case rel => exact ⟨k + 1, tm, by omega, by go_num, rfl, HN1.out.symm, HF.out, KK.out, B1.out⟩
                case measure => simp [intOf]; omega
              · have HF : Hid (logOk base bt (es) = false) := by rw [HL.out, HE.out, ← HTK.out, HST.out, hok, decide_eq_true hix, decide_eq_false htm]; rfl
                clear hok hix
                go_wp2_with fail
                refine I.mono ?_
                rintro e w1 ⟨rfl, k1⟩
                have y0 := blk_at (k1.block _ _ HBa.out (fun x => x.elim)) 0 rfl
                have E1 := k1.block _ _ HEa.out (fun x => x.elim)
                have z0 := blk_at E1 0 rfl
                have z1 := blk_at E1 1 rfl
                have KK : Hid (Kept Nil w w1) := (HK.out.alloc _).trans k1
                clear k1 E1
                go_wp2
                go_ret
                exact ⟨ret_bool HF.out.symm, KK.out⟩
            · have hix' : (ix != base + 1 + (k : Int)) = true := by rw [bne_iff_ne]; exact hix
              have HF : Hid (logOk base bt (es) = false) := by rw [HL.out, HE.out, ← HTK.out, HST.out, hok, decide_eq_false hix]; rfl
              clear hok hix
              go_wp2_with fail
              refine I.mono ?_
              rintro e w1 ⟨rfl, k1⟩
              have y0 := blk_at (k1.block _ _ HBa.out (fun x => x.elim)) 0 rfl
              have E1 := k1.block _ _ HEa.out (fun x => x.elim)
              have z0 := blk_at E1 0 rfl
              have z1 := blk_at E1 1 rfl
              have KK : Hid (Kept Nil w w1) := (HK.out.alloc _).trans k1
              clear k1 E1
              go_wp2
              go_ret
              exact ⟨ret_bool HF.out.symm, KK.out⟩
        · have HF : Hid (logOk base bt es = true) := by rw [HL.out, HE.out]; exact entsOk_end hlt
          go_wp2
          go_ret
          exact ⟨ret_bool HF.out.symm, HK.out⟩

end Go.Proofs.Ytcbeonhohbgnmaa
