/-
  May a log be? The document's IsLog.
-/
import Derived.Test.YtcbeonhohbgnmaaWLog4
namespace Go.Proofs.Ytcbeonhohbgnmaa
open Go.RowKit

theorem logOk_no {base bt : Int} {es : List En} (h : ¬ (0 ≤ base ∧ base ≤ 1099511627775 ∧ 0 ≤ bt ∧ bt ≤ 1099511627775)) : logOk base bt es = false := by
  have : (isNum base && isNum bt) = false := by
    rw [Bool.eq_false_iff]
    intro e
    simp only [isNum, Bool.and_eq_true, decide_eq_true_eq] at e
    omega
  unfold logOk
  rw [this]
  rfl
theorem logOk_yes {base bt : Int} {es : List En} (h : 0 ≤ base ∧ base ≤ 1099511627775 ∧ 0 ≤ bt ∧ bt ≤ 1099511627775) : logOk base bt es = ((decide (base = 0) == decide (bt = 0)) && entsOk (base + 1) bt es) := by
  have : (isNum base && isNum bt) = true := by
    simp only [isNum, Bool.and_eq_true, decide_eq_true_eq]
    omega
  unfold logOk
  rw [this]
  rfl

set_option maxRecDepth 100000 in
set_option maxHeartbeats 8000000 in
theorem refIsLog_any (B c : Nat) (base bt : Int) (ao : Option Addr) (es : List En) (w : World) (h : EntRow B w ao es) (hl : (es.length : Int) ≤ 281474976710656) :
    Calls Try.prog 67 #[.agg #[.int .i64 base, .int .i64 bt, .slice ao es.length c]] w fun e w' => e = .returned (.bool (logOk base bt es)) ∧ Kept Nil w w' := by
  have HR : Hid (EntRow B w ao es) := h
  have HBN : Hid (_) := blk_new w (.cells #[.int .i64 base, .int .i64 bt, .slice ao es.length c] 108)
  clear h
  by_cases hr : 0 ≤ base ∧ base ≤ 1099511627775 ∧ 0 ≤ bt ∧ bt ≤ 1099511627775
  · have hL := @logOk_yes base bt es hr
    obtain ⟨hb0, hb1, hb2, hb3⟩ := hr
    cases hz : (decide (base = 0) == decide (bt = 0)) with
    | false =>
      have HL : Hid (logOk base bt es = false) := by rw [hL, hz]; rfl
      clear hL
      by_cases h0 : base = 0
      · have h1 : ¬ bt = 0 := fun e => by rw [decide_eq_true h0, decide_eq_true e] at hz; cases hz
        have h0' : (base == 0) = true := by simpa using h0
        have h1' : (bt == 0) = false := by simpa using h1
        clear hz h0 h1
        go_enter Try.func67, Try.ntmps67
        go_wp2
        go_ret
        exact ⟨ret_bool HL.out.symm, (Kept.refl _ _).alloc _⟩
      · have h1 : bt = 0 := Decidable.byContradiction fun e => by rw [decide_eq_false h0, decide_eq_false e] at hz; cases hz
        have h0' : (base == 0) = false := by simpa using h0
        have h1' : (bt == 0) = true := by simpa using h1
        clear hz h0 h1
        go_enter Try.func67, Try.ntmps67
        go_wp2
        go_ret
        exact ⟨ret_bool HL.out.symm, (Kept.refl _ _).alloc _⟩
    | true =>
      have HL : Hid (logOk base bt es = entsOk (base + 1) bt es) := by rw [hL, hz]; rfl
      clear hL
      obtain ⟨z, h0', h1'⟩ : ∃ z, (base == 0) = z ∧ (bt == 0) = z := by
        refine ⟨_, rfl, ?_⟩
        have := eq_of_beq hz
        by_cases h0 : base = 0 <;> by_cases h1 : bt = 0
        · simp [h0, h1]
        · simp [h0, h1] at this
        · simp [h0, h1] at this
        · rw [beq_eq_false_iff_ne.2 h0, beq_eq_false_iff_ne.2 h1]
      clear hz
      go_enter Try.func67, Try.ntmps67
      go_wp2
      go_loopw [3] (fun i wr => ∃ k : Nat, k ≤ es.length ∧ i = .int .i64 k ∧ Hid (entsOk (base + 1) bt es = entsOk (base + 1 + k) (tmAt bt es k) (es.drop k)) ∧ Hid (Kept Nil w wr) ∧ Hid (wr.heap[w.heap.size]? = some (.cells #[.int .i64 base, .int .i64 bt, .slice ao es.length c] 108 (0, 0)))) (fun i _ => es.length - (intOf i).toNat)
      case atStart => exact ⟨0, by omega, rfl, entsOk_start _ _ _, (Kept.refl _ _).alloc _, HBN.out⟩
      case round =>
        obtain ⟨k, hk, rfl, HE, HK, HB⟩ := hrel
        clear HBN
        have x2 := blk_at HB.out 2 rfl
        by_cases hlt : k < es.length
        · obtain ⟨a, rfl, _, q0, q1, q2, q3, hd⟩ := HR.out.nil HK.out k hlt
          have hki : (k : Int) < es.length := by omega
          have hst := @entsOk_at base bt es k hlt
          have hen : es[k] = ⟨es[k].ix, es[k].tm, es[k].kd, es[k].dt⟩ := rfl
          rw [hen] at hst
          have I := refIsEntry_any es[k].ix es[k].tm es[k].kd es[k].dt wr hd
          have HQ : Hid (∀ w', Kept Nil wr w' → w'.cell? (a.add (k * 4)) = some (.int .i64 es[k].ix) ∧ w'.cell? ⟨(a.add (k * 4)).block, (a.add (k * 4)).off + 1, none⟩ = some (.int .i64 es[k].tm)) := fun w' hk => ⟨cell_kept hk (fun _ x => x) q0, cell_kept hk (fun _ x => x) q1⟩
          obtain ⟨tk, htk⟩ : ∃ tk, tmAt bt es k = tk := ⟨_, rfl⟩
          have HTK : Hid (tmAt bt es k = tk) := htk
          have HLOW : Hid ((k = 0 → tk = bt) ∧ (0 < k → ∀ w', Kept Nil w w' → w'.cell? ⟨(a.add ((k - 1) * 4)).block, (a.add ((k - 1) * 4)).off + 1, none⟩ = some (.int .i64 tk))) := by
            refine ⟨fun e => by subst e; exact htk.symm, fun hp w' hk => ?_⟩
            have hp1 : k - 1 < es.length := by omega
            obtain ⟨a', e, ht⟩ := (HR.out.nil hk).tm hp1
            simp only [Option.some.injEq] at e
            subst e
            rw [← htk, tmAt_pos hp hp1]
            exact ht
          rw [htk] at hst
          clear htk
          generalize es[k].ix = ix at *
          generalize es[k].tm = tm at *
          generalize es[k].kd = kd at *
          generalize es[k].dt = dt at *
          have HST : Hid (entsOk (base + 1 + k) tk (es.drop k) = (En.ok ⟨ix, tm, kd, dt⟩ && decide (ix = base + 1 + k) && decide (tk ≤ tm) && entsOk (base + 1 + (k + 1 : Nat)) (tmAt bt es (k + 1)) (es.drop (k + 1)))) := hst
          clear hst hen hd
          obtain ⟨ok, hok⟩ : ∃ ok, En.ok ⟨ix, tm, kd, dt⟩ = ok := ⟨_, rfl⟩
          rw [hok] at I
          have HOK : Hid (En.ok ⟨ix, tm, kd, dt⟩ = ok) := hok
          clear hok
          go_upto_region 6 with fail
          go_cut [4] from 33 to 82 (fun r wx => r = .bool ok ∧ Hid (Kept Nil wr wx))
          case first =>
            go_wp2_with fail
            refine I.mono ?_
            rintro e w1 ⟨rfl, k1⟩
            go_wp2
            go_meet
            exact ⟨rfl, k1⟩
          case rest =>
            obtain ⟨rfl, K1⟩ := hcut
            rename World => w1
            have hB1 := K1.out.block _ _ HB.out (fun x => x.elim)
            have HB1 : Hid (_) := hB1
            have y0 := blk_at hB1 0 rfl
            have y1 := blk_at hB1 1 rfl
            have y2 := blk_at hB1 2 rfl
            obtain ⟨z0, z1⟩ := HQ.out w1 K1.out
            have KK : Hid (Kept Nil w w1) := HK.out.trans K1.out
            clear hB1 q0 q1 q2 q3 x2 I HK HB K1
            go_upto_if 49 with fail
            go_cut [5] from 33 to 82 (fun r wx => r = .int .i64 tk ∧ wx = w1)
            case first =>
              by_cases h0 : k = 0
              · have e0 := HLOW.out.1 h0
                have hp2 : ¬ (0 : Int) < (k : Int) := by omega
                clear h0
                subst e0
                go_wp2
                go_meet
                exact ⟨rfl, rfl⟩
              · have e0 := HLOW.out.2 (by omega) w1 KK.out
                have hp2 : (0 : Int) < (k : Int) := by omega
                have hjl : (k : Int) - 1 < es.length := by omega
                have hjk : (k : Int) - 1 = ((k - 1 : Nat) : Int) := by omega
                have hj2 : ((k - 1 : Nat) : Int) < es.length := by omega
                generalize k - 1 = j at *
                go_wp2
                go_meet
                exact ⟨rfl, rfl⟩
            case rest =>
              obtain ⟨rfl, rfl⟩ := hcut
              cases ok with
              | false =>
                have HF : Hid (logOk base bt es = false) := by rw [HL.out, HE.out, HTK.out, HST.out, HOK.out]; rfl
                go_wp2
                go_quiet (fail)
                go_wp2
                go_ret
                exact ⟨ret_bool HF.out.symm, KK.out.drewN _⟩
              | true =>
                have hw1 : wrap64 (base + 1) = base + 1 := by rw [wrap64]; omega
                have hw2 : wrap64 (base + 1 + (k : Int)) = base + 1 + k := by rw [wrap64]; omega
                have hw3 : IntKind.i64.wrap (base + 1) = base + 1 := by rw [IntKind.wrap_i64]; omega
                have hw4 : IntKind.i64.wrap (base + 1 + (k : Int)) = base + 1 + k := by rw [IntKind.wrap_i64]; omega
                by_cases hix : ix = base + 1 + k
                · have hix' : (ix != base + 1 + (k : Int)) = false := by rw [bne_eq_false_iff_eq]; exact hix
                  by_cases htm : tk ≤ tm
                  · have htm' : decide (tm < tk) = false := by simpa using htm
                    have HF : Hid (entsOk (base + 1) bt es = entsOk (base + 1 + (k + 1 : Nat)) (tmAt bt es (k + 1)) (es.drop (k + 1))) := by show _ = _; rw [HE.out, HTK.out, HST.out, HOK.out, decide_eq_true hix, decide_eq_true htm]; rfl
                    clear hix
                    go_wp2
                    go_quiet (fail)
                    go_wp2
                    go_roundw
                    case rel => exact ⟨k + 1, by omega, by go_num, HF.out, KK.out.drewN _, HB1.out⟩
                    case measure => simp [intOf]; omega
                  · have htm' : decide (tm < tk) = true := by simp; omega
                    have HF : Hid (logOk base bt es = false) := by rw [HL.out, HE.out, HTK.out, HST.out, HOK.out, decide_eq_true hix, decide_eq_false htm]; rfl
                    clear hix
                    go_wp2
                    go_quiet (fail)
                    go_wp2
                    go_ret
                    exact ⟨ret_bool HF.out.symm, KK.out.drewN _⟩
                · have hix' : (ix != base + 1 + (k : Int)) = true := by rw [bne_iff_ne]; exact hix
                  have HF : Hid (logOk base bt es = false) := by rw [HL.out, HE.out, HTK.out, HST.out, HOK.out, decide_eq_false hix]; rfl
                  clear hix
                  go_wp2
                  go_quiet (fail)
                  go_wp2
                  go_ret
                  exact ⟨ret_bool HF.out.symm, KK.out.drewN _⟩
        · have HF : Hid (logOk base bt es = true) := by rw [HL.out, HE.out]; exact entsOk_end hlt
          go_wp2
          go_ret
          exact ⟨ret_bool HF.out.symm, HK.out⟩
  · have HL : Hid (logOk base bt es = false) := logOk_no hr
    by_cases h1 : 0 ≤ base
    · by_cases h2 : base ≤ 1099511627775
      · by_cases h3 : 0 ≤ bt
        · have h4 : ¬ bt ≤ 1099511627775 := fun h4 => hr ⟨h1, h2, h3, h4⟩
          clear hr
          go_enter Try.func67, Try.ntmps67
          go_wp2
          go_ret
          exact ⟨ret_bool HL.out.symm, (Kept.refl _ _).alloc _⟩
        · clear hr
          go_enter Try.func67, Try.ntmps67
          go_wp2
          go_ret
          exact ⟨ret_bool HL.out.symm, (Kept.refl _ _).alloc _⟩
      · clear hr
        go_enter Try.func67, Try.ntmps67
        go_wp2
        go_ret
        exact ⟨ret_bool HL.out.symm, (Kept.refl _ _).alloc _⟩
    · clear hr
      go_enter Try.func67, Try.ntmps67
      go_wp2
      go_ret
      exact ⟨ret_bool HL.out.symm, (Kept.refl _ _).alloc _⟩

end Go.Proofs.Ytcbeonhohbgnmaa
