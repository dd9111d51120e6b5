/-
  Results: may they be: by the program and by the document's answer.
-/
import Derived.Test.YtijklginabipgaaWTab1
import Derived.Test.YtijklginabipgaaWTab2
import Derived.Test.YtijklginabipgaaWCmd
namespace Go.Proofs.Ytijklginabipgaa
open Go.RowKit

def rsOk (kd : Int) (val : List UInt8) (ver : Int) (ks : List (List UInt8)) : Bool := (decide (0 ≤ kd) && decide (kd ≤ 8)) && decide (val.length ≤ 64) && isNum ver && keysOk ks

set_option maxRecDepth 100000 in
set_option maxHeartbeats 4000000 in
theorem isResult_any (B c : Nat) (kd ver : Int) (val : List UInt8) (ao : Option Addr) (ks : List (List UInt8)) (w : World) (h : StrRow B w ao ks) (hl : (ks.length : Int) ≤ 9223372036854775807) (hv : val.length ≤ maxLen) :
    Calls Try.prog 160 #[.agg #[.int .i64 kd, .string (bs val), .int .i64 ver, .slice ao ks.length c]] w fun e w' => e = .returned (.bool (rsOk kd val ver ks)) ∧ Kept Nil w w' := by
  have HN := areNumbers_any (w.heap.size + 1) 1 [ver] _ (ints1k w (.cells #[.int .i64 kd, .string (bs val), .int .i64 ver, .slice ao ks.length c] 131) ver _ rfl) (by simp)
  rw [fromTo_one] at HN
  have VA := areKeys_any B c ao ks _ ((h.alloc (.cells #[.int .i64 kd, .string (bs val), .int .i64 ver, .slice ao ks.length c] 131)).alloc (.cells #[.int .i64 ver] 3)) hl
  have hsz := bs_size val
  have hv' : (val.length : Int) ≤ 9223372036854775807 := by unfold maxLen at hv; omega
  have HS : Hid (rsOk kd val ver ks = ((decide (0 ≤ kd) && decide (kd ≤ 8)) && decide (val.length ≤ 64) && isNum ver && keysOk ks)) := rfl
  rw [HS.out]
  generalize isNum ver = b1 at *
  generalize keysOk ks = b2 at *
  clear h hl hv
  by_cases h0 : 0 ≤ kd
  · by_cases h8 : kd ≤ 8
    · by_cases h64 : val.length ≤ 64
      · have h64' : (val.length : Int) ≤ 64 := by omega
        rw [decide_eq_true h0, decide_eq_true h8, decide_eq_true h64]
        clear h64 HS
        cases b1 with
        | false =>
          simp only [Bool.and_false, Bool.false_and]
          go_enter Try.func160, Try.ntmps160
          go_wp2_with fail
          refine HN.mono ?_
          rintro e w1 ⟨rfl, rfl⟩
          go_wp2
          go_ret
          exact ⟨rfl, ((Kept.refl _ _).alloc _).alloc _⟩
        | true =>
          simp only [Bool.true_and]
          go_enter Try.func160, Try.ntmps160
          go_wp2_with fail
          refine HN.mono ?_
          rintro e w1 ⟨rfl, rfl⟩
          go_wp2_with fail
          refine VA.mono ?_
          rintro e w2 ⟨rfl, k2⟩
          go_wp2
          go_ret
          exact ⟨rfl, (((Kept.refl _ _).alloc _).alloc _).trans k2⟩
      · have h64' : ¬ (val.length : Int) ≤ 64 := by omega
        rw [decide_eq_false h64]
        simp only [Bool.and_false, Bool.false_and]
        clear h64 HS HN VA
        go_enter Try.func160, Try.ntmps160
        go_wp2
        go_ret
        exact ⟨rfl, (Kept.refl _ _).alloc _⟩
    · rw [decide_eq_false h8]
      simp only [Bool.and_false, Bool.false_and]
      clear HS HN VA
      go_enter Try.func160, Try.ntmps160
      go_wp2
      go_ret
      exact ⟨rfl, (Kept.refl _ _).alloc _⟩
  · rw [decide_eq_false h0]
    simp only [Bool.false_and]
    clear HS HN VA
    go_enter Try.func160, Try.ntmps160
    go_wp2
    go_ret
    exact ⟨rfl, (Kept.refl _ _).alloc _⟩

set_option maxRecDepth 100000 in
set_option maxHeartbeats 4000000 in
theorem refIsResult_any (B c : Nat) (kd ver : Int) (val : List UInt8) (ao : Option Addr) (ks : List (List UInt8)) (w : World) (h : StrRow B w ao ks) (hl : (ks.length : Int) ≤ 9223372036854775807) (hv : val.length ≤ maxLen) :
    Calls Try.prog 155 #[.agg #[.int .i64 kd, .string (bs val), .int .i64 ver, .slice ao ks.length c]] w fun e w' => e = .returned (.bool (rsOk kd val ver ks)) ∧ Kept Nil w w' := by
  have HR : Hid (StrRow B w ao ks) := h
  have ht := bs_toList
  have hsz := bs_size
  have hv' : (val.length : Int) ≤ 9223372036854775807 := by unfold maxLen at hv; omega
  have HS : Hid (rsOk kd val ver ks = ((decide (0 ≤ kd) && decide (kd ≤ 8)) && decide (val.length ≤ 64) && isNum ver && (decide (ks.length ≤ 32) && kRise none ks))) := rfl
  rw [HS.out]
  have HB0 : Hid ((w.alloc (.cells #[.int .i64 kd, .string (bs val), .int .i64 ver, .slice ao ks.length c] 131)).heap[w.heap.size]? = some (.cells #[.int .i64 kd, .string (bs val), .int .i64 ver, .slice ao ks.length c] 131)) := blk_new w _
  clear h hv HS
  go_enter Try.func155, Try.ntmps155
  go_wp2
  go_loopw [3] (fun i wr => ∃ k : Nat, k ≤ ks.length ∧ i = .int .i64 k ∧ Hid (kRise none ks = kRise (kpv ks k) (ks.drop k)) ∧ Hid (Kept Nil w wr) ∧ Hid (wr.heap[w.heap.size]? = some (.cells #[.int .i64 kd, .string (bs val), .int .i64 ver, .slice ao ks.length c] 131))) (fun i _ => ks.length - (intOf i).toNat)
  case atStart => exact ⟨0, Nat.zero_le _, rfl, rfl, (Kept.refl _ _).alloc _, HB0.out⟩
  case round =>
    obtain ⟨k, hk, rfl, HI, HK, HB⟩ := hrel
    clear HB0
    have q0 := blk_at HB.out 0 rfl
    have q1 := blk_at HB.out 1 rfl
    have q2 := blk_at HB.out 2 rfl
    have q3 := blk_at HB.out 3 rfl
    by_cases hlt : k < ks.length
    · obtain ⟨a, rfl, _, hcell, hmax⟩ := (HR.out.nil HK.out) k hlt
      have HA : Hid (kRise none ks = (decide (ks[k].length ≤ 16) && (match kpv ks k with | none => true | some q => lessB q ks[k]) && kRise (kpv ks (k + 1)) (ks.drop (k + 1)))) := HI.out.trans (kRise_at hlt)
      have hmax' : (ks[k].length : Int) ≤ 9223372036854775807 := by unfold maxLen at hmax; omega
      have hki : (k : Int) < ks.length := by omega
      clear hmax HI
      by_cases h16 : ks[k].length ≤ 16
      · by_cases k0 : k = 0
        · have b5 : decide (0 < k) = false := decide_eq_false (by omega)
          have hpv : kpv ks k = none := by simp [kpv, k0]
          have HF : Hid (kRise none ks = kRise (kpv ks (k + 1)) (ks.drop (k + 1))) := by show kRise none ks = _; rw [HA.out, hpv, decide_eq_true h16]; rfl
          generalize ks[k] = x at *
          have b1 : decide (16 < (x.length : Int)) = false := decide_eq_false (by omega)
          clear HA h16 k0 hpv
          go_wp2
          go_quiet (fail)
          go_wp2
          go_roundw
          case rel => exact ⟨k + 1, by omega, by go_num, HF, HK.out.drewN _, HB.out⟩
          case measure => simp [intOf]; omega
        · obtain ⟨a', ha', _, hprev, _⟩ := (HR.out.nil HK.out) (k - 1) (by omega)
          simp only [Option.some.injEq] at ha'
          subst ha'
          have hpv : kpv ks k = some ks[k - 1] := by simp [kpv, k0, show k - 1 < ks.length by omega]
          rw [hpv] at HA
          simp only at HA
          have hkp : (0 : Int) < (k : Int) := by omega
          have b5 : decide (0 < k) = true := decide_eq_true (by omega)
          have hprev2 : wr.cell? (a.add ((k : Int) - 1).toNat) = some (.string (bs ks[k - 1])) := by rw [show ((k : Int) - 1).toNat = k - 1 by omega]; exact hprev
          cases hls : lessB ks[k - 1] ks[k] with
          | true =>
            have HF : Hid (kRise none ks = kRise (kpv ks (k + 1)) (ks.drop (k + 1))) := by show kRise none ks = _; rw [HA.out, hls, decide_eq_true h16]; rfl
            have hls' : Op.bytesLess ks[k - 1] ks[k] = true := hls
            generalize ks[k] = x at *
            generalize ks[k - 1] = y at *
            have b1 : decide (16 < (x.length : Int)) = false := decide_eq_false (by omega)
            clear HA h16 k0 hpv hls
            go_wp2
            go_quiet (fail)
            go_wp2
            go_roundw
            case rel => exact ⟨k + 1, by omega, by go_num, HF, HK.out.drewN _, HB.out⟩
            case measure => simp [intOf]; omega
          | false =>
            have HF : Hid (kRise none ks = false) := by show kRise none ks = _; rw [HA.out, hls]; simp
            have hls' : Op.bytesLess ks[k - 1] ks[k] = false := hls
            generalize ks[k] = x at *
            generalize ks[k - 1] = y at *
            have b1 : decide (16 < (x.length : Int)) = false := decide_eq_false (by omega)
            clear HA h16 k0 hpv hls
            go_wp2
            go_quiet (fail)
            go_wp2
            go_ret
            rw [HF.out, Bool.and_false, Bool.and_false]
            exact ⟨rfl, HK.out.drewN _⟩
      · have HF : Hid (kRise none ks = false) := by show kRise none ks = _; rw [HA.out, decide_eq_false h16]; rfl
        generalize ks[k] = x at *
        have b1 : decide (16 < (x.length : Int)) = true := decide_eq_true (by omega)
        clear HA h16
        go_wp2
        go_quiet (fail)
        go_wp2
        go_ret
        rw [HF.out, Bool.and_false, Bool.and_false]
        exact ⟨rfl, HK.out.drewN _⟩
    · have HF : Hid (kRise none ks = true) := HI.out.trans (kRise_end hlt)
      clear HI
      rcases (show kd < 0 ∨ 8 < kd ∨ 64 < val.length ∨ ver < 0 ∨ 1099511627775 < ver ∨ (0 ≤ kd ∧ kd ≤ 8 ∧ val.length ≤ 64 ∧ 0 ≤ ver ∧ ver ≤ 1099511627775) by omega) with g | g | g | g | g | ⟨g1, g2, g3, g4, g5⟩
      · have HD : Hid (decide (0 ≤ kd) = false) := decide_eq_false (by omega)
        go_wp2
        all_goals go_ret
        all_goals rw [HD.out]
        all_goals exact ⟨ret_bool (by first | rfl | (simp; done) | (simp; omega)), HK.out⟩
      · have HD : Hid (decide (kd ≤ 8) = false) := decide_eq_false (by omega)
        go_wp2
        all_goals go_ret
        all_goals rw [HD.out]
        all_goals exact ⟨ret_bool (by first | rfl | (simp; done) | (simp; omega)), HK.out⟩
      · have HD : Hid (decide (val.length ≤ 64) = false) := decide_eq_false (by omega)
        have g' : ¬ (val.length : Int) ≤ 64 := by omega
        clear g
        go_wp2
        all_goals go_ret
        all_goals rw [HD.out]
        all_goals exact ⟨ret_bool (by first | rfl | (simp; done) | (simp; omega)), HK.out⟩
      · have HD : Hid (isNum ver = false) := by show isNum ver = false; unfold isNum; rw [decide_eq_false (by omega)]; rfl
        go_wp2
        all_goals go_ret
        all_goals rw [HD.out]
        all_goals exact ⟨ret_bool (by first | rfl | (simp; done) | (simp; omega)), HK.out⟩
      · have HD : Hid (isNum ver = false) := by show isNum ver = false; unfold isNum; rw [decide_eq_false (show ¬ ver ≤ 1099511627775 by omega)]; simp
        go_wp2
        all_goals go_ret
        all_goals rw [HD.out]
        all_goals exact ⟨ret_bool (by first | rfl | (simp; done) | (simp; omega)), HK.out⟩
      · have HD1 : Hid (isNum ver = true) := by show isNum ver = true; unfold isNum; rw [decide_eq_true g4, decide_eq_true g5]; rfl
        have HD2 : Hid (decide (val.length ≤ 64) = true) := decide_eq_true g3
        have HD3 : Hid (decide (0 ≤ kd) = true) := decide_eq_true g1
        have HD4 : Hid (decide (kd ≤ 8) = true) := decide_eq_true g2
        have g3' : (val.length : Int) ≤ 64 := by omega
        clear g3
        by_cases h32 : ks.length ≤ 32
        · have HD : Hid (decide (ks.length ≤ 32) = true) := decide_eq_true h32
          have h32' : (ks.length : Int) ≤ 32 := by omega
          clear h32
          go_wp2
          go_ret
          rw [HF.out, HD.out, HD1.out, HD2.out, HD3.out, HD4.out]
          first | exact ⟨rfl, HK.out⟩ | exact ⟨ret_bool (by simp), HK.out⟩
        · have HD : Hid (decide (ks.length ≤ 32) = false) := decide_eq_false h32
          have h32' : ¬ (ks.length : Int) ≤ 32 := by omega
          clear h32
          go_wp2
          go_ret
          rw [HF.out, HD.out, HD1.out, HD2.out]
          first | exact ⟨rfl, HK.out⟩ | exact ⟨ret_bool (by simp; done), HK.out⟩ | exact ⟨ret_bool (by simp; omega), HK.out⟩

end Go.Proofs.Ytijklginabipgaa
