/-
  Which snapshots may be, by the program and by the document's answer; a snapshot written by either.
-/
import Derived.Test.YtcbeonhohbgnmaaWCfg4
import Derived.Test.YtcbeonhohbgnmaaWEnt2
namespace Go.Proofs.Ytcbeonhohbgnmaa
open Go.RowKit

def snOk (ix tm : Int) (v n l : List Int) (dt : List UInt8) : Bool := isCnt ix && isCnt tm && isCfg v n l && decide (dt.length ≤ 8192)

set_option maxRecDepth 100000 in
set_option maxHeartbeats 2000000 in
theorem isSnapshot_any (ix tm : Int) (B c1 c2 c3 : Nat) (a1 a2 a3 : Option Addr) (v n l : List Int) (dt : List UInt8) (w : World) (hr : CfRows B w a1 a2 a3 v n l) (h1 : (v.length : Int) ≤ 9223372036854775807) (h2 : (n.length : Int) ≤ 9223372036854775807) (h3 : (l.length : Int) ≤ 9223372036854775807) (hd : dt.length ≤ maxLen) :
    Calls Try.prog 130 #[.agg #[.int .i64 ix, .int .i64 tm, .slice a1 v.length c1, .slice a2 n.length c2, .slice a3 l.length c3, .string (bs dt)]] w fun e w' => e = .returned (.bool (snOk ix tm v n l dt)) ∧ Kept Nil w w' := by
  have HN := areCounts_any (w.heap.size + 1) 2 [ix, tm] _ (ints2 w (.cells #[.int .i64 ix, .int .i64 tm, .slice a1 v.length c1, .slice a2 n.length c2, .slice a3 l.length c3, .string (bs dt)] 61) ix tm) (by simp)
  have ef : fromTo 1 [ix, tm] = (isCnt ix && isCnt tm) := by simp [fromTo, isCnt]
  rw [ef] at HN
  have VA := valid_any B c1 c2 c3 a1 a2 a3 v n l _ ((hr.alloc (.cells #[.int .i64 ix, .int .i64 tm, .slice a1 v.length c1, .slice a2 n.length c2, .slice a3 l.length c3, .string (bs dt)] 61)).alloc (.cells #[.int .i64 ix, .int .i64 tm] 3)) h1 h2 h3
  have HB : Hid (_) := blk_past (blk_new w (.cells #[.int .i64 ix, .int .i64 tm, .slice a1 v.length c1, .slice a2 n.length c2, .slice a3 l.length c3, .string (bs dt)] 61)) (.cells #[.int .i64 ix, .int .i64 tm] 3)
  have hsz := bs_size dt
  have hd' : (dt.length : Int) ≤ 9223372036854775807 := by unfold maxLen at hd; omega
  have HS : Hid (snOk ix tm v n l dt = ((isCnt ix && isCnt tm) && isCfg v n l && decide (dt.length ≤ 8192))) := rfl
  rw [HS.out]
  generalize (isCnt ix && isCnt tm) = b1 at *
  generalize isCfg v n l = b2 at *
  clear hr h1 h2 h3 hd ef
  cases b1 with
  | false =>
    simp only [Bool.false_and]
    go_enter Try.func130, Try.ntmps130
    go_wp2_with fail
    refine HN.mono ?_
    rintro e w1 ⟨rfl, rfl⟩
    go_wp2
    go_ret
    exact ⟨rfl, ((Kept.refl _ _).alloc _).alloc _⟩
  | true =>
    cases b2 with
    | false =>
      simp only [Bool.and_false, Bool.false_and]
      go_enter Try.func130, Try.ntmps130
      go_wp2_with fail
      refine HN.mono ?_
      rintro e w1 ⟨rfl, rfl⟩
      go_wp2_with fail
      refine VA.mono ?_
      rintro e w2 ⟨rfl, k2⟩
      go_wp2
      go_ret
      exact ⟨rfl, (((Kept.refl _ _).alloc _).alloc _).trans k2⟩
    | true =>
      simp only [Bool.true_and]
      by_cases h : dt.length ≤ 8192
      · rw [decide_eq_true h]
        have h' : (dt.length : Int) ≤ 8192 := by omega
        clear h
        go_enter Try.func130, Try.ntmps130
        go_wp2_with fail
        refine HN.mono ?_
        rintro e w1 ⟨rfl, rfl⟩
        go_wp2_with fail
        refine VA.mono ?_
        rintro e w2 ⟨rfl, k2⟩
        have q5 := blk_at (k2.block _ _ HB.out (fun x => x.elim)) 5 rfl
        go_wp2
        go_ret
        exact ⟨rfl, (((Kept.refl _ _).alloc _).alloc _).trans k2⟩
      · rw [decide_eq_false h]
        have h' : ¬ (dt.length : Int) ≤ 8192 := by omega
        clear h
        go_enter Try.func130, Try.ntmps130
        go_wp2_with fail
        refine HN.mono ?_
        rintro e w1 ⟨rfl, rfl⟩
        go_wp2_with fail
        refine VA.mono ?_
        rintro e w2 ⟨rfl, k2⟩
        have q5 := blk_at (k2.block _ _ HB.out (fun x => x.elim)) 5 rfl
        go_wp2
        go_ret
        first | exact ⟨rfl, (((Kept.refl _ _).alloc _).alloc _).trans k2⟩ | exact ⟨ret_bool (decide_eq_false (by omega)), (((Kept.refl _ _).alloc _).alloc _).trans k2⟩

set_option maxRecDepth 100000 in
set_option maxHeartbeats 2000000 in
theorem refIsSnapshot_any (ix tm : Int) (B c1 c2 c3 : Nat) (a1 a2 a3 : Option Addr) (v n l : List Int) (dt : List UInt8) (w : World) (hr : CfRows B w a1 a2 a3 v n l) (h1 : (v.length : Int) ≤ 9223372036854775807) (h2 : (n.length : Int) ≤ 9223372036854775807) (h3 : (l.length : Int) ≤ 9223372036854775807) (hd : dt.length ≤ maxLen) :
    Calls Try.prog 126 #[.agg #[.int .i64 ix, .int .i64 tm, .slice a1 v.length c1, .slice a2 n.length c2, .slice a3 l.length c3, .string (bs dt)]] w fun e w' => e = .returned (.bool (snOk ix tm v n l dt)) ∧ Kept Nil w w' := by
  have I1 := fun w => refCnt_any ix w
  have I2 := fun w => refCnt_any tm w
  have VA := refIsConfig_any B c1 c2 c3 a1 a2 a3 v n l _ (hr.alloc (.cells #[.int .i64 ix, .int .i64 tm, .slice a1 v.length c1, .slice a2 n.length c2, .slice a3 l.length c3, .string (bs dt)] 61)) h1 h2 h3
  have HB : Hid (_) := blk_new w (.cells #[.int .i64 ix, .int .i64 tm, .slice a1 v.length c1, .slice a2 n.length c2, .slice a3 l.length c3, .string (bs dt)] 61)
  have hsz := bs_size dt
  have hd' : (dt.length : Int) ≤ 9223372036854775807 := by unfold maxLen at hd; omega
  have HS : Hid (snOk ix tm v n l dt = ((isCnt ix && isCnt tm) && isCfg v n l && decide (dt.length ≤ 8192))) := rfl
  rw [HS.out]
  generalize isCnt ix = d1 at *
  generalize isCnt tm = d2 at *
  generalize isCfg v n l = b2 at *
  clear hr h1 h2 h3 hd
  go_enter Try.func126, Try.ntmps126
  go_wp2_with fail
  refine (I1 _).mono ?_
  rintro e w1 ⟨rfl, rfl⟩
  go_wp2_with fail
  refine (I2 _).mono ?_
  rintro e w1 ⟨rfl, rfl⟩
  go_wp2_with fail
  refine VA.mono ?_
  rintro e w2 ⟨rfl, k2⟩
  have q5 := blk_at (k2.block _ _ HB.out (fun x => x.elim)) 5 rfl
  have K2 : Hid (Kept Nil w w2) := ((Kept.refl _ _).alloc _).trans k2
  clear k2
  cases d1 with
  | false =>
    go_wp2
    go_ret
    exact ⟨rfl, K2.out⟩
  | true =>
    cases d2 with
    | false =>
      go_wp2
      go_ret
      exact ⟨rfl, K2.out⟩
    | true =>
      cases b2 with
      | false =>
        go_wp2
        go_ret
        exact ⟨rfl, K2.out⟩
      | true =>
        by_cases h : dt.length ≤ 8192
        · have HD : Hid (decide (dt.length ≤ 8192) = true) := decide_eq_true h
          have h' : (dt.length : Int) ≤ 8192 := by omega
          clear h
          go_wp2
          go_ret
          rw [HD.out]
          exact ⟨rfl, K2.out⟩
        · have HD : Hid (decide (dt.length ≤ 8192) = false) := decide_eq_false h
          have h' : ¬ (dt.length : Int) ≤ 8192 := by omega
          clear h
          go_wp2
          go_ret
          rw [HD.out]
          first | exact ⟨rfl, K2.out⟩ | exact ⟨ret_bool (by simp; omega), K2.out⟩

/-! ### written -/
def encSnap (ix tm : Nat) (v n l : List Nat) (dt : List UInt8) : List UInt8 := encAll [ix, tm] ++ encCfg v n l ++ encText dt
theorem Few.cfg {v n l : List Nat} (f1 : Few v) (f2 : Few n) (f3 : Few l) : (encCfg v n l).length ≤ 18018 := by
  have := f1.enc
  have := f2.enc
  have := f3.enc
  simp only [encCfg, List.length_append]
  omega

set_option maxRecDepth 100000 in
set_option maxHeartbeats 1000000 in
theorem wSnapshot_any (b B ix tm c1 c2 c3 : Nat) (a1 a2 a3 : Option Addr) (v n l : List Nat) (dt t : List UInt8) (w : World) (h : WInv b w t) (hr : CfRows B w a1 a2 a3 (intsOf v) (intsOf n) (intsOf l)) (hB : B ≤ b) (f1 : Few v) (f2 : Few n) (f3 : Few l)
    (g1 : ix ≤ 1099511627775) (g2 : tm ≤ 1099511627775) (g3 : dt.length ≤ 8192) (hl : t.length ≤ 1000000000) :
    Calls Try.prog 131 #[.pointer (some ⟨b, 0, none⟩), .agg #[.int .i64 ix, .int .i64 tm, .slice a1 v.length c1, .slice a2 n.length c2, .slice a3 l.length c3, .string (bs dt)]] w fun e w' => e = .returned (.tuple #[]) ∧ WInv b w' (t ++ encSnap ix tm v n l dt) ∧ Kept (Wr b) w w' := by
  have hlt := h.lt
  have HX : Hid (¬ Wr b w.heap.size (.cells #[.int .i64 ix, .int .i64 tm, .slice a1 v.length c1, .slice a2 n.length c2, .slice a3 l.length c3, .string (bs dt)] 61)) := not_wr (Nat.ne_of_gt hlt) (by decide)
  have HB : Hid (_) := blk_past (blk_new w (.cells #[.int .i64 ix, .int .i64 tm, .slice a1 v.length c1, .slice a2 n.length c2, .slice a3 l.length c3, .string (bs dt)] 61)) (.cells #[.int .i64 ix, .int .i64 tm] 3)
  have hg := blk_new (w.alloc (.cells #[.int .i64 ix, .int .i64 tm, .slice a1 v.length c1, .slice a2 n.length c2, .slice a3 l.length c3, .string (bs dt)] 61)) (.cells #[.int .i64 ix, .int .i64 tm] 3)
  rw [show (w.alloc (.cells #[.int .i64 ix, .int .i64 tm, .slice a1 v.length c1, .slice a2 n.length c2, .slice a3 l.length c3, .string (bs dt)] 61)).heap.size = w.heap.size + 1 by simp] at hg
  have hle : ∀ n ∈ [ix, tm], n ≤ 1099511627775 := by intro n hn'; simp at hn'; omega
  have H := wNumbers_any b (w.heap.size + 1) 2 _ _ [ix, tm] t _ ((h.alloc _).alloc _) hg (by omega) (ints2 w _ ix tm) hle (by simp) (by omega)
  have HL : Hid ((encAll [ix, tm]).length ≤ 12 ∧ t.length ≤ 1000000000 ∧ dt.length ≤ 8192 ∧ B ≤ b ∧ Few v ∧ Few n ∧ Few l) := by
    have := encAll_len [ix, tm] hle
    exact ⟨by simpa using this, hl, g3, hB, f1, f2, f3⟩
  have HR : Hid (CfRows B ((w.alloc (.cells #[.int .i64 ix, .int .i64 tm, .slice a1 v.length c1, .slice a2 n.length c2, .slice a3 l.length c3, .string (bs dt)] 61)).alloc (.cells #[.int .i64 ix, .int .i64 tm] 3)) a1 a2 a3 (intsOf v) (intsOf n) (intsOf l)) := (hr.alloc _).alloc _
  have HE : Hid (t ++ encSnap ix tm v n l dt = ((t ++ encAll [ix, tm]) ++ encCfg v n l) ++ encText dt) := by show _ = _; simp [encSnap]
  rw [HE.out]
  clear g1 g2 g3 hl hlt hg hle hr hB f1 f2 f3
  go_enter Try.func131, Try.ntmps131
  go_wp2_with fail
  refine H.mono ?_
  rintro e w1 ⟨rfl, i1, k1⟩
  have X1 : Hid _ := k1.block _ _ HB.out HX.out
  have q2 := blk_at X1.out 2 rfl
  have q3 := blk_at X1.out 3 rfl
  have q4 := blk_at X1.out 4 rfl
  have P2 := wConfig_any b B c1 c2 c3 a1 a2 a3 v n l _ w1 i1 (HR.out.kept k1 (fun _ _ h => not_below HL.out.2.2.2.1 h)) HL.out.2.2.2.1 HL.out.2.2.2.2.1 HL.out.2.2.2.2.2.1 HL.out.2.2.2.2.2.2 (by have := HL.out; simp only [List.length_append]; omega)
  go_wp2_with fail
  refine P2.mono ?_
  rintro e w2 ⟨rfl, i2, k2⟩
  have q5 := blk_at (k2.block _ _ X1.out HX.out) 5 rfl
  go_wp2_with fail
  refine (wText_any b dt _ w2 i2 (by have := HL.out.2.2.1; omega) (by have := HL.out; have := Few.cfg HL.out.2.2.2.2.1 HL.out.2.2.2.2.2.1 HL.out.2.2.2.2.2.2; simp only [List.length_append]; omega)).mono ?_
  rintro e w3 ⟨rfl, i3, k3⟩
  go_wp2
  go_end0
  exact ⟨rfl, i3, (((((Kept.refl _ _).alloc _).alloc _).trans k1).trans k2).trans k3⟩

set_option maxRecDepth 100000 in
set_option maxHeartbeats 1000000 in
theorem writeSnap_ok (ix tm c1 c2 c3 : Nat) (a1 a2 a3 : Option Addr) (v n l : List Nat) (dt : List UInt8) (w : World) (hr : CfRows w.heap.size w a1 a2 a3 (intsOf v) (intsOf n) (intsOf l)) (f1 : Few v) (f2 : Few n) (f3 : Few l) (g1 : ix ≤ 1099511627775) (g2 : tm ≤ 1099511627775) (g3 : dt.length ≤ 8192) (c : Int) :
    Calls Try.prog 129 #[.agg #[.int .i64 ix, .int .i64 tm, .slice a1 v.length c1, .slice a2 n.length c2, .slice a3 l.length c3, .string (bs dt)], .bool true, .int .i64 c, .func (.func 131) #[] #[]] w fun e w' => e = .returned (.tuple #[.string (bs (encSnap ix tm v n l dt)), .int .i64 0]) ∧ Kept Nil w w' := by
  have hw := winv_new (w.alloc (.cells #[.int .i64 ix, .int .i64 tm, .slice a1 v.length c1, .slice a2 n.length c2, .slice a3 l.length c3, .string (bs dt)] 61))
  have es : (w.alloc (.cells #[.int .i64 ix, .int .i64 tm, .slice a1 v.length c1, .slice a2 n.length c2, .slice a3 l.length c3, .string (bs dt)] 61)).heap.size = w.heap.size + 1 := by simp
  rw [es] at hw
  have H1 := wSnapshot_any (w.heap.size + 1) w.heap.size ix tm c1 c2 c3 a1 a2 a3 v n l dt [] _ hw ((hr.alloc _).alloc _) (by omega) f1 f2 f3 g1 g2 g3 (by simp)
  simp only [List.nil_append] at H1
  clear hw es hr f1 f2 f3 g1 g2 g3
  go_enter Try.func129, Try.ntmps129
  go_wp2_with fail
  refine H1.mono ?_
  rintro e w1 ⟨rfl, ⟨ao, c', hb, ho⟩, hk⟩
  have h0 := blk_at hb 0 rfl
  have hcv := conv_own ho
  go_wp2
  go_ret2
  exact ⟨rfl, hk.belowWr⟩

set_option maxRecDepth 100000 in
theorem writeSnap_no (cs : Array Value) (w : World) (c : Int) (f : Value) :
    Calls Try.prog 129 #[.agg cs, .bool false, .int .i64 c, f] w fun e w' => e = .returned (.tuple #[.string (bs []), .int .i64 c]) ∧ Kept Nil w w' := by
  go_enter Try.func129, Try.ntmps129
  go_wp2
  go_ret2
  exact ⟨rfl, (Kept.refl _ _).alloc _⟩

def putSnap (ix tm : Int) (v n l : List Int) (dt : List UInt8) : List UInt8 × Int := if snOk ix tm v n l dt then (encSnap ix.toNat tm.toNat (natsOf v) (natsOf n) (natsOf l) dt, 0) else ([], 6)
theorem snOk_facts {ix tm : Int} {v n l : List Int} {dt : List UInt8} (h : snOk ix tm v n l dt = true) : isCnt ix = true ∧ isCnt tm = true ∧ isCfg v n l = true ∧ dt.length ≤ 8192 := by
  simp only [snOk, Bool.and_eq_true, decide_eq_true_eq] at h
  exact ⟨h.1.1.1, h.1.1.2, h.1.2, h.2⟩

theorem writeSnap_any (ix tm : Int) (c1 c2 c3 : Nat) (a1 a2 a3 : Option Addr) (v n l : List Int) (dt : List UInt8) (w : World) (hr : CfRows w.heap.size w a1 a2 a3 v n l) :
    Calls Try.prog 129 #[.agg #[.int .i64 ix, .int .i64 tm, .slice a1 v.length c1, .slice a2 n.length c2, .slice a3 l.length c3, .string (bs dt)], .bool (snOk ix tm v n l dt), .int .i64 6, .func (.func 131) #[] #[]] w fun e w' => e = .returned (.tuple #[.string (bs (putSnap ix tm v n l dt).1), .int .i64 (putSnap ix tm v n l dt).2]) ∧ Kept Nil w w' := by
  unfold putSnap
  cases hq : snOk ix tm v n l dt with
  | false => exact writeSnap_no _ w 6 _
  | true =>
    obtain ⟨q1, q2, q3, q4⟩ := snOk_facts hq
    obtain ⟨r1, r2, r3⟩ := isCfg_facts q3
    obtain ⟨e1, f1, _⟩ := rise_few r1
    obtain ⟨e2, f2, _⟩ := rise_few r2
    obtain ⟨e3, f3, _⟩ := rise_few r3
    have b1 := isCnt_nat q1
    have b2 := isCnt_nat q2
    have H := writeSnap_ok ix.toNat tm.toNat c1 c2 c3 a1 a2 a3 (natsOf v) (natsOf n) (natsOf l) dt w (by rw [e1, e2, e3]; exact hr) f1 f2 f3 b1.2 b2.2 q4 6
    rw [natsOf_len, natsOf_len, natsOf_len, b1.1, b2.1] at H
    exact H

set_option maxRecDepth 100000 in
set_option maxHeartbeats 1000000 in
theorem putSnapshot_any (ix tm : Int) (B c1 c2 c3 : Nat) (a1 a2 a3 : Option Addr) (v n l : List Int) (dt : List UInt8) (w : World) (h : CfRows B w a1 a2 a3 v n l) (h1 : (v.length : Int) ≤ 9223372036854775807) (h2 : (n.length : Int) ≤ 9223372036854775807) (h3 : (l.length : Int) ≤ 9223372036854775807) (hd : dt.length ≤ maxLen) :
    Calls Try.prog 44 #[.agg #[.int .i64 ix, .int .i64 tm, .slice a1 v.length c1, .slice a2 n.length c2, .slice a3 l.length c3, .string (bs dt)]] w fun e w' => e = .returned (.tuple #[.string (bs (putSnap ix tm v n l dt).1), .int .i64 (putSnap ix tm v n l dt).2]) ∧ Kept Nil w w' := by
  have HR : Hid (CfRows B w a1 a2 a3 v n l) := h
  have H1 := fun w' (hk : Kept Nil w w') => isSnapshot_any ix tm B c1 c2 c3 a1 a2 a3 v n l dt w' (HR.out.nil hk) h1 h2 h3 hd
  have H2 := fun w' (hk : Kept Nil w w') => writeSnap_any ix tm c1 c2 c3 a1 a2 a3 v n l dt w' (HR.out.nil hk).full
  generalize snOk ix tm v n l dt = okb at H1 H2
  generalize putSnap ix tm v n l dt = pr at H2 ⊢
  obtain ⟨p1, p2⟩ := pr
  simp only at H2 ⊢
  clear h h1 h2 h3 hd
  have HB : Hid (_) := blk_new w (.cells #[.int .i64 ix, .int .i64 tm, .slice a1 v.length c1, .slice a2 n.length c2, .slice a3 l.length c3, .string (bs dt)] 61)
  have HK : Hid (Kept Nil w (w.alloc (.cells #[.int .i64 ix, .int .i64 tm, .slice a1 v.length c1, .slice a2 n.length c2, .slice a3 l.length c3, .string (bs dt)] 61)).drew) := ((Kept.refl _ _).alloc _).drew
  go_enter Try.func44, Try.ntmps44
  go_wp2
  go_region_with (first | (go_at_call 130; go_must (refine (H1 _ HK.out).mono ?_); rintro e w1 ⟨rfl, k1⟩; have X1 := k1.block _ _ HB.out (fun x => x.elim); have q0 := blk_at X1 0 rfl; have q1 := blk_at X1 1 rfl; have q2 := blk_at X1 2 rfl; have q3 := blk_at X1 3 rfl; have q4 := blk_at X1 4 rfl; have q5 := blk_at X1 5 rfl; have HK1 : Hid (Kept Nil w w1) := HK.out.trans k1; clear X1) | (go_at_call 129; go_must (refine (H2 _ HK1.out).mono ?_); rintro e w2 ⟨rfl, k2⟩))
  all_goals go_wp2
  all_goals go_ret2
  all_goals exact ⟨rfl, HK1.out.trans k2⟩

/-! ### the document's -/
set_option maxRecDepth 100000 in
set_option maxHeartbeats 1000000 in
theorem refSnapshot_any (B ix tm c1 c2 c3 : Nat) (a1 a2 a3 : Option Addr) (v n l : List Nat) (dt : List UInt8) (w : World) (hr : CfRows B w a1 a2 a3 (intsOf v) (intsOf n) (intsOf l)) (f1 : Few v) (f2 : Few n) (f3 : Few l) (g1 : ix ≤ 1099511627775) (g2 : tm ≤ 1099511627775) (g3 : dt.length ≤ 8192) :
    Calls Try.prog 127 #[.agg #[.int .i64 ix, .int .i64 tm, .slice a1 v.length c1, .slice a2 n.length c2, .slice a3 l.length c3, .string (bs dt)]] w fun e w' => e = .returned (.string (bs (encSnap ix tm v n l dt))) ∧ Kept Nil w w' := by
  have HR : Hid (CfRows B w a1 a2 a3 (intsOf v) (intsOf n) (intsOf l)) := hr
  have HB : Hid (_) := blk_new w (.cells #[.int .i64 ix, .int .i64 tm, .slice a1 v.length c1, .slice a2 n.length c2, .slice a3 l.length c3, .string (bs dt)] 61)
  have N1 := refNum_any ix g1
  have N2 := refNum_any tm g2
  have N3 := fun w h => refConfig_any B c1 c2 c3 a1 a2 a3 v n l w h f1 f2 f3
  have N4 := fun w => refTextOf_any dt w (by omega)
  have z1 : (bs (enc ix)).size ≤ 6 := by rw [bs_size]; exact enc_len6 g1
  have z2 : (bs (enc tm)).size ≤ 6 := by rw [bs_size]; exact enc_len6 g2
  have z3 : (bs (encCfg v n l)).size ≤ 18018 := by rw [bs_size]; exact Few.cfg f1 f2 f3
  have z4 : (bs (encText dt)).size ≤ 8198 := by
    rw [bs_size]
    have := encText_len (l := dt) (by omega)
    omega
  have z5 : (bs (enc ix) ++ bs (enc tm)).size ≤ 12 := by rw [bs_append, bs_size, List.length_append]; rw [bs_size] at z1 z2; omega
  have z6 : (bs (enc ix) ++ bs (enc tm) ++ bs (encCfg v n l)).size ≤ 18030 := by rw [bs_append, bs_append, bs_size, List.length_append, List.length_append]; rw [bs_size] at z1 z2 z3; omega
  have HE : Hid (bs (enc ix) ++ bs (enc tm) ++ bs (encCfg v n l) ++ bs (encText dt) = bs (encSnap ix tm v n l dt)) := by show _ = _; rw [bs_append, bs_append, bs_append]; simp [encSnap, encAll]
  clear hr f1 f2 f3 g1 g2 g3
  rw [← HE.out]
  go_enter Try.func127, Try.ntmps127
  go_wp2_with fail
  refine (N1 _).mono ?_
  rintro e w1 ⟨rfl, k1⟩
  have K1 : Hid (Kept Nil w w1) := ((Kept.refl _ _).alloc _).trans k1
  have X1 := k1.block _ _ HB.out (fun x => x.elim)
  have q1 := blk_at X1 1 rfl
  go_wp2_with fail
  refine (N2 _).mono ?_
  rintro e w2 ⟨rfl, k2⟩
  have K2 : Hid (Kept Nil w w2) := K1.out.trans k2
  have X2 := k2.block _ _ X1 (fun x => x.elim)
  have q2 := blk_at X2 2 rfl
  have q3 := blk_at X2 3 rfl
  have q4 := blk_at X2 4 rfl
  go_wp2_with fail
  refine (N3 _ (HR.out.nil K2.out)).mono ?_
  rintro e w3 ⟨rfl, k3⟩
  have X3 := k3.block _ _ X2 (fun x => x.elim)
  have q5 := blk_at X3 5 rfl
  go_wp2_with fail
  refine (N4 _).mono ?_
  rintro e w4 ⟨rfl, k4⟩
  go_wp2
  go_ret
  exact ⟨rfl, (K2.out.trans k3).trans k4⟩

set_option maxRecDepth 100000 in
set_option maxHeartbeats 1000000 in
theorem refPutSnapshot_any (ix tm : Int) (B c1 c2 c3 : Nat) (a1 a2 a3 : Option Addr) (v n l : List Int) (dt : List UInt8) (w : World) (h : CfRows B w a1 a2 a3 v n l) (h1 : (v.length : Int) ≤ 9223372036854775807) (h2 : (n.length : Int) ≤ 9223372036854775807) (h3 : (l.length : Int) ≤ 9223372036854775807) (hd : dt.length ≤ maxLen) :
    Calls Try.prog 42 #[.agg #[.int .i64 ix, .int .i64 tm, .slice a1 v.length c1, .slice a2 n.length c2, .slice a3 l.length c3, .string (bs dt)]] w fun e w' => e = .returned (.tuple #[.string (bs (putSnap ix tm v n l dt).1), .int .i64 (putSnap ix tm v n l dt).2]) ∧ Kept Nil w w' := by
  have HR : Hid (CfRows B w a1 a2 a3 v n l) := h
  have HB : Hid (_) := blk_new w (.cells #[.int .i64 ix, .int .i64 tm, .slice a1 v.length c1, .slice a2 n.length c2, .slice a3 l.length c3, .string (bs dt)] 61)
  have H1 := refIsSnapshot_any ix tm B c1 c2 c3 a1 a2 a3 v n l dt _ (h.alloc (.cells #[.int .i64 ix, .int .i64 tm, .slice a1 v.length c1, .slice a2 n.length c2, .slice a3 l.length c3, .string (bs dt)] 61)) h1 h2 h3 hd
  have HP : Hid (putSnap ix tm v n l dt = if snOk ix tm v n l dt then (encSnap ix.toNat tm.toNat (natsOf v) (natsOf n) (natsOf l) dt, 0) else ([], 6)) := rfl
  rw [HP.out]
  clear h h1 h2 h3 hd
  cases hq : snOk ix tm v n l dt with
  | false =>
    rw [hq] at H1
    clear hq
    simp only [Bool.false_eq_true, if_false]
    go_enter Try.func42, Try.ntmps42
    go_wp2_with fail
    refine H1.mono ?_
    rintro e w1 ⟨rfl, k1⟩
    go_wp2
    go_ret2
    exact ⟨rfl, ((Kept.refl _ _).alloc _).trans k1⟩
  | true =>
    obtain ⟨q1, q2, q3, q4⟩ := snOk_facts hq
    obtain ⟨r1, r2, r3⟩ := isCfg_facts q3
    obtain ⟨e1, f1, _⟩ := rise_few r1
    obtain ⟨e2, f2, _⟩ := rise_few r2
    obtain ⟨e3, f3, _⟩ := rise_few r3
    have b1 := isCnt_nat q1
    have b2 := isCnt_nat q2
    have H2 := fun w' (hk : Kept Nil w w') => refSnapshot_any B ix.toNat tm.toNat c1 c2 c3 a1 a2 a3 (natsOf v) (natsOf n) (natsOf l) dt w' (by rw [e1, e2, e3]; exact HR.out.nil hk) f1 f2 f3 b1.2 b2.2 q4
    rw [natsOf_len, natsOf_len, natsOf_len, b1.1, b2.1] at H2
    rw [hq] at H1
    simp only [if_true]
    clear hq r1 r2 r3 e1 e2 e3 f1 f2 f3 q1 q2 q3 q4 b1 b2
    generalize encSnap ix.toNat tm.toNat (natsOf v) (natsOf n) (natsOf l) dt = r at H2 ⊢
    go_enter Try.func42, Try.ntmps42
    go_wp2_with fail
    refine H1.mono ?_
    rintro e w1 ⟨rfl, k1⟩
    have K1 : Hid (Kept Nil w w1) := ((Kept.refl _ _).alloc _).trans k1
    have X1 := k1.block _ _ HB.out (fun x => x.elim)
    have p0 := blk_at X1 0 rfl
    have p1 := blk_at X1 1 rfl
    have p2 := blk_at X1 2 rfl
    have p3 := blk_at X1 3 rfl
    have p4 := blk_at X1 4 rfl
    have p5 := blk_at X1 5 rfl
    go_wp2_with fail
    refine (H2 _ K1.out).mono ?_
    rintro e w2 ⟨rfl, k2⟩
    go_wp2
    go_ret2
    exact ⟨rfl, K1.out.trans k2⟩

end Go.Proofs.Ytcbeonhohbgnmaa
