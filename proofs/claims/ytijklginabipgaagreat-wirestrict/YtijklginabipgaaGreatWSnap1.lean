/-
  Which snapshots may be, by the program and by the document's answer; a snapshot written by either.
-/
import Derived.Test.YtijklginabipgaaGreatWCfg4
import Derived.Test.YtijklginabipgaaGreatWEnt2
namespace Go.Proofs.YtijklginabipgaaGreat
open Go.RowKit

def snOk (ix tm : Int) (v n l : List Int) (dt : List UInt8) : Bool := isCnt ix && isCnt tm && isCfg v n l && decide (dt.length ≤ 8192)

set_option maxRecDepth 100000 in
set_option maxHeartbeats 2000000 in
theorem isSnapshot_any (ix tm : Int) (B c1 c2 c3 : Nat) (a1 a2 a3 : Option Addr) (v n l : List Int) (dt : List UInt8) (w : World) (hr : CfRows B w a1 a2 a3 v n l) (h1 : (v.length : Int) ≤ 9223372036854775807) (h2 : (n.length : Int) ≤ 9223372036854775807) (h3 : (l.length : Int) ≤ 9223372036854775807) (hd : dt.length ≤ maxLen) :
    Calls Tryz.prog 34 #[.agg #[.int .i64 ix, .int .i64 tm, .slice a1 v.length c1, .slice a2 n.length c2, .slice a3 l.length c3, .string (bs dt)]] w fun e w' => e = .returned (.bool (snOk ix tm v n l dt)) ∧ Kept Nil w w' := by
  have HN := areCounts_any (w.heap.size + 1) 2 [ix, tm] _ (ints2 w (.cells #[.int .i64 ix, .int .i64 tm, .slice a1 v.length c1, .slice a2 n.length c2, .slice a3 l.length c3, .string (bs dt)] 43) ix tm) (by simp)
  have ef : fromTo 1 [ix, tm] = (isCnt ix && isCnt tm) := by simp [fromTo, isCnt]
  rw [ef] at HN
  have VA := valid_any B c1 c2 c3 a1 a2 a3 v n l _ ((hr.alloc (.cells #[.int .i64 ix, .int .i64 tm, .slice a1 v.length c1, .slice a2 n.length c2, .slice a3 l.length c3, .string (bs dt)] 43)).alloc (.cells #[.int .i64 ix, .int .i64 tm] 3)) h1 h2 h3
  have HB : Hid (_) := blk_past (blk_new w (.cells #[.int .i64 ix, .int .i64 tm, .slice a1 v.length c1, .slice a2 n.length c2, .slice a3 l.length c3, .string (bs dt)] 43)) (.cells #[.int .i64 ix, .int .i64 tm] 3)
  have hsz := bs_size dt
  have hd' : (dt.length : Int) ≤ 9223372036854775807 := by unfold maxLen at hd; omega
  have HS : Hid (snOk ix tm v n l dt = ((isCnt ix && isCnt tm) && isCfg v n l && decide (dt.length ≤ 8192))) := rfl
  rw [HS.out]
  generalize (isCnt ix && isCnt tm) = b1 at *
  generalize isCfg v n l = b2 at *
  clear hr h1 h2 h3 hd ef
  cases b1 with
  | false =>
    simp only [Bool.false_and]
    go_enter Tryz.func34, Tryz.ntmps34
    go_wp2_with fail
    refine HN.mono ?_
    rintro e w1 ⟨rfl, rfl⟩
    go_wp2
    go_ret
    exact ⟨rfl, ((Kept.refl _ _).alloc _).alloc _⟩
  | true =>
    cases b2 with
    | false =>
      simp only [Bool.and_false, Bool.false_and]
      go_enter Tryz.func34, Tryz.ntmps34
      go_wp2_with fail
      refine HN.mono ?_
      rintro e w1 ⟨rfl, rfl⟩
      go_wp2_with fail
      refine VA.mono ?_
      rintro e w2 ⟨rfl, k2⟩
      go_wp2
      go_ret
      exact ⟨rfl, (((Kept.refl _ _).alloc _).alloc _).trans k2⟩
    | true =>
      simp only [Bool.true_and]
      by_cases h : dt.length ≤ 8192
      · rw [decide_eq_true h]
        have h' : (dt.length : Int) ≤ 8192 := by omega
        clear h
        go_enter Tryz.func34, Tryz.ntmps34
        go_wp2_with fail
        refine HN.mono ?_
        rintro e w1 ⟨rfl, rfl⟩
        go_wp2_with fail
        refine VA.mono ?_
        rintro e w2 ⟨rfl, k2⟩
        have q5 := blk_at (k2.block _ _ HB.out (fun x => x.elim)) 5 rfl
        go_wp2
        go_ret
        exact ⟨rfl, (((Kept.refl _ _).alloc _).alloc _).trans k2⟩
      · rw [decide_eq_false h]
        have h' : ¬ (dt.length : Int) ≤ 8192 := by omega
        clear h
        go_enter Tryz.func34, Tryz.ntmps34
        go_wp2_with fail
        refine HN.mono ?_
        rintro e w1 ⟨rfl, rfl⟩
        go_wp2_with fail
        refine VA.mono ?_
        rintro e w2 ⟨rfl, k2⟩
        have q5 := blk_at (k2.block _ _ HB.out (fun x => x.elim)) 5 rfl
        go_wp2
        go_ret
        first | exact ⟨rfl, (((Kept.refl _ _).alloc _).alloc _).trans k2⟩ | exact ⟨ret_bool (decide_eq_false (by omega)), (((Kept.refl _ _).alloc _).alloc _).trans k2⟩

/-! ### written -/
def encSnap (ix tm : Nat) (v n l : List Nat) (dt : List UInt8) : List UInt8 := encAll [ix, tm] ++ encCfg v n l ++ encText dt
theorem Few.cfg {v n l : List Nat} (f1 : Few v) (f2 : Few n) (f3 : Few l) : (encCfg v n l).length ≤ 18018 := by
  have := f1.enc
  have := f2.enc
  have := f3.enc
  simp only [encCfg, List.length_append]
  omega

set_option maxRecDepth 100000 in
set_option maxHeartbeats 1000000 in
theorem wSnapshot_any (b B ix tm c1 c2 c3 : Nat) (a1 a2 a3 : Option Addr) (v n l : List Nat) (dt t : List UInt8) (w : World) (h : WInv b w t) (hr : CfRows B w a1 a2 a3 (intsOf v) (intsOf n) (intsOf l)) (hB : B ≤ b) (f1 : Few v) (f2 : Few n) (f3 : Few l)
    (g1 : ix ≤ 1099511627775) (g2 : tm ≤ 1099511627775) (g3 : dt.length ≤ 8192) (hl : t.length ≤ 1000000000) :
    Calls Tryz.prog 35 #[.pointer (some ⟨b, 0, none⟩), .agg #[.int .i64 ix, .int .i64 tm, .slice a1 v.length c1, .slice a2 n.length c2, .slice a3 l.length c3, .string (bs dt)]] w fun e w' => e = .returned (.tuple #[]) ∧ WInv b w' (t ++ encSnap ix tm v n l dt) ∧ Kept (Wr b) w w' := by
  have hlt := h.lt
  have HX : Hid (¬ Wr b w.heap.size (.cells #[.int .i64 ix, .int .i64 tm, .slice a1 v.length c1, .slice a2 n.length c2, .slice a3 l.length c3, .string (bs dt)] 43)) := not_wr (Nat.ne_of_gt hlt) (by decide)
  have HB : Hid (_) := blk_past (blk_new w (.cells #[.int .i64 ix, .int .i64 tm, .slice a1 v.length c1, .slice a2 n.length c2, .slice a3 l.length c3, .string (bs dt)] 43)) (.cells #[.int .i64 ix, .int .i64 tm] 3)
  have hg := blk_new (w.alloc (.cells #[.int .i64 ix, .int .i64 tm, .slice a1 v.length c1, .slice a2 n.length c2, .slice a3 l.length c3, .string (bs dt)] 43)) (.cells #[.int .i64 ix, .int .i64 tm] 3)
  rw [show (w.alloc (.cells #[.int .i64 ix, .int .i64 tm, .slice a1 v.length c1, .slice a2 n.length c2, .slice a3 l.length c3, .string (bs dt)] 43)).heap.size = w.heap.size + 1 by simp] at hg
  have hle : ∀ n ∈ [ix, tm], n ≤ 1099511627775 := by intro n hn'; simp at hn'; omega
  have H := wNumbers_any b (w.heap.size + 1) 2 _ _ [ix, tm] t _ ((h.alloc _).alloc _) hg (by omega) (ints2 w _ ix tm) hle (by simp) (by omega)
  have HL : Hid ((encAll [ix, tm]).length ≤ 12 ∧ t.length ≤ 1000000000 ∧ dt.length ≤ 8192 ∧ B ≤ b ∧ Few v ∧ Few n ∧ Few l) := by
    have := encAll_len [ix, tm] hle
    exact ⟨by simpa using this, hl, g3, hB, f1, f2, f3⟩
  have HR : Hid (CfRows B ((w.alloc (.cells #[.int .i64 ix, .int .i64 tm, .slice a1 v.length c1, .slice a2 n.length c2, .slice a3 l.length c3, .string (bs dt)] 43)).alloc (.cells #[.int .i64 ix, .int .i64 tm] 3)) a1 a2 a3 (intsOf v) (intsOf n) (intsOf l)) := (hr.alloc _).alloc _
  have HE : Hid (t ++ encSnap ix tm v n l dt = ((t ++ encAll [ix, tm]) ++ encCfg v n l) ++ encText dt) := by show _ = _; simp [encSnap]
  rw [HE.out]
  clear g1 g2 g3 hl hlt hg hle hr hB f1 f2 f3
  go_enter Tryz.func35, Tryz.ntmps35
  go_wp2_with fail
  refine H.mono ?_
  rintro e w1 ⟨rfl, i1, k1⟩
  have X1 : Hid _ := k1.block _ _ HB.out HX.out
  have q2 := blk_at X1.out 2 rfl
  have q3 := blk_at X1.out 3 rfl
  have q4 := blk_at X1.out 4 rfl
  have P2 := wConfig_any b B c1 c2 c3 a1 a2 a3 v n l _ w1 i1 (HR.out.kept k1 (fun _ _ h => not_below HL.out.2.2.2.1 h)) HL.out.2.2.2.1 HL.out.2.2.2.2.1 HL.out.2.2.2.2.2.1 HL.out.2.2.2.2.2.2 (by have := HL.out; simp only [List.length_append]; omega)
  go_wp2_with fail
  refine P2.mono ?_
  rintro e w2 ⟨rfl, i2, k2⟩
  have q5 := blk_at (k2.block _ _ X1.out HX.out) 5 rfl
  go_wp2_with fail
  refine (wText_any b dt _ w2 i2 (by have := HL.out.2.2.1; omega) (by have := HL.out; have := Few.cfg HL.out.2.2.2.2.1 HL.out.2.2.2.2.2.1 HL.out.2.2.2.2.2.2; simp only [List.length_append]; omega)).mono ?_
  rintro e w3 ⟨rfl, i3, k3⟩
  go_wp2
  go_end0
  exact ⟨rfl, i3, (((((Kept.refl _ _).alloc _).alloc _).trans k1).trans k2).trans k3⟩

set_option maxRecDepth 100000 in
set_option maxHeartbeats 1000000 in
theorem writeSnap_ok (ix tm c1 c2 c3 : Nat) (a1 a2 a3 : Option Addr) (v n l : List Nat) (dt : List UInt8) (w : World) (hr : CfRows w.heap.size w a1 a2 a3 (intsOf v) (intsOf n) (intsOf l)) (f1 : Few v) (f2 : Few n) (f3 : Few l) (g1 : ix ≤ 1099511627775) (g2 : tm ≤ 1099511627775) (g3 : dt.length ≤ 8192) (c : Int) :
    Calls Tryz.prog 33 #[.agg #[.int .i64 ix, .int .i64 tm, .slice a1 v.length c1, .slice a2 n.length c2, .slice a3 l.length c3, .string (bs dt)], .bool true, .int .i64 c, .func (.func 35) #[] #[]] w fun e w' => e = .returned (.tuple #[.string (bs (encSnap ix tm v n l dt)), .int .i64 0]) ∧ Kept Nil w w' := by
  have hw := winv_new (w.alloc (.cells #[.int .i64 ix, .int .i64 tm, .slice a1 v.length c1, .slice a2 n.length c2, .slice a3 l.length c3, .string (bs dt)] 43))
  have es : (w.alloc (.cells #[.int .i64 ix, .int .i64 tm, .slice a1 v.length c1, .slice a2 n.length c2, .slice a3 l.length c3, .string (bs dt)] 43)).heap.size = w.heap.size + 1 := by simp
  rw [es] at hw
  have H1 := wSnapshot_any (w.heap.size + 1) w.heap.size ix tm c1 c2 c3 a1 a2 a3 v n l dt [] _ hw ((hr.alloc _).alloc _) (by omega) f1 f2 f3 g1 g2 g3 (by simp)
  simp only [List.nil_append] at H1
  clear hw es hr f1 f2 f3 g1 g2 g3
  go_enter Tryz.func33, Tryz.ntmps33
  go_wp2_with fail
  refine H1.mono ?_
  rintro e w1 ⟨rfl, ⟨ao, c', hb, ho⟩, hk⟩
  have h0 := blk_at hb 0 rfl
  have hcv := conv_own ho
  go_wp2
  go_ret2
  exact ⟨rfl, hk.belowWr⟩

set_option maxRecDepth 100000 in
theorem writeSnap_no (cs : Array Value) (w : World) (c : Int) (f : Value) :
    Calls Tryz.prog 33 #[.agg cs, .bool false, .int .i64 c, f] w fun e w' => e = .returned (.tuple #[.string (bs []), .int .i64 c]) ∧ Kept Nil w w' := by
  go_enter Tryz.func33, Tryz.ntmps33
  go_wp2
  go_ret2
  exact ⟨rfl, (Kept.refl _ _).alloc _⟩

def putSnap (ix tm : Int) (v n l : List Int) (dt : List UInt8) : List UInt8 × Int := if snOk ix tm v n l dt then (encSnap ix.toNat tm.toNat (natsOf v) (natsOf n) (natsOf l) dt, 0) else ([], 6)
theorem snOk_facts {ix tm : Int} {v n l : List Int} {dt : List UInt8} (h : snOk ix tm v n l dt = true) : isCnt ix = true ∧ isCnt tm = true ∧ isCfg v n l = true ∧ dt.length ≤ 8192 := by
  simp only [snOk, Bool.and_eq_true, decide_eq_true_eq] at h
  exact ⟨h.1.1.1, h.1.1.2, h.1.2, h.2⟩

theorem writeSnap_any (ix tm : Int) (c1 c2 c3 : Nat) (a1 a2 a3 : Option Addr) (v n l : List Int) (dt : List UInt8) (w : World) (hr : CfRows w.heap.size w a1 a2 a3 v n l) :
    Calls Tryz.prog 33 #[.agg #[.int .i64 ix, .int .i64 tm, .slice a1 v.length c1, .slice a2 n.length c2, .slice a3 l.length c3, .string (bs dt)], .bool (snOk ix tm v n l dt), .int .i64 6, .func (.func 35) #[] #[]] w fun e w' => e = .returned (.tuple #[.string (bs (putSnap ix tm v n l dt).1), .int .i64 (putSnap ix tm v n l dt).2]) ∧ Kept Nil w w' := by
  unfold putSnap
  cases hq : snOk ix tm v n l dt with
  | false => exact writeSnap_no _ w 6 _
  | true =>
    obtain ⟨q1, q2, q3, q4⟩ := snOk_facts hq
    obtain ⟨r1, r2, r3⟩ := isCfg_facts q3
    obtain ⟨e1, f1, _⟩ := rise_few r1
    obtain ⟨e2, f2, _⟩ := rise_few r2
    obtain ⟨e3, f3, _⟩ := rise_few r3
    have b1 := isCnt_nat q1
    have b2 := isCnt_nat q2
    have H := writeSnap_ok ix.toNat tm.toNat c1 c2 c3 a1 a2 a3 (natsOf v) (natsOf n) (natsOf l) dt w (by rw [e1, e2, e3]; exact hr) f1 f2 f3 b1.2 b2.2 q4 6
    rw [natsOf_len, natsOf_len, natsOf_len, b1.1, b2.1] at H
    exact H

set_option maxRecDepth 100000 in
set_option maxHeartbeats 1000000 in
theorem putSnapshot_any (ix tm : Int) (B c1 c2 c3 : Nat) (a1 a2 a3 : Option Addr) (v n l : List Int) (dt : List UInt8) (w : World) (h : CfRows B w a1 a2 a3 v n l) (h1 : (v.length : Int) ≤ 9223372036854775807) (h2 : (n.length : Int) ≤ 9223372036854775807) (h3 : (l.length : Int) ≤ 9223372036854775807) (hd : dt.length ≤ maxLen) :
    Calls Tryz.prog 11 #[.agg #[.int .i64 ix, .int .i64 tm, .slice a1 v.length c1, .slice a2 n.length c2, .slice a3 l.length c3, .string (bs dt)]] w fun e w' => e = .returned (.tuple #[.string (bs (putSnap ix tm v n l dt).1), .int .i64 (putSnap ix tm v n l dt).2]) ∧ Kept Nil w w' := by
  have HR : Hid (CfRows B w a1 a2 a3 v n l) := h
  have H1 := fun w' (hk : Kept Nil w w') => isSnapshot_any ix tm B c1 c2 c3 a1 a2 a3 v n l dt w' (HR.out.nil hk) h1 h2 h3 hd
  have H2 := fun w' (hk : Kept Nil w w') => writeSnap_any ix tm c1 c2 c3 a1 a2 a3 v n l dt w' (HR.out.nil hk).full
  generalize snOk ix tm v n l dt = okb at H1 H2
  generalize putSnap ix tm v n l dt = pr at H2 ⊢
  obtain ⟨p1, p2⟩ := pr
  simp only at H2 ⊢
  clear h h1 h2 h3 hd
  have HB : Hid (_) := blk_new w (.cells #[.int .i64 ix, .int .i64 tm, .slice a1 v.length c1, .slice a2 n.length c2, .slice a3 l.length c3, .string (bs dt)] 43)
  have HK : Hid (Kept Nil w (w.alloc (.cells #[.int .i64 ix, .int .i64 tm, .slice a1 v.length c1, .slice a2 n.length c2, .slice a3 l.length c3, .string (bs dt)] 43)).drew) := ((Kept.refl _ _).alloc _).drew
  go_enter Tryz.func11, Tryz.ntmps11
  go_wp2
  go_region_with (first | (go_at_call 34; go_must (refine (H1 _ HK.out).mono ?_); rintro e w1 ⟨rfl, k1⟩; have X1 := k1.block _ _ HB.out (fun x => x.elim); have q0 := blk_at X1 0 rfl; have q1 := blk_at X1 1 rfl; have q2 := blk_at X1 2 rfl; have q3 := blk_at X1 3 rfl; have q4 := blk_at X1 4 rfl; have q5 := blk_at X1 5 rfl; have HK1 : Hid (Kept Nil w w1) := HK.out.trans k1; clear X1) | (go_at_call 33; go_must (refine (H2 _ HK1.out).mono ?_); rintro e w2 ⟨rfl, k2⟩))
  all_goals go_wp2
  all_goals go_ret2
  all_goals exact ⟨rfl, HK1.out.trans k2⟩

/-! ### the document's -/
end Go.Proofs.YtijklginabipgaaGreat
