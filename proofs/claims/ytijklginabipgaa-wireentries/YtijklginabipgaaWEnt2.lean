/-
  An entry written: the writer's entry, write, PutEntry; and the document's: the same bytes.
-/
import Derived.Test.YtijklginabipgaaWEnt1
namespace Go.Proofs.Ytijklginabipgaa
open Go.RowKit

/-- An entry's bytes. -/
def encEnt (ix tm kd : Nat) (dt : List UInt8) : List UInt8 := encAll [ix, tm, kd] ++ encText dt

set_option maxRecDepth 100000 in
set_option maxHeartbeats 1000000 in
theorem wEntry_any (b ix tm kd : Nat) (dt l : List UInt8) (w : World) (h : WInv b w l) (h1 : ix ≤ 1099511627775) (h2 : tm ≤ 1099511627775) (h3 : kd ≤ 1099511627775) (h4 : dt.length ≤ 256) (hl : l.length ≤ 10000000000) :
    Calls Try.prog 83 #[.pointer (some ⟨b, 0, none⟩), .agg #[.int .i64 ix, .int .i64 tm, .int .i64 kd, .string (bs dt)]] w fun e w' => e = .returned (.tuple #[]) ∧ WInv b w' (l ++ encEnt ix tm kd dt) ∧ Kept (Wr b) w w' := by
  have hlt := h.lt
  have HX : Hid (¬ Wr b w.heap.size (.cells #[.int .i64 ix, .int .i64 tm, .int .i64 kd, .string (bs dt)] 52)) := not_wr (Nat.ne_of_gt hlt) (by decide)
  have HB : Hid (_) := blk_past (blk_new w (.cells #[.int .i64 ix, .int .i64 tm, .int .i64 kd, .string (bs dt)] 52)) (.cells #[.int .i64 ix, .int .i64 tm, .int .i64 kd] 3)
  have hg := blk_new (w.alloc (.cells #[.int .i64 ix, .int .i64 tm, .int .i64 kd, .string (bs dt)] 52)) (.cells #[.int .i64 ix, .int .i64 tm, .int .i64 kd] 3)
  rw [show (w.alloc (.cells #[.int .i64 ix, .int .i64 tm, .int .i64 kd, .string (bs dt)] 52)).heap.size = w.heap.size + 1 by simp] at hg
  have hle : ∀ n ∈ [ix, tm, kd], n ≤ 1099511627775 := by intro n hn'; simp at hn'; omega
  have H := wNumbers_any b (w.heap.size + 1) 3 _ _ [ix, tm, kd] l _ ((h.alloc _).alloc _) hg (by omega) (ints3 w _ ix tm kd) hle (by simp) (by omega)
  have HL : Hid ((encAll [ix, tm, kd]).length ≤ 18 ∧ l.length ≤ 10000000000 ∧ dt.length ≤ 256) := by
    have := encAll_len [ix, tm, kd] hle
    exact ⟨by simpa using this, hl, h4⟩
  unfold encEnt
  rw [← List.append_assoc]
  clear h1 h2 h3 h4 hl hlt hg hle
  go_enter Try.func83, Try.ntmps83
  go_wp2_with fail
  refine H.mono ?_
  rintro e w1 ⟨rfl, i1, k1⟩
  have X1 := k1.block _ _ HB.out HX.out
  have q3 := blk_at X1 3 rfl
  clear X1
  go_wp2_with fail
  refine (wText_any b dt _ w1 i1 (by have := HL.out; omega) (by have := HL.out; simp only [List.length_append]; omega)).mono ?_
  rintro e w2 ⟨rfl, i2, k2⟩
  go_wp2
  go_end0
  exact ⟨rfl, i2, ((((Kept.refl _ _).alloc _).alloc _).trans k1).trans k2⟩

set_option maxRecDepth 100000 in
set_option maxHeartbeats 1000000 in
theorem writeEnt_ok (ix tm kd : Nat) (dt : List UInt8) (w : World) (h1 : ix ≤ 1099511627775) (h2 : tm ≤ 1099511627775) (h3 : kd ≤ 1099511627775) (h4 : dt.length ≤ 256) (c : Int) :
    Calls Try.prog 81 #[.agg #[.int .i64 ix, .int .i64 tm, .int .i64 kd, .string (bs dt)], .bool true, .int .i64 c, .func (.func 83) #[] #[]] w fun e w' => e = .returned (.tuple #[.string (bs (encEnt ix tm kd dt)), .int .i64 0]) ∧ Kept Nil w w' := by
  have H := fun b w h => wEntry_any b ix tm kd dt [] w h h1 h2 h3 h4 (by simp)
  simp only [List.nil_append] at H
  clear h1 h2 h3 h4
  have hw := winv_new (w.alloc (.cells #[.int .i64 ix, .int .i64 tm, .int .i64 kd, .string (bs dt)] 52))
  have H1 := H _ _ hw
  have es : (w.alloc (.cells #[.int .i64 ix, .int .i64 tm, .int .i64 kd, .string (bs dt)] 52)).heap.size = w.heap.size + 1 := by simp
  rw [es] at H1
  clear hw H es
  go_enter Try.func81, Try.ntmps81
  go_wp2_with fail
  refine H1.mono ?_
  rintro e w1 ⟨rfl, ⟨ao, c', hb, ho⟩, hk⟩
  have h0 := blk_at hb 0 rfl
  have hcv := conv_own ho
  go_wp2
  go_ret2
  refine ⟨rfl, Kept.ofNew (((Kept.refl _ _).alloc _).alloc _) hk ?_⟩
  rintro k o (rfl | ⟨hk, _⟩) <;> omega

set_option maxRecDepth 100000 in
theorem writeEnt_no (cs : Array Value) (w : World) (c : Int) (f : Value) :
    Calls Try.prog 81 #[.agg cs, .bool false, .int .i64 c, f] w fun e w' => e = .returned (.tuple #[.string (bs []), .int .i64 c]) ∧ Kept Nil w w' := by
  go_enter Try.func81, Try.ntmps81
  go_wp2
  go_ret2
  exact ⟨rfl, (Kept.refl _ _).alloc _⟩

/-- What PutEntry answers. -/
def putEnt (x : En) : List UInt8 × Int := if x.ok then (encEnt x.ix.toNat x.tm.toNat x.kd.toNat x.dt, 0) else ([], 6)
theorem isCnt_nat {x : Int} (h : isCnt x = true) : (x.toNat : Int) = x ∧ x.toNat ≤ 1099511627775 := by
  simp only [isCnt, Bool.and_eq_true, decide_eq_true_eq] at h
  omega
theorem En.facts {x : En} (h : x.ok = true) : isCnt x.ix = true ∧ isCnt x.tm = true ∧ (0 ≤ x.kd ∧ x.kd ≤ 2) ∧ x.dt.length ≤ 256 := by
  unfold En.ok at h
  simp only [Bool.and_eq_true] at h
  obtain ⟨⟨h1, h2⟩, h3⟩ := h
  split at h3
  · rename_i h0
    rw [List.isEmpty_iff] at h3
    rw [h3]
    exact ⟨h1, h2, by omega, by simp⟩
  · split at h3
    · rename_i h0
      exact ⟨h1, h2, by omega, of_decide_eq_true h3⟩
    · cases h3

theorem writeEnt_any (ix tm kd : Int) (dt : List UInt8) (w : World) :
    Calls Try.prog 81 #[.agg #[.int .i64 ix, .int .i64 tm, .int .i64 kd, .string (bs dt)], .bool (En.ok ⟨ix, tm, kd, dt⟩), .int .i64 6, .func (.func 83) #[] #[]] w fun e w' => e = .returned (.tuple #[.string (bs (putEnt ⟨ix, tm, kd, dt⟩).1), .int .i64 (putEnt ⟨ix, tm, kd, dt⟩).2]) ∧ Kept Nil w w' := by
  cases hq : En.ok ⟨ix, tm, kd, dt⟩ with
  | false =>
    have e : putEnt ⟨ix, tm, kd, dt⟩ = ([], 6) := by unfold putEnt; rw [hq]; rfl
    rw [e]
    exact writeEnt_no _ w 6 _
  | true =>
    have e : putEnt ⟨ix, tm, kd, dt⟩ = (encEnt ix.toNat tm.toNat kd.toNat dt, 0) := by unfold putEnt; rw [hq]; rfl
    rw [e]
    obtain ⟨a1, a2, a3, a4⟩ := En.facts hq
    have b1 := isCnt_nat a1
    have b2 := isCnt_nat a2
    simp only at a3
    have b3 : (kd.toNat : Int) = kd := by omega
    have H := writeEnt_ok ix.toNat tm.toNat kd.toNat dt w b1.2 b2.2 (by omega) a4 6
    rw [b1.1, b2.1, b3] at H
    exact H

set_option maxRecDepth 100000 in
set_option maxHeartbeats 1000000 in
theorem putEntry_any (ix tm kd : Int) (dt : List UInt8) (w : World) (hd : dt.length ≤ maxLen) :
    Calls Try.prog 38 #[.agg #[.int .i64 ix, .int .i64 tm, .int .i64 kd, .string (bs dt)]] w fun e w' => e = .returned (.tuple #[.string (bs (putEnt ⟨ix, tm, kd, dt⟩).1), .int .i64 (putEnt ⟨ix, tm, kd, dt⟩).2]) ∧ Kept Nil w w' := by
  have H1 := fun w => isEntry_any ix tm kd dt w hd
  have H2 := fun w => writeEnt_any ix tm kd dt w
  generalize En.ok ⟨ix, tm, kd, dt⟩ = okb at H1 H2
  generalize putEnt ⟨ix, tm, kd, dt⟩ = pr at H2 ⊢
  obtain ⟨p1, p2⟩ := pr
  simp only at H2 ⊢
  clear hd
  have HB : Hid (_) := blk_new w (.cells #[.int .i64 ix, .int .i64 tm, .int .i64 kd, .string (bs dt)] 52)
  go_enter Try.func38, Try.ntmps38
  go_wp2
  go_region_with (first | (go_at_call 82; go_must (refine (H1 _).mono ?_); rintro e w1 ⟨rfl, k1⟩; have X1 := k1.block _ _ HB.out (fun x => x.elim); have q0 := blk_at X1 0 rfl; have q1 := blk_at X1 1 rfl; have q2 := blk_at X1 2 rfl; have q3 := blk_at X1 3 rfl; clear X1) | (go_at_call 81; go_must (refine (H2 _).mono ?_); rintro e w2 ⟨rfl, k2⟩))
  all_goals go_wp2
  all_goals go_ret2
  all_goals exact ⟨rfl, (((Kept.refl _ _).alloc _).drew.trans k1).trans k2⟩

/-! ### the document's -/
theorem encEnt_eq (ix tm kd : Nat) (dt : List UInt8) : encEnt ix tm kd dt = enc ix ++ enc tm ++ enc kd ++ encText dt := by simp [encEnt, encAll]

set_option maxRecDepth 100000 in
set_option maxHeartbeats 1000000 in
theorem refEntry_any (ix tm kd : Nat) (dt : List UInt8) (w : World) (h1 : ix ≤ 1099511627775) (h2 : tm ≤ 1099511627775) (h3 : kd ≤ 1099511627775) (h4 : dt.length ≤ 256) :
    Calls Try.prog 85 #[.agg #[.int .i64 ix, .int .i64 tm, .int .i64 kd, .string (bs dt)]] w fun e w' => e = .returned (.string (bs (encEnt ix tm kd dt))) ∧ Kept Nil w w' := by
  have HB : Hid (_) := blk_new w (.cells #[.int .i64 ix, .int .i64 tm, .int .i64 kd, .string (bs dt)] 52)
  have N1 := refNum_any ix h1
  have N2 := refNum_any tm h2
  have N3 := refNum_any kd h3
  have N4 := fun w => refTextOf_any dt w (by omega)
  have z1 : (bs (enc ix)).size ≤ 6 := by rw [bs_size]; exact enc_len6 h1
  have z2 : (bs (enc tm)).size ≤ 6 := by rw [bs_size]; exact enc_len6 h2
  have z3 : (bs (enc kd)).size ≤ 6 := by rw [bs_size]; exact enc_len6 h3
  have z4 : (bs (encText dt)).size ≤ 262 := by
    rw [bs_size]
    have := encText_len (l := dt) (by omega)
    omega
  have z5 : (bs (enc ix) ++ bs (enc tm)).size ≤ 12 := by rw [bs_append, bs_size, List.length_append]; rw [bs_size] at z1 z2; omega
  have z6 : (bs (enc ix) ++ bs (enc tm) ++ bs (enc kd)).size ≤ 18 := by rw [bs_append, bs_append, bs_size, List.length_append, List.length_append]; rw [bs_size] at z1 z2 z3; omega
  have HE : Hid (bs (enc ix) ++ bs (enc tm) ++ bs (enc kd) ++ bs (encText dt) = bs (encEnt ix tm kd dt)) := by show _ = _; rw [bs_append, bs_append, bs_append, encEnt_eq]
  clear h1 h2 h3 h4
  rw [← HE.out]
  go_enter Try.func85, Try.ntmps85
  go_wp2_with fail
  refine (N1 _).mono ?_
  rintro e w1 ⟨rfl, k1⟩
  have X1 := k1.block _ _ HB.out (fun x => x.elim)
  have q1 := blk_at X1 1 rfl
  go_wp2_with fail
  refine (N2 _).mono ?_
  rintro e w2 ⟨rfl, k2⟩
  have X2 := k2.block _ _ X1 (fun x => x.elim)
  have q2 := blk_at X2 2 rfl
  go_wp2_with fail
  refine (N3 _).mono ?_
  rintro e w3 ⟨rfl, k3⟩
  have X3 := k3.block _ _ X2 (fun x => x.elim)
  have q3 := blk_at X3 3 rfl
  go_wp2_with fail
  refine (N4 _).mono ?_
  rintro e w4 ⟨rfl, k4⟩
  go_wp2
  go_ret
  exact ⟨rfl, (((((Kept.refl _ _).alloc _).trans k1).trans k2).trans k3).trans k4⟩

set_option maxRecDepth 100000 in
set_option maxHeartbeats 1000000 in
theorem refPutEntry_any (ix tm kd : Int) (dt : List UInt8) (w : World) (hd : dt.length ≤ maxLen) :
    Calls Try.prog 39 #[.agg #[.int .i64 ix, .int .i64 tm, .int .i64 kd, .string (bs dt)]] w fun e w' => e = .returned (.tuple #[.string (bs (putEnt ⟨ix, tm, kd, dt⟩).1), .int .i64 (putEnt ⟨ix, tm, kd, dt⟩).2]) ∧ Kept Nil w w' := by
  have H1 := fun w => refIsEntry_any ix tm kd dt w hd
  have HB : Hid (_) := blk_new w (.cells #[.int .i64 ix, .int .i64 tm, .int .i64 kd, .string (bs dt)] 52)
  clear hd
  cases hq : En.ok ⟨ix, tm, kd, dt⟩ with
  | false =>
    have e : putEnt ⟨ix, tm, kd, dt⟩ = ([], 6) := by unfold putEnt; rw [hq]; rfl
    rw [e]
    rw [hq] at H1
    clear e hq
    go_enter Try.func39, Try.ntmps39
    go_wp2_with fail
    refine (H1 _).mono ?_
    rintro e w1 ⟨rfl, k1⟩
    go_wp2
    go_ret2
    exact ⟨rfl, ((Kept.refl _ _).alloc _).trans k1⟩
  | true =>
    have e : putEnt ⟨ix, tm, kd, dt⟩ = (encEnt ix.toNat tm.toNat kd.toNat dt, 0) := by unfold putEnt; rw [hq]; rfl
    rw [e]
    obtain ⟨a1, a2, a3, a4⟩ := En.facts hq
    have b1 := isCnt_nat a1
    have b2 := isCnt_nat a2
    simp only at a3
    have b3 : (kd.toNat : Int) = kd := by omega
    have H2 := fun w => refEntry_any ix.toNat tm.toNat kd.toNat dt w b1.2 b2.2 (by omega) a4
    rw [b1.1, b2.1, b3] at H2
    rw [hq] at H1
    clear e hq a1 a2 a3 a4 b1 b2 b3
    generalize encEnt ix.toNat tm.toNat kd.toNat dt = r at H2 ⊢
    go_enter Try.func39, Try.ntmps39
    go_wp2_with fail
    refine (H1 _).mono ?_
    rintro e w1 ⟨rfl, k1⟩
    have X1 := k1.block _ _ HB.out (fun x => x.elim)
    have q0 := blk_at X1 0 rfl
    have q1 := blk_at X1 1 rfl
    have q2 := blk_at X1 2 rfl
    have q3 := blk_at X1 3 rfl
    go_wp2_with fail
    refine (H2 _).mono ?_
    rintro e w2 ⟨rfl, k2⟩
    go_wp2
    go_ret2
    exact ⟨rfl, (((Kept.refl _ _).alloc _).trans k1).trans k2⟩

end Go.Proofs.Ytijklginabipgaa
