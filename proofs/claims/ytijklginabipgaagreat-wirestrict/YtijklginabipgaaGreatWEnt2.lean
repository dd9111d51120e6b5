/-
  An entry written: the writer's entry, write, PutEntry; and the document's: the same bytes.
-/
import Derived.Test.YtijklginabipgaaGreatWEnt1
namespace Go.Proofs.YtijklginabipgaaGreat
open Go.RowKit

/-- An entry's bytes. -/
def encEnt (ix tm kd : Nat) (dt : List UInt8) : List UInt8 := encAll [ix, tm, kd] ++ encText dt

set_option maxRecDepth 100000 in
set_option maxHeartbeats 1000000 in
theorem wEntry_any (b ix tm kd : Nat) (dt l : List UInt8) (w : World) (h : WInv b w l) (h1 : ix ≤ 1099511627775) (h2 : tm ≤ 1099511627775) (h3 : kd ≤ 1099511627775) (h4 : dt.length ≤ 256) (hl : l.length ≤ 10000000000) :
    Calls Tryz.prog 25 #[.pointer (some ⟨b, 0, none⟩), .agg #[.int .i64 ix, .int .i64 tm, .int .i64 kd, .string (bs dt)]] w fun e w' => e = .returned (.tuple #[]) ∧ WInv b w' (l ++ encEnt ix tm kd dt) ∧ Kept (Wr b) w w' := by
  have hlt := h.lt
  have HX : Hid (¬ Wr b w.heap.size (.cells #[.int .i64 ix, .int .i64 tm, .int .i64 kd, .string (bs dt)] 32)) := not_wr (Nat.ne_of_gt hlt) (by decide)
  have HB : Hid (_) := blk_past (blk_new w (.cells #[.int .i64 ix, .int .i64 tm, .int .i64 kd, .string (bs dt)] 32)) (.cells #[.int .i64 ix, .int .i64 tm, .int .i64 kd] 3)
  have hg := blk_new (w.alloc (.cells #[.int .i64 ix, .int .i64 tm, .int .i64 kd, .string (bs dt)] 32)) (.cells #[.int .i64 ix, .int .i64 tm, .int .i64 kd] 3)
  rw [show (w.alloc (.cells #[.int .i64 ix, .int .i64 tm, .int .i64 kd, .string (bs dt)] 32)).heap.size = w.heap.size + 1 by simp] at hg
  have hle : ∀ n ∈ [ix, tm, kd], n ≤ 1099511627775 := by intro n hn'; simp at hn'; omega
  have H := wNumbers_any b (w.heap.size + 1) 3 _ _ [ix, tm, kd] l _ ((h.alloc _).alloc _) hg (by omega) (ints3 w _ ix tm kd) hle (by simp) (by omega)
  have HL : Hid ((encAll [ix, tm, kd]).length ≤ 18 ∧ l.length ≤ 10000000000 ∧ dt.length ≤ 256) := by
    have := encAll_len [ix, tm, kd] hle
    exact ⟨by simpa using this, hl, h4⟩
  unfold encEnt
  rw [← List.append_assoc]
  clear h1 h2 h3 h4 hl hlt hg hle
  go_enter Tryz.func25, Tryz.ntmps25
  go_wp2_with fail
  refine H.mono ?_
  rintro e w1 ⟨rfl, i1, k1⟩
  have X1 := k1.block _ _ HB.out HX.out
  have q3 := blk_at X1 3 rfl
  clear X1
  go_wp2_with fail
  refine (wText_any b dt _ w1 i1 (by have := HL.out; omega) (by have := HL.out; simp only [List.length_append]; omega)).mono ?_
  rintro e w2 ⟨rfl, i2, k2⟩
  go_wp2
  go_end0
  exact ⟨rfl, i2, ((((Kept.refl _ _).alloc _).alloc _).trans k1).trans k2⟩

set_option maxRecDepth 100000 in
set_option maxHeartbeats 1000000 in
theorem writeEnt_ok (ix tm kd : Nat) (dt : List UInt8) (w : World) (h1 : ix ≤ 1099511627775) (h2 : tm ≤ 1099511627775) (h3 : kd ≤ 1099511627775) (h4 : dt.length ≤ 256) (c : Int) :
    Calls Tryz.prog 23 #[.agg #[.int .i64 ix, .int .i64 tm, .int .i64 kd, .string (bs dt)], .bool true, .int .i64 c, .func (.func 25) #[] #[]] w fun e w' => e = .returned (.tuple #[.string (bs (encEnt ix tm kd dt)), .int .i64 0]) ∧ Kept Nil w w' := by
  have H := fun b w h => wEntry_any b ix tm kd dt [] w h h1 h2 h3 h4 (by simp)
  simp only [List.nil_append] at H
  clear h1 h2 h3 h4
  have hw := winv_new (w.alloc (.cells #[.int .i64 ix, .int .i64 tm, .int .i64 kd, .string (bs dt)] 32))
  have H1 := H _ _ hw
  have es : (w.alloc (.cells #[.int .i64 ix, .int .i64 tm, .int .i64 kd, .string (bs dt)] 32)).heap.size = w.heap.size + 1 := by simp
  rw [es] at H1
  clear hw H es
  go_enter Tryz.func23, Tryz.ntmps23
  go_wp2_with fail
  refine H1.mono ?_
  rintro e w1 ⟨rfl, ⟨ao, c', hb, ho⟩, hk⟩
  have h0 := blk_at hb 0 rfl
  have hcv := conv_own ho
  go_wp2
  go_ret2
  refine ⟨rfl, Kept.ofNew (((Kept.refl _ _).alloc _).alloc _) hk ?_⟩
  rintro k o (rfl | ⟨hk, _⟩) <;> omega

set_option maxRecDepth 100000 in
theorem writeEnt_no (cs : Array Value) (w : World) (c : Int) (f : Value) :
    Calls Tryz.prog 23 #[.agg cs, .bool false, .int .i64 c, f] w fun e w' => e = .returned (.tuple #[.string (bs []), .int .i64 c]) ∧ Kept Nil w w' := by
  go_enter Tryz.func23, Tryz.ntmps23
  go_wp2
  go_ret2
  exact ⟨rfl, (Kept.refl _ _).alloc _⟩

/-- What PutEntry answers. -/
def putEnt (x : En) : List UInt8 × Int := if x.ok then (encEnt x.ix.toNat x.tm.toNat x.kd.toNat x.dt, 0) else ([], 6)
theorem isCnt_nat {x : Int} (h : isCnt x = true) : (x.toNat : Int) = x ∧ x.toNat ≤ 1099511627775 := by
  simp only [isCnt, Bool.and_eq_true, decide_eq_true_eq] at h
  omega
theorem En.facts {x : En} (h : x.ok = true) : isCnt x.ix = true ∧ isCnt x.tm = true ∧ (0 ≤ x.kd ∧ x.kd ≤ 2) ∧ x.dt.length ≤ 256 := by
  unfold En.ok at h
  simp only [Bool.and_eq_true] at h
  obtain ⟨⟨h1, h2⟩, h3⟩ := h
  split at h3
  · rename_i h0
    rw [List.isEmpty_iff] at h3
    rw [h3]
    exact ⟨h1, h2, by omega, by simp⟩
  · split at h3
    · rename_i h0
      exact ⟨h1, h2, by omega, of_decide_eq_true h3⟩
    · cases h3

theorem writeEnt_any (ix tm kd : Int) (dt : List UInt8) (w : World) :
    Calls Tryz.prog 23 #[.agg #[.int .i64 ix, .int .i64 tm, .int .i64 kd, .string (bs dt)], .bool (En.ok ⟨ix, tm, kd, dt⟩), .int .i64 6, .func (.func 25) #[] #[]] w fun e w' => e = .returned (.tuple #[.string (bs (putEnt ⟨ix, tm, kd, dt⟩).1), .int .i64 (putEnt ⟨ix, tm, kd, dt⟩).2]) ∧ Kept Nil w w' := by
  cases hq : En.ok ⟨ix, tm, kd, dt⟩ with
  | false =>
    have e : putEnt ⟨ix, tm, kd, dt⟩ = ([], 6) := by unfold putEnt; rw [hq]; rfl
    rw [e]
    exact writeEnt_no _ w 6 _
  | true =>
    have e : putEnt ⟨ix, tm, kd, dt⟩ = (encEnt ix.toNat tm.toNat kd.toNat dt, 0) := by unfold putEnt; rw [hq]; rfl
    rw [e]
    obtain ⟨a1, a2, a3, a4⟩ := En.facts hq
    have b1 := isCnt_nat a1
    have b2 := isCnt_nat a2
    simp only at a3
    have b3 : (kd.toNat : Int) = kd := by omega
    have H := writeEnt_ok ix.toNat tm.toNat kd.toNat dt w b1.2 b2.2 (by omega) a4 6
    rw [b1.1, b2.1, b3] at H
    exact H

set_option maxRecDepth 100000 in
set_option maxHeartbeats 1000000 in
theorem putEntry_any (ix tm kd : Int) (dt : List UInt8) (w : World) (hd : dt.length ≤ maxLen) :
    Calls Tryz.prog 7 #[.agg #[.int .i64 ix, .int .i64 tm, .int .i64 kd, .string (bs dt)]] w fun e w' => e = .returned (.tuple #[.string (bs (putEnt ⟨ix, tm, kd, dt⟩).1), .int .i64 (putEnt ⟨ix, tm, kd, dt⟩).2]) ∧ Kept Nil w w' := by
  have H1 := fun w => isEntry_any ix tm kd dt w hd
  have H2 := fun w => writeEnt_any ix tm kd dt w
  generalize En.ok ⟨ix, tm, kd, dt⟩ = okb at H1 H2
  generalize putEnt ⟨ix, tm, kd, dt⟩ = pr at H2 ⊢
  obtain ⟨p1, p2⟩ := pr
  simp only at H2 ⊢
  clear hd
  have HB : Hid (_) := blk_new w (.cells #[.int .i64 ix, .int .i64 tm, .int .i64 kd, .string (bs dt)] 32)
  go_enter Tryz.func7, Tryz.ntmps7
  go_wp2
  go_region_with (first | (go_at_call 24; go_must (refine (H1 _).mono ?_); rintro e w1 ⟨rfl, k1⟩; have X1 := k1.block _ _ HB.out (fun x => x.elim); have q0 := blk_at X1 0 rfl; have q1 := blk_at X1 1 rfl; have q2 := blk_at X1 2 rfl; have q3 := blk_at X1 3 rfl; clear X1) | (go_at_call 23; go_must (refine (H2 _).mono ?_); rintro e w2 ⟨rfl, k2⟩))
  all_goals go_wp2
  all_goals go_ret2
  all_goals exact ⟨rfl, (((Kept.refl _ _).alloc _).drew.trans k1).trans k2⟩

/-! ### the document's -/
theorem encEnt_eq (ix tm kd : Nat) (dt : List UInt8) : encEnt ix tm kd dt = enc ix ++ enc tm ++ enc kd ++ encText dt := by simp [encEnt, encAll]

end Go.Proofs.YtijklginabipgaaGreat
