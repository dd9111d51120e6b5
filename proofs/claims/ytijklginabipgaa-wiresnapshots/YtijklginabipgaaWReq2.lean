/-
  A request written: the writer's request, write, PutRequest.
-/
import Derived.Test.YtijklginabipgaaWReq1
import Derived.Test.YtijklginabipgaaWOld
import Derived.Deep.RegionWith
namespace Go.Proofs.Ytijklginabipgaa
open Go.RowKit


/-- A request's bytes. -/
def encReq (cl nm kd : Nat) (key val : List UInt8) (ifv tm : Nat) : List UInt8 := encAll [cl, nm, tm] ++ (if cl = 0 then [] else encCmd kd key val ifv)

set_option maxRecDepth 100000 in
set_option maxHeartbeats 1000000 in
theorem wRequest_any (b cl nm kd ifv tm : Nat) (key val l : List UInt8) (w : World) (h : WInv b w l) (hc : cl ≤ 1099511627775) (hn : nm ≤ 1099511627775) (ht : tm ≤ 1099511627775)
    (h1 : kd ≤ 1099511627775) (h2 : ifv ≤ 1099511627775) (h3 : key.length ≤ 16) (h4 : val.length ≤ 64) (hl : l.length ≤ 10000000000) :
    Calls Try.prog 119 #[.pointer (some ⟨b, 0, none⟩), .agg #[.int .i64 cl, .int .i64 nm, .int .i64 kd, .string (bs key), .string (bs val), .int .i64 ifv, .int .i64 tm]] w fun e w' => e = .returned (.tuple #[]) ∧ WInv b w' (l ++ encReq cl nm kd key val ifv tm) ∧ Kept (Wr b) w w' := by
  have hlt := h.lt
  have HX : Hid (¬ Wr b w.heap.size (.cells #[.int .i64 cl, .int .i64 nm, .int .i64 kd, .string (bs key), .string (bs val), .int .i64 ifv, .int .i64 tm] 79)) := not_wr (Nat.ne_of_gt hlt) (by decide)
  have HB : Hid (_) := blk_past (blk_new w (.cells #[.int .i64 cl, .int .i64 nm, .int .i64 kd, .string (bs key), .string (bs val), .int .i64 ifv, .int .i64 tm] 79)) (.cells #[.int .i64 cl, .int .i64 nm, .int .i64 tm] 3)
  have hg := blk_new (w.alloc (.cells #[.int .i64 cl, .int .i64 nm, .int .i64 kd, .string (bs key), .string (bs val), .int .i64 ifv, .int .i64 tm] 79)) (.cells #[.int .i64 cl, .int .i64 nm, .int .i64 tm] 3)
  rw [show (w.alloc (.cells #[.int .i64 cl, .int .i64 nm, .int .i64 kd, .string (bs key), .string (bs val), .int .i64 ifv, .int .i64 tm] 79)).heap.size = w.heap.size + 1 by simp] at hg
  have H := wNumbers_any b (w.heap.size + 1) 3 _ _ [cl, nm, tm] l _ ((h.alloc _).alloc _) hg (by omega) (ints3 w _ cl nm tm) (by intro n hn'; simp at hn'; omega) (by simp) (by omega)
  have HL : Hid ((encAll [cl, nm, tm]).length ≤ 18 ∧ l.length ≤ 10000000000) := by
    have := encAll_len [cl, nm, tm] (by intro n hn'; simp at hn'; omega)
    exact ⟨by simpa using this, hl⟩
  have HC := fun w h => wCommand_any b kd ifv key val (l ++ encAll [cl, nm, tm]) w h h1 h2 h3 h4 (by have := HL.out; simp only [List.length_append]; omega)
  unfold encReq
  rw [← List.append_assoc]
  clear hc hn ht h1 h2 h3 h4 hl hlt hg
  by_cases c0 : cl = 0
  · subst c0
    rw [if_pos rfl, List.append_nil]
    go_enter Try.func119, Try.ntmps119
    go_wp2_with fail
    refine H.mono ?_
    rintro e w1 ⟨rfl, i1, k1⟩
    have q0 := blk_at (k1.block _ _ HB.out HX.out) 0 rfl
    go_wp2
    go_end0
    exact ⟨rfl, i1, (((Kept.refl _ _).alloc _).alloc _).trans k1⟩
  · have c1 : ((cl : Int) != 0) = true := by simpa using c0
    rw [if_neg c0]
    go_enter Try.func119, Try.ntmps119
    go_wp2_with fail
    refine H.mono ?_
    rintro e w1 ⟨rfl, i1, k1⟩
    have X1 := k1.block _ _ HB.out HX.out
    have q0 := blk_at X1 0 rfl
    have q2 := blk_at X1 2 rfl
    have q3 := blk_at X1 3 rfl
    have q4 := blk_at X1 4 rfl
    have q5 := blk_at X1 5 rfl
    clear X1
    go_wp2_with fail
    refine (HC _ i1).mono ?_
    rintro e w2 ⟨rfl, i2, k2⟩
    go_wp2
    go_end0
    exact ⟨rfl, i2, ((((Kept.refl _ _).alloc _).alloc _).trans k1).trans k2⟩

set_option maxRecDepth 100000 in
set_option maxHeartbeats 1000000 in
theorem writeReq_ok (cl nm kd ifv tm : Nat) (key val : List UInt8) (w : World) (hc : cl ≤ 1099511627775) (hn : nm ≤ 1099511627775) (ht : tm ≤ 1099511627775)
    (h1 : kd ≤ 1099511627775) (h2 : ifv ≤ 1099511627775) (h3 : key.length ≤ 16) (h4 : val.length ≤ 64) (c : Int) :
    Calls Try.prog 117 #[.agg #[.int .i64 cl, .int .i64 nm, .int .i64 kd, .string (bs key), .string (bs val), .int .i64 ifv, .int .i64 tm], .bool true, .int .i64 c, .func (.func 119) #[] #[]] w fun e w' => e = .returned (.tuple #[.string (bs (encReq cl nm kd key val ifv tm)), .int .i64 0]) ∧ Kept Nil w w' := by
  have H := fun b w h => wRequest_any b cl nm kd ifv tm key val [] w h hc hn ht h1 h2 h3 h4 (by simp)
  simp only [List.nil_append] at H
  clear hc hn ht h1 h2 h3 h4
  have hw := winv_new (w.alloc (.cells #[.int .i64 cl, .int .i64 nm, .int .i64 kd, .string (bs key), .string (bs val), .int .i64 ifv, .int .i64 tm] 79))
  have H1 := H _ _ hw
  have es : (w.alloc (.cells #[.int .i64 cl, .int .i64 nm, .int .i64 kd, .string (bs key), .string (bs val), .int .i64 ifv, .int .i64 tm] 79)).heap.size = w.heap.size + 1 := by simp
  rw [es] at H1
  clear hw H es
  go_enter Try.func117, Try.ntmps117
  go_wp2_with fail
  refine H1.mono ?_
  rintro e w1 ⟨rfl, ⟨ao, c', hb, ho⟩, hk⟩
  have h0 := blk_at hb 0 rfl
  have hcv := conv_own ho
  go_wp2
  go_ret2
  refine ⟨rfl, Kept.ofNew (((Kept.refl _ _).alloc _).alloc _) hk ?_⟩
  rintro k o (rfl | ⟨hk, _⟩) <;> omega

set_option maxRecDepth 100000 in
theorem writeReq_no (cs : Array Value) (w : World) (c : Int) (f : Value) :
    Calls Try.prog 117 #[.agg cs, .bool false, .int .i64 c, f] w fun e w' => e = .returned (.tuple #[.string (bs []), .int .i64 c]) ∧ Kept Nil w w' := by
  go_enter Try.func117, Try.ntmps117
  go_wp2
  go_ret2
  exact ⟨rfl, (Kept.refl _ _).alloc _⟩

/-- What PutRequest answers. -/
def putReq (q : Rq) : List UInt8 × Int := if q.ok then (encReq q.cl.toNat q.nm.toNat q.kd.toNat q.key q.val q.ifv.toNat q.tm.toNat, 0) else ([], 5)

theorem isCmd_facts {k i : Int} {key val : List UInt8} (h : isCmd k key val i = true) : isNum k = true ∧ isNum i = true ∧ key.length ≤ 16 ∧ val.length ≤ 64 := by
  unfold isCmd at h
  simp only [Bool.and_eq_true, decide_eq_true_eq] at h
  obtain ⟨⟨⟨h1, h2⟩, h3⟩, h4⟩ := h
  refine ⟨?_, h3, h1, h2⟩
  have : k = 6 ∨ k = 2 ∨ k = 3 ∨ k = 1 ∨ k = 5 ∨ k = 4 := by
    rcases Decidable.em (k = 6 ∨ k = 2 ∨ k = 3 ∨ k = 1 ∨ k = 5 ∨ k = 4) with g | g
    · exact g
    · have n6 : k ≠ 6 := by omega
      have n2 : k ≠ 2 := by omega
      have n3 : k ≠ 3 := by omega
      have n1 : k ≠ 1 := by omega
      have n5 : k ≠ 5 := by omega
      have n4 : k ≠ 4 := by omega
      simp [n6, n2, n3, n1, n5, n4] at h4
  simp only [isNum, Bool.and_eq_true, decide_eq_true_eq]
  omega
theorem ok_facts {q : Rq} (h : q.ok = true) : isNum q.cl = true ∧ isNum q.nm = true ∧ isNum q.tm = true ∧ isNum q.kd = true ∧ isNum q.ifv = true ∧ q.key.length ≤ 16 ∧ q.val.length ≤ 64 := by
  unfold Rq.ok at h
  simp only [Bool.and_eq_true] at h
  obtain ⟨⟨⟨h1, h2⟩, h3⟩, h4⟩ := h
  split at h4
  · unfold Rq.none at h4
    simp only [Bool.and_eq_true, decide_eq_true_eq, List.isEmpty_iff] at h4
    obtain ⟨⟨⟨a, b⟩, c⟩, d⟩ := h4
    rw [a, b, c, d]
    exact ⟨h1, h2, h3, by decide, by decide, by simp, by simp⟩
  · obtain ⟨a, b, c, d⟩ := isCmd_facts h4
    exact ⟨h1, h2, h3, a, b, c, d⟩

theorem writeReq_any (cl nm kd ifv tm : Int) (key val : List UInt8) (w : World) :
    Calls Try.prog 117 #[.agg #[.int .i64 cl, .int .i64 nm, .int .i64 kd, .string (bs key), .string (bs val), .int .i64 ifv, .int .i64 tm], .bool (Rq.ok ⟨cl, nm, kd, key, val, ifv, tm⟩), .int .i64 5, .func (.func 119) #[] #[]] w fun e w' => e = .returned (.tuple #[.string (bs (putReq ⟨cl, nm, kd, key, val, ifv, tm⟩).1), .int .i64 (putReq ⟨cl, nm, kd, key, val, ifv, tm⟩).2]) ∧ Kept Nil w w' := by
  cases hq : Rq.ok ⟨cl, nm, kd, key, val, ifv, tm⟩ with
  | false =>
    have e : putReq ⟨cl, nm, kd, key, val, ifv, tm⟩ = ([], 5) := by unfold putReq; rw [hq]; rfl
    rw [e]
    exact writeReq_no _ w 5 _
  | true =>
    have e : putReq ⟨cl, nm, kd, key, val, ifv, tm⟩ = (encReq cl.toNat nm.toNat kd.toNat key val ifv.toNat tm.toNat, 0) := by unfold putReq; rw [hq]; rfl
    rw [e]
    obtain ⟨a1, a2, a3, a4, a5, a6, a7⟩ := ok_facts hq
    have b1 := isNum_nat a1
    have b2 := isNum_nat a2
    have b3 := isNum_nat a3
    have b4 := isNum_nat a4
    have b5 := isNum_nat a5
    have H := writeReq_ok cl.toNat nm.toNat kd.toNat ifv.toNat tm.toNat key val w b1.2 b2.2 b3.2 b4.2 b5.2 a6 a7 5
    rw [b1.1, b2.1, b3.1, b4.1, b5.1] at H
    exact H

set_option maxRecDepth 100000 in
set_option maxHeartbeats 1000000 in
theorem putRequest_any (cl nm kd ifv tm : Int) (key val : List UInt8) (w : World) (hk : key.length ≤ maxLen) (hv : val.length ≤ maxLen) :
    Calls Try.prog 56 #[.agg #[.int .i64 cl, .int .i64 nm, .int .i64 kd, .string (bs key), .string (bs val), .int .i64 ifv, .int .i64 tm]] w fun e w' => e = .returned (.tuple #[.string (bs (putReq ⟨cl, nm, kd, key, val, ifv, tm⟩).1), .int .i64 (putReq ⟨cl, nm, kd, key, val, ifv, tm⟩).2]) ∧ Kept Nil w w' := by
  have H1 := fun w => isRequest_any cl nm kd ifv tm key val w hk hv
  have H2 := fun w => writeReq_any cl nm kd ifv tm key val w
  generalize Rq.ok ⟨cl, nm, kd, key, val, ifv, tm⟩ = okb at H1 H2
  generalize putReq ⟨cl, nm, kd, key, val, ifv, tm⟩ = pr at H2 ⊢
  obtain ⟨p1, p2⟩ := pr
  simp only at H2 ⊢
  clear hk hv
  have HB : Hid (_) := blk_new w (.cells #[.int .i64 cl, .int .i64 nm, .int .i64 kd, .string (bs key), .string (bs val), .int .i64 ifv, .int .i64 tm] 79)
  go_enter Try.func56, Try.ntmps56
  go_wp2
  go_region_with (first | (go_at_call 118; go_must (refine (H1 _).mono ?_); rintro e w1 ⟨rfl, k1⟩; have X1 := k1.block _ _ HB.out (fun x => x.elim); have q0 := blk_at X1 0 rfl; have q1 := blk_at X1 1 rfl; have q2 := blk_at X1 2 rfl; have q3 := blk_at X1 3 rfl; have q4 := blk_at X1 4 rfl; have q5 := blk_at X1 5 rfl; have q6 := blk_at X1 6 rfl; clear X1) | (go_at_call 117; go_must (refine (H2 _).mono ?_); rintro e w2 ⟨rfl, k2⟩))
  all_goals go_wp2
  all_goals go_ret2
  all_goals exact ⟨rfl, (((Kept.refl _ _).alloc _).drew.trans k1).trans k2⟩

end Go.Proofs.Ytijklginabipgaa
