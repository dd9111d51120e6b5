/-
  Joined: WGetR, WCmdR, WReq5, WReq6, WReq7, WReq8.
-/
import Derived.Test.YtijklginabipgaaWOlq
import Derived.Test.YtijklginabipgaaWCmd
/-
  The program's read at a request: caught or not; GetRequest.
-/
namespace Go.Proofs.Ytijklginabipgaa
open Go.RowKit

theorem blk_drewR {w : World} {b : Nat} {o : Obj} (h : w.heap[b]? = some o) : w.drew.heap[b]? = some o := h
theorem setsR {w : World} {A : Nat} {t : TypeId} {x0 x1 x2 x3 x4 x5 x6 : Value} (hA : w.heap[A]? = some (.cells #[x0, x1, x2, x3, x4, x5, x6] t (0, 0))) (v0 v1 v2 v3 v4 v5 v6 : Value) :
    (((((((w.setCell ⟨A, 0, none⟩ v0).setCell ⟨A, 1, none⟩ v1).setCell ⟨A, 2, none⟩ v2).setCell ⟨A, 3, none⟩ v3).setCell ⟨A, 4, none⟩ v4).setCell ⟨A, 5, none⟩ v5).setCell ⟨A, 6, none⟩ v6).heap[A]? = some (.cells #[v0, v1, v2, v3, v4, v5, v6] t (0, 0)) := by
  have s0 : (w.setCell ⟨A, 0, none⟩ v0).heap[A]? = some (.cells #[v0, x1, x2, x3, x4, x5, x6] t (0, 0)) := blk_set hA 0 v0
  have s1 : ((w.setCell ⟨A, 0, none⟩ v0).setCell ⟨A, 1, none⟩ v1).heap[A]? = some (.cells #[v0, v1, x2, x3, x4, x5, x6] t (0, 0)) := blk_set s0 1 v1
  have s2 : (((w.setCell ⟨A, 0, none⟩ v0).setCell ⟨A, 1, none⟩ v1).setCell ⟨A, 2, none⟩ v2).heap[A]? = some (.cells #[v0, v1, v2, x3, x4, x5, x6] t (0, 0)) := blk_set s1 2 v2
  have s3 : ((((w.setCell ⟨A, 0, none⟩ v0).setCell ⟨A, 1, none⟩ v1).setCell ⟨A, 2, none⟩ v2).setCell ⟨A, 3, none⟩ v3).heap[A]? = some (.cells #[v0, v1, v2, v3, x4, x5, x6] t (0, 0)) := blk_set s2 3 v3
  have s4 : (((((w.setCell ⟨A, 0, none⟩ v0).setCell ⟨A, 1, none⟩ v1).setCell ⟨A, 2, none⟩ v2).setCell ⟨A, 3, none⟩ v3).setCell ⟨A, 4, none⟩ v4).heap[A]? = some (.cells #[v0, v1, v2, v3, v4, x5, x6] t (0, 0)) := blk_set s3 4 v4
  have s5 : ((((((w.setCell ⟨A, 0, none⟩ v0).setCell ⟨A, 1, none⟩ v1).setCell ⟨A, 2, none⟩ v2).setCell ⟨A, 3, none⟩ v3).setCell ⟨A, 4, none⟩ v4).setCell ⟨A, 5, none⟩ v5).heap[A]? = some (.cells #[v0, v1, v2, v3, v4, v5, x6] t (0, 0)) := blk_set s4 5 v5
  have s6 : (((((((w.setCell ⟨A, 0, none⟩ v0).setCell ⟨A, 1, none⟩ v1).setCell ⟨A, 2, none⟩ v2).setCell ⟨A, 3, none⟩ v3).setCell ⟨A, 4, none⟩ v4).setCell ⟨A, 5, none⟩ v5).setCell ⟨A, 6, none⟩ v6).heap[A]? = some (.cells #[v0, v1, v2, v3, v4, v5, v6] t (0, 0)) := blk_set s5 6 v6
  exact s6

set_option maxRecDepth 100000 in
set_option maxHeartbeats 2000000 in
theorem catchR_panic (A E : Nat) (c : Int) (x0 x1 x2 x3 x4 x5 x6 z : Value) (w : World) (hA : w.heap[A]? = some (.cells #[x0, x1, x2, x3, x4, x5, x6] 79 (0, 0))) (hE : w.heap[E]? = some (.cells #[z] 28 (0, 0))) (hne : A ≠ E) :
    CallsD Try.prog 173 #[.pointer (some ⟨A, 0, none⟩), .pointer (some ⟨E, 0, none⟩)] (.panicking (up c)) w fun e u' w' =>
      e = .returned (.tuple #[]) ∧ u' = .panicking [{ v := .iface 187 (.agg #[.int .i64 c]), recovered := true }] ∧
      w'.heap[A]? = some (.cells #[.int .i64 0, .int .i64 0, .int .i64 0, .string (bs []), .string (bs []), .int .i64 0, .int .i64 0] 79 (0, 0)) ∧ w'.heap[E]? = some (.cells #[.int .i64 c] 28 (0, 0)) ∧ Kept (fun k _ => k = A ∨ k = E) w w' := by
  have a0 := blk_at hA 0 rfl
  have a1 := blk_at hA 1 rfl
  have a2 := blk_at hA 2 rfl
  have a3 := blk_at hA 3 rfl
  have a4 := blk_at hA 4 rfl
  have a5 := blk_at hA 5 rfl
  have a6 := blk_at hA 6 rfl
  have e0 := blk_at hE 0 rfl
  have fa0 := blk_free hA 0
  have fa1 := blk_free hA 1
  have fa2 := blk_free hA 2
  have fa3 := blk_free hA 3
  have fa4 := blk_free hA 4
  have fa5 := blk_free hA 5
  have fa6 := blk_free hA 6
  have fe0 := blk_free hE 0
  refine callsD_of_wpS Try.func173 rfl fun c₀ cs hu => ?_
  unfold up at hu
  apply wpS_seq
  apply wpS_region
  simp [wpOpsS, go_sem, recoverD, hu, Try.ntmps173, Exit.thenS]
  refine wpS_of_wp ?_
  rw [catch_slots]
  clear hu
  have hta := assert_up
  have hAl := lt_of_block hA
  have hEl := lt_of_block hE
  go_wp2
  go_region
  refine ⟨rfl, _, rfl, .tuple #[], by simp [results, Try.results173], rfl, rfl, ?_⟩
  refine ⟨?_, ?_, ?_⟩
  · exact blk_drewR (blk_past (blk_past (blk_other (setsR hA _ _ _ _ _ _ _) hne _) _) _)
  · exact blk_drewR (blk_past (blk_past (blk_set (blk_other (blk_other (blk_other (blk_other (blk_other (blk_other (blk_other (hE) hne.symm _) hne.symm _) hne.symm _) hne.symm _) hne.symm _) hne.symm _) hne.symm _) 0 _) _) _)
  · exact Kept.drew (Kept.alloc (Kept.alloc (((((((((Kept.refl _ _).setCell (fun _ => .inl rfl) _).setCell (fun _ => .inl rfl) _).setCell (fun _ => .inl rfl) _).setCell (fun _ => .inl rfl) _).setCell (fun _ => .inl rfl) _).setCell (fun _ => .inl rfl) _).setCell (fun _ => .inl rfl) _).setCell (fun _ => .inr rfl) _) _) _)

set_option maxRecDepth 100000 in
set_option maxHeartbeats 600000 in
theorem catchR_idle (A E : Addr) (w : World) :
    CallsD Try.prog 173 #[.pointer (some A), .pointer (some E)] .returning w fun e u' w' => e = .returned (.tuple #[]) ∧ u' = .returning ∧ w' = w := by
  refine callsD_of_wpS Try.func173 rfl fun c₀ cs hu => ?_
  apply wpS_seq
  apply wpS_region
  simp [wpOpsS, go_sem, recoverD, hu, Try.ntmps173, Exit.thenS]
  refine wpS_of_wp ?_
  rw [catch_slots]
  go_wp2
  refine ⟨rfl, .returning, ?_, .tuple #[], by simp [results, Try.results173], rfl, rfl, rfl⟩
  cases c₀
  simp_all

set_option maxRecDepth 100000 in
set_option maxHeartbeats 2000000 in
theorem readR_err (l : List UInt8) (c : Int) (w : World) (hr : rdReq l = .error c) :
    Calls Try.prog 120 #[.string (bs l), .func (.func 121) #[] #[]] w fun e w' => e = .returned (.tuple #[.agg #[.int .i64 0, .int .i64 0, .int .i64 0, .string (bs []), .string (bs []), .int .i64 0, .int .i64 0], .int .i64 c]) ∧ Kept Nil w w' := by
  have hmf : ∀ (fn : Fn) (first cap : Array Value) (w : World), (Instr.makeFunc fn first cap).run Try.prog w = .ok (.func fn first cap) w := fun _ _ _ _ => rfl
  obtain ⟨hA, hE, hR⟩ := three w (.cells #[.int .i64 0, .int .i64 0, .int .i64 0, .string (bs []), .string (bs []), .int .i64 0, .int .i64 0] 79) (.cells #[.int .i64 0] 28) (.cells #[.string (bs l)] 190)
  have H := RdPost.no (rRequest_any _ l _ (Left.ofBlk hR)) hr
  have HA : Hid _ := hA
  have HE : Hid _ := hE
  clear hA hE hR hr
  go_enter_defers Try.func120, Try.ntmps120
  go_wp2_with (first | (go_at_call 121; go_must (refine H.mono ?_); rintro e w1 ⟨rfl, hk⟩))
  have hA1 := hk.block _ _ HA.out (show ¬ w.heap.size = w.heap.size + 2 by omega)
  have hE1 := hk.block _ _ HE.out (show ¬ w.heap.size + 1 = w.heap.size + 2 by omega)
  refine leaves_cons (f := 173) (args := #[.pointer (some ⟨w.heap.size, 0, none⟩), .pointer (some ⟨w.heap.size + 1, 0, none⟩)]) (by simp) (by simp [go_sem]) ?_
  refine (catchR_panic w.heap.size (w.heap.size + 1) c _ _ _ _ _ _ _ _ w1 hA1 hE1 (by omega)).mono ?_
  rintro e u' w2 ⟨rfl, rfl, hA2, hE2, hk2⟩
  have a0 := blk_at hA2 0 rfl
  have a1 := blk_at hA2 1 rfl
  have a2 := blk_at hA2 2 rfl
  have a3 := blk_at hA2 3 rfl
  have a4 := blk_at hA2 4 rfl
  have a5 := blk_at hA2 5 rfl
  have a6 := blk_at hA2 6 rfl
  have e0 := blk_at hE2 0 rfl
  simp [Leaves, settle, results, Try.results120, go_sem, a0, a1, a2, a3, a4, a5, a6, e0]
  exact Kept.ofNew (Kept.ofNew ((((Kept.refl _ _).alloc _).alloc _).alloc _) hk (fun k _ h => by have : k = w.heap.size + 2 := h; omega)) hk2 (fun k _ h => by rcases h with rfl | rfl <;> omega)

set_option maxRecDepth 100000 in
set_option maxHeartbeats 2000000 in
theorem readR_ok (l : List UInt8) (q : Rq) (w : World) (hr : rdReq l = .ok (q, [])) :
    Calls Try.prog 120 #[.string (bs l), .func (.func 121) #[] #[]] w fun e w' => e = .returned (.tuple #[.agg #[.int .i64 q.cl, .int .i64 q.nm, .int .i64 q.kd, .string (bs q.key), .string (bs q.val), .int .i64 q.ifv, .int .i64 q.tm], .int .i64 0]) ∧ Kept Nil w w' := by
  have hmf : ∀ (fn : Fn) (first cap : Array Value) (w : World), (Instr.makeFunc fn first cap).run Try.prog w = .ok (.func fn first cap) w := fun _ _ _ _ => rfl
  obtain ⟨hA, hE, hR⟩ := three w (.cells #[.int .i64 0, .int .i64 0, .int .i64 0, .string (bs []), .string (bs []), .int .i64 0, .int .i64 0] 79) (.cells #[.int .i64 0] 28) (.cells #[.string (bs l)] 190)
  have H := RdPost.ok (rRequest_any _ l _ (Left.ofBlk hR)) hr
  have HA : Hid _ := hA
  have HE : Hid _ := hE
  have hq := bs_toList []
  clear hA hE hR hr
  go_enter_defers Try.func120, Try.ntmps120
  go_wp2_with (first | (go_at_call 121; go_must (refine H.mono ?_); rintro e w1 ⟨v, rfl, hv, hc, hz, hk⟩; unfold RqV at hv; subst hv; have hA1 := hk.block _ _ HA.out (show ¬ w.heap.size = w.heap.size + 2 by omega); have hE1 := hk.block _ _ HE.out (show ¬ w.heap.size + 1 = w.heap.size + 2 by omega); have a0 := blk_at hA1 0 rfl; have a1 := blk_at hA1 1 rfl; have a2 := blk_at hA1 2 rfl; have a3 := blk_at hA1 3 rfl; have a4 := blk_at hA1 4 rfl; have a5 := blk_at hA1 5 rfl; have a6 := blk_at hA1 6 rfl; have fa0 := blk_free hA1 0; have fa1 := blk_free hA1 1; have fa2 := blk_free hA1 2; have fa3 := blk_free hA1 3; have fa4 := blk_free hA1 4; have fa5 := blk_free hA1 5; have fa6 := blk_free hA1 6; have e0 := blk_at hE1 0 rfl; have fe0 := blk_free hE1 0) | (go_at_call 145; go_must (refine (must_ok _ _).mono ?_); rintro e w4 ⟨rfl, rfl⟩))
  refine leaves_cons (f := 173) (args := #[.pointer (some ⟨w.heap.size, 0, none⟩), .pointer (some ⟨w.heap.size + 1, 0, none⟩)]) (by simp) (by simp [go_sem]) ?_
  refine (catchR_idle ⟨w.heap.size, 0, none⟩ ⟨w.heap.size + 1, 0, none⟩ _).mono ?_
  rintro e u' w2 ⟨rfl, rfl, hw2⟩
  have hne : w.heap.size ≠ w.heap.size + 1 := by omega
  have hA3 : w2.heap[w.heap.size]? = some (.cells #[.int .i64 q.cl, .int .i64 q.nm, .int .i64 q.kd, .string (bs q.key), .string (bs q.val), .int .i64 q.ifv, .int .i64 q.tm] 79 (0, 0)) := by rw [hw2]; exact blk_other (setsR (setsR hA1 _ _ _ _ _ _ _) _ _ _ _ _ _ _) hne _
  have hE3 : w2.heap[w.heap.size + 1]? = some (.cells #[.int .i64 0] 28 (0, 0)) := by rw [hw2]; exact blk_set (blk_other (blk_other (blk_other (blk_other (blk_other (blk_other (blk_other (blk_other (blk_other (blk_other (blk_other (blk_other (blk_other (blk_other (hE1) hne.symm _) hne.symm _) hne.symm _) hne.symm _) hne.symm _) hne.symm _) hne.symm _) hne.symm _) hne.symm _) hne.symm _) hne.symm _) hne.symm _) hne.symm _) hne.symm _) 0 _
  have hk3 : Kept (fun k _ => w.heap.size ≤ k) w1 w2 := by rw [hw2]; exact ((((((((((((((((Kept.refl _ _).setCell (fun _ => Nat.le_refl _) _).setCell (fun _ => Nat.le_refl _) _).setCell (fun _ => Nat.le_refl _) _).setCell (fun _ => Nat.le_refl _) _).setCell (fun _ => Nat.le_refl _) _).setCell (fun _ => Nat.le_refl _) _).setCell (fun _ => Nat.le_refl _) _).setCell (fun _ => Nat.le_refl _) _).setCell (fun _ => Nat.le_refl _) _).setCell (fun _ => Nat.le_refl _) _).setCell (fun _ => Nat.le_refl _) _).setCell (fun _ => Nat.le_refl _) _).setCell (fun _ => Nat.le_refl _) _).setCell (fun _ => Nat.le_refl _) _).setCell (fun _ => Nat.le_succ _) _)
  clear hw2
  have b0 := blk_at hA3 0 rfl
  have b1 := blk_at hA3 1 rfl
  have b2 := blk_at hA3 2 rfl
  have b3 := blk_at hA3 3 rfl
  have b4 := blk_at hA3 4 rfl
  have b5 := blk_at hA3 5 rfl
  have b6 := blk_at hA3 6 rfl
  have c0 := blk_at hE3 0 rfl
  simp [Leaves, settle, results, Try.results120, go_sem, b0, b1, b2, b3, b4, b5, b6, c0]
  exact Kept.ofNew (Kept.ofNew ((((Kept.refl _ _).alloc _).alloc _).alloc _) hk (fun k _ h => by have : k = w.heap.size + 2 := h; omega)) hk3 (fun k _ h => h)

set_option maxRecDepth 100000 in
set_option maxHeartbeats 2000000 in
theorem readR_left (l : List UInt8) (q : Rq) (y : UInt8) (t : List UInt8) (w : World) (hr : rdReq l = .ok (q, y :: t)) :
    Calls Try.prog 120 #[.string (bs l), .func (.func 121) #[] #[]] w fun e w' => e = .returned (.tuple #[.agg #[.int .i64 0, .int .i64 0, .int .i64 0, .string (bs []), .string (bs []), .int .i64 0, .int .i64 0], .int .i64 1]) ∧ Kept Nil w w' := by
  have hmf : ∀ (fn : Fn) (first cap : Array Value) (w : World), (Instr.makeFunc fn first cap).run Try.prog w = .ok (.func fn first cap) w := fun _ _ _ _ => rfl
  obtain ⟨hA, hE, hR⟩ := three w (.cells #[.int .i64 0, .int .i64 0, .int .i64 0, .string (bs []), .string (bs []), .int .i64 0, .int .i64 0] 79) (.cells #[.int .i64 0] 28) (.cells #[.string (bs l)] 190)
  have H := RdPost.ok (rRequest_any _ l _ (Left.ofBlk hR)) hr
  have HA : Hid _ := hA
  have HE : Hid _ := hE
  have hq := bs_toList (y :: t)
  clear hA hE hR hr
  go_enter_defers Try.func120, Try.ntmps120
  go_wp2_with (first | (go_at_call 121; go_must (refine H.mono ?_); rintro e w1 ⟨v, rfl, hv, hc, hz, hk⟩; unfold RqV at hv; subst hv; have hA1 := hk.block _ _ HA.out (show ¬ w.heap.size = w.heap.size + 2 by omega); have hE1 := hk.block _ _ HE.out (show ¬ w.heap.size + 1 = w.heap.size + 2 by omega); have a0 := blk_at hA1 0 rfl; have a1 := blk_at hA1 1 rfl; have a2 := blk_at hA1 2 rfl; have a3 := blk_at hA1 3 rfl; have a4 := blk_at hA1 4 rfl; have a5 := blk_at hA1 5 rfl; have a6 := blk_at hA1 6 rfl; have fa0 := blk_free hA1 0; have fa1 := blk_free hA1 1; have fa2 := blk_free hA1 2; have fa3 := blk_free hA1 3; have fa4 := blk_free hA1 4; have fa5 := blk_free hA1 5; have fa6 := blk_free hA1 6; have e0 := blk_at hE1 0 rfl; have fe0 := blk_free hE1 0) | (go_at_call 145; go_must (refine (must_no _ _).mono ?_); rintro e w4 ⟨rfl, rfl⟩))
  refine leaves_cons (f := 173) (args := #[.pointer (some ⟨w.heap.size, 0, none⟩), .pointer (some ⟨w.heap.size + 1, 0, none⟩)]) (by simp) (by simp [go_sem]) ?_
  refine (catchR_panic w.heap.size (w.heap.size + 1) 1 _ _ _ _ _ _ _ _ _ (setsR hA1 _ _ _ _ _ _ _) (blk_other (blk_other (blk_other (blk_other (blk_other (blk_other (blk_other (hE1) (show w.heap.size + 1 ≠ w.heap.size by omega) _) (show w.heap.size + 1 ≠ w.heap.size by omega) _) (show w.heap.size + 1 ≠ w.heap.size by omega) _) (show w.heap.size + 1 ≠ w.heap.size by omega) _) (show w.heap.size + 1 ≠ w.heap.size by omega) _) (show w.heap.size + 1 ≠ w.heap.size by omega) _) (show w.heap.size + 1 ≠ w.heap.size by omega) _) (by omega)).mono ?_
  rintro e u' w2 ⟨rfl, rfl, hA2, hE2, hk2⟩
  have b0 := blk_at hA2 0 rfl
  have b1 := blk_at hA2 1 rfl
  have b2 := blk_at hA2 2 rfl
  have b3 := blk_at hA2 3 rfl
  have b4 := blk_at hA2 4 rfl
  have b5 := blk_at hA2 5 rfl
  have b6 := blk_at hA2 6 rfl
  have c0 := blk_at hE2 0 rfl
  simp [Leaves, settle, results, Try.results120, go_sem, b0, b1, b2, b3, b4, b5, b6, c0]
  refine Kept.ofNew (Kept.ofNew (Kept.ofNew ((((Kept.refl _ _).alloc _).alloc _).alloc _) hk (fun k _ h => by have : k = w.heap.size + 2 := h; omega)) (X := fun k _ => w.heap.size ≤ k) ((((((((Kept.refl _ _).setCell (fun _ => Nat.le_refl _) _).setCell (fun _ => Nat.le_refl _) _).setCell (fun _ => Nat.le_refl _) _).setCell (fun _ => Nat.le_refl _) _).setCell (fun _ => Nat.le_refl _) _).setCell (fun _ => Nat.le_refl _) _).setCell (fun _ => Nat.le_refl _) _) (fun k _ h => h)) hk2 (fun k _ h => by rcases h with rfl | rfl <;> omega)


end Go.Proofs.Ytijklginabipgaa

/-
  The document's IsCommand: the same plain test.
-/
namespace Go.Proofs.Ytijklginabipgaa
open Go.RowKit

theorem isNum_neg {i : Int} (h : i < 0) : isNum i = false := by simp [isNum]; omega
theorem isNum_big {i : Int} (h : 1099511627775 < i) : isNum i = false := by simp [isNum]; omega
theorem isNum_ok {i : Int} (h : 0 ≤ i) (h2 : i ≤ 1099511627775) : isNum i = true := by simp [isNum, h, h2]

end Go.Proofs.Ytijklginabipgaa

/-
  GetRequest; and the document's: the same plain answer.
-/
namespace Go.Proofs.Ytijklginabipgaa
open Go.RowKit

def zRq : Rq := ⟨0, 0, 0, [], [], 0, 0⟩
def getReq (l : List UInt8) : Rq × Int :=
  match rdAll (rdReq l) with
  | .ok q => (q, 0)
  | .error c => (zRq, c)

theorem readR_any (l : List UInt8) (w : World) :
    Calls Try.prog 120 #[.string (bs l), .func (.func 121) #[] #[]] w fun e w' => e = .returned (.tuple #[.agg #[.int .i64 (getReq l).1.cl, .int .i64 (getReq l).1.nm, .int .i64 (getReq l).1.kd, .string (bs (getReq l).1.key), .string (bs (getReq l).1.val), .int .i64 (getReq l).1.ifv, .int .i64 (getReq l).1.tm], .int .i64 (getReq l).2]) ∧ Kept Nil w w' := by
  cases hr : rdReq l with
  | error c =>
    have e : getReq l = (zRq, c) := by unfold getReq; rw [hr]; rfl
    rw [e]
    exact readR_err l c w hr
  | ok x =>
    obtain ⟨q, t⟩ := x
    cases t with
    | nil =>
      have e : getReq l = (q, 0) := by unfold getReq; rw [hr]; rfl
      rw [e]
      exact readR_ok l q w hr
    | cons y t =>
      have e : getReq l = (zRq, 1) := by unfold getReq; rw [hr]; rfl
      rw [e]
      exact readR_left l q y t w hr

set_option maxRecDepth 100000 in
set_option maxHeartbeats 1000000 in
theorem getRequest_any (l : List UInt8) (w : World) :
    Calls Try.prog 57 #[.string (bs l)] w fun e w' => e = .returned (.tuple #[.agg #[.int .i64 (getReq l).1.cl, .int .i64 (getReq l).1.nm, .int .i64 (getReq l).1.kd, .string (bs (getReq l).1.key), .string (bs (getReq l).1.val), .int .i64 (getReq l).1.ifv, .int .i64 (getReq l).1.tm], .int .i64 (getReq l).2]) ∧ Kept Nil w w' := by
  have H := fun w => readR_any l w
  generalize getReq l = g at H ⊢
  obtain ⟨⟨cl, nm, kd, key, val, ifv, tm⟩, c⟩ := g
  simp only at H ⊢
  go_enter Try.func57, Try.ntmps57
  go_wp2_with fail
  refine (H _).mono ?_
  rintro e w1 ⟨rfl, hk⟩
  have hb := hk.block _ _ (blk_new w (.cells #[.int .i64 0, .int .i64 0, .int .i64 0, .string (bs []), .string (bs []), .int .i64 0, .int .i64 0] 79)) (fun x => x.elim)
  have g0 := blk_at hb 0 rfl
  have g1 := blk_at hb 1 rfl
  have g2 := blk_at hb 2 rfl
  have g3 := blk_at hb 3 rfl
  have g4 := blk_at hb 4 rfl
  have g5 := blk_at hb 5 rfl
  have g6 := blk_at hb 6 rfl
  have f0 := blk_free hb 0
  have f1 := blk_free hb 1
  have f2 := blk_free hb 2
  have f3 := blk_free hb 3
  have f4 := blk_free hb 4
  have f5 := blk_free hb 5
  have f6 := blk_free hb 6
  go_wp2
  refine bodyPost_ret (v := .tuple #[.agg #[.int .i64 cl, .int .i64 nm, .int .i64 kd, .string (bs key), .string (bs val), .int .i64 ifv, .int .i64 tm], .int .i64 c]) (by simp [results, Try.results57, go_sem, g0, g1, g2, g3, g4, g5, g6]) rfl ⟨rfl, ?_⟩
  have hkk : Kept Nil w w1 := ((Kept.refl _ _).alloc _).trans hk
  exact (((((((hkk.setNew (Nat.le_refl _) _).setNew (Nat.le_refl _) _).setNew (Nat.le_refl _) _).setNew (Nat.le_refl _) _).setNew (Nat.le_refl _) _).setNew (Nat.le_refl _) _).setNew (Nat.le_refl _) _)

/-! ### the document's way -/
/-- What the document's GetRequest comes to. -/
def refEnd (q : Rq) (st : Except Int (List UInt8)) : Rq × Int := if stEnd st = 0 then (q, 0) else (zRq, stEnd st)
def refReq (l : List UInt8) : Rq × Int :=
  let a := stRun rdNum 0 (.ok l)
  let b := stRun rdNum 0 a.2
  let c := stRun rdNum 0 b.2
  if a.1 = 0 then refEnd ⟨a.1, b.1, 0, [], [], 0, c.1⟩ c.2
  else
    let d := stRun rdNum 0 c.2
    let e := stRun (rdText 16) [] d.2
    let f := stRun (rdText 64) [] e.2
    let g := stRun rdNum 0 f.2
    refEnd ⟨a.1, b.1, d.1, e.1, f.1, g.1, c.1⟩ (if isCmd d.1 e.1 f.1 g.1 then g.2 else stBad 5 g.2)

theorem refEnd_err (q : Rq) {c : Int} (hc : c ≠ 0) : refEnd q (.error c) = (zRq, c) := if_neg hc
theorem getReq_err {l : List UInt8} {c : Int} (h : rdReq l = .error c) : getReq l = (zRq, c) := by unfold getReq; rw [h]; rfl
theorem refEnd_all (q : Rq) (l : List UInt8) {m : List UInt8} (h : rdReq m = .ok (q, l)) : refEnd q (.ok l) = getReq m := by
  unfold getReq
  rw [h]
  cases l with
  | nil => rfl
  | cons x l => rfl
theorem refReq_eq (l : List UInt8) : refReq l = getReq l := by
  unfold refReq
  cases r1 : rdNum l with
  | error c =>
    rw [stRun_no r1]
    simp only [stRun_err, if_true]
    rw [refEnd_err _ (rdNum_err r1), getReq_err (rdThen_no r1)]
  | ok x1 =>
  obtain ⟨cl, l1⟩ := x1
  rw [stRun_ok r1]
  simp only
  by_cases c0 : cl = 0
  · rw [if_pos c0]
    subst c0
    cases r2 : rdNum l1 with
    | error c =>
      rw [stRun_no r2]
      simp only [stRun_err]
      rw [refEnd_err _ (rdNum_err r2), getReq_err ((rdThen_ok r1).trans (rdThen_no r2))]
    | ok x2 =>
    obtain ⟨nm, l2⟩ := x2
    rw [stRun_ok r2]
    simp only
    cases r3 : rdNum l2 with
    | error c =>
      rw [stRun_no r3]
      simp only
      rw [refEnd_err _ (rdNum_err r3), getReq_err ((rdThen_ok r1).trans ((rdThen_ok r2).trans (rdThen_no r3)))]
    | ok x3 =>
    obtain ⟨tm, l3⟩ := x3
    rw [stRun_ok r3]
    simp only
    refine refEnd_all _ _ ((rdThen_ok r1).trans ((rdThen_ok r2).trans ((rdThen_ok r3).trans ?_)))
    rw [if_pos rfl]
    unfold rdReqEnd
    rw [if_pos]
    have h0 : isNum 0 = true := by decide
    simp [Rq.ok, Rq.none, isNum_of (rdNum_ok r2).1, isNum_of (rdNum_ok r3).1, h0]
  · rw [if_neg c0]
    have hz : isCmd ((0 : Nat) : Int) [] [] ((0 : Nat) : Int) = false := by decide
    cases r2 : rdNum l1 with
    | error c =>
      rw [stRun_no r2]
      simp only [stRun_err, hz]
      rw [getReq_err ((rdThen_ok r1).trans (rdThen_no r2))]
      exact refEnd_err _ (rdNum_err r2)
    | ok x2 =>
    obtain ⟨nm, l2⟩ := x2
    rw [stRun_ok r2]
    simp only
    cases r3 : rdNum l2 with
    | error c =>
      rw [stRun_no r3]
      simp only [stRun_err, hz]
      rw [getReq_err ((rdThen_ok r1).trans ((rdThen_ok r2).trans (rdThen_no r3)))]
      exact refEnd_err _ (rdNum_err r3)
    | ok x3 =>
    obtain ⟨tm, l3⟩ := x3
    rw [stRun_ok r3]
    simp only
    have hh : rdReq l = rdThen (rdCmd l3) fun c l => rdReqEnd ⟨cl, nm, c.1, c.2.1, c.2.2.1, c.2.2.2, tm⟩ l := (rdThen_ok r1).trans ((rdThen_ok r2).trans ((rdThen_ok r3).trans (if_neg c0)))
    have hbad : ∀ (q : Rq) (b : Bool) {c : Int}, c ≠ 0 → refEnd q (if b = true then .error c else stBad 5 (.error c)) = (zRq, c) := by
      intro q b c hc
      cases b
      · exact refEnd_err q hc
      · exact refEnd_err q hc
    cases r4 : rdNum l3 with
    | error c =>
      rw [stRun_no r4]
      simp only [stRun_err]
      exact (hbad _ _ (rdNum_err r4)).trans (getReq_err (hh.trans (rdThen_no (rdThen_no r4)))).symm
    | ok x4 =>
    obtain ⟨kd, l4⟩ := x4
    rw [stRun_ok r4]
    simp only
    cases r5 : rdText 16 l4 with
    | error c =>
      rw [stRun_no r5]
      simp only [stRun_err]
      exact (hbad _ _ (rdText_err r5)).trans (getReq_err (hh.trans (rdThen_no ((rdThen_ok r4).trans (rdThen_no r5))))).symm
    | ok x5 =>
    obtain ⟨key, l5⟩ := x5
    rw [stRun_ok r5]
    simp only
    cases r6 : rdText 64 l5 with
    | error c =>
      rw [stRun_no r6]
      simp only [stRun_err]
      exact (hbad _ _ (rdText_err r6)).trans (getReq_err (hh.trans (rdThen_no ((rdThen_ok r4).trans ((rdThen_ok r5).trans (rdThen_no r6)))))).symm
    | ok x6 =>
    obtain ⟨val, l6⟩ := x6
    rw [stRun_ok r6]
    simp only
    cases r7 : rdNum l6 with
    | error c =>
      rw [stRun_no r7]
      simp only
      exact (hbad _ _ (rdNum_err r7)).trans (getReq_err (hh.trans (rdThen_no ((rdThen_ok r4).trans ((rdThen_ok r5).trans ((rdThen_ok r6).trans (rdThen_no r7))))))).symm
    | ok x7 =>
    obtain ⟨ifv, l7⟩ := x7
    rw [stRun_ok r7]
    simp only
    have hC : rdCmd l3 = .ok ((kd, key, val, ifv), l7) := (rdThen_ok r4).trans ((rdThen_ok r5).trans ((rdThen_ok r6).trans (rdThen_ok r7)))
    have hfin := hh.trans (rdThen_ok hC)
    have hokq : Rq.ok ⟨cl, nm, kd, key, val, ifv, tm⟩ = isCmd kd key val ifv := by
      simp [Rq.ok, isNum_of (rdNum_ok r1).1, isNum_of (rdNum_ok r2).1, isNum_of (rdNum_ok r3).1, c0]
    unfold rdReqEnd at hfin
    simp only [hokq] at hfin
    cases hb : isCmd kd key val ifv with
    | true =>
      rw [hb] at hfin
      exact refEnd_all _ _ hfin
    | false =>
      rw [hb] at hfin
      rw [getReq_err hfin]
      exact refEnd_err _ (by decide)

end Go.Proofs.Ytijklginabipgaa

/-
  The document's GetRequest: the same plain answer.
-/
namespace Go.Proofs.Ytijklginabipgaa
open Go.RowKit

end Go.Proofs.Ytijklginabipgaa

/-
  The document's PutRequest: the same plain answer.
-/
namespace Go.Proofs.Ytijklginabipgaa
open Go.RowKit

theorem putReq_ok {q : Rq} (h : q.ok = true) : putReq q = (encReq q.cl.toNat q.nm.toNat q.kd.toNat q.key q.val q.ifv.toNat q.tm.toNat, 0) := by unfold putReq; rw [h]; rfl
theorem putReq_no {q : Rq} (h : q.ok = false) : putReq q = ([], 5) := by unfold putReq; rw [h]; rfl
theorem enc3 (a b c : Nat) : encAll [a, b, c] = enc a ++ enc b ++ enc c := by simp [encAll]

end Go.Proofs.Ytijklginabipgaa

/-
  The document's PutRequest where the request may not be; PutRequest, whole.
-/
namespace Go.Proofs.Ytijklginabipgaa
open Go.RowKit

end Go.Proofs.Ytijklginabipgaa
