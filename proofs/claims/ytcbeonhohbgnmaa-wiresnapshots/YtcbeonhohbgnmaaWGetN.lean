/-
  The program's read at a row of numbers: caught or not.
-/
import Derived.Test.YtcbeonhohbgnmaaWNums
namespace Go.Proofs.Ytcbeonhohbgnmaa
open Go.RowKit

theorem blk_drewN {w : World} {b : Nat} {o : Obj} (h : w.heap[b]? = some o) : w.drew.heap[b]? = some o := h
theorem setsN {w : World} {A : Nat} {t : TypeId} {x0 : Value} (hA : w.heap[A]? = some (.cells #[x0] t (0, 0))) (v0 : Value) :
    (w.setCell ⟨A, 0, none⟩ v0).heap[A]? = some (.cells #[v0] t (0, 0)) := by
  have s0 : (w.setCell ⟨A, 0, none⟩ v0).heap[A]? = some (.cells #[v0] t (0, 0)) := blk_set hA 0 v0
  exact s0

set_option maxRecDepth 100000 in
set_option maxHeartbeats 2000000 in
theorem catchN_panic (A E : Nat) (c : Int) (x0 z : Value) (w : World) (hA : w.heap[A]? = some (.cells #[x0] 31 (0, 0))) (hE : w.heap[E]? = some (.cells #[z] 22 (0, 0))) (hne : A ≠ E) :
    CallsD Try.prog 174 #[.pointer (some ⟨A, 0, none⟩), .pointer (some ⟨E, 0, none⟩)] (.panicking (up c)) w fun e u' w' =>
      e = .returned (.tuple #[]) ∧ u' = .panicking [{ v := .iface 223 (.agg #[.int .i64 c]), recovered := true }] ∧
      w'.heap[A]? = some (.cells #[.slice none 0 0] 31 (0, 0)) ∧ w'.heap[E]? = some (.cells #[.int .i64 c] 22 (0, 0)) ∧ Kept (fun k _ => k = A ∨ k = E) w w' := by
  have a0 := blk_at hA 0 rfl
  have e0 := blk_at hE 0 rfl
  have fa0 := blk_free hA 0
  have fe0 := blk_free hE 0
  refine callsD_of_wpS Try.func174 rfl fun c₀ cs hu => ?_
  unfold up at hu
  apply wpS_seq
  apply wpS_region
  simp [wpOpsS, go_sem, recoverD, hu, Try.ntmps174, Exit.thenS]
  refine wpS_of_wp ?_
  rw [catch_slots]
  clear hu
  have hta := assert_up
  have hAl := lt_of_block hA
  have hEl := lt_of_block hE
  go_wp2
  go_region
  refine ⟨rfl, _, rfl, .tuple #[], by simp [results, Try.results174], rfl, rfl, ?_⟩
  refine ⟨?_, ?_, ?_⟩
  · exact blk_drewN ((blk_past (blk_other (setsN hA _) hne _) _))
  · exact blk_drewN ((blk_past (blk_set (blk_other (hE) hne.symm _) 0 _) _))
  · exact Kept.drew ((Kept.alloc (((Kept.refl _ _).setCell (fun _ => .inl rfl) _).setCell (fun _ => .inr rfl) _) _))

set_option maxRecDepth 100000 in
set_option maxHeartbeats 600000 in
theorem catchN_idle (A E : Addr) (w : World) :
    CallsD Try.prog 174 #[.pointer (some A), .pointer (some E)] .returning w fun e u' w' => e = .returned (.tuple #[]) ∧ u' = .returning ∧ w' = w := by
  refine callsD_of_wpS Try.func174 rfl fun c₀ cs hu => ?_
  apply wpS_seq
  apply wpS_region
  simp [wpOpsS, go_sem, recoverD, hu, Try.ntmps174, Exit.thenS]
  refine wpS_of_wp ?_
  rw [catch_slots]
  go_wp2
  refine ⟨rfl, .returning, ?_, .tuple #[], by simp [results, Try.results174], rfl, rfl, rfl⟩
  cases c₀
  simp_all

set_option maxRecDepth 100000 in
set_option maxHeartbeats 2000000 in
theorem readN_err {B n : Nat} (l : List UInt8) (c : Int) (w : World) (hn : (n : Int) ≤ 1000000) (hB : w.heap[B]? = some (.cells #[.int .i64 n] 3 (0, 0))) (hr : rdTimes rdNum n l = .error c) :
    Calls Try.prog 93 #[.string (bs l), .func (.func 94) #[] #[.pointer (some ⟨B, 0, none⟩)]] w fun e w' => e = .returned (.tuple #[.slice none 0 0, .int .i64 c]) ∧ Kept Nil w w' := by
  have hmf : ∀ (fn : Fn) (first cap : Array Value) (w : World), (Instr.makeFunc fn first cap).run Try.prog w = .ok (.func fn first cap) w := fun _ _ _ _ => rfl
  obtain ⟨hA, hE, hR⟩ := three w (.cells #[.slice none 0 0] 31) (.cells #[.int .i64 0] 22) (.cells #[.string (bs l)] 226)
  have H := RdPost.no (gNums_any _ B n l _ (Left.ofBlk hR) hn (blk_past (blk_past (blk_past hB _) _) _)) hr
  have HA : Hid _ := hA
  have HE : Hid _ := hE
  clear hA hE hR hr hn hB
  go_enter_defers Try.func93, Try.ntmps93
  go_wp2_with (first | (go_at_call 94; go_must (refine H.mono ?_); rintro e w1 ⟨rfl, hk⟩))
  have hA1 := hk.block _ _ HA.out (show ¬ w.heap.size = w.heap.size + 2 by omega)
  have hE1 := hk.block _ _ HE.out (show ¬ w.heap.size + 1 = w.heap.size + 2 by omega)
  refine leaves_cons (f := 174) (args := #[.pointer (some ⟨w.heap.size, 0, none⟩), .pointer (some ⟨w.heap.size + 1, 0, none⟩)]) (by simp) (by simp [go_sem]) ?_
  refine (catchN_panic w.heap.size (w.heap.size + 1) c _ _ w1 hA1 hE1 (by omega)).mono ?_
  rintro e u' w2 ⟨rfl, rfl, hA2, hE2, hk2⟩
  have a0 := blk_at hA2 0 rfl
  have e0 := blk_at hE2 0 rfl
  simp [Leaves, settle, results, Try.results93, go_sem, a0, e0]
  exact Kept.ofNew (Kept.ofNew ((((Kept.refl _ _).alloc _).alloc _).alloc _) hk (fun k _ h => by have : k = w.heap.size + 2 := h; omega)) hk2 (fun k _ h => by rcases h with rfl | rfl <;> omega)

set_option maxRecDepth 100000 in
set_option maxHeartbeats 2000000 in
theorem readN_ok {B n : Nat} (l : List UInt8) (ns : List Nat) (w : World) (hn : (n : Int) ≤ 1000000) (hB : w.heap[B]? = some (.cells #[.int .i64 n] 3 (0, 0))) (hr : rdTimes rdNum n l = .ok (ns, [])) :
    Calls Try.prog 93 #[.string (bs l), .func (.func 94) #[] #[.pointer (some ⟨B, 0, none⟩)]] w (GotN ns w) := by
  have hmf : ∀ (fn : Fn) (first cap : Array Value) (w : World), (Instr.makeFunc fn first cap).run Try.prog w = .ok (.func fn first cap) w := fun _ _ _ _ => rfl
  obtain ⟨hA, hE, hR⟩ := three w (.cells #[.slice none 0 0] 31) (.cells #[.int .i64 0] 22) (.cells #[.string (bs l)] 226)
  have H := RdPost.ok (gNums_any _ B n l _ (Left.ofBlk hR) hn (blk_past (blk_past (blk_past hB _) _) _)) hr
  have HA : Hid _ := hA
  have HE : Hid _ := hE
  have hq := bs_toList []
  clear hA hE hR hr hn hB
  go_enter_defers Try.func93, Try.ntmps93
  go_wp2_with (first | (go_at_call 94; go_must (refine H.mono ?_); rintro e w1 ⟨v, rfl, hv, hc, hz, hk⟩; unfold NatsV at hv; obtain ⟨ao, c, rfl, hP⟩ := hv; have HP : Hid _ := hP; clear hP; have hA1 := hk.block _ _ HA.out (show ¬ w.heap.size = w.heap.size + 2 by omega); have hE1 := hk.block _ _ HE.out (show ¬ w.heap.size + 1 = w.heap.size + 2 by omega); have a0 := blk_at hA1 0 rfl; have fa0 := blk_free hA1 0; have e0 := blk_at hE1 0 rfl; have fe0 := blk_free hE1 0) | (go_at_call 170; go_must (refine (must_ok _ _).mono ?_); rintro e w4 ⟨rfl, rfl⟩))
  refine leaves_cons (f := 174) (args := #[.pointer (some ⟨w.heap.size, 0, none⟩), .pointer (some ⟨w.heap.size + 1, 0, none⟩)]) (by simp) (by simp [go_sem]) ?_
  refine (catchN_idle ⟨w.heap.size, 0, none⟩ ⟨w.heap.size + 1, 0, none⟩ _).mono ?_
  rintro e u' w2 ⟨rfl, rfl, hw2⟩
  have hne : w.heap.size ≠ w.heap.size + 1 := by omega
  have hA3 : w2.heap[w.heap.size]? = some (.cells #[.slice ao ns.length c] 31 (0, 0)) := by rw [hw2]; exact blk_other (setsN (setsN hA1 _) _) hne _
  have hE3 : w2.heap[w.heap.size + 1]? = some (.cells #[.int .i64 0] 22 (0, 0)) := by rw [hw2]; exact blk_set (blk_other (blk_other (hE1) hne.symm _) hne.symm _) 0 _
  have hk3 : Kept (fun k _ => k = w.heap.size ∨ k = w.heap.size + 1) w1 w2 := by rw [hw2]; exact ((((Kept.refl _ _).setCell (fun _ => .inl rfl) _).setCell (fun _ => .inl rfl) _).setCell (fun _ => .inr rfl) _)
  clear hw2
  have b0 := blk_at hA3 0 rfl
  have c0 := blk_at hE3 0 rfl
  simp [Leaves, settle, results, Try.results93, go_sem, b0, c0]
  have HKN : Kept Nil w w2 := Kept.ofNew (Kept.ofNew ((((Kept.refl _ _).alloc _).alloc _).alloc _) hk (fun k _ h => by have : k = w.heap.size + 2 := h; omega)) hk3 (fun k _ h => by rcases h with rfl | rfl <;> omega)
  exact ⟨ao, c, rfl, OwnNats.through HP.out hk3, HKN⟩

set_option maxRecDepth 100000 in
set_option maxHeartbeats 2000000 in
theorem readN_left {B n : Nat} (l : List UInt8) (ns : List Nat) (y : UInt8) (t : List UInt8) (w : World) (hn : (n : Int) ≤ 1000000) (hB : w.heap[B]? = some (.cells #[.int .i64 n] 3 (0, 0))) (hr : rdTimes rdNum n l = .ok (ns, y :: t)) :
    Calls Try.prog 93 #[.string (bs l), .func (.func 94) #[] #[.pointer (some ⟨B, 0, none⟩)]] w fun e w' => e = .returned (.tuple #[.slice none 0 0, .int .i64 1]) ∧ Kept Nil w w' := by
  have hmf : ∀ (fn : Fn) (first cap : Array Value) (w : World), (Instr.makeFunc fn first cap).run Try.prog w = .ok (.func fn first cap) w := fun _ _ _ _ => rfl
  obtain ⟨hA, hE, hR⟩ := three w (.cells #[.slice none 0 0] 31) (.cells #[.int .i64 0] 22) (.cells #[.string (bs l)] 226)
  have H := RdPost.ok (gNums_any _ B n l _ (Left.ofBlk hR) hn (blk_past (blk_past (blk_past hB _) _) _)) hr
  have HA : Hid _ := hA
  have HE : Hid _ := hE
  have hq := bs_toList (y :: t)
  clear hA hE hR hr hn hB
  go_enter_defers Try.func93, Try.ntmps93
  go_wp2_with (first | (go_at_call 94; go_must (refine H.mono ?_); rintro e w1 ⟨v, rfl, hv, hc, hz, hk⟩; unfold NatsV at hv; obtain ⟨ao, c, rfl, hP⟩ := hv; have HP : Hid _ := hP; clear hP; have hA1 := hk.block _ _ HA.out (show ¬ w.heap.size = w.heap.size + 2 by omega); have hE1 := hk.block _ _ HE.out (show ¬ w.heap.size + 1 = w.heap.size + 2 by omega); have a0 := blk_at hA1 0 rfl; have fa0 := blk_free hA1 0; have e0 := blk_at hE1 0 rfl; have fe0 := blk_free hE1 0) | (go_at_call 170; go_must (refine (must_no _ _).mono ?_); rintro e w4 ⟨rfl, rfl⟩))
  refine leaves_cons (f := 174) (args := #[.pointer (some ⟨w.heap.size, 0, none⟩), .pointer (some ⟨w.heap.size + 1, 0, none⟩)]) (by simp) (by simp [go_sem]) ?_
  refine (catchN_panic w.heap.size (w.heap.size + 1) 1 _ _ _ (setsN hA1 _) (blk_other (hE1) (show w.heap.size + 1 ≠ w.heap.size by omega) _) (by omega)).mono ?_
  rintro e u' w2 ⟨rfl, rfl, hA2, hE2, hk2⟩
  have b0 := blk_at hA2 0 rfl
  have c0 := blk_at hE2 0 rfl
  simp [Leaves, settle, results, Try.results93, go_sem, b0, c0]
  refine Kept.ofNew (Kept.ofNew (Kept.ofNew ((((Kept.refl _ _).alloc _).alloc _).alloc _) hk (fun k _ h => by have : k = w.heap.size + 2 := h; omega)) (X := fun k _ => w.heap.size ≤ k) ((Kept.refl _ _).setCell (fun _ => Nat.le_refl _) _) (fun k _ h => h)) hk2 (fun k _ h => by rcases h with rfl | rfl <;> omega)


end Go.Proofs.Ytcbeonhohbgnmaa
