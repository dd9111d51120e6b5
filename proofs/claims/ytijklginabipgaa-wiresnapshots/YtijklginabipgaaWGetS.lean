/-
  The program's read at a snapshot: caught or not.
-/
import Derived.Test.YtijklginabipgaaWOlc
namespace Go.Proofs.Ytijklginabipgaa
open Go.RowKit

theorem blk_drewS {w : World} {b : Nat} {o : Obj} (h : w.heap[b]? = some o) : w.drew.heap[b]? = some o := h
theorem setsS {w : World} {A : Nat} {t : TypeId} {x0 x1 x2 x3 x4 x5 : Value} (hA : w.heap[A]? = some (.cells #[x0, x1, x2, x3, x4, x5] t (0, 0))) (v0 v1 v2 v3 v4 v5 : Value) :
    ((((((w.setCell ⟨A, 0, none⟩ v0).setCell ⟨A, 1, none⟩ v1).setCell ⟨A, 2, none⟩ v2).setCell ⟨A, 3, none⟩ v3).setCell ⟨A, 4, none⟩ v4).setCell ⟨A, 5, none⟩ v5).heap[A]? = some (.cells #[v0, v1, v2, v3, v4, v5] t (0, 0)) := by
  have s0 : (w.setCell ⟨A, 0, none⟩ v0).heap[A]? = some (.cells #[v0, x1, x2, x3, x4, x5] t (0, 0)) := blk_set hA 0 v0
  have s1 : ((w.setCell ⟨A, 0, none⟩ v0).setCell ⟨A, 1, none⟩ v1).heap[A]? = some (.cells #[v0, v1, x2, x3, x4, x5] t (0, 0)) := blk_set s0 1 v1
  have s2 : (((w.setCell ⟨A, 0, none⟩ v0).setCell ⟨A, 1, none⟩ v1).setCell ⟨A, 2, none⟩ v2).heap[A]? = some (.cells #[v0, v1, v2, x3, x4, x5] t (0, 0)) := blk_set s1 2 v2
  have s3 : ((((w.setCell ⟨A, 0, none⟩ v0).setCell ⟨A, 1, none⟩ v1).setCell ⟨A, 2, none⟩ v2).setCell ⟨A, 3, none⟩ v3).heap[A]? = some (.cells #[v0, v1, v2, v3, x4, x5] t (0, 0)) := blk_set s2 3 v3
  have s4 : (((((w.setCell ⟨A, 0, none⟩ v0).setCell ⟨A, 1, none⟩ v1).setCell ⟨A, 2, none⟩ v2).setCell ⟨A, 3, none⟩ v3).setCell ⟨A, 4, none⟩ v4).heap[A]? = some (.cells #[v0, v1, v2, v3, v4, x5] t (0, 0)) := blk_set s3 4 v4
  have s5 : ((((((w.setCell ⟨A, 0, none⟩ v0).setCell ⟨A, 1, none⟩ v1).setCell ⟨A, 2, none⟩ v2).setCell ⟨A, 3, none⟩ v3).setCell ⟨A, 4, none⟩ v4).setCell ⟨A, 5, none⟩ v5).heap[A]? = some (.cells #[v0, v1, v2, v3, v4, v5] t (0, 0)) := blk_set s4 5 v5
  exact s5

set_option maxRecDepth 100000 in
set_option maxHeartbeats 2000000 in
theorem catchS_panic (A E : Nat) (c : Int) (x0 x1 x2 x3 x4 x5 z : Value) (w : World) (hA : w.heap[A]? = some (.cells #[x0, x1, x2, x3, x4, x5] 61 (0, 0))) (hE : w.heap[E]? = some (.cells #[z] 28 (0, 0))) (hne : A ≠ E) :
    CallsD Try.prog 156 #[.pointer (some ⟨A, 0, none⟩), .pointer (some ⟨E, 0, none⟩)] (.panicking (up c)) w fun e u' w' =>
      e = .returned (.tuple #[]) ∧ u' = .panicking [{ v := .iface 187 (.agg #[.int .i64 c]), recovered := true }] ∧
      w'.heap[A]? = some (.cells #[.int .i64 0, .int .i64 0, .slice none 0 0, .slice none 0 0, .slice none 0 0, .string (bs [])] 61 (0, 0)) ∧ w'.heap[E]? = some (.cells #[.int .i64 c] 28 (0, 0)) ∧ Kept (fun k _ => k = A ∨ k = E) w w' := by
  have a0 := blk_at hA 0 rfl
  have a1 := blk_at hA 1 rfl
  have a2 := blk_at hA 2 rfl
  have a3 := blk_at hA 3 rfl
  have a4 := blk_at hA 4 rfl
  have a5 := blk_at hA 5 rfl
  have e0 := blk_at hE 0 rfl
  have fa0 := blk_free hA 0
  have fa1 := blk_free hA 1
  have fa2 := blk_free hA 2
  have fa3 := blk_free hA 3
  have fa4 := blk_free hA 4
  have fa5 := blk_free hA 5
  have fe0 := blk_free hE 0
  refine callsD_of_wpS Try.func156 rfl fun c₀ cs hu => ?_
  unfold up at hu
  apply wpS_seq
  apply wpS_region
  simp [wpOpsS, go_sem, recoverD, hu, Try.ntmps156, Exit.thenS]
  refine wpS_of_wp ?_
  rw [catch_slots]
  clear hu
  have hta := assert_up
  have hAl := lt_of_block hA
  have hEl := lt_of_block hE
  go_wp2
  go_region
  refine ⟨rfl, _, rfl, .tuple #[], by simp [results, Try.results156], rfl, rfl, ?_⟩
  refine ⟨?_, ?_, ?_⟩
  · exact blk_drewS (blk_past (blk_past (blk_other (setsS hA _ _ _ _ _ _) hne _) _) _)
  · exact blk_drewS (blk_past (blk_past (blk_set (blk_other (blk_other (blk_other (blk_other (blk_other (blk_other (hE) hne.symm _) hne.symm _) hne.symm _) hne.symm _) hne.symm _) hne.symm _) 0 _) _) _)
  · exact Kept.drew (Kept.alloc (Kept.alloc ((((((((Kept.refl _ _).setCell (fun _ => .inl rfl) _).setCell (fun _ => .inl rfl) _).setCell (fun _ => .inl rfl) _).setCell (fun _ => .inl rfl) _).setCell (fun _ => .inl rfl) _).setCell (fun _ => .inl rfl) _).setCell (fun _ => .inr rfl) _) _) _)

set_option maxRecDepth 100000 in
set_option maxHeartbeats 600000 in
theorem catchS_idle (A E : Addr) (w : World) :
    CallsD Try.prog 156 #[.pointer (some A), .pointer (some E)] .returning w fun e u' w' => e = .returned (.tuple #[]) ∧ u' = .returning ∧ w' = w := by
  refine callsD_of_wpS Try.func156 rfl fun c₀ cs hu => ?_
  apply wpS_seq
  apply wpS_region
  simp [wpOpsS, go_sem, recoverD, hu, Try.ntmps156, Exit.thenS]
  refine wpS_of_wp ?_
  rw [catch_slots]
  go_wp2
  refine ⟨rfl, .returning, ?_, .tuple #[], by simp [results, Try.results156], rfl, rfl, rfl⟩
  cases c₀
  simp_all

set_option maxRecDepth 100000 in
set_option maxHeartbeats 2000000 in
theorem readS_err (l : List UInt8) (c : Int) (w : World) (hr : rdSnap l = .error c) :
    Calls Try.prog 104 #[.string (bs l), .func (.func 105) #[] #[]] w fun e w' => e = .returned (.tuple #[.agg #[.int .i64 0, .int .i64 0, .slice none 0 0, .slice none 0 0, .slice none 0 0, .string (bs [])], .int .i64 c]) ∧ Kept Nil w w' := by
  have hmf : ∀ (fn : Fn) (first cap : Array Value) (w : World), (Instr.makeFunc fn first cap).run Try.prog w = .ok (.func fn first cap) w := fun _ _ _ _ => rfl
  obtain ⟨hA, hE, hR⟩ := three w (.cells #[.int .i64 0, .int .i64 0, .slice none 0 0, .slice none 0 0, .slice none 0 0, .string (bs [])] 61) (.cells #[.int .i64 0] 28) (.cells #[.string (bs l)] 190)
  have H := RdPost.no (rWhole_any _ l _ (Left.ofBlk hR)) hr
  have HA : Hid _ := hA
  have HE : Hid _ := hE
  clear hA hE hR hr
  go_enter_defers Try.func104, Try.ntmps104
  go_wp2_with (first | (go_at_call 105; go_must (refine H.mono ?_); rintro e w1 ⟨rfl, hk⟩))
  have hA1 := hk.block _ _ HA.out (show ¬ w.heap.size = w.heap.size + 2 by omega)
  have hE1 := hk.block _ _ HE.out (show ¬ w.heap.size + 1 = w.heap.size + 2 by omega)
  refine leaves_cons (f := 156) (args := #[.pointer (some ⟨w.heap.size, 0, none⟩), .pointer (some ⟨w.heap.size + 1, 0, none⟩)]) (by simp) (by simp [go_sem]) ?_
  refine (catchS_panic w.heap.size (w.heap.size + 1) c _ _ _ _ _ _ _ w1 hA1 hE1 (by omega)).mono ?_
  rintro e u' w2 ⟨rfl, rfl, hA2, hE2, hk2⟩
  have a0 := blk_at hA2 0 rfl
  have a1 := blk_at hA2 1 rfl
  have a2 := blk_at hA2 2 rfl
  have a3 := blk_at hA2 3 rfl
  have a4 := blk_at hA2 4 rfl
  have a5 := blk_at hA2 5 rfl
  have e0 := blk_at hE2 0 rfl
  simp [Leaves, settle, results, Try.results104, go_sem, a0, a1, a2, a3, a4, a5, e0]
  exact Kept.ofNew (Kept.ofNew ((((Kept.refl _ _).alloc _).alloc _).alloc _) hk (fun k _ h => by have : k = w.heap.size + 2 := h; omega)) hk2 (fun k _ h => by rcases h with rfl | rfl <;> omega)

set_option maxRecDepth 100000 in
set_option maxHeartbeats 2000000 in
theorem readS_ok (l : List UInt8) (x : Sn) (w : World) (hr : rdSnap l = .ok (x, [])) :
    Calls Try.prog 104 #[.string (bs l), .func (.func 105) #[] #[]] w (GotPost (SnV w.heap.size) (x, 0) w) := by
  have hmf : ∀ (fn : Fn) (first cap : Array Value) (w : World), (Instr.makeFunc fn first cap).run Try.prog w = .ok (.func fn first cap) w := fun _ _ _ _ => rfl
  obtain ⟨hA, hE, hR⟩ := three w (.cells #[.int .i64 0, .int .i64 0, .slice none 0 0, .slice none 0 0, .slice none 0 0, .string (bs [])] 61) (.cells #[.int .i64 0] 28) (.cells #[.string (bs l)] 190)
  have H := RdPost.ok (rWhole_any _ l _ (Left.ofBlk hR)) hr
  have HA : Hid _ := hA
  have HE : Hid _ := hE
  have hq := bs_toList []
  clear hA hE hR hr
  go_enter_defers Try.func104, Try.ntmps104
  go_wp2_with (first | (go_at_call 105; go_must (refine H.mono ?_); rintro e w1 ⟨v, rfl, hv, hc, hz, hk⟩; unfold SnV at hv; obtain ⟨ra1, ra2, ra3, rc1, rc2, rc3, rfl, hP⟩ := hv; have HP : Hid _ := hP; clear hP; have hA1 := hk.block _ _ HA.out (show ¬ w.heap.size = w.heap.size + 2 by omega); have hE1 := hk.block _ _ HE.out (show ¬ w.heap.size + 1 = w.heap.size + 2 by omega); have a0 := blk_at hA1 0 rfl; have a1 := blk_at hA1 1 rfl; have a2 := blk_at hA1 2 rfl; have a3 := blk_at hA1 3 rfl; have a4 := blk_at hA1 4 rfl; have a5 := blk_at hA1 5 rfl; have fa0 := blk_free hA1 0; have fa1 := blk_free hA1 1; have fa2 := blk_free hA1 2; have fa3 := blk_free hA1 3; have fa4 := blk_free hA1 4; have fa5 := blk_free hA1 5; have e0 := blk_at hE1 0 rfl; have fe0 := blk_free hE1 0) | (go_at_call 145; go_must (refine (must_ok _ _).mono ?_); rintro e w4 ⟨rfl, rfl⟩))
  refine leaves_cons (f := 156) (args := #[.pointer (some ⟨w.heap.size, 0, none⟩), .pointer (some ⟨w.heap.size + 1, 0, none⟩)]) (by simp) (by simp [go_sem]) ?_
  refine (catchS_idle ⟨w.heap.size, 0, none⟩ ⟨w.heap.size + 1, 0, none⟩ _).mono ?_
  rintro e u' w2 ⟨rfl, rfl, hw2⟩
  have hne : w.heap.size ≠ w.heap.size + 1 := by omega
  have hA3 : w2.heap[w.heap.size]? = some (.cells #[.int .i64 x.ix, .int .i64 x.tm, .slice ra1 x.c.v.length rc1, .slice ra2 x.c.n.length rc2, .slice ra3 x.c.l.length rc3, .string (bs x.dt)] 61 (0, 0)) := by rw [hw2]; exact blk_other (setsS (setsS hA1 _ _ _ _ _ _) _ _ _ _ _ _) hne _
  have hE3 : w2.heap[w.heap.size + 1]? = some (.cells #[.int .i64 0] 28 (0, 0)) := by rw [hw2]; exact blk_set (blk_other (blk_other (blk_other (blk_other (blk_other (blk_other (blk_other (blk_other (blk_other (blk_other (blk_other (blk_other (hE1) hne.symm _) hne.symm _) hne.symm _) hne.symm _) hne.symm _) hne.symm _) hne.symm _) hne.symm _) hne.symm _) hne.symm _) hne.symm _) hne.symm _) 0 _
  have hk3 : Kept (fun k _ => k = w.heap.size ∨ k = w.heap.size + 1) w1 w2 := by rw [hw2]; exact ((((((((((((((Kept.refl _ _).setCell (fun _ => .inl rfl) _).setCell (fun _ => .inl rfl) _).setCell (fun _ => .inl rfl) _).setCell (fun _ => .inl rfl) _).setCell (fun _ => .inl rfl) _).setCell (fun _ => .inl rfl) _).setCell (fun _ => .inl rfl) _).setCell (fun _ => .inl rfl) _).setCell (fun _ => .inl rfl) _).setCell (fun _ => .inl rfl) _).setCell (fun _ => .inl rfl) _).setCell (fun _ => .inl rfl) _).setCell (fun _ => .inr rfl) _)
  clear hw2
  have b0 := blk_at hA3 0 rfl
  have b1 := blk_at hA3 1 rfl
  have b2 := blk_at hA3 2 rfl
  have b3 := blk_at hA3 3 rfl
  have b4 := blk_at hA3 4 rfl
  have b5 := blk_at hA3 5 rfl
  have c0 := blk_at hE3 0 rfl
  simp [Leaves, settle, results, Try.results104, go_sem, b0, b1, b2, b3, b4, b5, c0]
  have HKN : Kept Nil w w2 := Kept.ofNew (Kept.ofNew ((((Kept.refl _ _).alloc _).alloc _).alloc _) hk (fun k _ h => by have : k = w.heap.size + 2 := h; omega)) hk3 (fun k _ h => by rcases h with rfl | rfl <;> omega)
  exact ⟨_, rfl, ⟨ra1, ra2, ra3, rc1, rc2, rc3, rfl, OwnNats.through HP.out.1 hk3, OwnNats.through HP.out.2.1 hk3, OwnNats.through HP.out.2.2 hk3⟩, HKN⟩

set_option maxRecDepth 100000 in
set_option maxHeartbeats 2000000 in
theorem readS_left (l : List UInt8) (x : Sn) (y : UInt8) (t : List UInt8) (w : World) (hr : rdSnap l = .ok (x, y :: t)) :
    Calls Try.prog 104 #[.string (bs l), .func (.func 105) #[] #[]] w fun e w' => e = .returned (.tuple #[.agg #[.int .i64 0, .int .i64 0, .slice none 0 0, .slice none 0 0, .slice none 0 0, .string (bs [])], .int .i64 1]) ∧ Kept Nil w w' := by
  have hmf : ∀ (fn : Fn) (first cap : Array Value) (w : World), (Instr.makeFunc fn first cap).run Try.prog w = .ok (.func fn first cap) w := fun _ _ _ _ => rfl
  obtain ⟨hA, hE, hR⟩ := three w (.cells #[.int .i64 0, .int .i64 0, .slice none 0 0, .slice none 0 0, .slice none 0 0, .string (bs [])] 61) (.cells #[.int .i64 0] 28) (.cells #[.string (bs l)] 190)
  have H := RdPost.ok (rWhole_any _ l _ (Left.ofBlk hR)) hr
  have HA : Hid _ := hA
  have HE : Hid _ := hE
  have hq := bs_toList (y :: t)
  clear hA hE hR hr
  go_enter_defers Try.func104, Try.ntmps104
  go_wp2_with (first | (go_at_call 105; go_must (refine H.mono ?_); rintro e w1 ⟨v, rfl, hv, hc, hz, hk⟩; unfold SnV at hv; obtain ⟨ra1, ra2, ra3, rc1, rc2, rc3, rfl, hP⟩ := hv; have HP : Hid _ := hP; clear hP; have hA1 := hk.block _ _ HA.out (show ¬ w.heap.size = w.heap.size + 2 by omega); have hE1 := hk.block _ _ HE.out (show ¬ w.heap.size + 1 = w.heap.size + 2 by omega); have a0 := blk_at hA1 0 rfl; have a1 := blk_at hA1 1 rfl; have a2 := blk_at hA1 2 rfl; have a3 := blk_at hA1 3 rfl; have a4 := blk_at hA1 4 rfl; have a5 := blk_at hA1 5 rfl; have fa0 := blk_free hA1 0; have fa1 := blk_free hA1 1; have fa2 := blk_free hA1 2; have fa3 := blk_free hA1 3; have fa4 := blk_free hA1 4; have fa5 := blk_free hA1 5; have e0 := blk_at hE1 0 rfl; have fe0 := blk_free hE1 0) | (go_at_call 145; go_must (refine (must_no _ _).mono ?_); rintro e w4 ⟨rfl, rfl⟩))
  refine leaves_cons (f := 156) (args := #[.pointer (some ⟨w.heap.size, 0, none⟩), .pointer (some ⟨w.heap.size + 1, 0, none⟩)]) (by simp) (by simp [go_sem]) ?_
  refine (catchS_panic w.heap.size (w.heap.size + 1) 1 _ _ _ _ _ _ _ _ (setsS hA1 _ _ _ _ _ _) (blk_other (blk_other (blk_other (blk_other (blk_other (blk_other (hE1) (show w.heap.size + 1 ≠ w.heap.size by omega) _) (show w.heap.size + 1 ≠ w.heap.size by omega) _) (show w.heap.size + 1 ≠ w.heap.size by omega) _) (show w.heap.size + 1 ≠ w.heap.size by omega) _) (show w.heap.size + 1 ≠ w.heap.size by omega) _) (show w.heap.size + 1 ≠ w.heap.size by omega) _) (by omega)).mono ?_
  rintro e u' w2 ⟨rfl, rfl, hA2, hE2, hk2⟩
  have b0 := blk_at hA2 0 rfl
  have b1 := blk_at hA2 1 rfl
  have b2 := blk_at hA2 2 rfl
  have b3 := blk_at hA2 3 rfl
  have b4 := blk_at hA2 4 rfl
  have b5 := blk_at hA2 5 rfl
  have c0 := blk_at hE2 0 rfl
  simp [Leaves, settle, results, Try.results104, go_sem, b0, b1, b2, b3, b4, b5, c0]
  refine Kept.ofNew (Kept.ofNew (Kept.ofNew ((((Kept.refl _ _).alloc _).alloc _).alloc _) hk (fun k _ h => by have : k = w.heap.size + 2 := h; omega)) (X := fun k _ => w.heap.size ≤ k) (((((((Kept.refl _ _).setCell (fun _ => Nat.le_refl _) _).setCell (fun _ => Nat.le_refl _) _).setCell (fun _ => Nat.le_refl _) _).setCell (fun _ => Nat.le_refl _) _).setCell (fun _ => Nat.le_refl _) _).setCell (fun _ => Nat.le_refl _) _) (fun k _ h => h)) hk2 (fun k _ h => by rcases h with rfl | rfl <;> omega)


end Go.Proofs.Ytijklginabipgaa
