/-
  The program's read: a reader that gives up is caught, and the error stands in the answer.
-/
import Derived.Test.YtmlncfnnldplgaaWFrame2
namespace Go.Proofs.Ytmlncfnnldplgaa
open Go.RowKit

theorem catch_slots (a b t : Value) : #[a, b] ++ ((Array.replicate 18 undef).setIfInBounds 4 t).setIfInBounds 0 t = #[a, b, t, undef, undef, undef, t, undef, undef, undef, undef, undef, undef, undef, undef, undef, undef, undef, undef, undef] := by
  apply Array.ext'
  simp [List.replicate]

theorem assert_up (c : Int) (w : World) : (Instr.typeAssert (.iface 183 (.agg #[.int .i64 c])) 20 183 true).run Try.prog w = .ok (.tuple #[.agg #[.int .i64 c], .bool true]) w := by
  simp [Instr.typeAssert, run_underlying Try.underlying183]

set_option maxRecDepth 100000 in
set_option maxHeartbeats 600000 in
/-- What the two named results hold behind a caught panic: the zero value and the reason. -/
theorem catchF_panic (A E : Nat) (c : Int) (x0 x1 z : Value) (w : World) (hA : w.heap[A]? = some (.cells #[x0, x1] 174 (0, 0))) (hE : w.heap[E]? = some (.cells #[z] 24 (0, 0))) (hne : A ≠ E) :
    CallsD Try.prog 97 #[.pointer (some ⟨A, 0, none⟩), .pointer (some ⟨E, 0, none⟩)] (.panicking (up c)) w fun e u' w' =>
      e = .returned (.tuple #[]) ∧ u' = .panicking [{ v := .iface 183 (.agg #[.int .i64 c]), recovered := true }] ∧
      w'.heap[A]? = some (.cells #[.string (bs []), .string (bs [])] 174 (0, 0)) ∧ w'.heap[E]? = some (.cells #[.int .i64 c] 24 (0, 0)) ∧ Kept (fun k _ => k = A ∨ k = E) w w' := by
  have a0 := blk_cell hA 0
  have a1 := blk_cell hA 1
  have e0 := blk_cell hE 0
  have fa0 := blk_free hA 0
  have fa1 := blk_free hA 1
  have fe0 := blk_free hE 0
  simp only [List.getElem?_toArray, List.getElem?_cons_zero, List.getElem?_cons_succ] at a0 a1 e0
  refine callsD_of_wpS Try.func97 rfl fun c₀ cs hu => ?_
  unfold up at hu
  apply wpS_seq
  apply wpS_region
  simp [wpOpsS, go_sem, recoverD, hu, Try.ntmps97, Exit.thenS]
  refine wpS_of_wp ?_
  rw [catch_slots]
  clear hu
  have hta := assert_up
  have hAl := lt_of_block hA
  have hEl := lt_of_block hE
  go_wp2
  go_region
  refine ⟨rfl, _, rfl, .tuple #[], by simp [results, Try.results97], rfl, rfl, ?_⟩
  exact ⟨blk_past (blk_past (blk_other (blk_set (blk_set hA 0 _) 1 _) hne _) _) _, blk_past (blk_past (blk_set (blk_other (blk_other hE hne.symm _) hne.symm _) 0 _) _) _,
    (((((Kept.refl _ _).setCell (fun _ => .inl rfl) _).setCell (fun _ => .inl rfl) _).setCell (fun _ => .inr rfl) _).alloc _).alloc _ |>.drew⟩

set_option maxRecDepth 100000 in
set_option maxHeartbeats 600000 in
theorem catchF_idle (A E : Addr) (w : World) :
    CallsD Try.prog 97 #[.pointer (some A), .pointer (some E)] .returning w fun e u' w' => e = .returned (.tuple #[]) ∧ u' = .returning ∧ w' = w := by
  refine callsD_of_wpS Try.func97 rfl fun c₀ cs hu => ?_
  apply wpS_seq
  apply wpS_region
  simp [wpOpsS, go_sem, recoverD, hu, Try.ntmps97, Exit.thenS]
  refine wpS_of_wp ?_
  rw [catch_slots]
  go_wp2
  refine ⟨rfl, .returning, ?_, .tuple #[], by simp [results, Try.results97], rfl, rfl, rfl⟩
  cases c₀
  simp_all

/-- A whole text, read: nothing may be left. -/
def rdAll {α : Type} (r : Except Int (α × List UInt8)) : Except Int α :=
  match r with
  | .ok (a, []) => .ok a
  | .ok (_, _ :: _) => .error 1
  | .error c => .error c

theorem three (w : World) (o1 o2 o3 : Obj) : (((w.alloc o1).alloc o2).alloc o3).heap[w.heap.size]? = some o1 ∧ (((w.alloc o1).alloc o2).alloc o3).heap[w.heap.size + 1]? = some o2 ∧ (((w.alloc o1).alloc o2).alloc o3).heap[w.heap.size + 2]? = some o3 := by
  have e1 : (w.alloc o1).heap.size = w.heap.size + 1 := by simp
  have e2 : ((w.alloc o1).alloc o2).heap.size = w.heap.size + 2 := by simp
  refine ⟨blk_past (blk_past (blk_new w o1) _) _, ?_, ?_⟩
  · have := blk_past (blk_new (w.alloc o1) o2) o3
    rwa [e1] at this
  · have := blk_new ((w.alloc o1).alloc o2) o3
    rwa [e2] at this
theorem Left.ofBlk {b : Nat} {w : World} {l : List UInt8} {t : TypeId} (h : w.heap[b]? = some (.cells #[.string (bs l)] t (0, 0))) : Left ⟨b, 0, none⟩ w l := ⟨blk_cell h 0, blk_free h 0⟩
/-- What is new behind a world may turn. -/
theorem Kept.ofNew {w w1 w' : World} {X : Nat → Obj → Prop} (h1 : Kept Nil w w1) (h : Kept X w1 w') (hX : ∀ k o, X k o → w.heap.size ≤ k) : Kept Nil w w' :=
  Kept.ofBelow ((h1.below (B := w.heap.size) (fun _ _ x => x.elim) (Nat.le_refl _)).trans (h.below hX h1.size)) _

set_option maxRecDepth 100000 in
set_option maxHeartbeats 600000 in
theorem readF_err (l : List UInt8) (c : Int) (w : World) (hlen : l.length ≤ maxLen) (hr : rdFrame l = .error c) :
    Calls Try.prog 94 #[.string (bs l), .func (.func 95) #[] #[]] w fun e w' => e = .returned (.tuple #[.agg #[.string (bs []), .string (bs [])], .int .i64 c]) ∧ Kept Nil w w' := by
  have hmf : ∀ (fn : Fn) (first cap : Array Value) (w : World), (Instr.makeFunc fn first cap).run Try.prog w = .ok (.func fn first cap) w := fun _ _ _ _ => rfl
  obtain ⟨hA, hE, hR⟩ := three w (.cells #[.string (bs []), .string (bs [])] 174) (.cells #[.int .i64 0] 24) (.cells #[.string (bs l)] 186)
  have H := RdPost.no (rFrame_any _ l _ (Left.ofBlk hR) hlen) hr
  have HA : Hid _ := hA
  have HE : Hid _ := hE
  clear hA hE hR hr hlen
  go_enter_defers Try.func94, Try.ntmps94
  go_wp2_with (first | (go_at_call 95; go_must (refine H.mono ?_); rintro e w1 ⟨rfl, hk⟩))
  have hA1 := hk.block _ _ HA.out (show ¬ w.heap.size = w.heap.size + 2 by omega)
  have hE1 := hk.block _ _ HE.out (show ¬ w.heap.size + 1 = w.heap.size + 2 by omega)
  refine leaves_cons (f := 97) (args := #[.pointer (some ⟨w.heap.size, 0, none⟩), .pointer (some ⟨w.heap.size + 1, 0, none⟩)]) (by simp) (by simp [go_sem]) ?_
  refine (catchF_panic w.heap.size (w.heap.size + 1) c _ _ _ w1 hA1 hE1 (by omega)).mono ?_
  rintro e u' w2 ⟨rfl, rfl, hA2, hE2, hk2⟩
  have a0 := blk_cell hA2 0
  have a1 := blk_cell hA2 1
  have e0 := blk_cell hE2 0
  simp only [List.getElem?_toArray, List.getElem?_cons_zero, List.getElem?_cons_succ] at a0 a1 e0
  simp [Leaves, settle, results, Try.results94, go_sem, a0, a1, e0]
  exact Kept.ofNew (Kept.ofNew ((((Kept.refl _ _).alloc _).alloc _).alloc _) hk (fun k _ h => by have : k = w.heap.size + 2 := h; omega)) hk2 (fun k _ h => by rcases h with rfl | rfl <;> omega)

set_option maxRecDepth 100000 in
set_option maxHeartbeats 600000 in
theorem readF_ok (l : List UInt8) (x : List UInt8 × List UInt8) (w : World) (hlen : l.length ≤ maxLen) (hr : rdFrame l = .ok (x, [])) :
    Calls Try.prog 94 #[.string (bs l), .func (.func 95) #[] #[]] w fun e w' => e = .returned (.tuple #[.agg #[.string (bs x.1), .string (bs x.2)], .int .i64 0]) ∧ Kept Nil w w' := by
  have hmf : ∀ (fn : Fn) (first cap : Array Value) (w : World), (Instr.makeFunc fn first cap).run Try.prog w = .ok (.func fn first cap) w := fun _ _ _ _ => rfl
  obtain ⟨hA, hE, hR⟩ := three w (.cells #[.string (bs []), .string (bs [])] 174) (.cells #[.int .i64 0] 24) (.cells #[.string (bs l)] 186)
  have H := RdPost.ok (rFrame_any _ l _ (Left.ofBlk hR) hlen) hr
  have HA : Hid _ := hA
  have HE : Hid _ := hE
  have hq := bs_toList []
  obtain ⟨y, z⟩ := x
  clear hA hE hR hr hlen
  go_enter_defers Try.func94, Try.ntmps94
  go_wp2_with (first | (go_at_call 95; go_must (refine H.mono ?_); rintro e w1 ⟨v, rfl, hv, hc, hz, hk⟩; unfold FrV at hv; subst hv; have hA1 := hk.block _ _ HA.out (show ¬ w.heap.size = w.heap.size + 2 by omega); have hE1 := hk.block _ _ HE.out (show ¬ w.heap.size + 1 = w.heap.size + 2 by omega); have a0 := blk_cell hA1 0; have a1 := blk_cell hA1 1; have e0 := blk_cell hE1 0; have fa0 := blk_free hA1 0; have fa1 := blk_free hA1 1; have fe0 := blk_free hE1 0; simp only [List.getElem?_toArray, List.getElem?_cons_zero, List.getElem?_cons_succ] at a0 a1 e0) | (go_at_call 98; go_must (refine (must_ok _ _).mono ?_); rintro e w4 ⟨rfl, rfl⟩))
  refine leaves_cons (f := 97) (args := #[.pointer (some ⟨w.heap.size, 0, none⟩), .pointer (some ⟨w.heap.size + 1, 0, none⟩)]) (by simp) (by simp [go_sem]) ?_
  refine (catchF_idle ⟨w.heap.size, 0, none⟩ ⟨w.heap.size + 1, 0, none⟩ _).mono ?_
  rintro e u' w2 ⟨rfl, rfl, hw2⟩
  have hne : w.heap.size ≠ w.heap.size + 1 := by omega
  have hA3 : w2.heap[w.heap.size]? = some (.cells #[.string (bs y), .string (bs z)] 174 (0, 0)) := by rw [hw2]; exact blk_other (blk_set (blk_set (blk_set (blk_set hA1 0 _) 1 _) 0 _) 1 _) hne _
  have hE3 : w2.heap[w.heap.size + 1]? = some (.cells #[.int .i64 0] 24 (0, 0)) := by rw [hw2]; exact blk_set (blk_other (blk_other (blk_other (blk_other hE1 hne.symm _) hne.symm _) hne.symm _) hne.symm _) 0 _
  have hk3 : Kept (fun k _ => w.heap.size ≤ k) w1 w2 := by rw [hw2]; exact ((((((Kept.refl _ _).setCell (fun _ => Nat.le_refl _) _).setCell (fun _ => Nat.le_refl _) _).setCell (fun _ => Nat.le_refl _) _).setCell (fun _ => Nat.le_refl _) _).setCell (fun _ => Nat.le_succ _) _)
  clear hw2
  have b0 := blk_cell hA3 0
  have b1 := blk_cell hA3 1
  have c0 := blk_cell hE3 0
  simp only [List.getElem?_toArray, List.getElem?_cons_zero, List.getElem?_cons_succ] at b0 b1 c0
  simp [Leaves, settle, results, Try.results94, go_sem, b0, b1, c0]
  exact Kept.ofNew (Kept.ofNew ((((Kept.refl _ _).alloc _).alloc _).alloc _) hk (fun k _ h => by have : k = w.heap.size + 2 := h; omega)) hk3 (fun k _ h => h)

end Go.Proofs.Ytmlncfnnldplgaa
