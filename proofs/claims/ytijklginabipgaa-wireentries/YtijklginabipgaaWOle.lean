/-
  Joined: WGetE, WEnt5, WBack1.
-/
import Derived.Test.YtijklginabipgaaWOls
import Derived.Test.YtijklginabipgaaWOlg
import Derived.Test.YtijklginabipgaaWOlf
import Derived.Test.YtijklginabipgaaWOlc
/-
  The program's read at an entry: caught or not.
-/
namespace Go.Proofs.Ytijklginabipgaa
open Go.RowKit

theorem blk_drewE {w : World} {b : Nat} {o : Obj} (h : w.heap[b]? = some o) : w.drew.heap[b]? = some o := h
theorem setsE {w : World} {A : Nat} {t : TypeId} {x0 x1 x2 x3 : Value} (hA : w.heap[A]? = some (.cells #[x0, x1, x2, x3] t (0, 0))) (v0 v1 v2 v3 : Value) :
    ((((w.setCell ⟨A, 0, none⟩ v0).setCell ⟨A, 1, none⟩ v1).setCell ⟨A, 2, none⟩ v2).setCell ⟨A, 3, none⟩ v3).heap[A]? = some (.cells #[v0, v1, v2, v3] t (0, 0)) := by
  have s0 : (w.setCell ⟨A, 0, none⟩ v0).heap[A]? = some (.cells #[v0, x1, x2, x3] t (0, 0)) := blk_set hA 0 v0
  have s1 : ((w.setCell ⟨A, 0, none⟩ v0).setCell ⟨A, 1, none⟩ v1).heap[A]? = some (.cells #[v0, v1, x2, x3] t (0, 0)) := blk_set s0 1 v1
  have s2 : (((w.setCell ⟨A, 0, none⟩ v0).setCell ⟨A, 1, none⟩ v1).setCell ⟨A, 2, none⟩ v2).heap[A]? = some (.cells #[v0, v1, v2, x3] t (0, 0)) := blk_set s1 2 v2
  have s3 : ((((w.setCell ⟨A, 0, none⟩ v0).setCell ⟨A, 1, none⟩ v1).setCell ⟨A, 2, none⟩ v2).setCell ⟨A, 3, none⟩ v3).heap[A]? = some (.cells #[v0, v1, v2, v3] t (0, 0)) := blk_set s2 3 v3
  exact s3

set_option maxRecDepth 100000 in
set_option maxHeartbeats 2000000 in
theorem catchE_panic (A E : Nat) (c : Int) (x0 x1 x2 x3 z : Value) (w : World) (hA : w.heap[A]? = some (.cells #[x0, x1, x2, x3] 52 (0, 0))) (hE : w.heap[E]? = some (.cells #[z] 28 (0, 0))) (hne : A ≠ E) :
    CallsD Try.prog 144 #[.pointer (some ⟨A, 0, none⟩), .pointer (some ⟨E, 0, none⟩)] (.panicking (up c)) w fun e u' w' =>
      e = .returned (.tuple #[]) ∧ u' = .panicking [{ v := .iface 187 (.agg #[.int .i64 c]), recovered := true }] ∧
      w'.heap[A]? = some (.cells #[.int .i64 0, .int .i64 0, .int .i64 0, .string (bs [])] 52 (0, 0)) ∧ w'.heap[E]? = some (.cells #[.int .i64 c] 28 (0, 0)) ∧ Kept (fun k _ => k = A ∨ k = E) w w' := by
  have a0 := blk_at hA 0 rfl
  have a1 := blk_at hA 1 rfl
  have a2 := blk_at hA 2 rfl
  have a3 := blk_at hA 3 rfl
  have e0 := blk_at hE 0 rfl
  have fa0 := blk_free hA 0
  have fa1 := blk_free hA 1
  have fa2 := blk_free hA 2
  have fa3 := blk_free hA 3
  have fe0 := blk_free hE 0
  refine callsD_of_wpS Try.func144 rfl fun c₀ cs hu => ?_
  unfold up at hu
  apply wpS_seq
  apply wpS_region
  simp [wpOpsS, go_sem, recoverD, hu, Try.ntmps144, Exit.thenS]
  refine wpS_of_wp ?_
  rw [catch_slots]
  clear hu
  have hta := assert_up
  have hAl := lt_of_block hA
  have hEl := lt_of_block hE
  go_wp2
  go_region
  refine ⟨rfl, _, rfl, .tuple #[], by simp [results, Try.results144], rfl, rfl, ?_⟩
  refine ⟨?_, ?_, ?_⟩
  · exact blk_drewE (blk_past (blk_past (blk_other (setsE hA _ _ _ _) hne _) _) _)
  · exact blk_drewE (blk_past (blk_past (blk_set (blk_other (blk_other (blk_other (blk_other (hE) hne.symm _) hne.symm _) hne.symm _) hne.symm _) 0 _) _) _)
  · exact Kept.drew (Kept.alloc (Kept.alloc ((((((Kept.refl _ _).setCell (fun _ => .inl rfl) _).setCell (fun _ => .inl rfl) _).setCell (fun _ => .inl rfl) _).setCell (fun _ => .inl rfl) _).setCell (fun _ => .inr rfl) _) _) _)

set_option maxRecDepth 100000 in
set_option maxHeartbeats 600000 in
theorem catchE_idle (A E : Addr) (w : World) :
    CallsD Try.prog 144 #[.pointer (some A), .pointer (some E)] .returning w fun e u' w' => e = .returned (.tuple #[]) ∧ u' = .returning ∧ w' = w := by
  refine callsD_of_wpS Try.func144 rfl fun c₀ cs hu => ?_
  apply wpS_seq
  apply wpS_region
  simp [wpOpsS, go_sem, recoverD, hu, Try.ntmps144, Exit.thenS]
  refine wpS_of_wp ?_
  rw [catch_slots]
  go_wp2
  refine ⟨rfl, .returning, ?_, .tuple #[], by simp [results, Try.results144], rfl, rfl, rfl⟩
  cases c₀
  simp_all

set_option maxRecDepth 100000 in
set_option maxHeartbeats 2000000 in
theorem readE_err (l : List UInt8) (c : Int) (w : World) (hr : rdEnt l = .error c) :
    Calls Try.prog 86 #[.string (bs l), .func (.func 87) #[] #[]] w fun e w' => e = .returned (.tuple #[.agg #[.int .i64 0, .int .i64 0, .int .i64 0, .string (bs [])], .int .i64 c]) ∧ Kept Nil w w' := by
  have hmf : ∀ (fn : Fn) (first cap : Array Value) (w : World), (Instr.makeFunc fn first cap).run Try.prog w = .ok (.func fn first cap) w := fun _ _ _ _ => rfl
  obtain ⟨hA, hE, hR⟩ := three w (.cells #[.int .i64 0, .int .i64 0, .int .i64 0, .string (bs [])] 52) (.cells #[.int .i64 0] 28) (.cells #[.string (bs l)] 190)
  have H := RdPost.no (rEntry_any _ l _ (Left.ofBlk hR)) hr
  have HA : Hid _ := hA
  have HE : Hid _ := hE
  clear hA hE hR hr
  go_enter_defers Try.func86, Try.ntmps86
  go_wp2_with (first | (go_at_call 87; go_must (refine H.mono ?_); rintro e w1 ⟨rfl, hk⟩))
  have hA1 := hk.block _ _ HA.out (show ¬ w.heap.size = w.heap.size + 2 by omega)
  have hE1 := hk.block _ _ HE.out (show ¬ w.heap.size + 1 = w.heap.size + 2 by omega)
  refine leaves_cons (f := 144) (args := #[.pointer (some ⟨w.heap.size, 0, none⟩), .pointer (some ⟨w.heap.size + 1, 0, none⟩)]) (by simp) (by simp [go_sem]) ?_
  refine (catchE_panic w.heap.size (w.heap.size + 1) c _ _ _ _ _ w1 hA1 hE1 (by omega)).mono ?_
  rintro e u' w2 ⟨rfl, rfl, hA2, hE2, hk2⟩
  have a0 := blk_at hA2 0 rfl
  have a1 := blk_at hA2 1 rfl
  have a2 := blk_at hA2 2 rfl
  have a3 := blk_at hA2 3 rfl
  have e0 := blk_at hE2 0 rfl
  simp [Leaves, settle, results, Try.results86, go_sem, a0, a1, a2, a3, e0]
  exact Kept.ofNew (Kept.ofNew ((((Kept.refl _ _).alloc _).alloc _).alloc _) hk (fun k _ h => by have : k = w.heap.size + 2 := h; omega)) hk2 (fun k _ h => by rcases h with rfl | rfl <;> omega)

set_option maxRecDepth 100000 in
set_option maxHeartbeats 2000000 in
theorem readE_ok (l : List UInt8) (x : En) (w : World) (hr : rdEnt l = .ok (x, [])) :
    Calls Try.prog 86 #[.string (bs l), .func (.func 87) #[] #[]] w fun e w' => e = .returned (.tuple #[.agg #[.int .i64 x.ix, .int .i64 x.tm, .int .i64 x.kd, .string (bs x.dt)], .int .i64 0]) ∧ Kept Nil w w' := by
  have hmf : ∀ (fn : Fn) (first cap : Array Value) (w : World), (Instr.makeFunc fn first cap).run Try.prog w = .ok (.func fn first cap) w := fun _ _ _ _ => rfl
  obtain ⟨hA, hE, hR⟩ := three w (.cells #[.int .i64 0, .int .i64 0, .int .i64 0, .string (bs [])] 52) (.cells #[.int .i64 0] 28) (.cells #[.string (bs l)] 190)
  have H := RdPost.ok (rEntry_any _ l _ (Left.ofBlk hR)) hr
  have HA : Hid _ := hA
  have HE : Hid _ := hE
  have hq := bs_toList []
  clear hA hE hR hr
  go_enter_defers Try.func86, Try.ntmps86
  go_wp2_with (first | (go_at_call 87; go_must (refine H.mono ?_); rintro e w1 ⟨v, rfl, hv, hc, hz, hk⟩; unfold EnV at hv; subst hv; have hA1 := hk.block _ _ HA.out (show ¬ w.heap.size = w.heap.size + 2 by omega); have hE1 := hk.block _ _ HE.out (show ¬ w.heap.size + 1 = w.heap.size + 2 by omega); have a0 := blk_at hA1 0 rfl; have a1 := blk_at hA1 1 rfl; have a2 := blk_at hA1 2 rfl; have a3 := blk_at hA1 3 rfl; have fa0 := blk_free hA1 0; have fa1 := blk_free hA1 1; have fa2 := blk_free hA1 2; have fa3 := blk_free hA1 3; have e0 := blk_at hE1 0 rfl; have fe0 := blk_free hE1 0) | (go_at_call 145; go_must (refine (must_ok _ _).mono ?_); rintro e w4 ⟨rfl, rfl⟩))
  refine leaves_cons (f := 144) (args := #[.pointer (some ⟨w.heap.size, 0, none⟩), .pointer (some ⟨w.heap.size + 1, 0, none⟩)]) (by simp) (by simp [go_sem]) ?_
  refine (catchE_idle ⟨w.heap.size, 0, none⟩ ⟨w.heap.size + 1, 0, none⟩ _).mono ?_
  rintro e u' w2 ⟨rfl, rfl, hw2⟩
  have hne : w.heap.size ≠ w.heap.size + 1 := by omega
  have hA3 : w2.heap[w.heap.size]? = some (.cells #[.int .i64 x.ix, .int .i64 x.tm, .int .i64 x.kd, .string (bs x.dt)] 52 (0, 0)) := by rw [hw2]; exact blk_other (setsE (setsE hA1 _ _ _ _) _ _ _ _) hne _
  have hE3 : w2.heap[w.heap.size + 1]? = some (.cells #[.int .i64 0] 28 (0, 0)) := by rw [hw2]; exact blk_set (blk_other (blk_other (blk_other (blk_other (blk_other (blk_other (blk_other (blk_other (hE1) hne.symm _) hne.symm _) hne.symm _) hne.symm _) hne.symm _) hne.symm _) hne.symm _) hne.symm _) 0 _
  have hk3 : Kept (fun k _ => w.heap.size ≤ k) w1 w2 := by rw [hw2]; exact ((((((((((Kept.refl _ _).setCell (fun _ => Nat.le_refl _) _).setCell (fun _ => Nat.le_refl _) _).setCell (fun _ => Nat.le_refl _) _).setCell (fun _ => Nat.le_refl _) _).setCell (fun _ => Nat.le_refl _) _).setCell (fun _ => Nat.le_refl _) _).setCell (fun _ => Nat.le_refl _) _).setCell (fun _ => Nat.le_refl _) _).setCell (fun _ => Nat.le_succ _) _)
  clear hw2
  have b0 := blk_at hA3 0 rfl
  have b1 := blk_at hA3 1 rfl
  have b2 := blk_at hA3 2 rfl
  have b3 := blk_at hA3 3 rfl
  have c0 := blk_at hE3 0 rfl
  simp [Leaves, settle, results, Try.results86, go_sem, b0, b1, b2, b3, c0]
  exact Kept.ofNew (Kept.ofNew ((((Kept.refl _ _).alloc _).alloc _).alloc _) hk (fun k _ h => by have : k = w.heap.size + 2 := h; omega)) hk3 (fun k _ h => h)

set_option maxRecDepth 100000 in
set_option maxHeartbeats 2000000 in
theorem readE_left (l : List UInt8) (x : En) (y : UInt8) (t : List UInt8) (w : World) (hr : rdEnt l = .ok (x, y :: t)) :
    Calls Try.prog 86 #[.string (bs l), .func (.func 87) #[] #[]] w fun e w' => e = .returned (.tuple #[.agg #[.int .i64 0, .int .i64 0, .int .i64 0, .string (bs [])], .int .i64 1]) ∧ Kept Nil w w' := by
  have hmf : ∀ (fn : Fn) (first cap : Array Value) (w : World), (Instr.makeFunc fn first cap).run Try.prog w = .ok (.func fn first cap) w := fun _ _ _ _ => rfl
  obtain ⟨hA, hE, hR⟩ := three w (.cells #[.int .i64 0, .int .i64 0, .int .i64 0, .string (bs [])] 52) (.cells #[.int .i64 0] 28) (.cells #[.string (bs l)] 190)
  have H := RdPost.ok (rEntry_any _ l _ (Left.ofBlk hR)) hr
  have HA : Hid _ := hA
  have HE : Hid _ := hE
  have hq := bs_toList (y :: t)
  clear hA hE hR hr
  go_enter_defers Try.func86, Try.ntmps86
  go_wp2_with (first | (go_at_call 87; go_must (refine H.mono ?_); rintro e w1 ⟨v, rfl, hv, hc, hz, hk⟩; unfold EnV at hv; subst hv; have hA1 := hk.block _ _ HA.out (show ¬ w.heap.size = w.heap.size + 2 by omega); have hE1 := hk.block _ _ HE.out (show ¬ w.heap.size + 1 = w.heap.size + 2 by omega); have a0 := blk_at hA1 0 rfl; have a1 := blk_at hA1 1 rfl; have a2 := blk_at hA1 2 rfl; have a3 := blk_at hA1 3 rfl; have fa0 := blk_free hA1 0; have fa1 := blk_free hA1 1; have fa2 := blk_free hA1 2; have fa3 := blk_free hA1 3; have e0 := blk_at hE1 0 rfl; have fe0 := blk_free hE1 0) | (go_at_call 145; go_must (refine (must_no _ _).mono ?_); rintro e w4 ⟨rfl, rfl⟩))
  refine leaves_cons (f := 144) (args := #[.pointer (some ⟨w.heap.size, 0, none⟩), .pointer (some ⟨w.heap.size + 1, 0, none⟩)]) (by simp) (by simp [go_sem]) ?_
  refine (catchE_panic w.heap.size (w.heap.size + 1) 1 _ _ _ _ _ _ (setsE hA1 _ _ _ _) (blk_other (blk_other (blk_other (blk_other (hE1) (show w.heap.size + 1 ≠ w.heap.size by omega) _) (show w.heap.size + 1 ≠ w.heap.size by omega) _) (show w.heap.size + 1 ≠ w.heap.size by omega) _) (show w.heap.size + 1 ≠ w.heap.size by omega) _) (by omega)).mono ?_
  rintro e u' w2 ⟨rfl, rfl, hA2, hE2, hk2⟩
  have b0 := blk_at hA2 0 rfl
  have b1 := blk_at hA2 1 rfl
  have b2 := blk_at hA2 2 rfl
  have b3 := blk_at hA2 3 rfl
  have c0 := blk_at hE2 0 rfl
  simp [Leaves, settle, results, Try.results86, go_sem, b0, b1, b2, b3, c0]
  refine Kept.ofNew (Kept.ofNew (Kept.ofNew ((((Kept.refl _ _).alloc _).alloc _).alloc _) hk (fun k _ h => by have : k = w.heap.size + 2 := h; omega)) (X := fun k _ => w.heap.size ≤ k) (((((Kept.refl _ _).setCell (fun _ => Nat.le_refl _) _).setCell (fun _ => Nat.le_refl _) _).setCell (fun _ => Nat.le_refl _) _).setCell (fun _ => Nat.le_refl _) _) (fun k _ h => h)) hk2 (fun k _ h => by rcases h with rfl | rfl <;> omega)


end Go.Proofs.Ytijklginabipgaa

/-
  GetEntry, and the document's: the same plain answer.
-/
namespace Go.Proofs.Ytijklginabipgaa
open Go.RowKit

def zEn : En := ⟨0, 0, 0, []⟩
theorem noZero_ent : NoZero rdEnt := noZero_num.then fun _ => noZero_num.then fun _ => noZero_num.then fun _ => (noZero_text 256).then fun _ => NoZero.end _ _ _ (by decide)


theorem readE_any (l : List UInt8) (w : World) :
    Calls Try.prog 86 #[.string (bs l), .func (.func 87) #[] #[]] w (GotPost (EnV) (getAll zEn (rdEnt l)) w) := by
  cases hr : rdEnt l with
  | error c =>
    rw [getAll_err rfl]
    refine (readE_err l c w hr).mono ?_
    rintro e w' ⟨rfl, hk⟩
    exact ⟨_, rfl, rfl, hk⟩
  | ok x =>
    obtain ⟨x, t⟩ := x
    cases t with
    | nil =>
      rw [getAll_ok rfl]
      refine (readE_ok l x w hr).mono ?_
      rintro e w' ⟨rfl, hk⟩
      exact ⟨_, rfl, rfl, hk⟩
    | cons y t =>
      rw [getAll_left rfl]
      refine (readE_left l x y t w hr).mono ?_
      rintro e w' ⟨rfl, hk⟩
      exact ⟨_, rfl, rfl, hk⟩

set_option maxRecDepth 100000 in
set_option maxHeartbeats 2000000 in
theorem getEntry_any (l : List UInt8) (w : World) :
    Calls Try.prog 40 #[.string (bs l)] w (GotPost (EnV) (getAll zEn (rdEnt l)) w) := by
  have H := fun w => readE_any l w
  generalize getAll zEn (rdEnt l) = g at H ⊢
  obtain ⟨x, c⟩ := g
  go_enter Try.func40, Try.ntmps40
  go_wp2_with fail
  refine (H _).mono ?_
  rintro e w1 ⟨v, rfl, hv, hk⟩
  unfold EnV at hv
  subst hv
  have hb := hk.block _ _ (blk_new w (.cells #[.int .i64 0, .int .i64 0, .int .i64 0, .string (bs [])] 52)) (fun x => x.elim)
  have g0 := blk_at hb 0 rfl
  have g1 := blk_at hb 1 rfl
  have g2 := blk_at hb 2 rfl
  have g3 := blk_at hb 3 rfl
  have f0 := blk_free hb 0
  have f1 := blk_free hb 1
  have f2 := blk_free hb 2
  have f3 := blk_free hb 3
  simp only
  go_wp2
  refine bodyPost_ret (v := .tuple #[.agg #[.int .i64 x.ix, .int .i64 x.tm, .int .i64 x.kd, .string (bs x.dt)], .int .i64 c]) (by simp [results, Try.results40, go_sem, g0, g1, g2, g3]) rfl ?_
  have hkk : Kept Nil w w1 := ((Kept.refl _ _).alloc _).trans hk
  exact ⟨_, rfl, rfl, ((((hkk.setNew (Nat.le_refl _) _).setNew (Nat.le_refl _) _).setNew (Nat.le_refl _) _).setNew (Nat.le_refl _) _)⟩

set_option maxRecDepth 100000 in
set_option maxHeartbeats 4000000 in
theorem refGetEntry_any (l : List UInt8) (w : World) (hlen : l.length ≤ maxLen) :
    Calls Try.prog 41 #[.string (bs l)] w (GotPost (EnV) (getAll zEn (rdEnt l)) w) := by
  have hR0 : ((w.alloc (.cells #[.int .i64 0, .int .i64 0, .int .i64 0, .string (bs [])] 52)).alloc (.cells #[.string (bs l), .int .i64 0] 115)).heap[w.heap.size + 1]? = some (.cells #[.string (bs l), .int .i64 0] 115 (0, 0)) := by
    have := blk_new (w.alloc (.cells #[.int .i64 0, .int .i64 0, .int .i64 0, .string (bs [])] 52)) (.cells #[.string (bs l), .int .i64 0] 115)
    rwa [show (w.alloc (.cells #[.int .i64 0, .int .i64 0, .int .i64 0, .string (bs [])] 52)).heap.size = w.heap.size + 1 by simp] at this
  have hst : RSt (w.heap.size + 1) _ (.ok l) := ⟨hlen, hR0⟩
  have H := refREntry_any (w.heap.size + 1) _ _ hst
  have HN : Hid (_) := blk_past (blk_new w (.cells #[.int .i64 0, .int .i64 0, .int .i64 0, .string (bs [])] 52)) (.cells #[.string (bs l), .int .i64 0] 115)
  have hNR : ¬ w.heap.size = w.heap.size + 1 := by omega
  clear hR0 hst hlen
  go_enter Try.func41, Try.ntmps41
  go_wp2_with fail
  refine H.mono ?_
  rintro e w1 ⟨⟨v, x, rfl, hv, hg⟩, t1, k1⟩
  have HQ : Hid (refAll zEn x (stAfter rdEnt (.ok l)) = getAll zEn (rdEnt l)) := refAll_eq _ x _ l hg (fun c h => noZero_ent l c h)
  unfold EnV at hv
  subst hv
  have o1 := k1.block _ _ HN.out hNR
  have K1 : Hid (Kept Nil w w1) := Kept.ofNew (((Kept.refl _ _).alloc _).alloc _) k1 (fun k _ h => by have : k = w.heap.size + 1 := h; omega)
  generalize stAfter rdEnt (.ok l) = s1 at t1 HQ
  have E := refEnd_any (w.heap.size + 1) s1 _ (t1.past (.cells #[.int .i64 x.ix, .int .i64 x.tm, .int .i64 x.kd, .string (bs x.dt)] 52))
  have L1 := blk_new w1 (.cells #[.int .i64 x.ix, .int .i64 x.tm, .int .i64 x.kd, .string (bs x.dt)] 52)
  have hL1 : w1.heap.size ≠ w.heap.size + 1 := Nat.ne_of_gt t1.lt
  have HL1 : Hid (_) := L1
  have HO1 : Hid (_) := blk_past o1 (.cells #[.int .i64 x.ix, .int .i64 x.tm, .int .i64 x.kd, .string (bs x.dt)] 52)
  clear H HN t1 hg L1 o1
  by_cases hz : stEnd s1 = 0
  · have HZ : Hid (refAll zEn x s1 = (x, 0)) := if_pos hz
    rw [hz] at E
    clear hz
    go_wp2_with fail
    refine E.mono ?_
    rintro e w9 ⟨rfl, k9⟩
    have m9 := k9.block _ _ HL1.out hL1
    have o9 := k9.block _ _ HO1.out hNR
    have p0 := blk_at m9 0 rfl
    have p1 := blk_at m9 1 rfl
    have p2 := blk_at m9 2 rfl
    have p3 := blk_at m9 3 rfl
    have g0 := blk_at o9 0 rfl
    have g1 := blk_at o9 1 rfl
    have g2 := blk_at o9 2 rfl
    have g3 := blk_at o9 3 rfl
    have u0 := blk_free o9 0
    have u1 := blk_free o9 1
    have u2 := blk_free o9 2
    have u3 := blk_free o9 3
    have K9 : Hid (Kept Nil w w9) := Kept.ofNew (K1.out.alloc _) k9 (fun k _ h => by have : k = w.heap.size + 1 := h; omega)
    clear m9 o9
    go_wp2
    refine bodyPost_ret (v := .tuple #[.agg #[.int .i64 x.ix, .int .i64 x.tm, .int .i64 x.kd, .string (bs x.dt)], .int .i64 0]) (by simp [results, Try.results41, go_sem, g0, g1, g2, g3]) rfl ?_
    rw [← HQ.out, HZ.out]
    exact ⟨_, rfl, rfl, ((((K9.out.setNew (Nat.le_refl _) _).setNew (Nat.le_refl _) _).setNew (Nat.le_refl _) _).setNew (Nat.le_refl _) _)⟩
  · have HZ : Hid (refAll zEn x s1 = (zEn, stEnd s1)) := if_neg hz
    generalize stEnd s1 = z at E hz HZ
    have hz' : (z != 0) = true := by simpa using hz
    clear hz
    go_wp2_with fail
    refine E.mono ?_
    rintro e w9 ⟨rfl, k9⟩
    have o9 := k9.block _ _ HO1.out hNR
    have g0 := blk_at o9 0 rfl
    have g1 := blk_at o9 1 rfl
    have g2 := blk_at o9 2 rfl
    have g3 := blk_at o9 3 rfl
    have u0 := blk_free o9 0
    have u1 := blk_free o9 1
    have u2 := blk_free o9 2
    have u3 := blk_free o9 3
    have K9 : Hid (Kept Nil w w9) := Kept.ofNew (K1.out.alloc _) k9 (fun k _ h => by have : k = w.heap.size + 1 := h; omega)
    clear o9
    go_wp2
    refine bodyPost_ret (v := .tuple #[.agg #[.int .i64 0, .int .i64 0, .int .i64 0, .string (bs [])], .int .i64 z]) (by simp [results, Try.results41, go_sem, g0, g1, g2, g3]; rfl) rfl ?_
    rw [← HQ.out, HZ.out]
    exact ⟨_, rfl, rfl, ((((K9.out.setNew (Nat.le_refl _) _).setNew (Nat.le_refl _) _).setNew (Nat.le_refl _) _).setNew (Nat.le_refl _) _)⟩


end Go.Proofs.Ytijklginabipgaa

/-
  Two configurations held against each other by the program (config.Same, slices.Equal); what is written of a request, an entry, a configuration is read again.
-/
namespace Go.Proofs.Ytijklginabipgaa
open Go.RowKit

set_option maxRecDepth 100000 in
set_option maxHeartbeats 1000000 in
theorem slEqual_any (B1 B2 c1 c2 : Nat) (a1 a2 : Option Addr) (ns ms : List Int) (w : World) (h1 : IntRow B1 w a1 ns) (h2 : IntRow B2 w a2 ms) (hl1 : (ns.length : Int) ≤ 9223372036854775807) (hl2 : (ms.length : Int) ≤ 9223372036854775807) :
    Calls Try.prog 122 #[.slice a1 ns.length c1, .slice a2 ms.length c2] w fun e w' => e = .returned (.bool (decide (ns = ms))) ∧ Kept Nil w w' := by
  by_cases hlen : ns.length = ms.length
  · have H1 : Hid (IntRow B1 w a1 ns) := h1
    have H2 : Hid (IntRow B2 w a2 ms) := h2
    clear h1 h2
    have hl : (ns.length : Int) = ms.length := by omega
    go_enter Try.func122, Try.ntmps122
    go_wp2
    go_loopw [13] (fun i wr => ∃ k : Nat, k ≤ ns.length ∧ i = .int .i64 k ∧ Hid (ns.take k = ms.take k) ∧ Hid (Kept Nil w wr)) (fun i _ => ns.length - (intOf i).toNat)
    case atStart => exact ⟨0, Nat.zero_le _, rfl, rfl, Kept.refl _ _⟩
    case round =>
      obtain ⟨k, hk, rfl, HT, HK⟩ := hrel
      by_cases hlt : k < ns.length
      · have hlt2 : k < ms.length := by omega
        obtain ⟨x1, rfl, _, e1⟩ := (H1.out.nil HK.out) k hlt
        obtain ⟨x2, rfl, _, e2⟩ := (H2.out.nil HK.out) k hlt2
        have HX : Hid (ns[k] = ms[k] → ns.take (k + 1) = ms.take (k + 1)) := fun h => by
          rw [List.take_succ_eq_append_getElem hlt, List.take_succ_eq_append_getElem hlt2, HT.out, h]
        have HY : Hid (ns[k] ≠ ms[k] → ns ≠ ms) := fun h e => by subst e; exact h rfl
        generalize ns[k] = x at e1 HX HY
        generalize ms[k] = y at e2 HX HY
        by_cases hxy : x = y
        · subst hxy
          have HT2 : Hid _ := HX.out rfl
          clear HX HY
          go_wp2
          go_region
          go_wp2
          go_roundw
          case rel => exact ⟨k + 1, by omega, by go_num, HT2, HK.out.drew⟩
          case measure => simp [intOf]; omega
        · have HN : Hid (decide (ns = ms) = false) := decide_eq_false (HY.out hxy)
          have hxy' : (x != y) = true := by simpa using hxy
          clear HX HY
          go_wp2
          go_region
          go_wp2
          go_ret
          rw [HN.out]
          exact ⟨rfl, HK.out.drew⟩
      · have HN : Hid (decide (ns = ms) = true) := by
          refine decide_eq_true ?_
          have := HT.out
          rwa [List.take_of_length_le (by omega), List.take_of_length_le (by omega)] at this
        go_wp2
        go_ret
        rw [HN.out]
        exact ⟨rfl, HK.out⟩
  · have HN : Hid (decide (ns = ms) = false) := decide_eq_false (fun e => hlen (by rw [e]))
    have hl : ((ns.length : Int) != (ms.length : Int)) = true := by simp; omega
    clear h1 h2 hlen
    go_enter Try.func122, Try.ntmps122
    go_wp2
    go_ret
    rw [HN.out]
    exact ⟨rfl, Kept.refl _ _⟩

set_option maxRecDepth 100000 in
set_option maxHeartbeats 1000000 in
/-- Two that have the same rows are the same. -/
theorem same_yes (B1 B2 c1 c2 c3 d1 d2 d3 : Nat) (a1 a2 a3 b1 b2 b3 : Option Addr) (v n l : List Int) (w : World) (h1 : CfRows B1 w a1 a2 a3 v n l) (h2 : CfRows B2 w b1 b2 b3 v n l) (hl1 : (v.length : Int) ≤ 9223372036854775807) (hl2 : (n.length : Int) ≤ 9223372036854775807) (hl3 : (l.length : Int) ≤ 9223372036854775807) :
    Calls Try.prog 58 #[.agg #[.slice a1 v.length c1, .slice a2 n.length c2, .slice a3 l.length c3], .agg #[.slice b1 v.length d1, .slice b2 n.length d2, .slice b3 l.length d3]] w fun e w' => e = .returned (.bool true) ∧ Kept Nil w w' := by
  have S1 := fun w' (hk : Kept Nil w w') => slEqual_any B1 B2 c1 d1 a1 b1 v v w' (h1.r1.nil hk) (h2.r1.nil hk) hl1 hl1
  have S2 := fun w' (hk : Kept Nil w w') => slEqual_any B1 B2 c2 d2 a2 b2 n n w' (h1.r2.nil hk) (h2.r2.nil hk) hl2 hl2
  have S3 := fun w' (hk : Kept Nil w w') => slEqual_any B1 B2 c3 d3 a3 b3 l l w' (h1.r3.nil hk) (h2.r3.nil hk) hl3 hl3
  rw [decide_eq_true rfl] at S1 S2 S3
  have HA : Hid (_) := blk_past (blk_new w (.cells #[.slice a1 v.length c1, .slice a2 n.length c2, .slice a3 l.length c3] 24)) (.cells #[.slice b1 v.length d1, .slice b2 n.length d2, .slice b3 l.length d3] 24)
  have HB : Hid (((w.alloc (.cells #[.slice a1 v.length c1, .slice a2 n.length c2, .slice a3 l.length c3] 24)).alloc (.cells #[.slice b1 v.length d1, .slice b2 n.length d2, .slice b3 l.length d3] 24)).heap[w.heap.size + 1]? = some (.cells #[.slice b1 v.length d1, .slice b2 n.length d2, .slice b3 l.length d3] 24 (0, 0))) := by
    have := blk_new (w.alloc (.cells #[.slice a1 v.length c1, .slice a2 n.length c2, .slice a3 l.length c3] 24)) (.cells #[.slice b1 v.length d1, .slice b2 n.length d2, .slice b3 l.length d3] 24)
    rwa [show (w.alloc (.cells #[.slice a1 v.length c1, .slice a2 n.length c2, .slice a3 l.length c3] 24)).heap.size = w.heap.size + 1 by simp] at this
  clear h1 h2 hl1 hl2 hl3
  go_enter Try.func58, Try.ntmps58
  go_wp2_with fail
  refine (S1 _ (((Kept.refl _ _).alloc _).alloc _)).mono ?_
  rintro e w1 ⟨rfl, k1⟩
  have K1 : Hid (Kept Nil w w1) := (((Kept.refl _ _).alloc _).alloc _).trans k1
  have A1 : Hid _ := k1.block _ _ HA.out (fun x => x.elim)
  have B1 : Hid _ := k1.block _ _ HB.out (fun x => x.elim)
  have p1 := blk_at A1.out 1 rfl
  have r1 := blk_at B1.out 1 rfl
  go_wp2_with fail
  refine (S2 _ K1.out).mono ?_
  rintro e w2 ⟨rfl, k2⟩
  have K2 : Hid (Kept Nil w w2) := K1.out.trans k2
  have A2 : Hid _ := k2.block _ _ A1.out (fun x => x.elim)
  have B2 : Hid _ := k2.block _ _ B1.out (fun x => x.elim)
  have p2 := blk_at A2.out 2 rfl
  have r2 := blk_at B2.out 2 rfl
  go_wp2_with fail
  refine (S3 _ K2.out).mono ?_
  rintro e w3 ⟨rfl, k3⟩
  go_wp2
  go_ret
  exact ⟨rfl, K2.out.trans k3⟩

/-! ### what is written is read -/
theorem rdThen_num {β : Type} {n : Nat} {t : List UInt8} {f : Nat → List UInt8 → Except Int (β × List UInt8)} (h : n ≤ maxNum) : rdThen (rdNum (enc n ++ t)) f = f n t := rdThen_ok (rdNum_enc h t)
theorem rdThen_text {β : Type} {most : Nat} {s t : List UInt8} {f : List UInt8 → List UInt8 → Except Int (β × List UInt8)} (h : s.length ≤ maxNum) (hm : s.length ≤ most) : rdThen (rdText most (encText s ++ t)) f = f s t := rdThen_ok (rdText_enc h hm t)

theorem rdReq_enc {cl nm kd ifv tm : Nat} {key val : List UInt8} (hq : Rq.ok ⟨cl, nm, kd, key, val, ifv, tm⟩ = true) (h0 : cl ≠ 0) : rdReq (encReq cl nm kd key val ifv tm) = .ok (⟨cl, nm, kd, key, val, ifv, tm⟩, []) := by
  obtain ⟨a1, a2, a3, a4, a5, a6, a7⟩ := ok_facts hq
  have b1 := (isNum_nat a1).2
  have b2 := (isNum_nat a2).2
  have b3 := (isNum_nat a3).2
  have b4 := (isNum_nat a4).2
  have b5 := (isNum_nat a5).2
  simp only [Int.toNat_natCast] at b1 b2 b3 b4 b5
  unfold encReq rdReq
  rw [if_neg h0, enc3]
  unfold encCmd
  simp only [List.append_assoc]
  rw [rdThen_num b1, rdThen_num b2, rdThen_num b3, if_neg h0]
  unfold rdCmd
  have e : enc ifv = enc ifv ++ [] := by simp
  rw [e, rdThen_num b4, rdThen_text (by unfold maxNum; omega) a6, rdThen_text (by unfold maxNum; omega) a7, rdThen_num b5]
  show rdReqEnd _ _ = _
  unfold rdReqEnd
  rw [if_pos hq]
theorem rdEnt_enc {ix tm kd : Nat} {dt t : List UInt8} (hq : En.ok ⟨ix, tm, kd, dt⟩ = true) : rdEnt (encEnt ix tm kd dt ++ t) = .ok (⟨ix, tm, kd, dt⟩, t) := by
  obtain ⟨a1, a2, a3, a4⟩ := En.facts hq
  have b1 := (isCnt_nat a1).2
  have b2 := (isCnt_nat a2).2
  simp only [Int.toNat_natCast] at b1 b2 a3 a4
  rw [encEnt_eq]
  unfold rdEnt
  simp only [List.append_assoc]
  rw [rdThen_num b1, rdThen_num b2, rdThen_num (by unfold maxNum; omega), rdThen_text (by unfold maxNum; omega) a4]
  unfold rdEntEnd
  rw [if_pos hq]
theorem rdNums_enc {ns : List Nat} {t : List UInt8} {most : Nat} (h : Few ns) (hm : ns.length ≤ most) : rdNums most (encNums ns ++ t) = .ok (ns, t) := by
  unfold encNums rdNums
  rw [List.append_assoc, rdThen_ok (rdUpTo_enc (by have := h.len; unfold maxNum; omega) hm _)]
  exact rdTimes_enc ns t h.le
theorem rdCfg_enc {v n l : List Nat} (hq : Cf.ok ⟨v, n, l⟩ = true) : rdCfg (encCfg v n l) = .ok (⟨v, n, l⟩, []) := by
  obtain ⟨r1, r2, r3⟩ := isCfg_facts hq
  have few : ∀ ns : List Nat, rise 0 (intsOf ns) = true → Few ns ∧ ns.length ≤ 9 := fun ns h => by
    obtain ⟨_, f, h9⟩ := rise_few h
    have e : natsOf (intsOf ns) = ns := by
      unfold natsOf intsOf
      rw [List.map_map]
      refine (List.map_congr_left (g := id) fun z _ => ?_).trans (List.map_id _)
      show ((z : Int).toNat) = z
      omega
    rw [e] at f
    rw [intsOf_len] at h9
    exact ⟨f, h9⟩
  obtain ⟨f1, g1⟩ := few v r1
  obtain ⟨f2, g2⟩ := few n r2
  obtain ⟨f3, g3⟩ := few l r3
  unfold encCfg rdCfg
  have e : encNums l = encNums l ++ [] := by simp
  rw [e]
  simp only [List.append_assoc]
  rw [rdThen_ok (rdNums_enc f1 g1), rdThen_ok (rdNums_enc f2 g2), rdThen_ok (rdNums_enc f3 g3)]
  unfold rdCfgEnd
  rw [if_pos hq]

end Go.Proofs.Ytijklginabipgaa
