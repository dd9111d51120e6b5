/-
  Joined: WGetT, WTab20, WGetS, WSnap4, WSnap5.
-/
import Derived.Test.YtijklginabipgaaGreatWTabR
import Derived.Test.YtijklginabipgaaGreatWStep
import Derived.Test.YtijklginabipgaaGreatWOlc
/-
  The program's read at a table: caught or not.
-/
namespace Go.Proofs.YtijklginabipgaaGreat
open Go.RowKit

theorem blk_drewT {w : World} {b : Nat} {o : Obj} (h : w.heap[b]? = some o) : w.drew.heap[b]? = some o := h
theorem setsT {w : World} {A : Nat} {t : TypeId} {x0 x1 x2 : Value} (hA : w.heap[A]? = some (.cells #[x0, x1, x2] t (0, 0))) (v0 v1 v2 : Value) :
    (((w.setCell ⟨A, 0, none⟩ v0).setCell ⟨A, 1, none⟩ v1).setCell ⟨A, 2, none⟩ v2).heap[A]? = some (.cells #[v0, v1, v2] t (0, 0)) := by
  have s0 : (w.setCell ⟨A, 0, none⟩ v0).heap[A]? = some (.cells #[v0, x1, x2] t (0, 0)) := blk_set hA 0 v0
  have s1 : ((w.setCell ⟨A, 0, none⟩ v0).setCell ⟨A, 1, none⟩ v1).heap[A]? = some (.cells #[v0, v1, x2] t (0, 0)) := blk_set s0 1 v1
  have s2 : (((w.setCell ⟨A, 0, none⟩ v0).setCell ⟨A, 1, none⟩ v1).setCell ⟨A, 2, none⟩ v2).heap[A]? = some (.cells #[v0, v1, v2] t (0, 0)) := blk_set s1 2 v2
  exact s2

set_option maxRecDepth 100000 in
set_option maxHeartbeats 2000000 in
theorem catchT_panic (A E : Nat) (c : Int) (x0 x1 x2 z : Value) (w : World) (hA : w.heap[A]? = some (.cells #[x0, x1, x2] 56 (0, 0))) (hE : w.heap[E]? = some (.cells #[z] 26 (0, 0))) (hne : A ≠ E) :
    CallsD Tryz.prog 77 #[.pointer (some ⟨A, 0, none⟩), .pointer (some ⟨E, 0, none⟩)] (.panicking (up c)) w fun e u' w' =>
      e = .returned (.tuple #[]) ∧ u' = .panicking [{ v := .iface 106 (.agg #[.int .i64 c]), recovered := true }] ∧
      w'.heap[A]? = some (.cells #[.slice none 0 0, .slice none 0 0, .int .i64 0] 56 (0, 0)) ∧ w'.heap[E]? = some (.cells #[.int .i64 c] 26 (0, 0)) ∧ Kept (fun k _ => k = A ∨ k = E) w w' := by
  have a0 := blk_at hA 0 rfl
  have a1 := blk_at hA 1 rfl
  have a2 := blk_at hA 2 rfl
  have e0 := blk_at hE 0 rfl
  have fa0 := blk_free hA 0
  have fa1 := blk_free hA 1
  have fa2 := blk_free hA 2
  have fe0 := blk_free hE 0
  refine callsD_of_wpS Tryz.func77 rfl fun c₀ cs hu => ?_
  unfold up at hu
  apply wpS_seq
  apply wpS_region
  simp [wpOpsS, go_sem, recoverD, hu, Tryz.ntmps77, Exit.thenS]
  refine wpS_of_wp ?_
  rw [catch_slots]
  clear hu
  have hta := assert_up
  have hAl := lt_of_block hA
  have hEl := lt_of_block hE
  go_wp2
  go_region
  refine ⟨rfl, _, rfl, .tuple #[], by simp [results, Tryz.results77], rfl, rfl, ?_⟩
  refine ⟨?_, ?_, ?_⟩
  · exact blk_drewT (blk_past (blk_past (blk_other (setsT hA _ _ _) hne _) _) _)
  · exact blk_drewT (blk_past (blk_past (blk_set (blk_other (blk_other (blk_other (hE) hne.symm _) hne.symm _) hne.symm _) 0 _) _) _)
  · exact Kept.drew (Kept.alloc (Kept.alloc (((((Kept.refl _ _).setCell (fun _ => .inl rfl) _).setCell (fun _ => .inl rfl) _).setCell (fun _ => .inl rfl) _).setCell (fun _ => .inr rfl) _) _) _)

set_option maxRecDepth 100000 in
set_option maxHeartbeats 600000 in
theorem catchT_idle (A E : Addr) (w : World) :
    CallsD Tryz.prog 77 #[.pointer (some A), .pointer (some E)] .returning w fun e u' w' => e = .returned (.tuple #[]) ∧ u' = .returning ∧ w' = w := by
  refine callsD_of_wpS Tryz.func77 rfl fun c₀ cs hu => ?_
  apply wpS_seq
  apply wpS_region
  simp [wpOpsS, go_sem, recoverD, hu, Tryz.ntmps77, Exit.thenS]
  refine wpS_of_wp ?_
  rw [catch_slots]
  go_wp2
  refine ⟨rfl, .returning, ?_, .tuple #[], by simp [results, Tryz.results77], rfl, rfl, rfl⟩
  cases c₀
  simp_all

set_option maxRecDepth 100000 in
set_option maxHeartbeats 2000000 in
theorem readT_err (l : List UInt8) (c : Int) (w : World) (hr : rdTab l = .error c) :
    Calls Tryz.prog 41 #[.string (bs l), .func (.func 42) #[] #[]] w fun e w' => e = .returned (.tuple #[.agg #[.slice none 0 0, .slice none 0 0, .int .i64 0], .int .i64 c]) ∧ Kept Nil w w' := by
  have hmf : ∀ (fn : Fn) (first cap : Array Value) (w : World), (Instr.makeFunc fn first cap).run Tryz.prog w = .ok (.func fn first cap) w := fun _ _ _ _ => rfl
  obtain ⟨hA, hE, hR⟩ := three w (.cells #[.slice none 0 0, .slice none 0 0, .int .i64 0] 56) (.cells #[.int .i64 0] 26) (.cells #[.string (bs l)] 109)
  have H := RdPost.no (rTable_any _ l _ (Left.ofBlk hR)) hr
  have HA : Hid _ := hA
  have HE : Hid _ := hE
  clear hA hE hR hr
  go_enter_defers Tryz.func41, Tryz.ntmps41
  go_wp2_with (first | (go_at_call 42; go_must (refine H.mono ?_); rintro e w1 ⟨rfl, hk⟩))
  have hA1 := hk.block _ _ HA.out (show ¬ w.heap.size = w.heap.size + 2 by omega)
  have hE1 := hk.block _ _ HE.out (show ¬ w.heap.size + 1 = w.heap.size + 2 by omega)
  refine leaves_cons (f := 77) (args := #[.pointer (some ⟨w.heap.size, 0, none⟩), .pointer (some ⟨w.heap.size + 1, 0, none⟩)]) (by simp) (by simp [go_sem]) ?_
  refine (catchT_panic w.heap.size (w.heap.size + 1) c _ _ _ _ w1 hA1 hE1 (by omega)).mono ?_
  rintro e u' w2 ⟨rfl, rfl, hA2, hE2, hk2⟩
  have a0 := blk_at hA2 0 rfl
  have a1 := blk_at hA2 1 rfl
  have a2 := blk_at hA2 2 rfl
  have e0 := blk_at hE2 0 rfl
  simp [Leaves, settle, results, Tryz.results41, go_sem, a0, a1, a2, e0]
  exact Kept.ofNew (Kept.ofNew ((((Kept.refl _ _).alloc _).alloc _).alloc _) hk (fun k _ h => by have : k = w.heap.size + 2 := h; omega)) hk2 (fun k _ h => by rcases h with rfl | rfl <;> omega)

set_option maxRecDepth 100000 in
set_option maxHeartbeats 2000000 in
theorem readT_ok (l : List UInt8) (x : Tb) (w : World) (hr : rdTab l = .ok (x, [])) :
    Calls Tryz.prog 41 #[.string (bs l), .func (.func 42) #[] #[]] w (GotPost (TbV w.heap.size) (x, 0) w) := by
  have hmf : ∀ (fn : Fn) (first cap : Array Value) (w : World), (Instr.makeFunc fn first cap).run Tryz.prog w = .ok (.func fn first cap) w := fun _ _ _ _ => rfl
  obtain ⟨hA, hE, hR⟩ := three w (.cells #[.slice none 0 0, .slice none 0 0, .int .i64 0] 56) (.cells #[.int .i64 0] 26) (.cells #[.string (bs l)] 109)
  have H := RdPost.ok (rTable_any _ l _ (Left.ofBlk hR)) hr
  have HA : Hid _ := hA
  have HE : Hid _ := hE
  have hq := bs_toList []
  clear hA hE hR hr
  go_enter_defers Tryz.func41, Tryz.ntmps41
  go_wp2_with (first | (go_at_call 42; go_must (refine H.mono ?_); rintro e w1 ⟨v, rfl, hv, hc, hz, hk⟩; unfold TbV at hv; obtain ⟨ra1, rc1, ra2, rc2, es, hes, rfl, hP⟩ := hv; have HS : Hid _ := hes; have HP : Hid _ := hP; clear hP hes; have hA1 := hk.block _ _ HA.out (show ¬ w.heap.size = w.heap.size + 2 by omega); have hE1 := hk.block _ _ HE.out (show ¬ w.heap.size + 1 = w.heap.size + 2 by omega); have a0 := blk_at hA1 0 rfl; have a1 := blk_at hA1 1 rfl; have a2 := blk_at hA1 2 rfl; have fa0 := blk_free hA1 0; have fa1 := blk_free hA1 1; have fa2 := blk_free hA1 2; have e0 := blk_at hE1 0 rfl; have fe0 := blk_free hE1 0) | (go_at_call 47; go_must (refine (must_ok _ _).mono ?_); rintro e w4 ⟨rfl, rfl⟩))
  refine leaves_cons (f := 77) (args := #[.pointer (some ⟨w.heap.size, 0, none⟩), .pointer (some ⟨w.heap.size + 1, 0, none⟩)]) (by simp) (by simp [go_sem]) ?_
  refine (catchT_idle ⟨w.heap.size, 0, none⟩ ⟨w.heap.size + 1, 0, none⟩ _).mono ?_
  rintro e u' w2 ⟨rfl, rfl, hw2⟩
  have hne : w.heap.size ≠ w.heap.size + 1 := by omega
  have hA3 : w2.heap[w.heap.size]? = some (.cells #[.slice ra1 x.ps.length rc1, .slice ra2 es.length rc2, .int .i64 x.tm] 56 (0, 0)) := by rw [hw2]; exact blk_other (setsT (setsT hA1 _ _ _) _ _ _) hne _
  have hE3 : w2.heap[w.heap.size + 1]? = some (.cells #[.int .i64 0] 26 (0, 0)) := by rw [hw2]; exact blk_set (blk_other (blk_other (blk_other (blk_other (blk_other (blk_other (hE1) hne.symm _) hne.symm _) hne.symm _) hne.symm _) hne.symm _) hne.symm _) 0 _
  have hk3 : Kept (fun k _ => k = w.heap.size ∨ k = w.heap.size + 1) w1 w2 := by rw [hw2]; exact ((((((((Kept.refl _ _).setCell (fun _ => .inl rfl) _).setCell (fun _ => .inl rfl) _).setCell (fun _ => .inl rfl) _).setCell (fun _ => .inl rfl) _).setCell (fun _ => .inl rfl) _).setCell (fun _ => .inl rfl) _).setCell (fun _ => .inr rfl) _)
  clear hw2
  have b0 := blk_at hA3 0 rfl
  have b1 := blk_at hA3 1 rfl
  have b2 := blk_at hA3 2 rfl
  have c0 := blk_at hE3 0 rfl
  simp [Leaves, settle, results, Tryz.results41, go_sem, b0, b1, b2, c0]
  have HKN : Kept Nil w w2 := Kept.ofNew (Kept.ofNew ((((Kept.refl _ _).alloc _).alloc _).alloc _) hk (fun k _ h => by have : k = w.heap.size + 2 := h; omega)) hk3 (fun k _ h => by rcases h with rfl | rfl <;> omega)
  exact ⟨_, rfl, ⟨ra1, rc1, ra2, rc2, es, HS.out, rfl, OwnPrs.through HP.out.1 hk3, OwnSss.through HP.out.2 hk3⟩, HKN⟩

set_option maxRecDepth 100000 in
set_option maxHeartbeats 2000000 in
theorem readT_left (l : List UInt8) (x : Tb) (y : UInt8) (t : List UInt8) (w : World) (hr : rdTab l = .ok (x, y :: t)) :
    Calls Tryz.prog 41 #[.string (bs l), .func (.func 42) #[] #[]] w fun e w' => e = .returned (.tuple #[.agg #[.slice none 0 0, .slice none 0 0, .int .i64 0], .int .i64 1]) ∧ Kept Nil w w' := by
  have hmf : ∀ (fn : Fn) (first cap : Array Value) (w : World), (Instr.makeFunc fn first cap).run Tryz.prog w = .ok (.func fn first cap) w := fun _ _ _ _ => rfl
  obtain ⟨hA, hE, hR⟩ := three w (.cells #[.slice none 0 0, .slice none 0 0, .int .i64 0] 56) (.cells #[.int .i64 0] 26) (.cells #[.string (bs l)] 109)
  have H := RdPost.ok (rTable_any _ l _ (Left.ofBlk hR)) hr
  have HA : Hid _ := hA
  have HE : Hid _ := hE
  have hq := bs_toList (y :: t)
  clear hA hE hR hr
  go_enter_defers Tryz.func41, Tryz.ntmps41
  go_wp2_with (first | (go_at_call 42; go_must (refine H.mono ?_); rintro e w1 ⟨v, rfl, hv, hc, hz, hk⟩; unfold TbV at hv; obtain ⟨ra1, rc1, ra2, rc2, es, hes, rfl, hP⟩ := hv; have HS : Hid _ := hes; have HP : Hid _ := hP; clear hP hes; have hA1 := hk.block _ _ HA.out (show ¬ w.heap.size = w.heap.size + 2 by omega); have hE1 := hk.block _ _ HE.out (show ¬ w.heap.size + 1 = w.heap.size + 2 by omega); have a0 := blk_at hA1 0 rfl; have a1 := blk_at hA1 1 rfl; have a2 := blk_at hA1 2 rfl; have fa0 := blk_free hA1 0; have fa1 := blk_free hA1 1; have fa2 := blk_free hA1 2; have e0 := blk_at hE1 0 rfl; have fe0 := blk_free hE1 0) | (go_at_call 47; go_must (refine (must_no _ _).mono ?_); rintro e w4 ⟨rfl, rfl⟩))
  refine leaves_cons (f := 77) (args := #[.pointer (some ⟨w.heap.size, 0, none⟩), .pointer (some ⟨w.heap.size + 1, 0, none⟩)]) (by simp) (by simp [go_sem]) ?_
  refine (catchT_panic w.heap.size (w.heap.size + 1) 1 _ _ _ _ _ (setsT hA1 _ _ _) (blk_other (blk_other (blk_other (hE1) (show w.heap.size + 1 ≠ w.heap.size by omega) _) (show w.heap.size + 1 ≠ w.heap.size by omega) _) (show w.heap.size + 1 ≠ w.heap.size by omega) _) (by omega)).mono ?_
  rintro e u' w2 ⟨rfl, rfl, hA2, hE2, hk2⟩
  have b0 := blk_at hA2 0 rfl
  have b1 := blk_at hA2 1 rfl
  have b2 := blk_at hA2 2 rfl
  have c0 := blk_at hE2 0 rfl
  simp [Leaves, settle, results, Tryz.results41, go_sem, b0, b1, b2, c0]
  refine Kept.ofNew (Kept.ofNew (Kept.ofNew ((((Kept.refl _ _).alloc _).alloc _).alloc _) hk (fun k _ h => by have : k = w.heap.size + 2 := h; omega)) (X := fun k _ => w.heap.size ≤ k) ((((Kept.refl _ _).setCell (fun _ => Nat.le_refl _) _).setCell (fun _ => Nat.le_refl _) _).setCell (fun _ => Nat.le_refl _) _) (fun k _ h => h)) hk2 (fun k _ h => by rcases h with rfl | rfl <;> omega)


end Go.Proofs.YtijklginabipgaaGreat

/-
  GetTable by the program.
-/
namespace Go.Proofs.YtijklginabipgaaGreat
open Go.RowKit

def zTb : Tb := ⟨0, [], []⟩

theorem readT_any (l : List UInt8) (w : World) :
    Calls Tryz.prog 41 #[.string (bs l), .func (.func 42) #[] #[]] w (GotPost (TbV w.heap.size) (getAll zTb (rdTab l)) w) := by
  cases hr : rdTab l with
  | error c =>
    rw [getAll_err rfl]
    refine (readT_err l c w hr).mono ?_
    rintro e w' ⟨rfl, hk⟩
    exact ⟨_, rfl, ⟨none, 0, none, 0, [], rfl, rfl, World.ownsRow_nil _ _ _ _, World.ownsRow_nil _ _ _ _, fun _ h => by simp at h⟩, hk⟩
  | ok x =>
    obtain ⟨x, t⟩ := x
    cases t with
    | nil =>
      rw [getAll_ok rfl]
      refine (readT_ok l x w hr).mono ?_
      exact fun e w' h => h
    | cons y t =>
      rw [getAll_left rfl]
      refine (readT_left l x y t w hr).mono ?_
      rintro e w' ⟨rfl, hk⟩
      exact ⟨_, rfl, ⟨none, 0, none, 0, [], rfl, rfl, World.ownsRow_nil _ _ _ _, World.ownsRow_nil _ _ _ _, fun _ h => by simp at h⟩, hk⟩

set_option maxRecDepth 100000 in
set_option maxHeartbeats 2000000 in
theorem getTable_any (l : List UInt8) (w : World) :
    Calls Tryz.prog 14 #[.string (bs l)] w (GotPost (TbV w.heap.size) (getAll zTb (rdTab l)) w) := by
  have H := fun w => readT_any l w
  generalize getAll zTb (rdTab l) = g at H ⊢
  obtain ⟨x, c⟩ := g
  go_enter Tryz.func14, Tryz.ntmps14
  go_wp2_with fail
  refine (H _).mono ?_
  rintro e w1 ⟨v, rfl, hv, hk⟩
  obtain ⟨a1, c1, a2, c2, es, hes, rfl, o1, o2⟩ := hv
  have HS : Hid (es.map Es.s = x.ss) := hes
  have O1 : Hid (OwnPrs (w.heap.size + 1) w1 a1 c1 x.ps) := own_mono o1 (by simp)
  have O2 : Hid (OwnSss (w.heap.size + 1) w1 a2 c2 es) := OwnSss.mono o2 (by simp)
  clear o1 o2 hes
  have hb := hk.block _ _ (blk_new w (.cells #[.slice none 0 0, .slice none 0 0, .int .i64 0] 56)) (fun x => x.elim)
  have g0 := blk_at hb 0 rfl
  have g1 := blk_at hb 1 rfl
  have g2 := blk_at hb 2 rfl
  have f0 := blk_free hb 0
  have f1 := blk_free hb 1
  have f2 := blk_free hb 2
  simp only
  go_wp2
  refine bodyPost_ret (v := .tuple #[.agg #[.slice a1 x.ps.length c1, .slice a2 es.length c2, .int .i64 x.tm], .int .i64 c]) (by simp [results, Tryz.results14, go_sem, g0, g1, g2]) rfl ?_
  have hkk : Kept Nil w w1 := ((Kept.refl _ _).alloc _).trans hk
  exact ⟨_, rfl, ⟨a1, c1, a2, c2, es, HS.out, rfl, own_mono (ownsRow_setCell_below (ownsRow_setCell_below (ownsRow_setCell_below O1.out (show w.heap.size < w.heap.size + 1 by omega) _) (show w.heap.size < w.heap.size + 1 by omega) _) (show w.heap.size < w.heap.size + 1 by omega) _) (Nat.le_of_lt (show w.heap.size < w.heap.size + 1 by omega)), OwnSss.mono (OwnSss.setB (OwnSss.setB (OwnSss.setB O2.out (show w.heap.size < w.heap.size + 1 by omega) _) (show w.heap.size < w.heap.size + 1 by omega) _) (show w.heap.size < w.heap.size + 1 by omega) _) (Nat.le_of_lt (show w.heap.size < w.heap.size + 1 by omega))⟩, (((hkk.setNew (Nat.le_refl _) _).setNew (Nat.le_refl _) _).setNew (Nat.le_refl _) _)⟩

end Go.Proofs.YtijklginabipgaaGreat

/-
  The program's read at a snapshot: caught or not.
-/
namespace Go.Proofs.YtijklginabipgaaGreat
open Go.RowKit

theorem blk_drewS {w : World} {b : Nat} {o : Obj} (h : w.heap[b]? = some o) : w.drew.heap[b]? = some o := h
theorem setsS {w : World} {A : Nat} {t : TypeId} {x0 x1 x2 x3 x4 x5 : Value} (hA : w.heap[A]? = some (.cells #[x0, x1, x2, x3, x4, x5] t (0, 0))) (v0 v1 v2 v3 v4 v5 : Value) :
    ((((((w.setCell ⟨A, 0, none⟩ v0).setCell ⟨A, 1, none⟩ v1).setCell ⟨A, 2, none⟩ v2).setCell ⟨A, 3, none⟩ v3).setCell ⟨A, 4, none⟩ v4).setCell ⟨A, 5, none⟩ v5).heap[A]? = some (.cells #[v0, v1, v2, v3, v4, v5] t (0, 0)) := by
  have s0 : (w.setCell ⟨A, 0, none⟩ v0).heap[A]? = some (.cells #[v0, x1, x2, x3, x4, x5] t (0, 0)) := blk_set hA 0 v0
  have s1 : ((w.setCell ⟨A, 0, none⟩ v0).setCell ⟨A, 1, none⟩ v1).heap[A]? = some (.cells #[v0, v1, x2, x3, x4, x5] t (0, 0)) := blk_set s0 1 v1
  have s2 : (((w.setCell ⟨A, 0, none⟩ v0).setCell ⟨A, 1, none⟩ v1).setCell ⟨A, 2, none⟩ v2).heap[A]? = some (.cells #[v0, v1, v2, x3, x4, x5] t (0, 0)) := blk_set s1 2 v2
  have s3 : ((((w.setCell ⟨A, 0, none⟩ v0).setCell ⟨A, 1, none⟩ v1).setCell ⟨A, 2, none⟩ v2).setCell ⟨A, 3, none⟩ v3).heap[A]? = some (.cells #[v0, v1, v2, v3, x4, x5] t (0, 0)) := blk_set s2 3 v3
  have s4 : (((((w.setCell ⟨A, 0, none⟩ v0).setCell ⟨A, 1, none⟩ v1).setCell ⟨A, 2, none⟩ v2).setCell ⟨A, 3, none⟩ v3).setCell ⟨A, 4, none⟩ v4).heap[A]? = some (.cells #[v0, v1, v2, v3, v4, x5] t (0, 0)) := blk_set s3 4 v4
  have s5 : ((((((w.setCell ⟨A, 0, none⟩ v0).setCell ⟨A, 1, none⟩ v1).setCell ⟨A, 2, none⟩ v2).setCell ⟨A, 3, none⟩ v3).setCell ⟨A, 4, none⟩ v4).setCell ⟨A, 5, none⟩ v5).heap[A]? = some (.cells #[v0, v1, v2, v3, v4, v5] t (0, 0)) := blk_set s4 5 v5
  exact s5

set_option maxRecDepth 100000 in
set_option maxHeartbeats 2000000 in
theorem catchS_panic (A E : Nat) (c : Int) (x0 x1 x2 x3 x4 x5 z : Value) (w : World) (hA : w.heap[A]? = some (.cells #[x0, x1, x2, x3, x4, x5] 43 (0, 0))) (hE : w.heap[E]? = some (.cells #[z] 26 (0, 0))) (hne : A ≠ E) :
    CallsD Tryz.prog 66 #[.pointer (some ⟨A, 0, none⟩), .pointer (some ⟨E, 0, none⟩)] (.panicking (up c)) w fun e u' w' =>
      e = .returned (.tuple #[]) ∧ u' = .panicking [{ v := .iface 106 (.agg #[.int .i64 c]), recovered := true }] ∧
      w'.heap[A]? = some (.cells #[.int .i64 0, .int .i64 0, .slice none 0 0, .slice none 0 0, .slice none 0 0, .string (bs [])] 43 (0, 0)) ∧ w'.heap[E]? = some (.cells #[.int .i64 c] 26 (0, 0)) ∧ Kept (fun k _ => k = A ∨ k = E) w w' := by
  have a0 := blk_at hA 0 rfl
  have a1 := blk_at hA 1 rfl
  have a2 := blk_at hA 2 rfl
  have a3 := blk_at hA 3 rfl
  have a4 := blk_at hA 4 rfl
  have a5 := blk_at hA 5 rfl
  have e0 := blk_at hE 0 rfl
  have fa0 := blk_free hA 0
  have fa1 := blk_free hA 1
  have fa2 := blk_free hA 2
  have fa3 := blk_free hA 3
  have fa4 := blk_free hA 4
  have fa5 := blk_free hA 5
  have fe0 := blk_free hE 0
  refine callsD_of_wpS Tryz.func66 rfl fun c₀ cs hu => ?_
  unfold up at hu
  apply wpS_seq
  apply wpS_region
  simp [wpOpsS, go_sem, recoverD, hu, Tryz.ntmps66, Exit.thenS]
  refine wpS_of_wp ?_
  rw [catch_slots]
  clear hu
  have hta := assert_up
  have hAl := lt_of_block hA
  have hEl := lt_of_block hE
  go_wp2
  go_region
  refine ⟨rfl, _, rfl, .tuple #[], by simp [results, Tryz.results66], rfl, rfl, ?_⟩
  refine ⟨?_, ?_, ?_⟩
  · exact blk_drewS (blk_past (blk_past (blk_other (setsS hA _ _ _ _ _ _) hne _) _) _)
  · exact blk_drewS (blk_past (blk_past (blk_set (blk_other (blk_other (blk_other (blk_other (blk_other (blk_other (hE) hne.symm _) hne.symm _) hne.symm _) hne.symm _) hne.symm _) hne.symm _) 0 _) _) _)
  · exact Kept.drew (Kept.alloc (Kept.alloc ((((((((Kept.refl _ _).setCell (fun _ => .inl rfl) _).setCell (fun _ => .inl rfl) _).setCell (fun _ => .inl rfl) _).setCell (fun _ => .inl rfl) _).setCell (fun _ => .inl rfl) _).setCell (fun _ => .inl rfl) _).setCell (fun _ => .inr rfl) _) _) _)

set_option maxRecDepth 100000 in
set_option maxHeartbeats 600000 in
theorem catchS_idle (A E : Addr) (w : World) :
    CallsD Tryz.prog 66 #[.pointer (some A), .pointer (some E)] .returning w fun e u' w' => e = .returned (.tuple #[]) ∧ u' = .returning ∧ w' = w := by
  refine callsD_of_wpS Tryz.func66 rfl fun c₀ cs hu => ?_
  apply wpS_seq
  apply wpS_region
  simp [wpOpsS, go_sem, recoverD, hu, Tryz.ntmps66, Exit.thenS]
  refine wpS_of_wp ?_
  rw [catch_slots]
  go_wp2
  refine ⟨rfl, .returning, ?_, .tuple #[], by simp [results, Tryz.results66], rfl, rfl, rfl⟩
  cases c₀
  simp_all

set_option maxRecDepth 100000 in
set_option maxHeartbeats 2000000 in
theorem readS_err (l : List UInt8) (c : Int) (w : World) (hr : rdSnap l = .error c) :
    Calls Tryz.prog 31 #[.string (bs l), .func (.func 32) #[] #[]] w fun e w' => e = .returned (.tuple #[.agg #[.int .i64 0, .int .i64 0, .slice none 0 0, .slice none 0 0, .slice none 0 0, .string (bs [])], .int .i64 c]) ∧ Kept Nil w w' := by
  have hmf : ∀ (fn : Fn) (first cap : Array Value) (w : World), (Instr.makeFunc fn first cap).run Tryz.prog w = .ok (.func fn first cap) w := fun _ _ _ _ => rfl
  obtain ⟨hA, hE, hR⟩ := three w (.cells #[.int .i64 0, .int .i64 0, .slice none 0 0, .slice none 0 0, .slice none 0 0, .string (bs [])] 43) (.cells #[.int .i64 0] 26) (.cells #[.string (bs l)] 109)
  have H := RdPost.no (rWhole_any _ l _ (Left.ofBlk hR)) hr
  have HA : Hid _ := hA
  have HE : Hid _ := hE
  clear hA hE hR hr
  go_enter_defers Tryz.func31, Tryz.ntmps31
  go_wp2_with (first | (go_at_call 32; go_must (refine H.mono ?_); rintro e w1 ⟨rfl, hk⟩))
  have hA1 := hk.block _ _ HA.out (show ¬ w.heap.size = w.heap.size + 2 by omega)
  have hE1 := hk.block _ _ HE.out (show ¬ w.heap.size + 1 = w.heap.size + 2 by omega)
  refine leaves_cons (f := 66) (args := #[.pointer (some ⟨w.heap.size, 0, none⟩), .pointer (some ⟨w.heap.size + 1, 0, none⟩)]) (by simp) (by simp [go_sem]) ?_
  refine (catchS_panic w.heap.size (w.heap.size + 1) c _ _ _ _ _ _ _ w1 hA1 hE1 (by omega)).mono ?_
  rintro e u' w2 ⟨rfl, rfl, hA2, hE2, hk2⟩
  have a0 := blk_at hA2 0 rfl
  have a1 := blk_at hA2 1 rfl
  have a2 := blk_at hA2 2 rfl
  have a3 := blk_at hA2 3 rfl
  have a4 := blk_at hA2 4 rfl
  have a5 := blk_at hA2 5 rfl
  have e0 := blk_at hE2 0 rfl
  simp [Leaves, settle, results, Tryz.results31, go_sem, a0, a1, a2, a3, a4, a5, e0]
  exact Kept.ofNew (Kept.ofNew ((((Kept.refl _ _).alloc _).alloc _).alloc _) hk (fun k _ h => by have : k = w.heap.size + 2 := h; omega)) hk2 (fun k _ h => by rcases h with rfl | rfl <;> omega)

set_option maxRecDepth 100000 in
set_option maxHeartbeats 2000000 in
theorem readS_ok (l : List UInt8) (x : Sn) (w : World) (hr : rdSnap l = .ok (x, [])) :
    Calls Tryz.prog 31 #[.string (bs l), .func (.func 32) #[] #[]] w (GotPost (SnV w.heap.size) (x, 0) w) := by
  have hmf : ∀ (fn : Fn) (first cap : Array Value) (w : World), (Instr.makeFunc fn first cap).run Tryz.prog w = .ok (.func fn first cap) w := fun _ _ _ _ => rfl
  obtain ⟨hA, hE, hR⟩ := three w (.cells #[.int .i64 0, .int .i64 0, .slice none 0 0, .slice none 0 0, .slice none 0 0, .string (bs [])] 43) (.cells #[.int .i64 0] 26) (.cells #[.string (bs l)] 109)
  have H := RdPost.ok (rWhole_any _ l _ (Left.ofBlk hR)) hr
  have HA : Hid _ := hA
  have HE : Hid _ := hE
  have hq := bs_toList []
  clear hA hE hR hr
  go_enter_defers Tryz.func31, Tryz.ntmps31
  go_wp2_with (first | (go_at_call 32; go_must (refine H.mono ?_); rintro e w1 ⟨v, rfl, hv, hc, hz, hk⟩; unfold SnV at hv; obtain ⟨ra1, ra2, ra3, rc1, rc2, rc3, rfl, hP⟩ := hv; have HP : Hid _ := hP; clear hP; have hA1 := hk.block _ _ HA.out (show ¬ w.heap.size = w.heap.size + 2 by omega); have hE1 := hk.block _ _ HE.out (show ¬ w.heap.size + 1 = w.heap.size + 2 by omega); have a0 := blk_at hA1 0 rfl; have a1 := blk_at hA1 1 rfl; have a2 := blk_at hA1 2 rfl; have a3 := blk_at hA1 3 rfl; have a4 := blk_at hA1 4 rfl; have a5 := blk_at hA1 5 rfl; have fa0 := blk_free hA1 0; have fa1 := blk_free hA1 1; have fa2 := blk_free hA1 2; have fa3 := blk_free hA1 3; have fa4 := blk_free hA1 4; have fa5 := blk_free hA1 5; have e0 := blk_at hE1 0 rfl; have fe0 := blk_free hE1 0) | (go_at_call 47; go_must (refine (must_ok _ _).mono ?_); rintro e w4 ⟨rfl, rfl⟩))
  refine leaves_cons (f := 66) (args := #[.pointer (some ⟨w.heap.size, 0, none⟩), .pointer (some ⟨w.heap.size + 1, 0, none⟩)]) (by simp) (by simp [go_sem]) ?_
  refine (catchS_idle ⟨w.heap.size, 0, none⟩ ⟨w.heap.size + 1, 0, none⟩ _).mono ?_
  rintro e u' w2 ⟨rfl, rfl, hw2⟩
  have hne : w.heap.size ≠ w.heap.size + 1 := by omega
  have hA3 : w2.heap[w.heap.size]? = some (.cells #[.int .i64 x.ix, .int .i64 x.tm, .slice ra1 x.c.v.length rc1, .slice ra2 x.c.n.length rc2, .slice ra3 x.c.l.length rc3, .string (bs x.dt)] 43 (0, 0)) := by rw [hw2]; exact blk_other (setsS (setsS hA1 _ _ _ _ _ _) _ _ _ _ _ _) hne _
  have hE3 : w2.heap[w.heap.size + 1]? = some (.cells #[.int .i64 0] 26 (0, 0)) := by rw [hw2]; exact blk_set (blk_other (blk_other (blk_other (blk_other (blk_other (blk_other (blk_other (blk_other (blk_other (blk_other (blk_other (blk_other (hE1) hne.symm _) hne.symm _) hne.symm _) hne.symm _) hne.symm _) hne.symm _) hne.symm _) hne.symm _) hne.symm _) hne.symm _) hne.symm _) hne.symm _) 0 _
  have hk3 : Kept (fun k _ => k = w.heap.size ∨ k = w.heap.size + 1) w1 w2 := by rw [hw2]; exact ((((((((((((((Kept.refl _ _).setCell (fun _ => .inl rfl) _).setCell (fun _ => .inl rfl) _).setCell (fun _ => .inl rfl) _).setCell (fun _ => .inl rfl) _).setCell (fun _ => .inl rfl) _).setCell (fun _ => .inl rfl) _).setCell (fun _ => .inl rfl) _).setCell (fun _ => .inl rfl) _).setCell (fun _ => .inl rfl) _).setCell (fun _ => .inl rfl) _).setCell (fun _ => .inl rfl) _).setCell (fun _ => .inl rfl) _).setCell (fun _ => .inr rfl) _)
  clear hw2
  have b0 := blk_at hA3 0 rfl
  have b1 := blk_at hA3 1 rfl
  have b2 := blk_at hA3 2 rfl
  have b3 := blk_at hA3 3 rfl
  have b4 := blk_at hA3 4 rfl
  have b5 := blk_at hA3 5 rfl
  have c0 := blk_at hE3 0 rfl
  simp [Leaves, settle, results, Tryz.results31, go_sem, b0, b1, b2, b3, b4, b5, c0]
  have HKN : Kept Nil w w2 := Kept.ofNew (Kept.ofNew ((((Kept.refl _ _).alloc _).alloc _).alloc _) hk (fun k _ h => by have : k = w.heap.size + 2 := h; omega)) hk3 (fun k _ h => by rcases h with rfl | rfl <;> omega)
  exact ⟨_, rfl, ⟨ra1, ra2, ra3, rc1, rc2, rc3, rfl, OwnNats.through HP.out.1 hk3, OwnNats.through HP.out.2.1 hk3, OwnNats.through HP.out.2.2 hk3⟩, HKN⟩

set_option maxRecDepth 100000 in
set_option maxHeartbeats 2000000 in
theorem readS_left (l : List UInt8) (x : Sn) (y : UInt8) (t : List UInt8) (w : World) (hr : rdSnap l = .ok (x, y :: t)) :
    Calls Tryz.prog 31 #[.string (bs l), .func (.func 32) #[] #[]] w fun e w' => e = .returned (.tuple #[.agg #[.int .i64 0, .int .i64 0, .slice none 0 0, .slice none 0 0, .slice none 0 0, .string (bs [])], .int .i64 1]) ∧ Kept Nil w w' := by
  have hmf : ∀ (fn : Fn) (first cap : Array Value) (w : World), (Instr.makeFunc fn first cap).run Tryz.prog w = .ok (.func fn first cap) w := fun _ _ _ _ => rfl
  obtain ⟨hA, hE, hR⟩ := three w (.cells #[.int .i64 0, .int .i64 0, .slice none 0 0, .slice none 0 0, .slice none 0 0, .string (bs [])] 43) (.cells #[.int .i64 0] 26) (.cells #[.string (bs l)] 109)
  have H := RdPost.ok (rWhole_any _ l _ (Left.ofBlk hR)) hr
  have HA : Hid _ := hA
  have HE : Hid _ := hE
  have hq := bs_toList (y :: t)
  clear hA hE hR hr
  go_enter_defers Tryz.func31, Tryz.ntmps31
  go_wp2_with (first | (go_at_call 32; go_must (refine H.mono ?_); rintro e w1 ⟨v, rfl, hv, hc, hz, hk⟩; unfold SnV at hv; obtain ⟨ra1, ra2, ra3, rc1, rc2, rc3, rfl, hP⟩ := hv; have HP : Hid _ := hP; clear hP; have hA1 := hk.block _ _ HA.out (show ¬ w.heap.size = w.heap.size + 2 by omega); have hE1 := hk.block _ _ HE.out (show ¬ w.heap.size + 1 = w.heap.size + 2 by omega); have a0 := blk_at hA1 0 rfl; have a1 := blk_at hA1 1 rfl; have a2 := blk_at hA1 2 rfl; have a3 := blk_at hA1 3 rfl; have a4 := blk_at hA1 4 rfl; have a5 := blk_at hA1 5 rfl; have fa0 := blk_free hA1 0; have fa1 := blk_free hA1 1; have fa2 := blk_free hA1 2; have fa3 := blk_free hA1 3; have fa4 := blk_free hA1 4; have fa5 := blk_free hA1 5; have e0 := blk_at hE1 0 rfl; have fe0 := blk_free hE1 0) | (go_at_call 47; go_must (refine (must_no _ _).mono ?_); rintro e w4 ⟨rfl, rfl⟩))
  refine leaves_cons (f := 66) (args := #[.pointer (some ⟨w.heap.size, 0, none⟩), .pointer (some ⟨w.heap.size + 1, 0, none⟩)]) (by simp) (by simp [go_sem]) ?_
  refine (catchS_panic w.heap.size (w.heap.size + 1) 1 _ _ _ _ _ _ _ _ (setsS hA1 _ _ _ _ _ _) (blk_other (blk_other (blk_other (blk_other (blk_other (blk_other (hE1) (show w.heap.size + 1 ≠ w.heap.size by omega) _) (show w.heap.size + 1 ≠ w.heap.size by omega) _) (show w.heap.size + 1 ≠ w.heap.size by omega) _) (show w.heap.size + 1 ≠ w.heap.size by omega) _) (show w.heap.size + 1 ≠ w.heap.size by omega) _) (show w.heap.size + 1 ≠ w.heap.size by omega) _) (by omega)).mono ?_
  rintro e u' w2 ⟨rfl, rfl, hA2, hE2, hk2⟩
  have b0 := blk_at hA2 0 rfl
  have b1 := blk_at hA2 1 rfl
  have b2 := blk_at hA2 2 rfl
  have b3 := blk_at hA2 3 rfl
  have b4 := blk_at hA2 4 rfl
  have b5 := blk_at hA2 5 rfl
  have c0 := blk_at hE2 0 rfl
  simp [Leaves, settle, results, Tryz.results31, go_sem, b0, b1, b2, b3, b4, b5, c0]
  refine Kept.ofNew (Kept.ofNew (Kept.ofNew ((((Kept.refl _ _).alloc _).alloc _).alloc _) hk (fun k _ h => by have : k = w.heap.size + 2 := h; omega)) (X := fun k _ => w.heap.size ≤ k) (((((((Kept.refl _ _).setCell (fun _ => Nat.le_refl _) _).setCell (fun _ => Nat.le_refl _) _).setCell (fun _ => Nat.le_refl _) _).setCell (fun _ => Nat.le_refl _) _).setCell (fun _ => Nat.le_refl _) _).setCell (fun _ => Nat.le_refl _) _) (fun k _ h => h)) hk2 (fun k _ h => by rcases h with rfl | rfl <;> omega)


end Go.Proofs.YtijklginabipgaaGreat

/-
  A snapshot read by the document's reader.
-/
namespace Go.Proofs.YtijklginabipgaaGreat
open Go.RowKit

/-- As the document's reader goes: all fields first, then what may be. -/
def rdSnapR (l : List UInt8) : Except Int (Sn × List UInt8) := rdThen (rdNum l) fun ix l => rdThen (rdNum l) fun tm l => rdThen (rdCfg l) fun c l => rdThen (rdText 8192 l) fun dt l => if (Sn.ok ⟨ix, tm, c, dt⟩) then .ok (⟨ix, tm, c, dt⟩, l) else .error 6
theorem rdThen_assoc {α β γ : Type} (r : Except Int (α × List UInt8)) (f : α → List UInt8 → Except Int (β × List UInt8)) (g : β → List UInt8 → Except Int (γ × List UInt8)) : rdThen (rdThen r f) g = rdThen r (fun a l => rdThen (f a l) g) := by
  cases r with
  | error c => rfl
  | ok x => rfl
theorem rdSnap_eq (l : List UInt8) : rdSnap l = rdSnapR l := by
  unfold rdSnap rdSn rdSnapR
  rw [rdThen_assoc]
  congr 1
  funext ix l
  rw [rdThen_assoc]
  congr 1
  funext tm l
  rw [rdThen_assoc]
  congr 1
  funext c l
  rw [rdThen_assoc]
  congr 1

end Go.Proofs.YtijklginabipgaaGreat

/-
  GetSnapshot, and the document's: the same plain answer.
-/
namespace Go.Proofs.YtijklginabipgaaGreat
open Go.RowKit

def zSn : Sn := ⟨0, 0, zCf, []⟩
theorem rdSnap_fun : rdSnap = rdSnapR := funext rdSnap_eq
theorem noZero_snap : NoZero rdSnap := by
  rw [rdSnap_fun]
  exact noZero_num.then fun _ => noZero_num.then fun _ => noZero_cfg.then fun _ => (noZero_text 8192).then fun _ => NoZero.end _ _ _ (by decide)
theorem readS_any (l : List UInt8) (w : World) :
    Calls Tryz.prog 31 #[.string (bs l), .func (.func 32) #[] #[]] w (GotPost (SnV w.heap.size) (getAll zSn (rdSnap l)) w) := by
  cases hr : rdSnap l with
  | error c =>
    rw [getAll_err rfl]
    refine (readS_err l c w hr).mono ?_
    rintro e w' ⟨rfl, hk⟩
    exact ⟨_, rfl, ⟨none, none, none, 0, 0, 0, rfl, World.ownsRow_nil _ _ _ _, World.ownsRow_nil _ _ _ _, World.ownsRow_nil _ _ _ _⟩, hk⟩
  | ok x =>
    obtain ⟨x, t⟩ := x
    cases t with
    | nil =>
      rw [getAll_ok rfl]
      refine (readS_ok l x w hr).mono ?_
      exact fun e w' h => h
    | cons y t =>
      rw [getAll_left rfl]
      refine (readS_left l x y t w hr).mono ?_
      rintro e w' ⟨rfl, hk⟩
      exact ⟨_, rfl, ⟨none, none, none, 0, 0, 0, rfl, World.ownsRow_nil _ _ _ _, World.ownsRow_nil _ _ _ _, World.ownsRow_nil _ _ _ _⟩, hk⟩

set_option maxRecDepth 100000 in
set_option maxHeartbeats 2000000 in
theorem getSnapshot_any (l : List UInt8) (w : World) :
    Calls Tryz.prog 10 #[.string (bs l)] w (GotPost (SnV w.heap.size) (getAll zSn (rdSnap l)) w) := by
  have H := fun w => readS_any l w
  generalize getAll zSn (rdSnap l) = g at H ⊢
  obtain ⟨x, c⟩ := g
  go_enter Tryz.func10, Tryz.ntmps10
  go_wp2_with fail
  refine (H _).mono ?_
  rintro e w1 ⟨v, rfl, hv, hk⟩
  obtain ⟨a1, a2, a3, c1, c2, c3, rfl, o1, o2, o3⟩ := hv
  have O1 : Hid (OwnNats (w.heap.size + 1) w1 a1 c1 x.c.v) := own_mono o1 (by simp)
  have O2 : Hid (OwnNats (w.heap.size + 1) w1 a2 c2 x.c.n) := own_mono o2 (by simp)
  have O3 : Hid (OwnNats (w.heap.size + 1) w1 a3 c3 x.c.l) := own_mono o3 (by simp)
  clear o1 o2 o3
  have hb := hk.block _ _ (blk_new w (.cells #[.int .i64 0, .int .i64 0, .slice none 0 0, .slice none 0 0, .slice none 0 0, .string (bs [])] 43)) (fun x => x.elim)
  have g0 := blk_at hb 0 rfl
  have g1 := blk_at hb 1 rfl
  have g2 := blk_at hb 2 rfl
  have g3 := blk_at hb 3 rfl
  have g4 := blk_at hb 4 rfl
  have g5 := blk_at hb 5 rfl
  have f0 := blk_free hb 0
  have f1 := blk_free hb 1
  have f2 := blk_free hb 2
  have f3 := blk_free hb 3
  have f4 := blk_free hb 4
  have f5 := blk_free hb 5
  simp only
  go_wp2
  refine bodyPost_ret (v := .tuple #[.agg #[.int .i64 x.ix, .int .i64 x.tm, .slice a1 x.c.v.length c1, .slice a2 x.c.n.length c2, .slice a3 x.c.l.length c3, .string (bs x.dt)], .int .i64 c]) (by simp [results, Tryz.results10, go_sem, g0, g1, g2, g3, g4, g5]) rfl ?_
  have hkk : Kept Nil w w1 := ((Kept.refl _ _).alloc _).trans hk
  exact ⟨_, rfl, ⟨a1, a2, a3, c1, c2, c3, rfl, own_mono (own_setB (own_setB (own_setB (own_setB (own_setB (own_setB O1.out (show w.heap.size < w.heap.size + 1 by omega) _) (show w.heap.size < w.heap.size + 1 by omega) _) (show w.heap.size < w.heap.size + 1 by omega) _) (show w.heap.size < w.heap.size + 1 by omega) _) (show w.heap.size < w.heap.size + 1 by omega) _) (show w.heap.size < w.heap.size + 1 by omega) _) (Nat.le_of_lt (show w.heap.size < w.heap.size + 1 by omega)), own_mono (own_setB (own_setB (own_setB (own_setB (own_setB (own_setB O2.out (show w.heap.size < w.heap.size + 1 by omega) _) (show w.heap.size < w.heap.size + 1 by omega) _) (show w.heap.size < w.heap.size + 1 by omega) _) (show w.heap.size < w.heap.size + 1 by omega) _) (show w.heap.size < w.heap.size + 1 by omega) _) (show w.heap.size < w.heap.size + 1 by omega) _) (Nat.le_of_lt (show w.heap.size < w.heap.size + 1 by omega)), own_mono (own_setB (own_setB (own_setB (own_setB (own_setB (own_setB O3.out (show w.heap.size < w.heap.size + 1 by omega) _) (show w.heap.size < w.heap.size + 1 by omega) _) (show w.heap.size < w.heap.size + 1 by omega) _) (show w.heap.size < w.heap.size + 1 by omega) _) (show w.heap.size < w.heap.size + 1 by omega) _) (show w.heap.size < w.heap.size + 1 by omega) _) (Nat.le_of_lt (show w.heap.size < w.heap.size + 1 by omega))⟩, ((((((hkk.setNew (Nat.le_refl _) _).setNew (Nat.le_refl _) _).setNew (Nat.le_refl _) _).setNew (Nat.le_refl _) _).setNew (Nat.le_refl _) _).setNew (Nat.le_refl _) _)⟩

end Go.Proofs.YtijklginabipgaaGreat
