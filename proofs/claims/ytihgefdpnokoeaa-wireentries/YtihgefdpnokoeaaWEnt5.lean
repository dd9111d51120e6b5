/-
  GetEntry, and the document's: the same plain answer.
-/
import Derived.Test.YtihgefdpnokoeaaWGetE
import Derived.Test.YtihgefdpnokoeaaWEnt4
namespace Go.Proofs.Ytihgefdpnokoeaa
open Go.RowKit

def zEn : En := ⟨0, 0, 0, []⟩
theorem noZero_ent : NoZero rdEnt := noZero_num.then fun _ => noZero_num.then fun _ => noZero_num.then fun _ => (noZero_text 256).then fun _ => NoZero.end _ _ _ (by decide)


theorem readE_any (l : List UInt8) (w : World) :
    Calls Try.prog 79 #[.string (bs l), .func (.func 80) #[] #[]] w (GotPost (EnV) (getAll zEn (rdEnt l)) w) := by
  cases hr : rdEnt l with
  | error c =>
    rw [getAll_err rfl]
    refine (readE_err l c w hr).mono ?_
    rintro e w' ⟨rfl, hk⟩
    exact ⟨_, rfl, rfl, hk⟩
  | ok x =>
    obtain ⟨x, t⟩ := x
    cases t with
    | nil =>
      rw [getAll_ok rfl]
      refine (readE_ok l x w hr).mono ?_
      rintro e w' ⟨rfl, hk⟩
      exact ⟨_, rfl, rfl, hk⟩
    | cons y t =>
      rw [getAll_left rfl]
      refine (readE_left l x y t w hr).mono ?_
      rintro e w' ⟨rfl, hk⟩
      exact ⟨_, rfl, rfl, hk⟩

set_option maxRecDepth 100000 in
set_option maxHeartbeats 2000000 in
theorem getEntry_any (l : List UInt8) (w : World) :
    Calls Try.prog 29 #[.string (bs l)] w (GotPost (EnV) (getAll zEn (rdEnt l)) w) := by
  have H := fun w => readE_any l w
  generalize getAll zEn (rdEnt l) = g at H ⊢
  obtain ⟨x, c⟩ := g
  go_enter Try.func29, Try.ntmps29
  go_wp2_with fail
  refine (H _).mono ?_
  rintro e w1 ⟨v, rfl, hv, hk⟩
  unfold EnV at hv
  subst hv
  have hb := hk.block _ _ (blk_new w (.cells #[.int .i64 0, .int .i64 0, .int .i64 0, .string (bs [])] 48)) (fun x => x.elim)
  have g0 := blk_at hb 0 rfl
  have g1 := blk_at hb 1 rfl
  have g2 := blk_at hb 2 rfl
  have g3 := blk_at hb 3 rfl
  have f0 := blk_free hb 0
  have f1 := blk_free hb 1
  have f2 := blk_free hb 2
  have f3 := blk_free hb 3
  simp only
  go_wp2
  refine bodyPost_ret (v := .tuple #[.agg #[.int .i64 x.ix, .int .i64 x.tm, .int .i64 x.kd, .string (bs x.dt)], .int .i64 c]) (by simp [results, Try.results29, go_sem, g0, g1, g2, g3]) rfl ?_
  have hkk : Kept Nil w w1 := ((Kept.refl _ _).alloc _).trans hk
  exact ⟨_, rfl, rfl, ((((hkk.setNew (Nat.le_refl _) _).setNew (Nat.le_refl _) _).setNew (Nat.le_refl _) _).setNew (Nat.le_refl _) _)⟩

set_option maxRecDepth 100000 in
set_option maxHeartbeats 4000000 in
theorem refGetEntry_any (l : List UInt8) (w : World) (hlen : l.length ≤ maxLen) :
    Calls Try.prog 30 #[.string (bs l)] w (GotPost (EnV) (getAll zEn (rdEnt l)) w) := by
  have hR0 : ((w.alloc (.cells #[.int .i64 0, .int .i64 0, .int .i64 0, .string (bs [])] 48)).alloc (.cells #[.string (bs l), .int .i64 0] 103)).heap[w.heap.size + 1]? = some (.cells #[.string (bs l), .int .i64 0] 103 (0, 0)) := by
    have := blk_new (w.alloc (.cells #[.int .i64 0, .int .i64 0, .int .i64 0, .string (bs [])] 48)) (.cells #[.string (bs l), .int .i64 0] 103)
    rwa [show (w.alloc (.cells #[.int .i64 0, .int .i64 0, .int .i64 0, .string (bs [])] 48)).heap.size = w.heap.size + 1 by simp] at this
  have hst : RSt (w.heap.size + 1) _ (.ok l) := ⟨hlen, hR0⟩
  have H := refREntry_any (w.heap.size + 1) _ _ hst
  have HN : Hid (_) := blk_past (blk_new w (.cells #[.int .i64 0, .int .i64 0, .int .i64 0, .string (bs [])] 48)) (.cells #[.string (bs l), .int .i64 0] 103)
  have hNR : ¬ w.heap.size = w.heap.size + 1 := by omega
  clear hR0 hst hlen
  go_enter Try.func30, Try.ntmps30
  go_wp2_with fail
  refine H.mono ?_
  rintro e w1 ⟨⟨v, x, rfl, hv, hg⟩, t1, k1⟩
  have HQ : Hid (refAll zEn x (stAfter rdEnt (.ok l)) = getAll zEn (rdEnt l)) := refAll_eq _ x _ l hg (fun c h => noZero_ent l c h)
  unfold EnV at hv
  subst hv
  have o1 := k1.block _ _ HN.out hNR
  have K1 : Hid (Kept Nil w w1) := Kept.ofNew (((Kept.refl _ _).alloc _).alloc _) k1 (fun k _ h => by have : k = w.heap.size + 1 := h; omega)
  generalize stAfter rdEnt (.ok l) = s1 at t1 HQ
  have E := refEnd_any (w.heap.size + 1) s1 _ (t1.past (.cells #[.int .i64 x.ix, .int .i64 x.tm, .int .i64 x.kd, .string (bs x.dt)] 48))
  have L1 := blk_new w1 (.cells #[.int .i64 x.ix, .int .i64 x.tm, .int .i64 x.kd, .string (bs x.dt)] 48)
  have hL1 : w1.heap.size ≠ w.heap.size + 1 := Nat.ne_of_gt t1.lt
  have HL1 : Hid (_) := L1
  have HO1 : Hid (_) := blk_past o1 (.cells #[.int .i64 x.ix, .int .i64 x.tm, .int .i64 x.kd, .string (bs x.dt)] 48)
  clear H HN t1 hg L1 o1
  by_cases hz : stEnd s1 = 0
  · have HZ : Hid (refAll zEn x s1 = (x, 0)) := if_pos hz
    rw [hz] at E
    clear hz
    go_wp2_with fail
    refine E.mono ?_
    rintro e w9 ⟨rfl, k9⟩
    have m9 := k9.block _ _ HL1.out hL1
    have o9 := k9.block _ _ HO1.out hNR
    have p0 := blk_at m9 0 rfl
    have p1 := blk_at m9 1 rfl
    have p2 := blk_at m9 2 rfl
    have p3 := blk_at m9 3 rfl
    have g0 := blk_at o9 0 rfl
    have g1 := blk_at o9 1 rfl
    have g2 := blk_at o9 2 rfl
    have g3 := blk_at o9 3 rfl
    have u0 := blk_free o9 0
    have u1 := blk_free o9 1
    have u2 := blk_free o9 2
    have u3 := blk_free o9 3
    have K9 : Hid (Kept Nil w w9) := Kept.ofNew (K1.out.alloc _) k9 (fun k _ h => by have : k = w.heap.size + 1 := h; omega)
    clear m9 o9
    go_wp2
    refine bodyPost_ret (v := .tuple #[.agg #[.int .i64 x.ix, .int .i64 x.tm, .int .i64 x.kd, .string (bs x.dt)], .int .i64 0]) (by simp [results, Try.results30, go_sem, g0, g1, g2, g3]) rfl ?_
    rw [← HQ.out, HZ.out]
    exact ⟨_, rfl, rfl, ((((K9.out.setNew (Nat.le_refl _) _).setNew (Nat.le_refl _) _).setNew (Nat.le_refl _) _).setNew (Nat.le_refl _) _)⟩
  · have HZ : Hid (refAll zEn x s1 = (zEn, stEnd s1)) := if_neg hz
    generalize stEnd s1 = z at E hz HZ
    have hz' : (z != 0) = true := by simpa using hz
    clear hz
    go_wp2_with fail
    refine E.mono ?_
    rintro e w9 ⟨rfl, k9⟩
    have o9 := k9.block _ _ HO1.out hNR
    have g0 := blk_at o9 0 rfl
    have g1 := blk_at o9 1 rfl
    have g2 := blk_at o9 2 rfl
    have g3 := blk_at o9 3 rfl
    have u0 := blk_free o9 0
    have u1 := blk_free o9 1
    have u2 := blk_free o9 2
    have u3 := blk_free o9 3
    have K9 : Hid (Kept Nil w w9) := Kept.ofNew (K1.out.alloc _) k9 (fun k _ h => by have : k = w.heap.size + 1 := h; omega)
    clear o9
    go_wp2
    refine bodyPost_ret (v := .tuple #[.agg #[.int .i64 0, .int .i64 0, .int .i64 0, .string (bs [])], .int .i64 z]) (by simp [results, Try.results30, go_sem, g0, g1, g2, g3]; rfl) rfl ?_
    rw [← HQ.out, HZ.out]
    exact ⟨_, rfl, rfl, ((((K9.out.setNew (Nat.le_refl _) _).setNew (Nat.le_refl _) _).setNew (Nat.le_refl _) _).setNew (Nat.le_refl _) _)⟩


end Go.Proofs.Ytihgefdpnokoeaa
