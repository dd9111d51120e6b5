/-
  GetSnapshot, and the document's: the same plain answer.
-/
import Derived.Test.YtijklginabipgaaWGetS
import Derived.Test.YtijklginabipgaaWSnap4
namespace Go.Proofs.Ytijklginabipgaa
open Go.RowKit

def zSn : Sn := ⟨0, 0, zCf, []⟩
theorem rdSnap_fun : rdSnap = rdSnapR := funext rdSnap_eq
theorem noZero_snap : NoZero rdSnap := by
  rw [rdSnap_fun]
  exact noZero_num.then fun _ => noZero_num.then fun _ => noZero_cfg.then fun _ => (noZero_text 8192).then fun _ => NoZero.end _ _ _ (by decide)
theorem refRSnap_any (b : Nat) (st : Except Int (List UInt8)) (w : World) (h : RSt b w st) :
    Calls Try.prog 106 #[.pointer (some ⟨b, 0, none⟩)] w (RefPost b w rdSnap st (SnV w.heap.size)) := by
  rw [rdSnap_fun]
  exact refRSnapshot_any b st w h

theorem readS_any (l : List UInt8) (w : World) :
    Calls Try.prog 104 #[.string (bs l), .func (.func 105) #[] #[]] w (GotPost (SnV w.heap.size) (getAll zSn (rdSnap l)) w) := by
  cases hr : rdSnap l with
  | error c =>
    rw [getAll_err rfl]
    refine (readS_err l c w hr).mono ?_
    rintro e w' ⟨rfl, hk⟩
    exact ⟨_, rfl, ⟨none, none, none, 0, 0, 0, rfl, World.ownsRow_nil _ _ _ _, World.ownsRow_nil _ _ _ _, World.ownsRow_nil _ _ _ _⟩, hk⟩
  | ok x =>
    obtain ⟨x, t⟩ := x
    cases t with
    | nil =>
      rw [getAll_ok rfl]
      refine (readS_ok l x w hr).mono ?_
      exact fun e w' h => h
    | cons y t =>
      rw [getAll_left rfl]
      refine (readS_left l x y t w hr).mono ?_
      rintro e w' ⟨rfl, hk⟩
      exact ⟨_, rfl, ⟨none, none, none, 0, 0, 0, rfl, World.ownsRow_nil _ _ _ _, World.ownsRow_nil _ _ _ _, World.ownsRow_nil _ _ _ _⟩, hk⟩

set_option maxRecDepth 100000 in
set_option maxHeartbeats 2000000 in
theorem getSnapshot_any (l : List UInt8) (w : World) :
    Calls Try.prog 49 #[.string (bs l)] w (GotPost (SnV w.heap.size) (getAll zSn (rdSnap l)) w) := by
  have H := fun w => readS_any l w
  generalize getAll zSn (rdSnap l) = g at H ⊢
  obtain ⟨x, c⟩ := g
  go_enter Try.func49, Try.ntmps49
  go_wp2_with fail
  refine (H _).mono ?_
  rintro e w1 ⟨v, rfl, hv, hk⟩
  obtain ⟨a1, a2, a3, c1, c2, c3, rfl, o1, o2, o3⟩ := hv
  have O1 : Hid (OwnNats (w.heap.size + 1) w1 a1 c1 x.c.v) := own_mono o1 (by simp)
  have O2 : Hid (OwnNats (w.heap.size + 1) w1 a2 c2 x.c.n) := own_mono o2 (by simp)
  have O3 : Hid (OwnNats (w.heap.size + 1) w1 a3 c3 x.c.l) := own_mono o3 (by simp)
  clear o1 o2 o3
  have hb := hk.block _ _ (blk_new w (.cells #[.int .i64 0, .int .i64 0, .slice none 0 0, .slice none 0 0, .slice none 0 0, .string (bs [])] 61)) (fun x => x.elim)
  have g0 := blk_at hb 0 rfl
  have g1 := blk_at hb 1 rfl
  have g2 := blk_at hb 2 rfl
  have g3 := blk_at hb 3 rfl
  have g4 := blk_at hb 4 rfl
  have g5 := blk_at hb 5 rfl
  have f0 := blk_free hb 0
  have f1 := blk_free hb 1
  have f2 := blk_free hb 2
  have f3 := blk_free hb 3
  have f4 := blk_free hb 4
  have f5 := blk_free hb 5
  simp only
  go_wp2
  refine bodyPost_ret (v := .tuple #[.agg #[.int .i64 x.ix, .int .i64 x.tm, .slice a1 x.c.v.length c1, .slice a2 x.c.n.length c2, .slice a3 x.c.l.length c3, .string (bs x.dt)], .int .i64 c]) (by simp [results, Try.results49, go_sem, g0, g1, g2, g3, g4, g5]) rfl ?_
  have hkk : Kept Nil w w1 := ((Kept.refl _ _).alloc _).trans hk
  exact ⟨_, rfl, ⟨a1, a2, a3, c1, c2, c3, rfl, own_mono (own_setB (own_setB (own_setB (own_setB (own_setB (own_setB O1.out (show w.heap.size < w.heap.size + 1 by omega) _) (show w.heap.size < w.heap.size + 1 by omega) _) (show w.heap.size < w.heap.size + 1 by omega) _) (show w.heap.size < w.heap.size + 1 by omega) _) (show w.heap.size < w.heap.size + 1 by omega) _) (show w.heap.size < w.heap.size + 1 by omega) _) (Nat.le_of_lt (show w.heap.size < w.heap.size + 1 by omega)), own_mono (own_setB (own_setB (own_setB (own_setB (own_setB (own_setB O2.out (show w.heap.size < w.heap.size + 1 by omega) _) (show w.heap.size < w.heap.size + 1 by omega) _) (show w.heap.size < w.heap.size + 1 by omega) _) (show w.heap.size < w.heap.size + 1 by omega) _) (show w.heap.size < w.heap.size + 1 by omega) _) (show w.heap.size < w.heap.size + 1 by omega) _) (Nat.le_of_lt (show w.heap.size < w.heap.size + 1 by omega)), own_mono (own_setB (own_setB (own_setB (own_setB (own_setB (own_setB O3.out (show w.heap.size < w.heap.size + 1 by omega) _) (show w.heap.size < w.heap.size + 1 by omega) _) (show w.heap.size < w.heap.size + 1 by omega) _) (show w.heap.size < w.heap.size + 1 by omega) _) (show w.heap.size < w.heap.size + 1 by omega) _) (show w.heap.size < w.heap.size + 1 by omega) _) (Nat.le_of_lt (show w.heap.size < w.heap.size + 1 by omega))⟩, ((((((hkk.setNew (Nat.le_refl _) _).setNew (Nat.le_refl _) _).setNew (Nat.le_refl _) _).setNew (Nat.le_refl _) _).setNew (Nat.le_refl _) _).setNew (Nat.le_refl _) _)⟩

set_option maxRecDepth 100000 in
set_option maxHeartbeats 4000000 in
theorem refGetSnapshot_any (l : List UInt8) (w : World) (hlen : l.length ≤ maxLen) :
    Calls Try.prog 50 #[.string (bs l)] w (GotPost (SnV w.heap.size) (getAll zSn (rdSnap l)) w) := by
  have hR0 : ((w.alloc (.cells #[.int .i64 0, .int .i64 0, .slice none 0 0, .slice none 0 0, .slice none 0 0, .string (bs [])] 61)).alloc (.cells #[.string (bs l), .int .i64 0] 115)).heap[w.heap.size + 1]? = some (.cells #[.string (bs l), .int .i64 0] 115 (0, 0)) := by
    have := blk_new (w.alloc (.cells #[.int .i64 0, .int .i64 0, .slice none 0 0, .slice none 0 0, .slice none 0 0, .string (bs [])] 61)) (.cells #[.string (bs l), .int .i64 0] 115)
    rwa [show (w.alloc (.cells #[.int .i64 0, .int .i64 0, .slice none 0 0, .slice none 0 0, .slice none 0 0, .string (bs [])] 61)).heap.size = w.heap.size + 1 by simp] at this
  have hst : RSt (w.heap.size + 1) _ (.ok l) := ⟨hlen, hR0⟩
  have H := refRSnap_any (w.heap.size + 1) _ _ hst
  have HN : Hid (_) := blk_past (blk_new w (.cells #[.int .i64 0, .int .i64 0, .slice none 0 0, .slice none 0 0, .slice none 0 0, .string (bs [])] 61)) (.cells #[.string (bs l), .int .i64 0] 115)
  have hNR : ¬ w.heap.size = w.heap.size + 1 := by omega
  clear hR0 hst hlen
  go_enter Try.func50, Try.ntmps50
  go_wp2_with fail
  refine H.mono ?_
  rintro e w1 ⟨⟨v, x, rfl, hv, hg⟩, t1, k1⟩
  have HQ : Hid (refAll zSn x (stAfter rdSnap (.ok l)) = getAll zSn (rdSnap l)) := refAll_eq _ x _ l hg (fun c h => noZero_snap l c h)
  obtain ⟨a1, a2, a3, c1, c2, c3, rfl, o1, o2, o3⟩ := hv
  have O1 : Hid (OwnNats (w.heap.size + 2) w1 a1 c1 x.c.v) := own_mono o1 (by simp)
  have O2 : Hid (OwnNats (w.heap.size + 2) w1 a2 c2 x.c.n) := own_mono o2 (by simp)
  have O3 : Hid (OwnNats (w.heap.size + 2) w1 a3 c3 x.c.l) := own_mono o3 (by simp)
  clear o1 o2 o3
  have o1 := k1.block _ _ HN.out hNR
  have K1 : Hid (Kept Nil w w1) := Kept.ofNew (((Kept.refl _ _).alloc _).alloc _) k1 (fun k _ h => by have : k = w.heap.size + 1 := h; omega)
  generalize stAfter rdSnap (.ok l) = s1 at t1 HQ
  have E := refEnd_any (w.heap.size + 1) s1 _ (t1.past (.cells #[.int .i64 x.ix, .int .i64 x.tm, .slice a1 x.c.v.length c1, .slice a2 x.c.n.length c2, .slice a3 x.c.l.length c3, .string (bs x.dt)] 61))
  have L1 := blk_new w1 (.cells #[.int .i64 x.ix, .int .i64 x.tm, .slice a1 x.c.v.length c1, .slice a2 x.c.n.length c2, .slice a3 x.c.l.length c3, .string (bs x.dt)] 61)
  have hL1 : w1.heap.size ≠ w.heap.size + 1 := Nat.ne_of_gt t1.lt
  have HL1 : Hid (_) := L1
  have HO1 : Hid (_) := blk_past o1 (.cells #[.int .i64 x.ix, .int .i64 x.tm, .slice a1 x.c.v.length c1, .slice a2 x.c.n.length c2, .slice a3 x.c.l.length c3, .string (bs x.dt)] 61)
  clear H HN t1 hg L1 o1
  by_cases hz : stEnd s1 = 0
  · have HZ : Hid (refAll zSn x s1 = (x, 0)) := if_pos hz
    rw [hz] at E
    clear hz
    go_wp2_with fail
    refine E.mono ?_
    rintro e w9 ⟨rfl, k9⟩
    have m9 := k9.block _ _ HL1.out hL1
    have o9 := k9.block _ _ HO1.out hNR
    have p0 := blk_at m9 0 rfl
    have p1 := blk_at m9 1 rfl
    have p2 := blk_at m9 2 rfl
    have p3 := blk_at m9 3 rfl
    have p4 := blk_at m9 4 rfl
    have p5 := blk_at m9 5 rfl
    have g0 := blk_at o9 0 rfl
    have g1 := blk_at o9 1 rfl
    have g2 := blk_at o9 2 rfl
    have g3 := blk_at o9 3 rfl
    have g4 := blk_at o9 4 rfl
    have g5 := blk_at o9 5 rfl
    have u0 := blk_free o9 0
    have u1 := blk_free o9 1
    have u2 := blk_free o9 2
    have u3 := blk_free o9 3
    have u4 := blk_free o9 4
    have u5 := blk_free o9 5
    have K9 : Hid (Kept Nil w w9) := Kept.ofNew (K1.out.alloc _) k9 (fun k _ h => by have : k = w.heap.size + 1 := h; omega)
    clear m9 o9
    go_wp2
    refine bodyPost_ret (v := .tuple #[.agg #[.int .i64 x.ix, .int .i64 x.tm, .slice a1 x.c.v.length c1, .slice a2 x.c.n.length c2, .slice a3 x.c.l.length c3, .string (bs x.dt)], .int .i64 0]) (by simp [results, Try.results50, go_sem, g0, g1, g2, g3, g4, g5]) rfl ?_
    rw [← HQ.out, HZ.out]
    have hXr : ∀ k cs, w.heap.size + 2 ≤ k → ¬ One (w.heap.size + 1) k (.cells cs 3 (0, 0)) := fun k cs hb hx => by have : k = w.heap.size + 1 := hx; omega
    have Q1 := own_kept (World.ownsRow.alloc O1.out (.cells #[.int .i64 x.ix, .int .i64 x.tm, .slice a1 x.c.v.length c1, .slice a2 x.c.n.length c2, .slice a3 x.c.l.length c3, .string (bs x.dt)] 61)) k9 hXr
    have Q2 := own_kept (World.ownsRow.alloc O2.out (.cells #[.int .i64 x.ix, .int .i64 x.tm, .slice a1 x.c.v.length c1, .slice a2 x.c.n.length c2, .slice a3 x.c.l.length c3, .string (bs x.dt)] 61)) k9 hXr
    have Q3 := own_kept (World.ownsRow.alloc O3.out (.cells #[.int .i64 x.ix, .int .i64 x.tm, .slice a1 x.c.v.length c1, .slice a2 x.c.n.length c2, .slice a3 x.c.l.length c3, .string (bs x.dt)] 61)) k9 hXr
    exact ⟨_, rfl, ⟨a1, a2, a3, c1, c2, c3, rfl, own_mono (own_setB (own_setB (own_setB (own_setB (own_setB (own_setB Q1 (show w.heap.size < w.heap.size + 2 by omega) _) (show w.heap.size < w.heap.size + 2 by omega) _) (show w.heap.size < w.heap.size + 2 by omega) _) (show w.heap.size < w.heap.size + 2 by omega) _) (show w.heap.size < w.heap.size + 2 by omega) _) (show w.heap.size < w.heap.size + 2 by omega) _) (Nat.le_of_lt (show w.heap.size < w.heap.size + 2 by omega)), own_mono (own_setB (own_setB (own_setB (own_setB (own_setB (own_setB Q2 (show w.heap.size < w.heap.size + 2 by omega) _) (show w.heap.size < w.heap.size + 2 by omega) _) (show w.heap.size < w.heap.size + 2 by omega) _) (show w.heap.size < w.heap.size + 2 by omega) _) (show w.heap.size < w.heap.size + 2 by omega) _) (show w.heap.size < w.heap.size + 2 by omega) _) (Nat.le_of_lt (show w.heap.size < w.heap.size + 2 by omega)), own_mono (own_setB (own_setB (own_setB (own_setB (own_setB (own_setB Q3 (show w.heap.size < w.heap.size + 2 by omega) _) (show w.heap.size < w.heap.size + 2 by omega) _) (show w.heap.size < w.heap.size + 2 by omega) _) (show w.heap.size < w.heap.size + 2 by omega) _) (show w.heap.size < w.heap.size + 2 by omega) _) (show w.heap.size < w.heap.size + 2 by omega) _) (Nat.le_of_lt (show w.heap.size < w.heap.size + 2 by omega))⟩, ((((((K9.out.setNew (Nat.le_refl _) _).setNew (Nat.le_refl _) _).setNew (Nat.le_refl _) _).setNew (Nat.le_refl _) _).setNew (Nat.le_refl _) _).setNew (Nat.le_refl _) _)⟩
  · have HZ : Hid (refAll zSn x s1 = (zSn, stEnd s1)) := if_neg hz
    generalize stEnd s1 = z at E hz HZ
    have hz' : (z != 0) = true := by simpa using hz
    clear hz
    go_wp2_with fail
    refine E.mono ?_
    rintro e w9 ⟨rfl, k9⟩
    have o9 := k9.block _ _ HO1.out hNR
    have g0 := blk_at o9 0 rfl
    have g1 := blk_at o9 1 rfl
    have g2 := blk_at o9 2 rfl
    have g3 := blk_at o9 3 rfl
    have g4 := blk_at o9 4 rfl
    have g5 := blk_at o9 5 rfl
    have u0 := blk_free o9 0
    have u1 := blk_free o9 1
    have u2 := blk_free o9 2
    have u3 := blk_free o9 3
    have u4 := blk_free o9 4
    have u5 := blk_free o9 5
    have K9 : Hid (Kept Nil w w9) := Kept.ofNew (K1.out.alloc _) k9 (fun k _ h => by have : k = w.heap.size + 1 := h; omega)
    clear o9
    go_wp2
    refine bodyPost_ret (v := .tuple #[.agg #[.int .i64 0, .int .i64 0, .slice none 0 0, .slice none 0 0, .slice none 0 0, .string (bs [])], .int .i64 z]) (by simp [results, Try.results50, go_sem, g0, g1, g2, g3, g4, g5]; rfl) rfl ?_
    rw [← HQ.out, HZ.out]
    exact ⟨_, rfl, ⟨none, none, none, 0, 0, 0, rfl, World.ownsRow_nil _ _ _ _, World.ownsRow_nil _ _ _ _, World.ownsRow_nil _ _ _ _⟩, ((((((K9.out.setNew (Nat.le_refl _) _).setNew (Nat.le_refl _) _).setNew (Nat.le_refl _) _).setNew (Nat.le_refl _) _).setNew (Nat.le_refl _) _).setNew (Nat.le_refl _) _)⟩


end Go.Proofs.Ytijklginabipgaa
