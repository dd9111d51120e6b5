/-
  GetTable by the program.
-/
import Derived.Test.YtijklginabipgaaWGetT
import Derived.Test.YtijklginabipgaaWOls
namespace Go.Proofs.Ytijklginabipgaa
open Go.RowKit

def zTb : Tb := ⟨0, [], []⟩

theorem readT_any (l : List UInt8) (w : World) :
    Calls Try.prog 110 #[.string (bs l), .func (.func 111) #[] #[]] w (GotPost (TbV w.heap.size) (getAll zTb (rdTab l)) w) := by
  cases hr : rdTab l with
  | error c =>
    rw [getAll_err rfl]
    refine (readT_err l c w hr).mono ?_
    rintro e w' ⟨rfl, hk⟩
    exact ⟨_, rfl, ⟨none, 0, none, 0, [], rfl, rfl, World.ownsRow_nil _ _ _ _, World.ownsRow_nil _ _ _ _, fun _ h => by simp at h⟩, hk⟩
  | ok x =>
    obtain ⟨x, t⟩ := x
    cases t with
    | nil =>
      rw [getAll_ok rfl]
      refine (readT_ok l x w hr).mono ?_
      exact fun e w' h => h
    | cons y t =>
      rw [getAll_left rfl]
      refine (readT_left l x y t w hr).mono ?_
      rintro e w' ⟨rfl, hk⟩
      exact ⟨_, rfl, ⟨none, 0, none, 0, [], rfl, rfl, World.ownsRow_nil _ _ _ _, World.ownsRow_nil _ _ _ _, fun _ h => by simp at h⟩, hk⟩

set_option maxRecDepth 100000 in
set_option maxHeartbeats 2000000 in
theorem getTable_any (l : List UInt8) (w : World) :
    Calls Try.prog 53 #[.string (bs l)] w (GotPost (TbV w.heap.size) (getAll zTb (rdTab l)) w) := by
  have H := fun w => readT_any l w
  generalize getAll zTb (rdTab l) = g at H ⊢
  obtain ⟨x, c⟩ := g
  go_enter Try.func53, Try.ntmps53
  go_wp2_with fail
  refine (H _).mono ?_
  rintro e w1 ⟨v, rfl, hv, hk⟩
  obtain ⟨a1, c1, a2, c2, es, hes, rfl, o1, o2⟩ := hv
  have HS : Hid (es.map Es.s = x.ss) := hes
  have O1 : Hid (OwnPrs (w.heap.size + 1) w1 a1 c1 x.ps) := own_mono o1 (by simp)
  have O2 : Hid (OwnSss (w.heap.size + 1) w1 a2 c2 es) := OwnSss.mono o2 (by simp)
  clear o1 o2 hes
  have hb := hk.block _ _ (blk_new w (.cells #[.slice none 0 0, .slice none 0 0, .int .i64 0] 65)) (fun x => x.elim)
  have g0 := blk_at hb 0 rfl
  have g1 := blk_at hb 1 rfl
  have g2 := blk_at hb 2 rfl
  have f0 := blk_free hb 0
  have f1 := blk_free hb 1
  have f2 := blk_free hb 2
  simp only
  go_wp2
  refine bodyPost_ret (v := .tuple #[.agg #[.slice a1 x.ps.length c1, .slice a2 es.length c2, .int .i64 x.tm], .int .i64 c]) (by simp [results, Try.results53, go_sem, g0, g1, g2]) rfl ?_
  have hkk : Kept Nil w w1 := ((Kept.refl _ _).alloc _).trans hk
  exact ⟨_, rfl, ⟨a1, c1, a2, c2, es, HS.out, rfl, own_mono (ownsRow_setCell_below (ownsRow_setCell_below (ownsRow_setCell_below O1.out (show w.heap.size < w.heap.size + 1 by omega) _) (show w.heap.size < w.heap.size + 1 by omega) _) (show w.heap.size < w.heap.size + 1 by omega) _) (Nat.le_of_lt (show w.heap.size < w.heap.size + 1 by omega)), OwnSss.mono (OwnSss.setB (OwnSss.setB (OwnSss.setB O2.out (show w.heap.size < w.heap.size + 1 by omega) _) (show w.heap.size < w.heap.size + 1 by omega) _) (show w.heap.size < w.heap.size + 1 by omega) _) (Nat.le_of_lt (show w.heap.size < w.heap.size + 1 by omega))⟩, (((hkk.setNew (Nat.le_refl _) _).setNew (Nat.le_refl _) _).setNew (Nat.le_refl _) _)⟩

end Go.Proofs.Ytijklginabipgaa
