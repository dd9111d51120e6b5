/-
  The document's Begin and Finish.
-/
import Derived.Test.YtijklginabipgaaWExact2
import Derived.Test.YtijklginabipgaaWChgF
namespace Go.Proofs.Ytijklginabipgaa
open Go.RowKit

theorem delZ_not {z : Int} {l : List Int} (h : z ∉ l) : delZ z l = l := by
  unfold delZ
  exact List.filter_eq_self.2 fun x hx => by simp; exact fun e => h (e ▸ hx)
theorem Up.no0 {l : List Int} (h : Up l) : (0 : Int) ∉ l := fun h0 => by have := h.le 0 h0; omega
def RBegPost (w : World) (r : Except Int (List Int × List Int × List Int)) (e : Ending) (w' : World) : Prop :=
  (∃ c, r = .error c ∧ e = .returned (.tuple #[.agg #[.slice none 0 0, .slice none 0 0, .slice none 0 0], .int .i64 c]) ∧ Kept Nil w w') ∨
  ∃ v n l, r = .ok (v, n, l) ∧ ∃ a1 a2 a3 c1 c2 c3, e = .returned (.tuple #[.agg #[.slice a1 v.length c1, .slice a2 n.length c2, .slice a3 l.length c3], .int .i64 0]) ∧ CfRows w'.heap.size w' a1 a2 a3 v n l ∧ Kept Nil w w'
theorem IntRow.setNe {B : Nat} {w : World} {ao : Option Addr} {zs : List Int} (h : IntRow B w ao zs) {a : Addr} (hn : ∀ x, ao = some x → x.block ≠ a.block) (u : Value) : IntRow B (w.setCell a u) ao zs := fun j hj => by
  obtain ⟨x, hx, hb, hc⟩ := h j hj
  refine ⟨x, hx, hb, ?_⟩
  have e : (x.add j).block = x.block := by unfold Addr.add; split <;> rfl
  rw [World.cell?_of_block (w := w) (by rw [Below.heap_setCell _ _ _ _ (by rw [e]; exact hn x hx)])]
  exact hc

set_option maxRecDepth 100000 in
set_option maxHeartbeats 2000000 in
theorem refFinish_any (B c1 c2 c3 : Nat) (a1 a2 a3 : Option Addr) (v n l : List Int) (w : World) (h : CfRows B w a1 a2 a3 v n l) (hB : B ≤ w.heap.size) (h1 : v.length ≤ 1048576) (h2 : n.length ≤ 1048576) (h3 : l.length ≤ 1048576) :
    Calls Try.prog 16 #[.agg #[.slice a1 v.length c1, .slice a2 n.length c2, .slice a3 l.length c3]] w (RBegPost w (finZ v n l)) := by
  have HR : Hid (CfRows B w a1 a2 a3 v n l) := h
  obtain ⟨r, HRR⟩ : ∃ r, Hid (r = finZ v n l) := ⟨_, rfl⟩
  rw [← HRR.out]
  clear h
  obtain ⟨W, hW⟩ : ∃ W, W = (w.alloc (.cells #[.slice a1 v.length c1, .slice a2 n.length c2, .slice a3 l.length c3] 24)).alloc (.cells #[.slice none 0 0, .slice none 0 0, .slice none 0 0] 24) := ⟨_, rfl⟩
  have KW : Hid (Kept Nil w W) := by rw [hW]; exact ((Kept.refl _ _).alloc _).alloc _
  have HC : Hid (W.heap[w.heap.size]? = some (.cells #[.slice a1 v.length c1, .slice a2 n.length c2, .slice a3 l.length c3] 24 (0, 0))) := by rw [hW]; exact blk_past (blk_new _ _) _
  have HN : Hid (W.heap[w.heap.size + 1]? = some (.cells #[.slice none 0 0, .slice none 0 0, .slice none 0 0] 24 (0, 0))) := by
    have := blk_new (w.alloc (.cells #[.slice a1 v.length c1, .slice a2 n.length c2, .slice a3 l.length c3] 24)) (.cells #[.slice none 0 0, .slice none 0 0, .slice none 0 0] 24)
    rw [show (w.alloc (.cells #[.slice a1 v.length c1, .slice a2 n.length c2, .slice a3 l.length c3] 24)).heap.size = w.heap.size + 1 by simp] at this
    rw [hW]
    exact this
  have V := refIsConfig_any B c1 c2 c3 a1 a2 a3 v n l W (HR.out.nil KW.out) (by omega) (by omega) (by omega)
  obtain ⟨ok, HOK⟩ : ∃ ok, Hid (ok = isCfg v n l) := ⟨_, rfl⟩
  rw [← HOK.out] at V
  go_enter Try.func16, Try.ntmps16
  go_wp2_with fail
  rw [← hW]
  clear hW
  go_fit V
  rintro e w1 ⟨rfl, k1⟩
  have K1 : Hid (Kept Nil W w1) := k1
  have KK1 : Hid (Kept Nil w w1) := KW.out.trans k1
  clear k1 V
  have q0 : w1.cell? ⟨w.heap.size, 0, none⟩ = some (.slice a1 v.length c1) := blk_at (K1.out.block _ _ HC.out (fun x => x.elim)) 0 rfl
  have q1 : w1.cell? ⟨w.heap.size, 1, none⟩ = some (.slice a2 n.length c2) := blk_at (K1.out.block _ _ HC.out (fun x => x.elim)) 1 rfl
  have q2 : w1.cell? ⟨w.heap.size, 2, none⟩ = some (.slice a3 l.length c3) := blk_at (K1.out.block _ _ HC.out (fun x => x.elim)) 2 rfl
  cases ok with
  | false =>
    have HE : Hid (r = .error 8) := HRR.out.trans (if_neg (fun h => by rw [← HOK.out] at h; cases h.1))
    have g0 : w1.cell? ⟨w.heap.size + 1, 0, none⟩ = some (.slice none 0 0) := blk_at (K1.out.block _ _ HN.out (fun x => x.elim)) 0 rfl
    have f0 : w1.frozen? ⟨w.heap.size + 1, 0, none⟩ = false := blk_free (K1.out.block _ _ HN.out (fun x => x.elim)) 0
    have g1 : w1.cell? ⟨w.heap.size + 1, 1, none⟩ = some (.slice none 0 0) := blk_at (K1.out.block _ _ HN.out (fun x => x.elim)) 1 rfl
    have f1 : w1.frozen? ⟨w.heap.size + 1, 1, none⟩ = false := blk_free (K1.out.block _ _ HN.out (fun x => x.elim)) 1
    have g2 : w1.cell? ⟨w.heap.size + 1, 2, none⟩ = some (.slice none 0 0) := blk_at (K1.out.block _ _ HN.out (fun x => x.elim)) 2 rfl
    have f2 : w1.frozen? ⟨w.heap.size + 1, 2, none⟩ = false := blk_free (K1.out.block _ _ HN.out (fun x => x.elim)) 2
    go_wp2
    refine bodyPost_ret (v := .tuple #[.agg #[.slice none 0 0, .slice none 0 0, .slice none 0 0], .int .i64 8]) (by simp [results, Try.results16, go_sem, g0, g1, g2]) rfl ?_
    exact .inl ⟨8, HE.out, rfl, ((KK1.out.setNew (Nat.le_succ _) _).setNew (Nat.le_succ _) _).setNew (Nat.le_succ _) _⟩
  | true =>
    by_cases hn : n = []
    · have hj : ((n.length : Int) == 0) = true := by rw [hn]; rfl
      have HE : Hid (r = .error 8) := HRR.out.trans (if_neg (fun h => by rw [hn] at h; simp at h))
      clear hn
      have g0 : w1.cell? ⟨w.heap.size + 1, 0, none⟩ = some (.slice none 0 0) := blk_at (K1.out.block _ _ HN.out (fun x => x.elim)) 0 rfl
      have f0 : w1.frozen? ⟨w.heap.size + 1, 0, none⟩ = false := blk_free (K1.out.block _ _ HN.out (fun x => x.elim)) 0
      have g1 : w1.cell? ⟨w.heap.size + 1, 1, none⟩ = some (.slice none 0 0) := blk_at (K1.out.block _ _ HN.out (fun x => x.elim)) 1 rfl
      have f1 : w1.frozen? ⟨w.heap.size + 1, 1, none⟩ = false := blk_free (K1.out.block _ _ HN.out (fun x => x.elim)) 1
      have g2 : w1.cell? ⟨w.heap.size + 1, 2, none⟩ = some (.slice none 0 0) := blk_at (K1.out.block _ _ HN.out (fun x => x.elim)) 2 rfl
      have f2 : w1.frozen? ⟨w.heap.size + 1, 2, none⟩ = false := blk_free (K1.out.block _ _ HN.out (fun x => x.elim)) 2
      go_wp2
      refine bodyPost_ret (v := .tuple #[.agg #[.slice none 0 0, .slice none 0 0, .slice none 0 0], .int .i64 8]) (by simp [results, Try.results16, go_sem, g0, g1, g2]) rfl ?_
      exact .inl ⟨8, HE.out, rfl, ((KK1.out.setNew (Nat.le_succ _) _).setNew (Nat.le_succ _) _).setNew (Nat.le_succ _) _⟩
    · have hj : ((n.length : Int) == 0) = false := beq_eq_false_iff_ne.2 (by have := List.length_pos_iff.2 hn; omega)
      have HE : Hid (r = .ok (n, [], l)) := HRR.out.trans (if_pos ⟨HOK.out.symm, List.length_pos_iff.2 hn⟩)
      clear hn
      have g0 : w1.cell? ⟨w.heap.size + 1, 0, none⟩ = some (.slice none 0 0) := blk_at (K1.out.block _ _ HN.out (fun x => x.elim)) 0 rfl
      have f0 : w1.frozen? ⟨w.heap.size + 1, 0, none⟩ = false := blk_free (K1.out.block _ _ HN.out (fun x => x.elim)) 0
      have g1 : w1.cell? ⟨w.heap.size + 1, 1, none⟩ = some (.slice none 0 0) := blk_at (K1.out.block _ _ HN.out (fun x => x.elim)) 1 rfl
      have f1 : w1.frozen? ⟨w.heap.size + 1, 1, none⟩ = false := blk_free (K1.out.block _ _ HN.out (fun x => x.elim)) 1
      have g2 : w1.cell? ⟨w.heap.size + 1, 2, none⟩ = some (.slice none 0 0) := blk_at (K1.out.block _ _ HN.out (fun x => x.elim)) 2 rfl
      have f2 : w1.frozen? ⟨w.heap.size + 1, 2, none⟩ = false := blk_free (K1.out.block _ _ HN.out (fun x => x.elim)) 2
      go_wp2
      refine bodyPost_ret (v := .tuple #[.agg #[.slice a2 n.length c2, .slice none 0 0, .slice a3 l.length c3], .int .i64 0]) (by simp [results, Try.results16, go_sem, g0, g1, g2]) rfl ?_
      have hbk : ∀ {ao zs}, IntRow B w ao zs → IntRow B (((w1.setCell ⟨w.heap.size + 1, 0, none⟩ (.slice a2 n.length c2)).setCell ⟨w.heap.size + 1, 1, none⟩ (.slice none 0 0)).setCell ⟨w.heap.size + 1, 2, none⟩ (.slice a3 l.length c3)) ao zs := fun {ao zs} hr => by
        have hr1 := hr.nil KK1.out
        have hkk : Kept (One (w.heap.size + 1)) w1 (((w1.setCell ⟨w.heap.size + 1, 0, none⟩ (.slice a2 n.length c2)).setCell ⟨w.heap.size + 1, 1, none⟩ (.slice none 0 0)).setCell ⟨w.heap.size + 1, 2, none⟩ (.slice a3 l.length c3)) := (((Kept.refl _ _).setCell (fun _ => rfl) _).setCell (fun _ => rfl) _).setCell (fun _ => rfl) _
        refine hr1.kept hkk ?_
        intro k o hk hx
        have : k = w.heap.size + 1 := hx
        omega
      exact .inr ⟨n, [], l, HE.out, a2, none, a3, c2, 0, c3, rfl, ⟨(hbk HR.out.r2).full, intRow_nil _ _ _, (hbk HR.out.r3).full⟩, ((KK1.out.setNew (Nat.le_succ _) _).setNew (Nat.le_succ _) _).setNew (Nat.le_succ _) _⟩

end Go.Proofs.Ytijklginabipgaa
