/-
  A configuration copied (the law's conf): its rows are rows of their own, with the same numbers.
-/
import Derived.Test.YtijklginabipgaaWOlf
namespace Go.Proofs.Ytijklginabipgaa
open Go.RowKit

set_option maxRecDepth 100000 in
set_option maxHeartbeats 4000000 in
theorem conf_any (B c1 c2 c3 : Nat) (a1 a2 a3 : Option Addr) (v n l : List Int) (w : World) (h : CfRows B w a1 a2 a3 v n l) (h1 : (v.length + 1) * 8 ≤ 140737488355328) (h2 : (n.length + 1) * 8 ≤ 140737488355328) (h3 : (l.length + 1) * 8 ≤ 140737488355328) :
    Calls Try.prog 8 #[.agg #[.slice a1 v.length c1, .slice a2 n.length c2, .slice a3 l.length c3]] w fun e w' => ∃ b1 b2 b3 d1 d2 d3, e = .returned (.agg #[.slice b1 v.length d1, .slice b2 n.length d2, .slice b3 l.length d3]) ∧ CfRows w'.heap.size w' b1 b2 b3 v n l ∧ Kept Nil w w' := by
  have HR : Hid (CfRows B w a1 a2 a3 v n l) := h
  have I1 := fun w' (hk : Kept Nil w w') => ints_any B c1 a1 v w' (HR.out.r1.nil hk) h1
  have I2 := fun w' (hk : Kept Nil w w') => ints_any B c2 a2 n w' (HR.out.r2.nil hk) h2
  have I3 := fun w' (hk : Kept Nil w w') => ints_any B c3 a3 l w' (HR.out.r3.nil hk) h3
  have HB : Hid (_) := blk_past (blk_new w (.cells #[.slice a1 v.length c1, .slice a2 n.length c2, .slice a3 l.length c3] 24)) (.cells #[.slice none 0 0, .slice none 0 0, .slice none 0 0] 24)
  have HN : Hid (((w.alloc (.cells #[.slice a1 v.length c1, .slice a2 n.length c2, .slice a3 l.length c3] 24)).alloc (.cells #[.slice none 0 0, .slice none 0 0, .slice none 0 0] 24)).heap[w.heap.size + 1]? = some (.cells #[.slice none 0 0, .slice none 0 0, .slice none 0 0] 24 (0, 0))) := by
    have := blk_new (w.alloc (.cells #[.slice a1 v.length c1, .slice a2 n.length c2, .slice a3 l.length c3] 24)) (.cells #[.slice none 0 0, .slice none 0 0, .slice none 0 0] 24)
    rwa [show (w.alloc (.cells #[.slice a1 v.length c1, .slice a2 n.length c2, .slice a3 l.length c3] 24)).heap.size = w.heap.size + 1 by simp] at this
  have HK0 : Hid (Kept Nil w ((w.alloc (.cells #[.slice a1 v.length c1, .slice a2 n.length c2, .slice a3 l.length c3] 24)).alloc (.cells #[.slice none 0 0, .slice none 0 0, .slice none 0 0] 24)).drew) := (((Kept.refl _ _).alloc _).alloc _).drew
  clear h h1 h2 h3
  have t1 : True := trivial
  have t2 : True := trivial
  go_enter Try.func8, Try.ntmps8
  go_wp2
  go_region_with (first | (go_at_call 9; have _t := t1; clear _t t1; go_must (refine (I1 _ HK0.out).mono ?_); rintro e w1 ⟨g1, d1, rfl, o1, k1⟩; have HK1 : Hid (Kept Nil w w1) := HK0.out.trans k1; have B1 : Hid _ := k1.block _ _ HB.out (fun x => x.elim); have N1 : Hid _ := k1.block _ _ HN.out (fun x => x.elim); have q10 := blk_at B1.out 0 rfl; have q11 := blk_at B1.out 1 rfl; have q12 := blk_at B1.out 2 rfl; clear k1) | (go_at_call 9; have _t := t2; clear _t t2; go_must (refine (I2 _ HK1.out).mono ?_); rintro e w2 ⟨g2, d2, rfl, o2, k2⟩; have HK2 : Hid (Kept Nil w w2) := HK1.out.trans k2; have B2 : Hid _ := k2.block _ _ B1.out (fun x => x.elim); have N2 : Hid _ := k2.block _ _ N1.out (fun x => x.elim); have q22 := blk_at B2.out 2 rfl; have o1' := own_kept o1 k2 (fun _ _ _ x => x.elim); clear k2 o1) | (go_at_call 9; go_must (refine (I3 _ HK2.out).mono ?_); rintro e w3 ⟨g3, d3, rfl, o3, k3⟩; have HK3 : Hid (Kept Nil w w3) := HK2.out.trans k3; have N3 : Hid _ := k3.block _ _ N2.out (fun x => x.elim); have q30 := blk_at N3.out 0 rfl; have q31 := blk_at N3.out 1 rfl; have q32 := blk_at N3.out 2 rfl; have f30 := blk_free N3.out 0; have f31 := blk_free N3.out 1; have f32 := blk_free N3.out 2; have o1'' := own_kept o1' k3 (fun _ _ _ x => x.elim); have o2' := own_kept o2 k3 (fun _ _ _ x => x.elim); clear k3 o1' o2))
  all_goals go_wp2
  all_goals
    have L0 : w.heap.size + 2 ≤ ((w.alloc (.cells #[.slice a1 v.length c1, .slice a2 n.length c2, .slice a3 l.length c3] 24)).alloc (.cells #[.slice none 0 0, .slice none 0 0, .slice none 0 0] 24)).drew.heap.size := by simp
    have L1 := lt_of_block N1.out
    have L2 := lt_of_block N2.out
    refine bodyPost_ret (v := .agg #[.slice (some ⟨g1, 0, none⟩) v.length d1, .slice (some ⟨g2, 0, none⟩) n.length d2, .slice (some ⟨g3, 0, none⟩) l.length d3]) (by simp [results, Try.results8, go_sem, q30, q31, q32]) rfl ?_
    have hkk : Kept (One (w.heap.size + 1)) w3 (((w3.setCell ⟨w.heap.size + 1, 0, none⟩ (.slice (some ⟨g1, 0, none⟩) v.length d1)).setCell ⟨w.heap.size + 1, 1, none⟩ (.slice (some ⟨g2, 0, none⟩) n.length d2)).setCell ⟨w.heap.size + 1, 2, none⟩ (.slice (some ⟨g3, 0, none⟩) l.length d3)) := (((Kept.refl _ _).setCell (fun _ => rfl) _).setCell (fun _ => rfl) _).setCell (fun _ => rfl) _
    refine ⟨some ⟨g1, 0, none⟩, some ⟨g2, 0, none⟩, some ⟨g3, 0, none⟩, d1, d2, d3, rfl, ⟨?_, ?_, ?_⟩, ((HK3.out.setNew (Nat.le_succ _) _).setNew (Nat.le_succ _) _).setNew (Nat.le_succ _) _⟩
    · exact row_own (rest := [99]) (own_kept o1'' hkk (fun k cs hb hx => by have : k = w.heap.size + 1 := hx; omega))
    · exact row_own (rest := [99]) (own_kept o2' hkk (fun k cs hb hx => by have : k = w.heap.size + 1 := hx; omega))
    · exact row_own (rest := [99]) (own_kept o3 hkk (fun k cs hb hx => by have : k = w.heap.size + 1 := hx; omega))

end Go.Proofs.Ytijklginabipgaa
