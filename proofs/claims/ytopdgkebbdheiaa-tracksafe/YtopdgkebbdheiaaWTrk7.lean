/-
  TrackSafe, walked: its parts.
-/
import Derived.Test.YtopdgkebbdheiaaWTrk6
import Derived.Test.YtopdgkebbdheiaaWTrk3
import Derived.Test.YtopdgkebbdheiaaWMatch2
import Derived.Test.YtopdgkebbdheiaaWMatch0
namespace Go.Proofs.Ytopdgkebbdheiaa
open Go.RowKit

theorem Try.infoPg : (Try.prog.info? 65).map (fun i => (i.zero, i.size, i.bytes)) = some (some (.agg #[.int .i64 0, .int .i64 0, .int .i64 0, .int .i64 0, .bool false, .int .i64 0]), 6, 48) := by kernel_rfl
theorem src_pg {w : World} (z : Pg) : Src Try.prog 6 62 (.slice (some ⟨w.heap.size, 0, none⟩) 1 1) 1 (pgCell z) (w.alloc (.cells #[.int .i64 z.nd, .int .i64 z.mt, .int .i64 z.nx, .int .i64 z.st, .bool z.ac, .int .i64 z.hd] 65)) := by
  refine Src.ofSlice _ Try.underlying62 _ 1 1 _ rfl ?_ ?_
  · intro j u hj
    match j, hj with
    | 0, hj | 1, hj | 2, hj | 3, hj | 4, hj | 5, hj =>
      simp [pgCell] at hj
      subst hj
      simp [Addr.add]
  · intro u hu
    simp [pgCell] at hu
    rcases hu with rfl | rfl | rfl | rfl | rfl | rfl <;> rfl
theorem OwnPs.push {B : Nat} {w' : World} {ao : Option Addr} {c : Nat} {ps : List Pg} {x : Pg} (h : w'.ownsRow B 65 6 (.slice ao (ps.length + 1) c) (ps.length + 1) (pgCells ps ++ pgCell x)) : OwnPs B w' ao c (ps ++ [x]) := by
  unfold OwnPs
  rw [pgCells_append, List.length_append]
  simpa [pgCells] using h

set_option maxRecDepth 100000 in
set_option maxHeartbeats 1000000 in
theorem ack_any (nd mt nx st hd x : Int) (ac : Bool) (w : World) :
    Calls Try.prog 43 #[.agg #[.int .i64 nd, .int .i64 mt, .int .i64 nx, .int .i64 st, .bool ac, .int .i64 hd], .int .i64 x] w fun e w' => ∃ mt' nx' : Int, e = .returned (.agg #[.int .i64 nd, .int .i64 mt', .int .i64 nx', .int .i64 2, .bool ac, .int .i64 hd]) ∧ Kept Nil w w' := by
  go_enter Try.func43, Try.ntmps43
  go_wp2
  refine bodyPost_ret (v := .agg #[.int .i64 nd, .int .i64 (max mt x), .int .i64 (max nx (wrap64 (max mt x + 1))), .int .i64 2, .bool ac, .int .i64 hd]) (by simp [results, Try.results43, go_sem]) rfl ?_
  exact ⟨_, _, rfl, ((Kept.refl _ _).alloc _).alloc _⟩

/-- What stays while the law goes on. -/
structure TsInv (w0 : World) (B bc bl : Nat) (a1 a2 a3 lo : Option Addr) (c1 c2 c3 cl : Nat) (v n l : List Int) (L : List En) (w : World) : Prop where
  cf : CfRows B w a1 a2 a3 v n l
  en : EntRow B w lo L
  hc : w.heap[bc]? = some (.cells #[.slice a1 v.length c1, .slice a2 n.length c2, .slice a3 l.length c3] 24 (0, 0))
  hl : w.heap[bl]? = some (.cells #[.int .i64 0, .int .i64 0, .slice lo L.length cl] 53 (0, 0))
  kp : Kept Nil w0 w
theorem TsInv.nil {w0 : World} {B bc bl : Nat} {a1 a2 a3 lo : Option Addr} {c1 c2 c3 cl : Nat} {v n l : List Int} {L : List En} {w w' : World} (h : TsInv w0 B bc bl a1 a2 a3 lo c1 c2 c3 cl v n l L w) (hk : Kept Nil w w') : TsInv w0 B bc bl a1 a2 a3 lo c1 c2 c3 cl v n l L w' :=
  ⟨h.cf.nil hk, h.en.nil hk, hk.block _ _ h.hc (fun x => x.elim), hk.block _ _ h.hl (fun x => x.elim), h.kp.trans hk⟩

def b1 : Obj := .cells #[.int .i64 1] 3
theorem comDown_one : comDown (goodAt [1] [] [⟨1, 1, 2, 0, false, 0⟩] [⟨1, 1, 0, []⟩] 1) 0 1 = 1 := by decide

set_option maxRecDepth 100000 in
set_option maxHeartbeats 1000000 in
theorem commit0_any (w : World) : Calls Try.prog 49 #[.agg #[.slice (some ⟨w.heap.size, 0, none⟩) 1 1, .slice none 0 0, .slice none 0 0], .slice (some ⟨w.heap.size + 1, 0, none⟩) 1 1, .agg #[.int .i64 0, .int .i64 0, .slice (some ⟨w.heap.size + 1 + 1, 0, none⟩) 1 1], .int .i64 1, .int .i64 0] (((w.alloc (.cells #[.int .i64 1] 3)).alloc (.cells #[.int .i64 1, .int .i64 1, .int .i64 2, .int .i64 0, .bool false, .int .i64 0] 65)).alloc (.cells #[.int .i64 1, .int .i64 1, .int .i64 0, .string ⟨#[]⟩] 57)) fun e w' => e = .returned (.int .i64 1) ∧ Kept Nil w w' := by
  have e1 : (w.alloc (.cells #[.int .i64 1] 3)).heap.size = w.heap.size + 1 := by simp
  have e2 : ((w.alloc (.cells #[.int .i64 1] 3)).alloc (.cells #[.int .i64 1, .int .i64 1, .int .i64 2, .int .i64 0, .bool false, .int .i64 0] 65)).heap.size = w.heap.size + 1 + 1 := by simp
  have x1 := blk_past (blk_past (blk_new w (.cells #[.int .i64 1] 3)) (.cells #[.int .i64 1, .int .i64 1, .int .i64 2, .int .i64 0, .bool false, .int .i64 0] 65)) (.cells #[.int .i64 1, .int .i64 1, .int .i64 0, .string ⟨#[]⟩] 57)
  have x2 := blk_past (blk_new (w.alloc (.cells #[.int .i64 1] 3)) (.cells #[.int .i64 1, .int .i64 1, .int .i64 2, .int .i64 0, .bool false, .int .i64 0] 65)) (.cells #[.int .i64 1, .int .i64 1, .int .i64 0, .string ⟨#[]⟩] 57)
  have x3 := blk_new ((w.alloc (.cells #[.int .i64 1] 3)).alloc (.cells #[.int .i64 1, .int .i64 1, .int .i64 2, .int .i64 0, .bool false, .int .i64 0] 65)) (.cells #[.int .i64 1, .int .i64 1, .int .i64 0, .string ⟨#[]⟩] 57)
  rw [e1] at x2
  rw [e2] at x3
  have K : Kept Nil w (((w.alloc (.cells #[.int .i64 1] 3)).alloc (.cells #[.int .i64 1, .int .i64 1, .int .i64 2, .int .i64 0, .bool false, .int .i64 0] 65)).alloc (.cells #[.int .i64 1, .int .i64 1, .int .i64 0, .string ⟨#[]⟩] 57)) := (((Kept.refl _ _).alloc _).alloc _).alloc _
  generalize ((w.alloc (.cells #[.int .i64 1] 3)).alloc (.cells #[.int .i64 1, .int .i64 1, .int .i64 2, .int .i64 0, .bool false, .int .i64 0] 65)).alloc (.cells #[.int .i64 1, .int .i64 1, .int .i64 0, .string ⟨#[]⟩] 57) = W at *
  have r1 : IntRow W.heap.size W (some ⟨w.heap.size, 0, none⟩) [1] := fun j hj => by
    obtain rfl : j = 0 := by simpa using hj
    exact ⟨_, rfl, lt_of_block x1, blk_at x1 0 rfl⟩
  have r2 : PgRow W.heap.size W (some ⟨w.heap.size + 1, 0, none⟩) [⟨1, 1, 2, 0, false, 0⟩] := fun j hj => by
    obtain rfl : j = 0 := by simpa using hj
    exact ⟨_, rfl, lt_of_block x2, blk_at x2 0 rfl, blk_at x2 1 rfl, blk_at x2 2 rfl, blk_at x2 3 rfl, blk_at x2 4 rfl, blk_at x2 5 rfl⟩
  have r3 : EntRow W.heap.size W (some ⟨w.heap.size + 1 + 1, 0, none⟩) [⟨1, 1, 0, []⟩] := fun j hj => by
    obtain rfl : j = 0 := by simpa using hj
    exact ⟨_, rfl, lt_of_block x3, blk_at x3 0 rfl, blk_at x3 1 rfl, blk_at x3 2 rfl, blk_at x3 3 rfl, by simp⟩
  have C := commit_any W.heap.size 1 0 0 1 1 0 (some ⟨w.heap.size, 0, none⟩) none none (some ⟨w.heap.size + 1, 0, none⟩) (some ⟨w.heap.size + 1 + 1, 0, none⟩) [1] [] [] [⟨1, 1, 2, 0, false, 0⟩] [⟨1, 1, 0, []⟩] 1 W ⟨r1, fun j hj => by simp at hj, fun j hj => by simp at hj⟩ r2 r3 (by simp) (by simp) (by simp) (by simp)
  have C2 := C.mono (R' := fun e w' => e = .returned (.int .i64 1) ∧ Kept Nil w w') (fun e w' h => ⟨h.1.trans (by simp only [List.length_cons, List.length_nil, Nat.zero_add]; rw [comDown_one]; rfl), K.trans h.2⟩)
  exact C2

end Go.Proofs.Ytopdgkebbdheiaa
