/-
  ConfigExact: the law's clones with something in their spare room, that they are held, and what a caller writes over.
-/
import Derived.Test.YtijklginabipgaaWExact4
import Derived.Test.YtijklginabipgaaWMeet1
import Derived.Deep.RegionHeld3
namespace Go.Proofs.Ytijklginabipgaa
open Go.RowKit

/-- A row of one's own with 99 in its spare room. -/
def XRow (B : Nat) (w : World) (ao : Option Addr) (d : Nat) (zs : List Int) : Prop := ∃ g, ao = some ⟨g, 0, none⟩ ∧ w.ownsRow B 3 1 (.slice (some ⟨g, 0, none⟩) (zs.length + 1) d) (zs.length + 1) ((zs ++ [99]).map (Value.int .i64))
theorem XRow.own {B d : Nat} {w : World} {ao : Option Addr} {zs : List Int} (h : XRow B w ao d zs) : OwnInts B w ao d zs := by
  obtain ⟨g, rfl, ho⟩ := h
  have := own_prefixI ho (k := zs.length) (by omega)
  show World.ownsRow _ _ _ _ _ _ _
  simpa using this
theorem XRow.kept {B d : Nat} {w w' : World} {ao : Option Addr} {zs : List Int} (h : XRow B w ao d zs) (hk : Kept Nil w w') : XRow B w' ao d zs := by
  obtain ⟨g, e, ho⟩ := h
  exact ⟨g, e, own_kept ho hk (fun _ _ _ x => x.elim)⟩
theorem XRow.spare {B d : Nat} {w : World} {ao : Option Addr} {zs : List Int} (h : XRow B w ao d zs) : ∃ g, ao = some ⟨g, 0, none⟩ ∧ zs.length + 1 ≤ d ∧ d ≤ maxLen ∧ w.cell? ⟨g, zs.length, none⟩ = some (.int .i64 99) := by
  obtain ⟨g, e, ho⟩ := h
  obtain ⟨g', cur, e', _, hb, h1, h2, h3, h4⟩ := own_blockI ho (by omega)
  simp only [Option.some.injEq, Addr.mk.injEq, and_true] at e'
  subst e'
  refine ⟨g, e, h1, h2, ?_⟩
  rw [blk_cell hb]
  have := congrArg (fun l => l[zs.length]?) h4
  simp only [List.getElem?_take, if_pos (show zs.length < zs.length + 1 by omega), Array.getElem?_toList] at this
  rw [this]
  simp
theorem XRow.mono {B B' d : Nat} {w : World} {ao : Option Addr} {zs : List Int} (h : XRow B w ao d zs) (hb : B' ≤ B) : XRow B' w ao d zs := by
  obtain ⟨g, e, ho⟩ := h
  exact ⟨g, e, own_mono ho hb⟩
theorem XRow.setNe {B d : Nat} {w : World} {ao : Option Addr} {zs : List Int} (h : XRow B w ao d zs) {a : Addr} (hn : a.block < B) (u : Value) : XRow B (w.setCell a u) ao d zs := by
  obtain ⟨g, e, ho⟩ := h
  exact ⟨g, e, ownsRow_setCell_below ho hn u⟩

set_option maxRecDepth 100000 in
set_option maxHeartbeats 4000000 in
theorem confX_any (B c1 c2 c3 : Nat) (a1 a2 a3 : Option Addr) (v n l : List Int) (w : World) (h : CfRows B w a1 a2 a3 v n l) (h1 : v.length ≤ 1048576) (h2 : n.length ≤ 1048576) (h3 : l.length ≤ 1048576) :
    Calls Try.prog 8 #[.agg #[.slice a1 v.length c1, .slice a2 n.length c2, .slice a3 l.length c3]] w fun e w' => ∃ b1 b2 b3 d1 d2 d3, e = .returned (.agg #[.slice b1 v.length d1, .slice b2 n.length d2, .slice b3 l.length d3]) ∧ XRow w.heap.size w' b1 d1 v ∧ XRow w.heap.size w' b2 d2 n ∧ XRow w.heap.size w' b3 d3 l ∧ Kept Nil w w' := by
  have HR : Hid (CfRows B w a1 a2 a3 v n l) := h
  obtain ⟨W, hW⟩ : ∃ W, W = (w.alloc (.cells #[.slice a1 v.length c1, .slice a2 n.length c2, .slice a3 l.length c3] 24)).alloc (.cells #[.slice none 0 0, .slice none 0 0, .slice none 0 0] 24) := ⟨_, rfl⟩
  have KW : Hid (Kept Nil w W) := by rw [hW]; exact ((Kept.refl _ _).alloc _).alloc _
  have HB : Hid (W.heap[w.heap.size]? = some (.cells #[.slice a1 v.length c1, .slice a2 n.length c2, .slice a3 l.length c3] 24 (0, 0))) := by rw [hW]; exact blk_past (blk_new _ _) _
  have HN : Hid (W.heap[w.heap.size + 1]? = some (.cells #[.slice none 0 0, .slice none 0 0, .slice none 0 0] 24 (0, 0))) := by
    have := blk_new (w.alloc (.cells #[.slice a1 v.length c1, .slice a2 n.length c2, .slice a3 l.length c3] 24)) (.cells #[.slice none 0 0, .slice none 0 0, .slice none 0 0] 24)
    rw [show (w.alloc (.cells #[.slice a1 v.length c1, .slice a2 n.length c2, .slice a3 l.length c3] 24)).heap.size = w.heap.size + 1 by simp] at this
    rw [hW]
    exact this
  have I1 := ints_any B c1 a1 v W.drew ((HR.out.nil KW.out).r1.nil (Kept.refl _ _).drew) (by omega)
  have I2 := fun X (hx : Kept Nil W X) => ints_any B c2 a2 n X ((HR.out.nil (KW.out.trans hx)).r2) (by omega)
  have I3 := fun X (hx : Kept Nil W X) => ints_any B c3 a3 l X ((HR.out.nil (KW.out.trans hx)).r3) (by omega)
  have q0 : W.cell? ⟨w.heap.size, 0, none⟩ = some (.slice a1 v.length c1) := blk_at HB.out 0 rfl
  have q1 : W.cell? ⟨w.heap.size, 1, none⟩ = some (.slice a2 n.length c2) := blk_at HB.out 1 rfl
  have q2 : W.cell? ⟨w.heap.size, 2, none⟩ = some (.slice a3 l.length c3) := blk_at HB.out 2 rfl
  have sD : W.drew.cell? ⟨w.heap.size, 0, none⟩ = some (.slice a1 v.length c1) ∧ W.drew.cell? ⟨w.heap.size, 1, none⟩ = some (.slice a2 n.length c2) ∧ W.drew.cell? ⟨w.heap.size, 2, none⟩ = some (.slice a3 l.length c3) := ⟨q0, q1, q2⟩
  clear h h1 h2 h3
  go_enter Try.func8, Try.ntmps8
  go_wp2
  rw [← hW]
  clear hW
  go_region_held3 (fun w' => w'.cell? ⟨w.heap.size, 0, none⟩ = some (.slice a1 v.length c1) ∧ w'.cell? ⟨w.heap.size, 1, none⟩ = some (.slice a2 n.length c2) ∧ w'.cell? ⟨w.heap.size, 2, none⟩ = some (.slice a3 l.length c3)) (first | assumption | go_keep) (first | (go_at_call 9; first | (go_fit I1; rintro e wa ⟨g1, d1, rfl, oA, kA⟩; have PA : Hid (Kept Nil W wa) := (Kept.refl _ _).drew.trans kA; have XA : Hid (XRow W.heap.size wa (some ⟨g1, 0, none⟩) d1 v) := ⟨g1, rfl, oA⟩; have BA : Hid (wa.heap[w.heap.size]? = some (.cells #[.slice a1 v.length c1, .slice a2 n.length c2, .slice a3 l.length c3] 24 (0, 0))) := PA.out.block _ _ HB.out (fun x => x.elim); have sA : wa.cell? ⟨w.heap.size, 0, none⟩ = some (.slice a1 v.length c1) ∧ wa.cell? ⟨w.heap.size, 1, none⟩ = some (.slice a2 n.length c2) ∧ wa.cell? ⟨w.heap.size, 2, none⟩ = some (.slice a3 l.length c3) := ⟨blk_at BA.out 0 rfl, blk_at BA.out 1 rfl, blk_at BA.out 2 rfl⟩; clear oA kA) | (go_fit (I2 wa PA.out); rintro e wb ⟨g2, d2, rfl, oB, kB⟩; have PB : Hid (Kept Nil W wb) := PA.out.trans kB; have XB : Hid (XRow W.heap.size wb (some ⟨g2, 0, none⟩) d2 n) := XRow.mono ⟨g2, rfl, oB⟩ PA.out.size; have XA2 : Hid (XRow W.heap.size wb (some ⟨g1, 0, none⟩) d1 v) := XA.out.kept kB; have BB : Hid (wb.heap[w.heap.size]? = some (.cells #[.slice a1 v.length c1, .slice a2 n.length c2, .slice a3 l.length c3] 24 (0, 0))) := PB.out.block _ _ HB.out (fun x => x.elim); have sB : wb.cell? ⟨w.heap.size, 0, none⟩ = some (.slice a1 v.length c1) ∧ wb.cell? ⟨w.heap.size, 1, none⟩ = some (.slice a2 n.length c2) ∧ wb.cell? ⟨w.heap.size, 2, none⟩ = some (.slice a3 l.length c3) := ⟨blk_at BB.out 0 rfl, blk_at BB.out 1 rfl, blk_at BB.out 2 rfl⟩; clear oB kB) | (go_fit (I3 wb PB.out); rintro e wc ⟨g3, d3, rfl, oC, kC⟩; have PC : Hid (Kept Nil W wc) := PB.out.trans kC; have XC : Hid (XRow W.heap.size wc (some ⟨g3, 0, none⟩) d3 l) := XRow.mono ⟨g3, rfl, oC⟩ PB.out.size; have XA3 : Hid (XRow W.heap.size wc (some ⟨g1, 0, none⟩) d1 v) := XA2.out.kept kC; have XB3 : Hid (XRow W.heap.size wc (some ⟨g2, 0, none⟩) d2 n) := XB.out.kept kC; have BC : Hid (wc.heap[w.heap.size]? = some (.cells #[.slice a1 v.length c1, .slice a2 n.length c2, .slice a3 l.length c3] 24 (0, 0))) := PC.out.block _ _ HB.out (fun x => x.elim); have sC : wc.cell? ⟨w.heap.size, 0, none⟩ = some (.slice a1 v.length c1) ∧ wc.cell? ⟨w.heap.size, 1, none⟩ = some (.slice a2 n.length c2) ∧ wc.cell? ⟨w.heap.size, 2, none⟩ = some (.slice a3 l.length c3) := ⟨blk_at BC.out 0 rfl, blk_at BC.out 1 rfl, blk_at BC.out 2 rfl⟩; have NC : Hid (wc.heap[w.heap.size + 1]? = some (.cells #[.slice none 0 0, .slice none 0 0, .slice none 0 0] 24 (0, 0))) := PC.out.block _ _ HN.out (fun x => x.elim); have j0 : wc.cell? ⟨w.heap.size + 1, 0, none⟩ = some (.slice none 0 0) := blk_at NC.out 0 rfl; have j1 : wc.cell? ⟨w.heap.size + 1, 1, none⟩ = some (.slice none 0 0) := blk_at NC.out 1 rfl; have j2 : wc.cell? ⟨w.heap.size + 1, 2, none⟩ = some (.slice none 0 0) := blk_at NC.out 2 rfl; have i0 : wc.frozen? ⟨w.heap.size + 1, 0, none⟩ = false := blk_free NC.out 0; have i1 : wc.frozen? ⟨w.heap.size + 1, 1, none⟩ = false := blk_free NC.out 1; have i2 : wc.frozen? ⟨w.heap.size + 1, 2, none⟩ = false := blk_free NC.out 2; clear oC kC)))
  all_goals
    go_wp2
    refine bodyPost_ret (v := .agg #[.slice (some ⟨g1, 0, none⟩) v.length d1, .slice (some ⟨g2, 0, none⟩) n.length d2, .slice (some ⟨g3, 0, none⟩) l.length d3]) (by simp [results, Try.results8, go_sem, j0, j1, j2]) rfl ?_
    have hlt : w.heap.size + 1 < W.heap.size := lt_of_block HN.out
    have hmv : ∀ {ao d zs} (u0 u1 u2 : Value), XRow W.heap.size wc ao d zs → XRow w.heap.size (((wc.setCell ⟨w.heap.size + 1, 0, none⟩ u0).setCell ⟨w.heap.size + 1, 1, none⟩ u1).setCell ⟨w.heap.size + 1, 2, none⟩ u2) ao d zs := fun {ao d zs} u0 u1 u2 hx => (((hx.setNe hlt _).setNe hlt _).setNe hlt _).mono KW.out.size
    exact ⟨some ⟨g1, 0, none⟩, some ⟨g2, 0, none⟩, some ⟨g3, 0, none⟩, d1, d2, d3, rfl, hmv _ _ _ XA3.out, hmv _ _ _ XB3.out, hmv _ _ _ XC.out, (((KW.out.trans PC.out).setNew (Nat.le_succ _) _).setNew (Nat.le_succ _) _).setNew (Nat.le_succ _) _⟩

set_option maxRecDepth 100000 in
set_option maxHeartbeats 2000000 in
theorem heldInts_yes (B B2 d c : Nat) (xo ao : Option Addr) (zs : List Int) (w : World) (hx : XRow B w xo d zs) (h : IntRow B2 w ao zs) (hl : zs.length ≤ 1048576) :
    Calls Try.prog 29 #[.slice xo zs.length d, .slice ao zs.length c] w fun e w' => e = .returned (.bool true) ∧ Kept Nil w w' := by
  have S := refSameInts_any _ B2 d c xo ao zs zs w hx.own.row h (by omega) (by omega)
  rw [decide_eq_true rfl] at S
  have HX : Hid (XRow B w xo d zs) := hx
  clear h hx
  go_enter Try.func29, Try.ntmps29
  go_wp2_with fail
  go_fit S
  rintro e w1 ⟨rfl, k1⟩
  obtain ⟨g, rfl, hd, hdm, hcell⟩ := (HX.out.kept k1).spare
  have K1 : Hid (Kept Nil w w1) := k1
  have hd1 : (zs.length : Int) + 1 ≤ d := by omega
  have hd2 : zs.length + 1 ≤ d := hd
  have hd3 : (d : Int) ≤ 9223372036854775807 := by unfold maxLen at hdm; omega
  clear k1 S HX hdm
  go_wp2
  go_ret
  exact ⟨rfl, K1.out⟩

end Go.Proofs.Ytijklginabipgaa
