/-
  ConfigExact, its first part: the clones, and a change that is known.
-/
import Derived.Test.YtijklginabipgaaWExactP
import Derived.Deep.DeepCutAuto
import Derived.Deep.RegionHeld3
import Derived.Deep.CutBlock
import Derived.Deep.DeepFit
namespace Go.Proofs.Ytijklginabipgaa
open Go.RowKit

set_option maxRecDepth 1000000 in
set_option maxHeartbeats 40000000 in
theorem configExact_walk (hB : XPartB) (B c1 c2 c3 ck cm : Nat) (a1 a2 a3 ro mo : Option Addr) (v n l hs : List Int) (os : List (Int × Int)) (w : World) (hc : CfRows B w a1 a2 a3 v n l) (ho : OpRow B w ro os) (hh : IntRow B w mo hs) (hBw : B ≤ w.heap.size) (h1 : v.length ≤ 1048576) (h2 : n.length ≤ 1048576) (h3 : l.length ≤ 1048576) (h4 : os.length ≤ 1048576) (h5 : hs.length ≤ 1048576) :
    Calls Try.prog 3 #[.agg #[.slice a1 v.length c1, .slice a2 n.length c2, .slice a3 l.length c3], .slice ro os.length ck, .slice mo hs.length cm] w fun e w' => e = .returned (.bool true) ∧ Kept Nil w w' := by
  have HPB : Hid XPartB := hB
  have HC : Hid (CfRows B w a1 a2 a3 v n l) := hc
  have HO : Hid (OpRow B w ro os) := ho
  have HH : Hid (IntRow B w mo hs) := hh
  clear hB hc ho hh
  obtain ⟨W, hW⟩ : ∃ W, W = w.alloc (.cells #[.slice a1 v.length c1, .slice a2 n.length c2, .slice a3 l.length c3] 24) := ⟨_, rfl⟩
  have KW : Hid (Kept Nil w W) := by rw [hW]; exact (Kept.refl _ _).alloc _
  have B3 : Hid (W.heap[w.heap.size]? = some (.cells #[.slice a1 v.length c1, .slice a2 n.length c2, .slice a3 l.length c3] 24 (0, 0))) := by rw [hW]; exact blk_new _ _
  have CX := confX_any B c1 c2 c3 a1 a2 a3 v n l W (HC.out.nil KW.out) h1 h2 h3
  have q0 : W.cell? ⟨w.heap.size, 0, none⟩ = some (.slice a1 v.length c1) := blk_at B3.out 0 rfl
  have q1 : W.cell? ⟨w.heap.size, 1, none⟩ = some (.slice a2 n.length c2) := blk_at B3.out 1 rfl
  have q2 : W.cell? ⟨w.heap.size, 2, none⟩ = some (.slice a3 l.length c3) := blk_at B3.out 2 rfl
  go_enter Try.func3, Try.ntmps3
  go_wp2_with fail
  rw [← hW]
  clear hW
  generalize hp3 : w.heap.size = p3 at *
  have HBW : Hid (B ≤ w.heap.size) := by show B ≤ w.heap.size; rw [hp3]; exact hBw
  clear hp3 hBw
  go_fit CX
  rintro e w1 ⟨x1, x2, x3, d1, d2, d3, rfl, X1, X2, X3, k1⟩
  have KK1 : Hid (Kept Nil w w1) := KW.out.trans k1
  have B31 : Hid (w1.heap[p3]? = some (.cells #[.slice a1 v.length c1, .slice a2 n.length c2, .slice a3 l.length c3] 24 (0, 0))) := k1.block _ _ B3.out (fun x => x.elim)
  have HX1 : Hid (XRow 0 w1 x1 d1 v ∧ XRow 0 w1 x2 d2 n ∧ XRow 0 w1 x3 d3 l) := ⟨X1.mono (Nat.zero_le _), X2.mono (Nat.zero_le _), X3.mono (Nat.zero_le _)⟩
  clear k1 X1 X2 X3 q0 q1 q2 CX
  obtain ⟨W2, hW2⟩ : ∃ W, W = w1.alloc (.cells #[.slice x1 v.length d1, .slice x2 n.length d2, .slice x3 l.length d3] 24) := ⟨_, rfl⟩
  have KW2 : Hid (Kept Nil w1 W2) := by rw [hW2]; exact (Kept.refl _ _).alloc _
  have B72 : Hid (W2.heap[w1.heap.size]? = some (.cells #[.slice x1 v.length d1, .slice x2 n.length d2, .slice x3 l.length d3] 24 (0, 0))) := by rw [hW2]; exact blk_new _ _
  have IX := ints_any B cm mo hs W2 ((HH.out.nil KK1.out).nil KW2.out) (by omega)
  go_wp2_with fail
  rw [← hW2]
  clear hW2
  generalize w1.heap.size = p7 at *
  go_fit IX
  rintro e w2 ⟨gh, hd, rfl, oh, k2⟩
  have KK2 : Hid (Kept Nil w w2) := (KK1.out.trans KW2.out).trans k2
  have B32 : Hid (w2.heap[p3]? = some (.cells #[.slice a1 v.length c1, .slice a2 n.length c2, .slice a3 l.length c3] 24 (0, 0))) := (KW2.out.trans k2).block _ _ B31.out (fun x => x.elim)
  have B7 : Hid (w2.heap[p7]? = some (.cells #[.slice x1 v.length d1, .slice x2 n.length d2, .slice x3 l.length d3] 24 (0, 0))) := k2.block _ _ B72.out (fun x => x.elim)
  have HX2 : Hid (XRow 0 w2 x1 d1 v ∧ XRow 0 w2 x2 d2 n ∧ XRow 0 w2 x3 d3 l) := ⟨HX1.out.1.kept (KW2.out.trans k2), HX1.out.2.1.kept (KW2.out.trans k2), HX1.out.2.2.kept (KW2.out.trans k2)⟩
  have HHX : Hid (XRow 0 w2 (some ⟨gh, 0, none⟩) hd hs) := XRow.mono ⟨gh, rfl, oh⟩ (Nat.zero_le _)
  have SS : Hid (ES w B p3 p7 c1 c2 c3 d1 d2 d3 ck cm hd a1 a2 a3 x1 x2 x3 ro mo (some ⟨gh, 0, none⟩) v n l hs os w2) := ⟨KK2.out, B32.out, B7.out, HC.out.nil KK2.out, HO.out.nil KK2.out, HH.out.nil KK2.out, HX2.out.1, HX2.out.2.1, HX2.out.2.2, HHX.out, HBW.out, h1, h2, h3, h4, h5⟩
  clear k2 oh IX B31 B3 HX1 HX2 KW2 B72 KW KK1 HC HO HH KK2 B32 B7 HHX
  obtain ⟨W3, hW3⟩ : ∃ W, W = (w2.alloc (.cells #[.int .i64 1] 3)).alloc (.cells #[.int .i64 1, .int .i64 2] 32) := ⟨_, rfl⟩
  have KW3 : Hid (Kept Nil w2 W3) := by rw [hW3]; exact ((Kept.refl _ _).alloc _).alloc _
  have BO : Hid (W3.heap[w2.heap.size]? = some (.cells #[.int .i64 1] 3 (0, 0))) := by rw [hW3]; exact blk_past (blk_new _ _) _
  have BP : Hid (W3.heap[w2.heap.size + 1]? = some (.cells #[.int .i64 1, .int .i64 2] 32 (0, 0))) := by
    have := blk_new (w2.alloc (.cells #[.int .i64 1] 3)) (.cells #[.int .i64 1, .int .i64 2] 32)
    rw [show (w2.alloc (.cells #[.int .i64 1] 3)).heap.size = w2.heap.size + 1 by simp] at this
    rw [hW3]
    exact this
  have HO1 : Hid (OwnInts 0 W3 (some ⟨w2.heap.size, 0, none⟩) 1 [1]) := own_of_blk (Nat.zero_le _) BO.out (by rfl) (by decide) (by decide) (fun i hi => by simp at hi; subst hi; rfl)
  have HOP : Hid (OpRow W3.heap.size W3 (some ⟨w2.heap.size + 1, 0, none⟩) [(1, 2)]) := fun j hj => by
    simp at hj
    subst hj
    exact ⟨_, rfl, lt_of_block BP.out, blk_at BP.out 0 rfl, blk_at BP.out 1 rfl⟩
  have BG := begin_any 0 W3.heap.size 1 0 0 1 (some ⟨w2.heap.size, 0, none⟩) none none (some ⟨w2.heap.size + 1, 0, none⟩) [1] [] [] [(1, 2)] W3 HO1.out (World.ownsRow_nil _ _ _ _) (World.ownsRow_nil _ _ _ _) HOP.out (by decide)
  go_upto_region 3 with fail
  go_cut [9, 10] (fun u k wx => ∃ p9 y1 y2 y3 z1 z2 z3, u = .pointer (some ⟨p9, 0, none⟩) ∧ k = .int .i64 0 ∧ Hid (Kept Nil w2 wx) ∧ Hid (wx.heap[p9]? = some (.cells #[.slice y1 1 z1, .slice y2 2 z2, .slice y3 0 z3] 24 (0, 0))))
  case first =>
    go_wp2_with fail
    rw [← hW3]
    clear hW3
    go_fit BG
    intro e w3 hp
    obtain ⟨y1, y2, y3, z1, z2, z3, rfl, k3⟩ := known_flat hp
    have K3 : Hid (Kept Nil w2 w3) := KW3.out.trans k3
    clear k3 hp BG
    go_wp2
    go_meet
    case rel => exact ⟨w3.heap.size, y1, y2, y3, z1, z2, z3, rfl, rfl, K3.out.alloc _, blk_new _ _⟩
  case rest =>
    obtain ⟨p9, y1, y2, y3, z1, z2, z3, rfl, rfl, KC, BC⟩ := hcut
    rename World => w4
    apply_assumption
    exact HPB.out w B p3 p7 c1 c2 c3 d1 d2 d3 ck cm hd a1 a2 a3 x1 x2 x3 ro mo (some ⟨gh, 0, none⟩) v n l hs os w4 p9 y1 y2 y3 z1 z2 z3 _ _ _ _ _ _ _ _ _ _ _ _ _ _ _ _ _ _ _ _ _ _ _ _ _ _ _ _ _ _ _ _ _ _ _ _ _ _ _ _ _ _ _ _ _ _ _ _ _ _ _ _ _ _ _ _ _ _ _ _ _ _ _ _ _ _ _ _ _ _ _ _ _ _ _ _ _ _ _ _ _ _ _ _ _ _ _ _ _ _ _ _ _ _ _ _ _ _ _ _ _ _ _ _ _ _ _ _ _ _ _ _ _ _ _ _ _ _ _ _ _ _ _ _ _ _ _ _ _ _ _ _ _ _ _ _ _ _ _ _ _ _ _ _ _ _ _ _ _ _ _ _ _ _ _ _ _ _ _ _ _ _ _ _ _ _ _ _ _ _ _ _ _ _ _ _ _ _ _ _ _ _ _ _ (SS.out.kept KC.out) BC.out

end Go.Proofs.Ytijklginabipgaa
