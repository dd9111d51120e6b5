/-
  Joined: WKvW, WCe7, WMs0.
-/
import Derived.Test.YtflnjlbafchnaaaGreatDoorQ28
import Derived.Test.YtflnjlbafchnaaaGreatDoorQ29
import Derived.Test.YtflnjlbafchnaaaGreatDoorQ30
import Derived.Test.YtflnjlbafchnaaaGreatDoorQ32
import Derived.Test.YtflnjlbafchnaaaGreatDoorQ16
import Derived.Test.YtflnjlbafchnaaaGreatDoorQ00
import Derived.Deep.MidRow
/-
  kv: the document's Apply, whole.
-/
namespace Go.Proofs.YtflnjlbafchnaaaGreatDoor
open Go.RowKit

theorem isCmd_kind {kd m : Int} {ck val : List UInt8} (h : isCmd kd ck val m = true) : kd = 1 ∨ kd = 2 ∨ kd = 3 ∨ kd = 4 ∨ kd = 5 ∨ kd = 6 := by
  unfold isCmd at h
  by_cases h6 : kd = 6
  · simp [h6]
  · by_cases h23 : kd = 2 ∨ kd = 3
    · omega
    · by_cases h15 : kd = 1 ∨ kd = 5
      · omega
      · by_cases h4 : kd = 4
        · omega
        · simp [h6, h23, h15, h4] at h
theorem refApply_any (B c : Nat) (ao : Option Addr) (ps : List Pr) (ck val : List UInt8) (kd m : Int) (w : World) (h : PairRow B w ao ps) (hl : (ps.length : Int) ≤ 3518437208780) (hck : ck.length ≤ maxLen) (hval : val.length ≤ maxLen) :
    Calls Tryz.prog 100 #[.slice ao ps.length c, .agg #[.int .i64 kd, .string (bs ck), .string (bs val), .int .i64 m]] w (RefApPost w ao c ps (apP kd ck val m ps) (apR kd ck val m ps)) := by
  cases hb : (pairsOk ps && isCmd kd ck val m) with
  | false =>
    unfold apP apR
    rw [hb]
    exact refApBad B c ao ps ck val kd m w h hb hl hck hval
  | true =>
    unfold apP apR
    rw [hb, if_pos rfl, if_pos rfl]
    simp only [Bool.and_eq_true] at hb
    obtain ⟨hok, hcm⟩ := hb
    obtain ⟨_, hsrt, _⟩ := pairs_ok hok
    obtain ⟨s1, _, _, _⟩ := spot_ok hok ck
    obtain ⟨_, hm0⟩ := isCmd_val hcm
    rcases isCmd_kind hcm with rfl | rfl | rfl | rfl | rfl | rfl
    · exact refAp1 B c ao ps ck val m w h hok hcm hl hck hval
    · show Calls _ _ _ _ (RefApPost w ao c ps ps (tellRr 1 (spotV ck ps) (spotN ck ps)))
      by_cases e : spotN ck ps = 0
      · rw [show tellRr 1 (spotV ck ps) (spotN ck ps) = ⟨2, [], 0, []⟩ from if_pos e]
        exact refAp2N B c ao ps ck val m w h hok hcm e hl hck hval
      · rw [show tellRr 1 (spotV ck ps) (spotN ck ps) = ⟨1, spotV ck ps, spotN ck ps, []⟩ from if_neg e]
        exact refAp2Y B c ao ps ck val m w h hok hcm e hl hck hval
    · show Calls _ _ _ _ (RefApPost w ao c ps (dropP (spotN ck ps) (lowP ck ps) ps) (dropRr (spotN ck ps)))
      by_cases e : spotN ck ps = 0
      · rw [show dropRr (spotN ck ps) = ⟨2, [], 0, []⟩ from if_pos e, show dropP (spotN ck ps) (lowP ck ps) ps = ps from if_pos e]
        exact refAp3N B c ao ps ck val m w h hok hcm e hl hck hval
      · rw [show dropRr (spotN ck ps) = ⟨1, [], spotN ck ps, []⟩ from if_neg e, show dropP (spotN ck ps) (lowP ck ps) ps = delP (lowP ck ps) ps from if_neg e]
        exact refAp3Y B c ao ps ck val m w h hok hcm e hl hck hval
    · show Calls _ _ _ _ (RefApPost w ao c ps (swapP ck val m (spotN ck ps) (lowP ck ps) ps) (swapRr val (spotV ck ps) m (spotN ck ps) ps.length))
      by_cases e : spotN ck ps = m
      · rw [show swapP ck val m (spotN ck ps) (lowP ck ps) ps = putP ck val (spotN ck ps) (lowP ck ps) ps from if_pos e, show swapRr val (spotV ck ps) m (spotN ck ps) ps.length = putRr val (spotN ck ps) ps.length from if_pos e]
        exact refAp4P B c ao ps ck val m w h hok hcm e hl hck hval
      · rw [show swapP ck val m (spotN ck ps) (lowP ck ps) ps = ps from if_neg e, show swapRr val (spotV ck ps) m (spotN ck ps) ps.length = tellRr 3 (spotV ck ps) (spotN ck ps) from if_neg e]
        by_cases e0 : spotN ck ps = 0
        · rw [show tellRr 3 (spotV ck ps) (spotN ck ps) = ⟨2, [], 0, []⟩ from if_pos e0]
          exact refAp4N B c ao ps ck val m w h hok hcm e0 (fun x => e (by omega)) hl hck hval
        · rw [show tellRr 3 (spotV ck ps) (spotN ck ps) = ⟨3, spotV ck ps, spotN ck ps, []⟩ from if_neg e0]
          exact refAp4U B c ao ps ck val m w h hok hcm e0 e hl hck hval
    · exact refAp5 B c ao ps ck val m w h hok hcm hl hck hval
    · show Calls _ _ _ _ (RefApPost w ao c ps ps ⟨1, [], 0, (listP ck m (ps.drop (lowP ck ps))).map Pr.k⟩)
      rw [← foldL_is hsrt hm0]
      exact refAp6 B c ao ps ck val m w h hok hcm hl hck hval

theorem grown_set {w wr : World} {g i : Nat} (h : w.grownBy wr (some g)) (u : Value) : w.grownBy (wr.setCell ⟨g, i, none⟩ u) (some g) :=
  ⟨h.os, h.tape, h.output, by simpa [World.setCell] using h.size, fun j hj hne => by
    rw [Below.heap_setCell _ _ _ _ (fun e => hne (by rw [e]))]
    exact h.block j hj hne⟩
theorem grown_transK {a b c : World} {r : Option Nat} (h : a.grownBy b r) (k : b.grownBy c r) : a.grownBy c r :=
  ⟨k.os.trans h.os, k.tape.trans h.tape, k.output.trans h.output, Nat.le_trans h.size k.size, fun i hi hne => (k.block i (by have := h.size; omega) hne).trans (h.block i hi hne)⟩
theorem src_ky2 {w : World} (y z : List UInt8) : Src Tryz.prog 1 48 (.slice (some ⟨w.heap.size, 0, none⟩) 2 2) 2 [.string (bs y), .string (bs z)] (w.alloc (.cells #[.string (bs y), .string (bs z)] 9)) := by
  refine Src.ofSlice _ Tryz.underlying48 _ 2 2 _ rfl ?_ ?_
  · intro j u hj
    match j, hj with
    | 0, hj | 1, hj =>
      simp at hj
      subst hj
      simp [Addr.add]
  · intro u hu
    simp at hu
    rcases hu with rfl | rfl <;> rfl
theorem OwnP.frees {B c : Nat} {w : World} {ao : Option Addr} {ps : List Pr} (h : OwnP B w ao c ps) (h0 : 0 < ps.length) : ∃ g, ao = some ⟨g, 0, none⟩ ∧ ∀ j, (hj : j < ps.length) → w.cell? ⟨g, j * 3, none⟩ = some (.string (bs ps[j].k)) ∧ w.cell? ⟨g, j * 3 + 1, none⟩ = some (.string (bs ps[j].v)) ∧ w.cell? ⟨g, j * 3 + 2, none⟩ = some (.int .i64 ps[j].n) ∧ w.frozen? ⟨g, j * 3, none⟩ = false ∧ w.frozen? ⟨g, j * 3 + 1, none⟩ = false ∧ w.frozen? ⟨g, j * 3 + 2, none⟩ = false := by
  obtain ⟨g, e, _, _, hc⟩ := h.cells h0
  exact ⟨g, e, hc⟩

theorem OwnK.frees {B c : Nat} {w : World} {ao : Option Addr} {ks : List (List UInt8)} (h : OwnK B w ao c ks) (h0 : 0 < ks.length) : ∃ g cs, ao = some ⟨g, 0, none⟩ ∧ w.heap[g]? = some (.cells cs 9 (0, 0)) ∧ ks.length ≤ cs.size := by
  rcases h.2 with ⟨h1, _⟩ | ⟨g, cap, cur, hv, hb, hh, h1, h2, h3, h4⟩
  · simp at h1
    omega
  · simp only [Value.slice.injEq] at hv
    exact ⟨g, cur, hv.1, hh, by rw [h3]; omega⟩
theorem OwnK.set {B g c k : Nat} {w : World} {ks : List (List UInt8)} (h : OwnK B w (some ⟨g, 0, none⟩) c ks) (z : List UInt8) : OwnK B (w.setCell ⟨g, k, none⟩ (.string (bs z))) (some ⟨g, 0, none⟩) c (ks.set k z) := by
  have := own_setAtK h k (.string (bs z))
  unfold OwnK kyCells
  rw [List.length_set, List.map_set]
  exact this

set_option maxRecDepth 100000 in
set_option maxHeartbeats 2000000 in
theorem overTexts_any (B c : Nat) (ao : Option Addr) (ks : List (List UInt8)) (w : World) (h : OwnK B w ao c ks) (hB : B ≤ w.heap.size) (hl : ks.length ≤ 4000000) :
    Calls Tryz.prog 31 #[.slice ao ks.length c] w fun e w' => e = .returned (.tuple #[]) ∧ w.grownBy w' (Value.slice ao ks.length c).ownBlock := by
  obtain ⟨i0, hi, hz0, hz1, hz2⟩ := info_parts Tryz.infoSt
  have HO0 : Hid (OwnK B w ao c ks) := h
  clear h
  go_enter Tryz.func31, Tryz.ntmps31
  go_wp2
  go_loopw [2] (fun i wr => ∃ k : Nat, ∃ ys : List (List UInt8), k ≤ ks.length ∧ i = .int .i64 k ∧ Hid (ys.length = ks.length) ∧ Hid (OwnK B wr ao c ys) ∧ Hid (w.grownBy wr (Value.slice ao ks.length c).ownBlock)) (fun i _ => ks.length - (intOf i).toNat)
  case atStart => exact ⟨0, ks, Nat.zero_le _, rfl, rfl, HO0.out, grown_reflK _ _⟩
  case round =>
    obtain ⟨k, ys, hk, rfl, HL, HO, HG⟩ := hrel
    clear HO0
    rename World => wr
    by_cases hlt : k < ks.length
    · have hly : k < ys.length := by rw [HL.out]; exact hlt
      obtain ⟨g, cs, rfl, hb, hcl⟩ := HO.out.frees (by omega)
      have hki : (k : Int) < ks.length := by omega
      obtain ⟨u, hcell⟩ : ∃ u, wr.cell? ⟨g, k, none⟩ = some u := ⟨_, by rw [blk_cell hb, Array.getElem?_eq_getElem (by omega)]⟩
      have hfz : wr.frozen? ⟨g, k, none⟩ = false := blk_free hb k
      have HO2 : Hid (OwnK B (wr.setCell ⟨g, k, none⟩ (.string (bs [111, 118, 101, 114]))) (some ⟨g, 0, none⟩) c (ys.set k [111, 118, 101, 114])) := HO.out.set [111, 118, 101, 114]
      have HG2 : Hid (w.grownBy (wr.setCell ⟨g, k, none⟩ (.string (bs [111, 118, 101, 114]))) (Value.slice (some ⟨g, 0, none⟩) ks.length c).ownBlock) := grown_set HG.out _
      clear hb hcl
      go_wp2
      go_roundw
      case rel => exact ⟨k + 1, ys.set k [111, 118, 101, 114], by omega, by go_num, (List.length_set ..).trans HL.out, HO2.out, HG2.out⟩
      case measure => simp [intOf]; omega
    · have ho : wr.ownsRow B 9 1 (.slice ao ks.length c) ks.length (kyCells ys) := by have := HO.out; unfold OwnK at this; rw [HL.out] at this; exact this
      have HLL : Hid (ks.length + 2 ≤ maxLen ∧ (ks.length + 2) * 16 ≤ 140737488355328) := by constructor; unfold maxLen; omega; omega
      have HSZ : Hid (B ≤ wr.heap.size) := Nat.le_trans hB HG.out.size
      go_wp2_with (first | (at_builtin; go_must (refine wpList_append_src _ rfl _ _ 48 48 rfl B 9 i0 (.string ⟨#[]⟩) 1 16 Tryz.underlying48 hi hz0 hz1 hz2 rfl _ _ _ rfl (World.ownsRow.alloc ho _) (.slice (some ⟨wr.heap.size, 0, none⟩) 2 2) 2 [.string (bs [111, 118, 101, 114]), .string (bs [111, 118, 101, 114])] rfl (src_ky2 [111, 118, 101, 114] [111, 118, 101, 114]) HLL.out.1 HLL.out.2 (le_alloc HSZ.out _) ?_); intro ao' c' w2 ho' hg'; have HG2 : Hid (w.grownBy w2 (Value.slice ao ks.length c).ownBlock) := grown_transK (grown_allocK HG.out _) hg'; clear hg' ho'))
      go_end0
      exact ⟨rfl, HG2.out⟩

end Go.Proofs.YtflnjlbafchnaaaGreatDoor

/-
  Cells: text, swapCommand (the program).
-/
namespace Go.Proofs.YtflnjlbafchnaaaGreatDoor
open Go.RowKit

set_option maxRecDepth 100000 in
set_option maxHeartbeats 2000000 in
theorem text_here (cv : List UInt8) (cn ch cg : Nat) (w : World) (h : Ce.Ok ⟨cv, cn, 0, ch, cg⟩) (hL : LW w) :
    Calls Tryz.prog 123 #[ceV ⟨cv, cn, 0, ch, cg⟩] w fun e w' => e = .returned (.string (bs (ceTxt ⟨cv, cn, 0, ch, cg⟩))) ∧ Kept Nil w w' := by
  obtain ⟨y, HY⟩ : ∃ y, Hid (y = ceTxt ⟨cv, cn, 0, ch, cg⟩) := ⟨_, rfl⟩
  rw [← HY.out]
  have hch : ch ≤ 999999 := h.h
  have hcn : cn ≤ 999999 := h.n
  have hcv : cv.length ≤ 32 := h.v
  unfold ceV
  obtain ⟨W, hW⟩ : ∃ W, W = w.alloc (.cells #[.string (bs cv), .int .i64 cn, .int .i64 0, .int .i64 ch, .int .i64 cg] 131) := ⟨_, rfl⟩
  obtain ⟨A, HAe⟩ : ∃ A, Hid (A = w.heap.size) := ⟨_, rfl⟩
  have KW : Hid (Kept Nil w W) := by rw [hW]; exact (Kept.refl _ _).alloc _
  have HAW : Hid (W.heap[A]? = some (.cells #[.string (bs cv), .int .i64 cn, .int .i64 0, .int .i64 ch, .int .i64 cg] 131 (0, 0))) := by rw [hW, HAe.out]; exact blk_new _ _
  have HLW : Hid (LW W) := hL.kept KW.out
  have SS : ∀ X, Kept Nil W X → X.cell? ⟨A, 2, none⟩ = some (.int .i64 0) ∧ X.cell? ⟨A, 3, none⟩ = some (.int .i64 ch) ∧ X.cell? ⟨1, 0, none⟩ = some (.string ⟨#[104, 101, 114, 101]⟩) := fun X kX =>
    ⟨blk_at (kX.block _ _ HAW.out (fun x => x.elim)) 2 rfl, blk_at (kX.block _ _ HAW.out (fun x => x.elim)) 3 rfl, (HLW.out.kept kX).c0⟩
  have ST : ∀ X, Kept Nil W X → X.cell? ⟨A, 0, none⟩ = some (.string (bs cv)) ∧ X.cell? ⟨A, 1, none⟩ = some (.int .i64 cn) ∧ X.cell? ⟨A, 4, none⟩ = some (.int .i64 cg) := fun X kX =>
    ⟨blk_at (kX.block _ _ HAW.out (fun x => x.elim)) 0 rfl, blk_at (kX.block _ _ HAW.out (fun x => x.elim)) 1 rfl, blk_at (kX.block _ _ HAW.out (fun x => x.elim)) 4 rfl⟩
  have I1 : ∀ X, Kept Nil W X → Calls Tryz.prog 105 #[.int .i64 ch] X fun e w' => e = .returned (.string (bs (Lib.decDigits ch))) ∧ Kept Nil X w' := fun X kX => by
    have := itoa_any ch (by omega) (by omega) X (HLW.out.kept kX).l
    rw [itoa_nat] at this
    exact this
  have TA : ∀ X, Kept Nil W X → Calls Tryz.prog 156 #[.agg #[.string (bs cv), .int .i64 cn]] X fun e w' => e = .returned (.string (bs (ceTail cv cn))) ∧ Kept Nil X w' := fun X kX => tail_any cv cn X hcv hcn (HLW.out.kept kX).l
  have g1 : (⟨#[104, 101, 114, 101]⟩ : ByteArray) ++ (⟨#[32]⟩ : ByteArray) = bs (wHere ++ [32]) := bs_append wHere [32]
  have g2 : bs (wHere ++ [32]) ++ bs (Lib.decDigits ch) = bs (wHere ++ 32 :: Lib.decDigits ch) := by rw [bs_append]; simp
  have zt : (bs (ceTail cv cn)).size ≤ 41 := by
    rw [bs_size]
    unfold ceTail
    have := digits_len6 hcn
    split
    · simp
    · simp; omega
  have z1 : (bs (Lib.decDigits ch)).size ≤ 6 := by rw [bs_size]; exact digits_len6 hch
  have z2 : (bs (wHere ++ 32 :: Lib.decDigits ch)).size ≤ 20 := by rw [bs_size] at z1 ⊢; simp [wHere]; omega
  have z3 : (bs (wHere ++ [32])).size ≤ 20 := by rw [bs_size]; decide
  have z4 : (⟨#[104, 101, 114, 101]⟩ : ByteArray).size ≤ 20 := by decide
  have z5 : (⟨#[32]⟩ : ByteArray).size = 1 := rfl
  have t1 := catS _ _ _ g1 (by omega) (by rw [z5]; omega)
  have t2 := catS _ _ _ g2 (by omega) (by omega)
  have g5 : bs (wHere ++ 32 :: Lib.decDigits ch) ++ bs (ceTail cv cn) = bs y := by rw [bs_append, HY.out]; unfold ceTxt; simp [cw]
  have m0 : IntKind.i64.max = 9223372036854775807 := rfl
  have s0 := SS W (Kept.refl _ _)
  have hlt : A < W.heap.size := lt_of_block HAW.out
  clear h hL
  go_enter Tryz.func123, Tryz.ntmps123
  go_upto_region 1 with fail
  rw [← hW, ← HAe.out]
  clear hW
  go_region_held3 (fun w' => w'.cell? ⟨A, 2, none⟩ = some (.int .i64 0) ∧ w'.cell? ⟨A, 3, none⟩ = some (.int .i64 ch) ∧ w'.cell? ⟨1, 0, none⟩ = some (.string ⟨#[104, 101, 114, 101]⟩)) (first | assumption | go_keep) (first | (go_at_call 105; go_fit (I1 W.drew ((Kept.refl _ _).drew)); rintro e wa ⟨rfl, ka⟩; have Ka : Hid (Kept Nil W wa) := ((Kept.refl _ _).drew).trans ka; have sa := SS wa Ka.out))
  obtain ⟨x0, x1, x4⟩ := ST wa Ka.out
  obtain ⟨x2, x3, _⟩ := SS wa Ka.out
  clear t1 t2 g1 g2
  go_wp2_with fail
  go_fit (TA wa Ka.out)
  rintro _ wc ⟨rfl, kc⟩
  have Kc : Hid (Kept Nil W wc) := Ka.out.trans kc
  clear kc
  go_wp2
  go_ret
  exact ⟨rfl, KW.out.trans Kc.out⟩
set_option maxRecDepth 100000 in
set_option maxHeartbeats 2000000 in
theorem text_mov (cv : List UInt8) (cn ch cg : Nat) (w : World) (h : Ce.Ok ⟨cv, cn, 1, ch, cg⟩) (hL : LW w) :
    Calls Tryz.prog 123 #[ceV ⟨cv, cn, 1, ch, cg⟩] w fun e w' => e = .returned (.string (bs (ceTxt ⟨cv, cn, 1, ch, cg⟩))) ∧ Kept Nil w w' := by
  obtain ⟨y, HY⟩ : ∃ y, Hid (y = ceTxt ⟨cv, cn, 1, ch, cg⟩) := ⟨_, rfl⟩
  rw [← HY.out]
  have hch : ch ≤ 999999 := h.h
  have hcn : cn ≤ 999999 := h.n
  have hcv : cv.length ≤ 32 := h.v
  have hcg : cg ≤ 4 := (h.g1 (by simp)).2
  unfold ceV
  obtain ⟨W, hW⟩ : ∃ W, W = w.alloc (.cells #[.string (bs cv), .int .i64 cn, .int .i64 1, .int .i64 ch, .int .i64 cg] 131) := ⟨_, rfl⟩
  obtain ⟨A, HAe⟩ : ∃ A, Hid (A = w.heap.size) := ⟨_, rfl⟩
  have KW : Hid (Kept Nil w W) := by rw [hW]; exact (Kept.refl _ _).alloc _
  have HAW : Hid (W.heap[A]? = some (.cells #[.string (bs cv), .int .i64 cn, .int .i64 1, .int .i64 ch, .int .i64 cg] 131 (0, 0))) := by rw [hW, HAe.out]; exact blk_new _ _
  have HLW : Hid (LW W) := hL.kept KW.out
  have SS : ∀ X, Kept Nil W X → X.cell? ⟨A, 2, none⟩ = some (.int .i64 1) ∧ X.cell? ⟨A, 3, none⟩ = some (.int .i64 ch) ∧ X.cell? ⟨1, 1, none⟩ = some (.string ⟨#[109, 111, 118, 105, 110, 103]⟩) := fun X kX =>
    ⟨blk_at (kX.block _ _ HAW.out (fun x => x.elim)) 2 rfl, blk_at (kX.block _ _ HAW.out (fun x => x.elim)) 3 rfl, (HLW.out.kept kX).c1⟩
  have ST : ∀ X, Kept Nil W X → X.cell? ⟨A, 0, none⟩ = some (.string (bs cv)) ∧ X.cell? ⟨A, 1, none⟩ = some (.int .i64 cn) ∧ X.cell? ⟨A, 4, none⟩ = some (.int .i64 cg) := fun X kX =>
    ⟨blk_at (kX.block _ _ HAW.out (fun x => x.elim)) 0 rfl, blk_at (kX.block _ _ HAW.out (fun x => x.elim)) 1 rfl, blk_at (kX.block _ _ HAW.out (fun x => x.elim)) 4 rfl⟩
  have I1 : ∀ X, Kept Nil W X → Calls Tryz.prog 105 #[.int .i64 ch] X fun e w' => e = .returned (.string (bs (Lib.decDigits ch))) ∧ Kept Nil X w' := fun X kX => by
    have := itoa_any ch (by omega) (by omega) X (HLW.out.kept kX).l
    rw [itoa_nat] at this
    exact this
  have I2 : ∀ X, Kept Nil W X → Calls Tryz.prog 105 #[.int .i64 cg] X fun e w' => e = .returned (.string (bs (Lib.decDigits cg))) ∧ Kept Nil X w' := fun X kX => by
    have := itoa_any cg (by omega) (by omega) X (HLW.out.kept kX).l
    rw [itoa_nat] at this
    exact this
  have TA : ∀ X, Kept Nil W X → Calls Tryz.prog 156 #[.agg #[.string (bs cv), .int .i64 cn]] X fun e w' => e = .returned (.string (bs (ceTail cv cn))) ∧ Kept Nil X w' := fun X kX => tail_any cv cn X hcv hcn (HLW.out.kept kX).l
  have g1 : (⟨#[109, 111, 118, 105, 110, 103]⟩ : ByteArray) ++ (⟨#[32]⟩ : ByteArray) = bs (wMov ++ [32]) := bs_append wMov [32]
  have g2 : bs (wMov ++ [32]) ++ bs (Lib.decDigits ch) = bs (wMov ++ 32 :: Lib.decDigits ch) := by rw [bs_append]; simp
  have zt : (bs (ceTail cv cn)).size ≤ 41 := by
    rw [bs_size]
    unfold ceTail
    have := digits_len6 hcn
    split
    · simp
    · simp; omega
  have z1 : (bs (Lib.decDigits ch)).size ≤ 6 := by rw [bs_size]; exact digits_len6 hch
  have z2 : (bs (wMov ++ 32 :: Lib.decDigits ch)).size ≤ 20 := by rw [bs_size] at z1 ⊢; simp [wMov]; omega
  have z3 : (bs (wMov ++ [32])).size ≤ 20 := by rw [bs_size]; decide
  have z4 : (⟨#[109, 111, 118, 105, 110, 103]⟩ : ByteArray).size ≤ 20 := by decide
  have z5 : (⟨#[32]⟩ : ByteArray).size = 1 := rfl
  have t1 := catS _ _ _ g1 (by omega) (by rw [z5]; omega)
  have t2 := catS _ _ _ g2 (by omega) (by omega)
  have g3 : (⟨#[32]⟩ : ByteArray) ++ bs (Lib.decDigits cg) = bs (32 :: Lib.decDigits cg) := bs_append [32] _
  have g4 : bs (wMov ++ 32 :: Lib.decDigits ch) ++ bs (32 :: Lib.decDigits cg) = bs (wMov ++ 32 :: (Lib.decDigits ch ++ 32 :: Lib.decDigits cg)) := by rw [bs_append]; simp
  have g5 : bs (wMov ++ 32 :: (Lib.decDigits ch ++ 32 :: Lib.decDigits cg)) ++ bs (ceTail cv cn) = bs y := by rw [bs_append, HY.out]; unfold ceTxt; simp [cw]
  have zg : (bs (Lib.decDigits cg)).size ≤ 6 := by rw [bs_size]; exact digits_len6 (by omega)
  have zh : (bs (32 :: Lib.decDigits cg)).size ≤ 7 := by rw [bs_size] at zg ⊢; simp; omega
  have zi : (bs (wMov ++ 32 :: (Lib.decDigits ch ++ 32 :: Lib.decDigits cg))).size ≤ 40 := by rw [bs_size] at zg z1 ⊢; simp [wMov]; omega
  have m0 : IntKind.i64.max = 9223372036854775807 := rfl
  have s0 := SS W (Kept.refl _ _)
  have hlt : A < W.heap.size := lt_of_block HAW.out
  clear h hL
  go_enter Tryz.func123, Tryz.ntmps123
  go_upto_region 1 with fail
  rw [← hW, ← HAe.out]
  clear hW
  go_region_held3 (fun w' => w'.cell? ⟨A, 2, none⟩ = some (.int .i64 1) ∧ w'.cell? ⟨A, 3, none⟩ = some (.int .i64 ch) ∧ w'.cell? ⟨1, 1, none⟩ = some (.string ⟨#[109, 111, 118, 105, 110, 103]⟩)) (first | assumption | go_keep) (first | (go_at_call 105; go_fit (I1 W.drew ((Kept.refl _ _).drew)); rintro e wa ⟨rfl, ka⟩; have Ka : Hid (Kept Nil W wa) := ((Kept.refl _ _).drew).trans ka; have sa := SS wa Ka.out))
  obtain ⟨x0, x1, x4⟩ := ST wa Ka.out
  obtain ⟨x2, x3, _⟩ := SS wa Ka.out
  clear t1 t2 g1 g2
  go_wp2_with fail
  go_fit (I2 wa Ka.out)
  rintro _ wb ⟨rfl, kb⟩
  have Kb : Hid (Kept Nil W wb) := Ka.out.trans kb
  clear kb
  obtain ⟨y0, y1, y4⟩ := ST wb Kb.out
  clear x0 x1 x2 x3 x4
  go_wp2_with fail
  go_fit (TA wb Kb.out)
  rintro _ wc ⟨rfl, kc⟩
  have Kc : Hid (Kept Nil W wc) := Kb.out.trans kc
  clear kc
  go_wp2
  go_ret
  exact ⟨rfl, KW.out.trans Kc.out⟩
set_option maxRecDepth 100000 in
set_option maxHeartbeats 2000000 in
theorem text_gon (cv : List UInt8) (cn ch cg : Nat) (w : World) (h : Ce.Ok ⟨cv, cn, 2, ch, cg⟩) (hL : LW w) :
    Calls Tryz.prog 123 #[ceV ⟨cv, cn, 2, ch, cg⟩] w fun e w' => e = .returned (.string (bs (ceTxt ⟨cv, cn, 2, ch, cg⟩))) ∧ Kept Nil w w' := by
  obtain ⟨y, HY⟩ : ∃ y, Hid (y = ceTxt ⟨cv, cn, 2, ch, cg⟩) := ⟨_, rfl⟩
  rw [← HY.out]
  have hch : ch ≤ 999999 := h.h
  have hcn : cn ≤ 999999 := h.n
  have hcv : cv.length ≤ 32 := h.v
  have hcg : cg ≤ 4 := (h.g1 (by simp)).2
  unfold ceV
  obtain ⟨W, hW⟩ : ∃ W, W = w.alloc (.cells #[.string (bs cv), .int .i64 cn, .int .i64 2, .int .i64 ch, .int .i64 cg] 131) := ⟨_, rfl⟩
  obtain ⟨A, HAe⟩ : ∃ A, Hid (A = w.heap.size) := ⟨_, rfl⟩
  have KW : Hid (Kept Nil w W) := by rw [hW]; exact (Kept.refl _ _).alloc _
  have HAW : Hid (W.heap[A]? = some (.cells #[.string (bs cv), .int .i64 cn, .int .i64 2, .int .i64 ch, .int .i64 cg] 131 (0, 0))) := by rw [hW, HAe.out]; exact blk_new _ _
  have HLW : Hid (LW W) := hL.kept KW.out
  have SS : ∀ X, Kept Nil W X → X.cell? ⟨A, 2, none⟩ = some (.int .i64 2) ∧ X.cell? ⟨A, 3, none⟩ = some (.int .i64 ch) ∧ X.cell? ⟨1, 2, none⟩ = some (.string ⟨#[103, 111, 110, 101]⟩) := fun X kX =>
    ⟨blk_at (kX.block _ _ HAW.out (fun x => x.elim)) 2 rfl, blk_at (kX.block _ _ HAW.out (fun x => x.elim)) 3 rfl, (HLW.out.kept kX).c2⟩
  have ST : ∀ X, Kept Nil W X → X.cell? ⟨A, 0, none⟩ = some (.string (bs cv)) ∧ X.cell? ⟨A, 1, none⟩ = some (.int .i64 cn) ∧ X.cell? ⟨A, 4, none⟩ = some (.int .i64 cg) := fun X kX =>
    ⟨blk_at (kX.block _ _ HAW.out (fun x => x.elim)) 0 rfl, blk_at (kX.block _ _ HAW.out (fun x => x.elim)) 1 rfl, blk_at (kX.block _ _ HAW.out (fun x => x.elim)) 4 rfl⟩
  have I1 : ∀ X, Kept Nil W X → Calls Tryz.prog 105 #[.int .i64 ch] X fun e w' => e = .returned (.string (bs (Lib.decDigits ch))) ∧ Kept Nil X w' := fun X kX => by
    have := itoa_any ch (by omega) (by omega) X (HLW.out.kept kX).l
    rw [itoa_nat] at this
    exact this
  have I2 : ∀ X, Kept Nil W X → Calls Tryz.prog 105 #[.int .i64 cg] X fun e w' => e = .returned (.string (bs (Lib.decDigits cg))) ∧ Kept Nil X w' := fun X kX => by
    have := itoa_any cg (by omega) (by omega) X (HLW.out.kept kX).l
    rw [itoa_nat] at this
    exact this
  have TA : ∀ X, Kept Nil W X → Calls Tryz.prog 156 #[.agg #[.string (bs cv), .int .i64 cn]] X fun e w' => e = .returned (.string (bs (ceTail cv cn))) ∧ Kept Nil X w' := fun X kX => tail_any cv cn X hcv hcn (HLW.out.kept kX).l
  have g1 : (⟨#[103, 111, 110, 101]⟩ : ByteArray) ++ (⟨#[32]⟩ : ByteArray) = bs (wGon ++ [32]) := bs_append wGon [32]
  have g2 : bs (wGon ++ [32]) ++ bs (Lib.decDigits ch) = bs (wGon ++ 32 :: Lib.decDigits ch) := by rw [bs_append]; simp
  have zt : (bs (ceTail cv cn)).size ≤ 41 := by
    rw [bs_size]
    unfold ceTail
    have := digits_len6 hcn
    split
    · simp
    · simp; omega
  have z1 : (bs (Lib.decDigits ch)).size ≤ 6 := by rw [bs_size]; exact digits_len6 hch
  have z2 : (bs (wGon ++ 32 :: Lib.decDigits ch)).size ≤ 20 := by rw [bs_size] at z1 ⊢; simp [wGon]; omega
  have z3 : (bs (wGon ++ [32])).size ≤ 20 := by rw [bs_size]; decide
  have z4 : (⟨#[103, 111, 110, 101]⟩ : ByteArray).size ≤ 20 := by decide
  have z5 : (⟨#[32]⟩ : ByteArray).size = 1 := rfl
  have t1 := catS _ _ _ g1 (by omega) (by rw [z5]; omega)
  have t2 := catS _ _ _ g2 (by omega) (by omega)
  have g3 : (⟨#[32]⟩ : ByteArray) ++ bs (Lib.decDigits cg) = bs (32 :: Lib.decDigits cg) := bs_append [32] _
  have g4 : bs (wGon ++ 32 :: Lib.decDigits ch) ++ bs (32 :: Lib.decDigits cg) = bs (wGon ++ 32 :: (Lib.decDigits ch ++ 32 :: Lib.decDigits cg)) := by rw [bs_append]; simp
  have g5 : bs (wGon ++ 32 :: (Lib.decDigits ch ++ 32 :: Lib.decDigits cg)) ++ bs (ceTail cv cn) = bs y := by rw [bs_append, HY.out]; unfold ceTxt; simp [cw]
  have zg : (bs (Lib.decDigits cg)).size ≤ 6 := by rw [bs_size]; exact digits_len6 (by omega)
  have zh : (bs (32 :: Lib.decDigits cg)).size ≤ 7 := by rw [bs_size] at zg ⊢; simp; omega
  have zi : (bs (wGon ++ 32 :: (Lib.decDigits ch ++ 32 :: Lib.decDigits cg))).size ≤ 40 := by rw [bs_size] at zg z1 ⊢; simp [wGon]; omega
  have m0 : IntKind.i64.max = 9223372036854775807 := rfl
  have s0 := SS W (Kept.refl _ _)
  have hlt : A < W.heap.size := lt_of_block HAW.out
  clear h hL
  go_enter Tryz.func123, Tryz.ntmps123
  go_upto_region 1 with fail
  rw [← hW, ← HAe.out]
  clear hW
  go_region_held3 (fun w' => w'.cell? ⟨A, 2, none⟩ = some (.int .i64 2) ∧ w'.cell? ⟨A, 3, none⟩ = some (.int .i64 ch) ∧ w'.cell? ⟨1, 2, none⟩ = some (.string ⟨#[103, 111, 110, 101]⟩)) (first | assumption | go_keep) (first | (go_at_call 105; go_fit (I1 W.drew ((Kept.refl _ _).drew)); rintro e wa ⟨rfl, ka⟩; have Ka : Hid (Kept Nil W wa) := ((Kept.refl _ _).drew).trans ka; have sa := SS wa Ka.out))
  obtain ⟨x0, x1, x4⟩ := ST wa Ka.out
  obtain ⟨x2, x3, _⟩ := SS wa Ka.out
  clear t1 t2 g1 g2
  go_wp2_with fail
  go_fit (I2 wa Ka.out)
  rintro _ wb ⟨rfl, kb⟩
  have Kb : Hid (Kept Nil W wb) := Ka.out.trans kb
  clear kb
  obtain ⟨y0, y1, y4⟩ := ST wb Kb.out
  clear x0 x1 x2 x3 x4
  go_wp2_with fail
  go_fit (TA wb Kb.out)
  rintro _ wc ⟨rfl, kc⟩
  have Kc : Hid (Kept Nil W wc) := Kb.out.trans kc
  clear kc
  go_wp2
  go_ret
  exact ⟨rfl, KW.out.trans Kc.out⟩
theorem text_any (c : Ce) (w : World) (h : c.Ok) (hL : LW w) :
    Calls Tryz.prog 123 #[ceV c] w fun e w' => e = .returned (.string (bs (ceTxt c))) ∧ Kept Nil w w' := by
  obtain ⟨cv, cn, cs, ch, cg⟩ := c
  have hs : cs ≤ 2 := h.s
  rcases (show cs = 0 ∨ cs = 1 ∨ cs = 2 by omega) with rfl | rfl | rfl
  · exact text_here cv cn ch cg w h hL
  · exact text_mov cv cn ch cg w h hL
  · exact text_gon cv cn ch cg w h hL
end Go.Proofs.YtflnjlbafchnaaaGreatDoor

/-
  Whole structs out of and into a block, as laws of the walk: the world behind a store is any world with the block's new cells.
-/
namespace Go.Proofs.YtflnjlbafchnaaaGreatDoor
open Go.RowKit

theorem blk_new1 (w : World) (o1 o2 : Obj) : ((w.alloc o1).alloc o2).heap[w.heap.size + 1]? = some o2 := by
  have h := blk_new (w.alloc o1) o2
  rwa [show (w.alloc o1).heap.size = w.heap.size + 1 by simp] at h
end Go.Proofs.YtflnjlbafchnaaaGreatDoor
