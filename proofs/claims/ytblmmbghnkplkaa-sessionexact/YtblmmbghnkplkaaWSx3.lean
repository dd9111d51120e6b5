/-
  SessionExact: the law writes over a table.
-/
import Derived.Test.YtblmmbghnkplkaaWSx2
namespace Go.Proofs.Ytblmmbghnkplkaa
open Go.RowKit

theorem row_block {B n c : Nat} {e : TypeId} {w : World} {ao : Option Addr} {l : List Value} (h : w.ownsRow B e 1 (.slice ao n c) n l) (h0 : 0 < n) : ∃ g cs, ao = some ⟨g, 0, none⟩ ∧ w.heap[g]? = some (.cells cs e (0, 0)) ∧ n ≤ cs.size := by
  rcases h.2 with ⟨h1, h2⟩ | ⟨g, cap, cur, hv, hb, hh, h1, h2, h3, h4⟩
  · omega
  · simp only [Value.slice.injEq] at hv
    exact ⟨g, cur, hv.1, hh, by rw [h3]; omega⟩

set_option maxRecDepth 100000 in
set_option maxHeartbeats 2000000 in
theorem overTexts2_any (B c n : Nat) (ao : Option Addr) (l : List Value) (w : World) (h : w.ownsRow B 9 1 (.slice ao n c) n l) (hB : B ≤ w.heap.size) (hl : n ≤ 8796093022200) :
    Calls Try.prog 45 #[.slice ao n c] w fun e w' => e = .returned (.tuple #[]) ∧ w.grownBy w' (Value.slice ao n c).ownBlock ∧ ∃ ys, w'.ownsRow B 9 1 (.slice ao n c) n ys := by
  obtain ⟨i0, hi, hz0, hz1, hz2⟩ := info_parts Try.infoSt
  have HO0 : Hid (w.ownsRow B 9 1 (.slice ao n c) n l) := h
  clear h
  go_enter Try.func45, Try.ntmps45
  go_wp2
  go_loopw [2] (fun i wr => ∃ k : Nat, ∃ ys : List Value, k ≤ n ∧ i = .int .i64 k ∧ Hid (wr.ownsRow B 9 1 (.slice ao n c) n ys) ∧ Hid (w.grownBy wr (Value.slice ao n c).ownBlock)) (fun i _ => n - (intOf i).toNat)
  case atStart => exact ⟨0, l, Nat.zero_le _, rfl, HO0.out, grown_reflK _ _⟩
  case round =>
    obtain ⟨k, ys, hk, rfl, HO, HG⟩ := hrel
    clear HO0
    rename World => wr
    by_cases hlt : k < n
    · obtain ⟨g, cs, rfl, hb, hcl⟩ := row_block HO.out (by omega)
      have hki : (k : Int) < n := by omega
      obtain ⟨u, hcell⟩ : ∃ u, wr.cell? ⟨g, k, none⟩ = some u := ⟨_, by rw [blk_cell hb, Array.getElem?_eq_getElem (by omega)]⟩
      have hfz : wr.frozen? ⟨g, k, none⟩ = false := blk_free hb k
      have HO2 : Hid ((wr.setCell ⟨g, k, none⟩ (.string (bs [111, 118, 101, 114]))).ownsRow B 9 1 (.slice (some ⟨g, 0, none⟩) n c) n (ys.set k (.string (bs [111, 118, 101, 114])))) := own_setAtK HO.out k _
      have HG2 : Hid (w.grownBy (wr.setCell ⟨g, k, none⟩ (.string (bs [111, 118, 101, 114]))) (Value.slice (some ⟨g, 0, none⟩) n c).ownBlock) := grown_set HG.out _
      clear hb hcl
      go_wp2
      go_roundw
      case rel => exact ⟨k + 1, ys.set k (.string (bs [111, 118, 101, 114])), by omega, by go_num, HO2.out, HG2.out⟩
      case measure => simp [intOf]; omega
    · have HLL : Hid (n + 2 ≤ maxLen ∧ (n + 2) * 16 ≤ 140737488355328) := by constructor; unfold maxLen; omega; omega
      have HSZ : Hid (B ≤ wr.heap.size) := Nat.le_trans hB HG.out.size
      have ho := HO.out
      go_wp2_with (first | (at_builtin; go_must (refine wpList_append_keep _ rfl _ _ 53 53 rfl B 9 i0 (.string ⟨#[]⟩) 1 16 Try.underlying53 hi hz0 hz1 hz2 rfl _ _ _ rfl (World.ownsRow.alloc ho _) (.slice (some ⟨wr.heap.size, 0, none⟩) 2 2) 2 [.string (bs [111, 118, 101, 114]), .string (bs [111, 118, 101, 114])] rfl (src_ky2 [111, 118, 101, 114] [111, 118, 101, 114]) HLL.out.1 HLL.out.2 (le_alloc HSZ.out _) ?_); intro ao' c' w2 ho' hg' hk'; have HG2 : Hid (w.grownBy w2 (Value.slice ao n c).ownBlock) := grown_transK (grown_allocK HG.out _) hg'; have HK2 : Hid (∃ ys, w2.ownsRow B 9 1 (.slice ao n c) n ys) := hk'; clear hg' ho' hk'))
      go_end0
      exact ⟨rfl, HG2.out, HK2.out⟩

/-- The keys' rows of sessions. -/
def KRows (B : Nat) (w : World) (xs : List Se) : Prop := ∀ e ∈ xs, ∃ l, w.ownsRow B 9 1 (.slice e.ao e.s.ks.length e.c) e.s.ks.length l
theorem KRows.next {B : Nat} {w w' : World} {xs : List Se} {y : Se} (h : KRows B w xs) (hy : y ∈ xs) (hg : w.grownBy w' (Value.slice y.ao y.s.ks.length y.c).ownBlock) (h1 : ∃ ys, w'.ownsRow B 9 1 (.slice y.ao y.s.ks.length y.c) y.s.ks.length ys) : KRows B w' xs := fun e he => by
  obtain ⟨l, hl⟩ := h e he
  obtain ⟨l0, hl0⟩ := h y hy
  obtain ⟨ys, hys⟩ := h1
  exact row_share (by decide) hl hl0 hg hys
theorem KRows.set {B g o : Nat} {w : World} {xs : List Se} {cs : Array Value} (h : KRows B w xs) (hb : w.heap[g]? = some (.cells cs 121 (0, 0))) (u : Value) : KRows B (w.setCell ⟨g, o, none⟩ u) xs := fun e he => by
  obtain ⟨l, hl⟩ := h e he
  exact ⟨l, ownsRow_setCell_other hl (a := ⟨g, o, none⟩) (own_neTyS hl hb (by decide)) u⟩
theorem KRows.set7 {B g o0 o1 o2 o3 o4 o5 o6 : Nat} {w : World} {xs : List Se} {cs : Array Value} {u0 u1 u2 u3 u4 u5 u6 : Value} (h : KRows B w xs) (hb : w.heap[g]? = some (.cells cs 121 (0, 0))) : KRows B (((((((w.setCell ⟨g, o0, none⟩ u0).setCell ⟨g, o1, none⟩ u1).setCell ⟨g, o2, none⟩ u2).setCell ⟨g, o3, none⟩ u3).setCell ⟨g, o4, none⟩ u4).setCell ⟨g, o5, none⟩ u5).setCell ⟨g, o6, none⟩ u6) xs :=
  ((((((h.set hb _).set (blk_set hb _ _) _).set (blk_set (blk_set hb _ _) _ _) _).set (blk_set (blk_set (blk_set hb _ _) _ _) _ _) _).set (blk_set (blk_set (blk_set (blk_set hb _ _) _ _) _ _) _ _) _).set (blk_set (blk_set (blk_set (blk_set (blk_set hb _ _) _ _) _ _) _ _) _ _) _).set (blk_set (blk_set (blk_set (blk_set (blk_set (blk_set hb _ _) _ _) _ _) _ _) _ _) _ _) _
theorem OwnE.share {B c : Nat} {w w' : World} {ao : Option Addr} {es : List Se} {v : Value} {n : Nat} {l : List Value} (h : OwnE B w ao c es) (h0 : w.ownsRow B 9 1 v n l) (hg : w.grownBy w' v.ownBlock) : OwnE B w' ao c es := by
  refine ⟨h.1, h.2.imp id ?_⟩
  rintro ⟨g, cap, cur, hv, hb, hh, h3⟩
  refine ⟨g, cap, cur, hv, hb, ?_, h3⟩
  rw [hg.block g (lt_of_block hh) (fun e => own_neTyS h0 hh (by decide) e.symm)]
  exact hh

set_option maxRecDepth 100000 in
set_option maxHeartbeats 4000000 in
theorem overTable_any (B C c1 c2 : Nat) (tm : Int) (a1 a2 : Option Addr) (ps : List Pr) (xs : List Se) (w : World) (hp : OwnP B w a1 c1 ps) (he : OwnE B w a2 c2 xs) (hk : OwnKs B w xs) (hB : B ≤ C) (hCw : C ≤ w.heap.size) (hP : ∀ g, (Value.slice a1 ps.length c1).ownBlock = some g → g < C) (hE : ∀ g, (Value.slice a2 xs.length c2).ownBlock = some g → g < C) (hK : ∀ e ∈ xs, ∀ g, (Value.slice e.ao e.s.ks.length e.c).ownBlock = some g → g < C) (hlp : ps.length ≤ 3518437208780) (hls : xs.length ≤ 1759218604390) (hlk : ∀ e ∈ xs, e.s.ks.length ≤ 8796093022200) :
    Calls Try.prog 50 #[.agg #[.slice a1 ps.length c1, .slice a2 xs.length c2, .int .i64 tm]] w fun e w' => e = .returned (.tuple #[]) ∧ Kept (Rng B C) w w' := by
  obtain ⟨i0, hi, hz0, hz1, hz2⟩ := info_parts Try.infoSe
  obtain ⟨W, hW⟩ : ∃ W, W = w.alloc (.cells #[.slice a1 ps.length c1, .slice a2 xs.length c2, .int .i64 tm] 70) := ⟨_, rfl⟩
  obtain ⟨T, HTe⟩ : ∃ T, Hid (T = w.heap.size) := ⟨_, rfl⟩
  have KW : Hid (Kept Nil w W) := by rw [hW]; exact (Kept.refl _ _).alloc _
  have HT : Hid (W.heap[T]? = some (.cells #[.slice a1 ps.length c1, .slice a2 xs.length c2, .int .i64 tm] 70 (0, 0))) := by rw [hW, HTe.out]; exact blk_new _ _
  have HTC : Hid (C ≤ T) := by show _ ≤ _; rw [HTe.out]; exact hCw
  have OP := overPairs_any B c1 a1 ps W (hp.kept KW.out) (Nat.le_trans (Nat.le_trans hB hCw) KW.out.size) hlp
  have HPr : Hid (OwnP B W a1 c1 ps) := hp.kept KW.out
  have HEr : Hid (OwnE B W a2 c2 xs) := he.kept KW.out
  have HKr : Hid (KRows B W xs) := fun e hm => ⟨_, (hk.kept KW.out) e hm⟩
  have HSZ : Hid (B ≤ W.heap.size) := Nat.le_trans (Nat.le_trans hB hCw) KW.out.size
  have HPC : Hid (∀ g, (Value.slice a1 ps.length c1).ownBlock = some g → B ≤ g ∧ g < C) := fun g hg => ⟨own_row hp g hg, hP g hg⟩
  have HEC : Hid (∀ g, (Value.slice a2 xs.length c2).ownBlock = some g → B ≤ g ∧ g < C) := fun g hg => ⟨own_row he g hg, hE g hg⟩
  have HKC : Hid (∀ e ∈ xs, ∀ g, (Value.slice e.ao e.s.ks.length e.c).ownBlock = some g → B ≤ g ∧ g < C) := fun e hm g hg => ⟨own_row (hk e hm) g hg, hK e hm g hg⟩
  have HLK : Hid (∀ e ∈ xs, e.s.ks.length ≤ 8796093022200) := hlk
  have t0 : W.cell? ⟨T, 0, none⟩ = some (.slice a1 ps.length c1) := blk_at HT.out 0 rfl
  clear hp he hk hP hE hK hlk hB
  go_enter Try.func50, Try.ntmps50
  go_upto_region 1 with fail
  rw [← hW, ← HTe.out]
  clear hW
  go_wp2_with fail
  go_fit OP
  rintro _ w1 ⟨rfl, g1⟩
  have K1 : Hid (Kept (Rng B C) W w1) := Kept.rng g1 HPC.out
  have HE1 : Hid (OwnE B w1 a2 c2 xs) := by
    refine ⟨HEr.out.1, HEr.out.2.imp id ?_⟩
    rintro ⟨g, cap, cur, hv, hb, hh, h3⟩
    refine ⟨g, cap, cur, hv, hb, ?_, h3⟩
    rw [g1.block g (lt_of_block hh) (fun e => own_neTyS HPr.out hh (by decide) e.symm)]
    exact hh
  have HK1 : Hid (KRows B w1 xs) := fun e hm => by
    obtain ⟨l, hl⟩ := HKr.out e hm
    refine ⟨l, hl.1, hl.2.imp id ?_⟩
    rintro ⟨g, cap, cur, hv, hb, hh, h3⟩
    refine ⟨g, cap, cur, hv, hb, ?_, h3⟩
    rw [g1.block g (lt_of_block hh) (fun e => own_neTyS HPr.out hh (by decide) e.symm)]
    exact hh
  clear g1 OP t0 HEr HKr HPr
  go_wp2_with fail
  go_loopg [2] xs.length (fun gh i wr => ∃ k : Nat, ∃ ys : List Se, k ≤ xs.length ∧ gh = xs.length - k ∧ i = .int .i64 k ∧ Hid (ys.length = xs.length ∧ ys.drop k = xs.drop k) ∧ Hid (OwnE B wr a2 c2 ys) ∧ Hid (KRows B wr xs) ∧ Hid (Kept (Rng B C) W wr))
  case atStart => exact ⟨0, xs, Nat.zero_le _, rfl, rfl, ⟨rfl, rfl⟩, HE1.out, HK1.out, K1.out⟩
  case round =>
    obtain ⟨k, ys, hk, rfl, rfl, HY, HO, HK, HKr⟩ := hrel
    clear HE1 HK1 K1
    rename World => wr
    have HTr : Hid (wr.heap[T]? = some (.cells #[.slice a1 ps.length c1, .slice a2 xs.length c2, .int .i64 tm] 70 (0, 0))) := HKr.out.block _ _ HT.out (fun x => by have h1 := HTC.out; have h2 : T < C := x.2; omega)
    have t1 : wr.cell? ⟨T, 1, none⟩ = some (.slice a2 xs.length c2) := blk_at HTr.out 1 rfl
    by_cases hlt : k < xs.length
    · have hly : k < ys.length := by rw [HY.out.1]; exact hlt
      have hki : (k : Int) < xs.length := by omega
      have HYk : Hid (ys[k] = xs[k]) := by
        have h1 := congrArg (fun l => l[0]?) HY.out.2
        simp only [List.getElem?_drop, Nat.add_zero, List.getElem?_eq_getElem hly, List.getElem?_eq_getElem hlt, Option.some.injEq] at h1
        exact h1
      have hne : a2 ≠ none := fun e => by
        have h := HO.out
        rw [e] at h
        have h9 := h.noneE.1
        rw [h9] at hly
        simp at hly
      obtain ⟨g, gl, rfl, _, hgb, _⟩ := HO.out.block hne
      obtain ⟨c0, c1', c2', c3, c4, c5, c6⟩ := HO.out.at7 hly
      rw [HYk.out] at c0 c1' c2' c3 c4 c5 c6
      have HGB : Hid (wr.heap[g]? = some (.cells gl 121 (0, 0))) := hgb
      have hm : xs[k] ∈ xs := List.getElem_mem hlt
      obtain ⟨l0, hl0⟩ := HK.out _ hm
      have OT := overTexts2_any B xs[k].c xs[k].s.ks.length xs[k].ao l0 wr hl0 (Nat.le_trans HSZ.out HKr.out.size) (HLK.out _ hm)
      have HL0 : Hid (wr.ownsRow B 9 1 (.slice xs[k].ao xs[k].s.ks.length xs[k].c) xs[k].s.ks.length l0) := hl0
      have HM : Hid (xs[k] ∈ xs) := hm
      clear hgb hl0 hm hne
      obtain ⟨y, HYy⟩ : ∃ y : Se, Hid (y = xs[k]) := ⟨xs[k], (rfl : xs[k] = xs[k])⟩
      rw [← HYy.out] at c0 c1' c2' c3 c4 c5 c6 OT HL0 HM
      go_upto_region 3 with fail
      go_wp2_with fail
      go_fit OT
      rintro _ w2 ⟨rfl, g2, k2⟩
      have HO2 : Hid (OwnE B w2 (some ⟨g, 0, none⟩) c2 ys) := HO.out.share HL0.out g2
      have HK2 : Hid (KRows B w2 xs) := HK.out.next HM.out g2 k2
      have HKr2 : Hid (Kept (Rng B C) W w2) := HKr.out.trans (Kept.rng g2 (HKC.out _ HM.out))
      have HGB2 : Hid (w2.heap[g]? = some (.cells gl 121 (0, 0))) := by
        show _ = _
        rw [g2.block g (lt_of_block HGB.out) (fun e => own_neTyS HL0.out HGB.out (by decide) e.symm)]
        exact HGB.out
      have HT2 : Hid (w2.heap[T]? = some (.cells #[.slice a1 ps.length c1, .slice (some ⟨g, 0, none⟩) xs.length c2, .int .i64 tm] 70 (0, 0))) := HKr2.out.block _ _ HT.out (fun x => by have h1 := HTC.out; have h2 : T < C := x.2; omega)
      clear g2 k2 OT c0 c1' c2' c3 c4 c5 c6 t1
      have t1 : w2.cell? ⟨T, 1, none⟩ = some (.slice (some ⟨g, 0, none⟩) xs.length c2) := blk_at HT2.out 1 rfl
      obtain ⟨d0, d1, d2, d3, d4, d5, d6⟩ := HO2.out.at7 hly
      generalize ys[k] = z at d0 d1 d2 d3 d4 d5 d6
      have f0 : w2.frozen? ⟨g, k * 7, none⟩ = false := blk_free HGB2.out _
      have f1 : w2.frozen? ⟨g, k * 7 + 1, none⟩ = false := blk_free HGB2.out _
      have f2 : w2.frozen? ⟨g, k * 7 + 2, none⟩ = false := blk_free HGB2.out _
      have f3 : w2.frozen? ⟨g, k * 7 + 3, none⟩ = false := blk_free HGB2.out _
      have f4 : w2.frozen? ⟨g, k * 7 + 4, none⟩ = false := blk_free HGB2.out _
      have f5 : w2.frozen? ⟨g, k * 7 + 5, none⟩ = false := blk_free HGB2.out _
      have f6 : w2.frozen? ⟨g, k * 7 + 6, none⟩ = false := blk_free HGB2.out _
      have HO3 := HO2.out.set7 hly ⟨⟨-7, 0, 0, [], 0, [], 0⟩, none, 0⟩
      have HK3 := HK2.out.set7 (o0 := k * 7) (o1 := k * 7 + 1) (o2 := k * 7 + 2) (o3 := k * 7 + 3) (o4 := k * 7 + 4) (o5 := k * 7 + 5) (o6 := k * 7 + 6) (u0 := .int .i64 (-7)) (u1 := .int .i64 0) (u2 := .int .i64 0) (u3 := .string (bs [])) (u4 := .int .i64 0) (u5 := .slice none 0 0) (u6 := .int .i64 0) HGB2.out
      have HGC : Hid (∀ o, Rng B C g o) := fun o => HEC.out g rfl
      have HDR : Hid ((ys.set k (⟨⟨-7, 0, 0, [], 0, [], 0⟩, none, 0⟩ : Se)).length = xs.length ∧ (ys.set k (⟨⟨-7, 0, 0, [], 0, [], 0⟩, none, 0⟩ : Se)).drop (k + 1) = xs.drop (k + 1)) := by
        refine ⟨(List.length_set ..).trans HY.out.1, ?_⟩
        rw [List.drop_set_of_lt (by omega)]
        have h1 := congrArg (List.drop 1) HY.out.2
        rw [List.drop_drop, List.drop_drop] at h1
        exact h1
      obtain ⟨V, hV⟩ : ∃ V, V = (((((((w2.setCell ⟨g, k * 7, none⟩ (.int .i64 (-7))).setCell ⟨g, k * 7 + 1, none⟩ (.int .i64 0)).setCell ⟨g, k * 7 + 2, none⟩ (.int .i64 0)).setCell ⟨g, k * 7 + 3, none⟩ (.string ⟨#[]⟩)).setCell ⟨g, k * 7 + 4, none⟩ (.int .i64 0)).setCell ⟨g, k * 7 + 5, none⟩ (.slice none 0 0)).setCell ⟨g, k * 7 + 6, none⟩ (.int .i64 0)) := ⟨_, rfl⟩
      have HO4 : Hid (OwnE B V (some ⟨g, 0, none⟩) c2 (ys.set k (⟨⟨-7, 0, 0, [], 0, [], 0⟩, none, 0⟩ : Se))) := by rw [hV]; exact HO3
      have HK4 : Hid (KRows B V xs) := by rw [hV]; exact HK3
      have KV : Hid (Kept (Rng B C) W V) := by rw [hV]; exact (((((((HKr2.out.setCell HGC.out _).setCell HGC.out _).setCell HGC.out _).setCell HGC.out _).setCell HGC.out _).setCell HGC.out _).setCell HGC.out _)
      clear HO3 HK3
      go_wp2
      rw [← hV]
      clear hV
      go_roundg (xs.length - (k + 1))
      case measure => omega
      case rel => exact ⟨k + 1, ys.set k (⟨⟨-7, 0, 0, [], 0, [], 0⟩, none, 0⟩ : Se), by omega, rfl, by go_num, HDR.out, HO4.out, HK4.out, KV.out⟩
    · obtain rfl : k = xs.length := by omega
      have ho : wr.ownsRow B 121 7 (.slice a2 xs.length c2) xs.length (seCells ys) := by have := HO.out; unfold OwnE at this; rw [HY.out.1] at this; exact this
      have HLL : Hid (xs.length + 1 ≤ maxLen ∧ (xs.length + 1) * 80 ≤ 140737488355328) := by constructor; unfold maxLen; omega; omega
      have HSZ2 : Hid (B ≤ wr.heap.size) := Nat.le_trans HSZ.out HKr.out.size
      go_wp2_with (at_builtin; go_must (refine wpList_append_src _ rfl _ _ 68 68 rfl B 121 i0 (.agg #[.int .i64 0, .int .i64 0, .int .i64 0, .string ⟨#[]⟩, .int .i64 0, .slice none 0 0, .int .i64 0]) 7 80 Try.underlying68 hi hz0 hz1 hz2 rfl _ _ _ rfl (World.ownsRow.alloc ho _) (.slice (some ⟨wr.heap.size, 0, none⟩) 1 1) 1 (seCell ⟨⟨-7, 0, 0, [], 0, [], 0⟩, none, 0⟩) rfl (src_se _) HLL.out.1 HLL.out.2 (le_alloc HSZ2.out _) ?_); intro ao' c' w2 ho' hg'; have HG2 : Hid (Kept (Rng B C) wr w2) := ((Kept.refl _ _).alloc _).trans (Kept.rng hg' HEC.out); clear hg' ho')
      go_end0
      exact ⟨rfl, (KW.out.mono (fun _ _ x => x.elim)).trans (HKr.out.trans HG2.out)⟩

end Go.Proofs.Ytblmmbghnkplkaa
