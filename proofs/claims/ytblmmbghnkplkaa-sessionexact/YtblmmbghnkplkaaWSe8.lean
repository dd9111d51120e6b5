/-
  slices.Insert of one session.
-/
import Derived.Test.YtblmmbghnkplkaaWSe3
import Derived.Test.YtblmmbghnkplkaaWKv4
import Derived.Shelf.Spec.SlicesInsertGrow
import Derived.Deep.RegionLaw
namespace Go.Proofs.Ytblmmbghnkplkaa
open Go.RowKit

theorem OwnE.push {B c' : Nat} {w' : World} {ao' : Option Addr} {ps : List Se} {x : Se} (h : w'.ownsRow B 121 7 (.slice ao' (ps.length + 1) c') (ps.length + 1) (seCells ps ++ [.int .i64 x.s.cl, .int .i64 x.s.ls, .int .i64 x.s.kd, .string (bs x.s.val), .int .i64 x.s.ver, .slice x.ao x.s.ks.length x.c, .int .i64 x.s.sn])) : OwnE B w' ao' c' (ps ++ [x]) := by
  unfold OwnE
  rw [seCells_app, List.length_append]
  exact h
theorem Try.szSe : (Try.prog.info? 121).map (·.size) = some 7 := by kernel_rfl
theorem run_copy7 (w : World) (ty : TypeId) (b o dLen dCap : Nat) (a : Addr) (sLen sCap k : Nat) (cs : List Value) (hk : k = Nat.min sLen dLen) (hn : cs.length = k * 7)
    (hsrc : ∀ j v, cs[j]? = some v → w.cell? (a.add j) = some v) (hc : ∀ j, j < cs.length → (w.cell? ⟨b, o + j, none⟩).isSome = true) (hf : ∀ j, j < cs.length → w.frozen? ⟨b, o + j, none⟩ = false) (h1 : ∀ v ∈ cs, v.oneCell' = true) :
    (Builtin.copy_ #[68, 68] ty #[.slice (some ⟨b, o, none⟩) dLen dCap, .slice (some a) sLen sCap]).run Try.prog w = .ok (goInt k) (w.setCells b o cs) := by
  have hl := run_loadCells_list (P := Try.prog) w a cs hsrc
  rw [hn] at hl
  have hst := run_storeCells_cells (P := Try.prog) b o cs 0 w (by simpa using hc) (by simpa using hf) h1
  obtain ⟨i0, hi, hz0, hz1, hz2⟩ := info_parts Try.infoSe
  simp [Builtin.copy_, run_underlying Try.underlying68, Builtin.lenOf, Builtin.firstCells, sizeOf, typeInfo, hi, hz1, ← hk, hl, hst]
theorem ownE_of_blk {B g c : Nat} {w : World} {cs : Array Value} {ps : List Se} (hB : B ≤ g) (h : w.heap[g]? = some (.cells cs 121 (0, 0))) (hs : cs.size = c * 7) (hm : c ≤ maxLen) (hl : ps.length ≤ c) (hz : ∀ j, j < ps.length * 7 → cs[j]? = (seCells ps)[j]?) : OwnE B w (some ⟨g, 0, none⟩) c ps := by
  refine ⟨seCells_len ps, .inr ⟨g, c, cs, rfl, hB, h, hl, hm, hs, ?_⟩⟩
  apply List.ext_getElem?
  intro j
  rw [List.getElem?_take]
  split
  · rename_i hj
    rw [Array.getElem?_toList, hz j hj]
  · rename_i hj
    exact (List.getElem?_eq_none (by rw [seCells_len]; omega)).symm
def insE (i : Nat) (x : Se) (ps : List Se) : List Se := ps.take i ++ x :: ps.drop i
theorem insE_len {i : Nat} {x : Se} {ps : List Se} (hi : i ≤ ps.length) : (insE i x ps).length = ps.length + 1 := by
  unfold insE
  rw [List.length_append, List.length_cons, List.length_take, List.length_drop]
  omega
theorem insE_cells {i : Nat} {x : Se} {ps : List Se} (hi : i ≤ ps.length) (j : Nat) : (seCells (insE i x ps))[j]? = if j < i * 7 then (seCells ps)[j]? else if j < i * 7 + 7 then ([.int .i64 x.s.cl, .int .i64 x.s.ls, .int .i64 x.s.kd, .string (bs x.s.val), .int .i64 x.s.ver, .slice x.ao x.s.ks.length x.c, .int .i64 x.s.sn] : List Value)[j - i * 7]? else (seCells ps)[j - 7]? := by
  have hl : (seCells (ps.take i)).length = i * 7 := by rw [seCells_len, List.length_take, Nat.min_eq_left hi]
  unfold insE
  rw [seCells_app, show seCells (x :: ps.drop i) = [.int .i64 x.s.cl, .int .i64 x.s.ls, .int .i64 x.s.kd, .string (bs x.s.val), .int .i64 x.s.ver, .slice x.ao x.s.ks.length x.c, .int .i64 x.s.sn] ++ seCells (ps.drop i) from seCells_cons x _, List.getElem?_append, hl]
  split
  · rename_i hj
    rw [seCells_take, List.getElem?_take, if_pos hj]
  · rw [List.getElem?_append]
    simp only [List.length_cons, List.length_nil]
    split
    · rename_i hj
      rw [if_pos (by omega)]
    · rename_i hj
      rw [if_neg (by omega), seCells_drop, List.getElem?_drop]
      exact congrArg (fun q => (seCells ps)[q]?) (by omega)

set_option maxRecDepth 100000 in
set_option maxHeartbeats 4000000 in
theorem insertE_end (B c vb : Nat) (ao : Option Addr) (ps : List Se) (x : Se) (w : World) (h : OwnE B w ao c ps) (hn : ps.length < 32) (hv : w.heap[vb]? = some (.cells #[.int .i64 x.s.cl, .int .i64 x.s.ls, .int .i64 x.s.kd, .string (bs x.s.val), .int .i64 x.s.ver, .slice x.ao x.s.ks.length x.c, .int .i64 x.s.sn] 121 (0, 0))) (hB : B ≤ w.heap.size) :
    Calls Try.prog 163 #[.slice ao ps.length c, .int .i64 ps.length, .slice (some ⟨vb, 0, none⟩) 1 1] w fun e w' => ∃ ao' c', e = .returned (.slice ao' (ps.length + 1) c') ∧ OwnE B w' ao' c' (ps ++ [x]) ∧ w.grownBy w' (Value.slice ao ps.length c).ownBlock := by
  obtain ⟨i0, hi, hz0, hz1, hz2⟩ := info_parts Try.infoSe
  have HO : Hid (OwnE B w ao c ps) := h
  have HSRC : Hid (Src Try.prog 7 68 (.slice (some ⟨vb, 0, none⟩) 1 1) 1 [.int .i64 x.s.cl, .int .i64 x.s.ls, .int .i64 x.s.kd, .string (bs x.s.val), .int .i64 x.s.ver, .slice x.ao x.s.ks.length x.c, .int .i64 x.s.sn] w) := by
    refine Src.ofSlice _ Try.underlying68 _ 1 1 _ rfl ?_ ?_
    · intro j u hj
      match j, hj with
      | 0, hj => simp at hj; subst hj; exact blk_at hv 0 rfl
      | 1, hj => simp at hj; subst hj; exact blk_at hv 1 rfl
      | 2, hj => simp at hj; subst hj; exact blk_at hv 2 rfl
      | 3, hj => simp at hj; subst hj; exact blk_at hv 3 rfl
      | 4, hj => simp at hj; subst hj; exact blk_at hv 4 rfl
      | 5, hj => simp at hj; subst hj; exact blk_at hv 5 rfl
      | 6, hj => simp at hj; subst hj; exact blk_at hv 6 rfl
    · intro u hu
      simp at hu
      rcases hu with rfl | rfl | rfl | rfl | rfl | rfl | rfl <;> rfl
  have HLL : Hid (ps.length + 1 ≤ maxLen ∧ (ps.length + 1) * 80 ≤ 140737488355328) := by constructor <;> (try unfold maxLen) <;> omega
  clear h hv
  by_cases hcn : c = ps.length
  · subst hcn
    go_enter Try.func163, Try.ntmps163
    go_wp2_with (at_builtin; go_must (refine wpList_append_src _ rfl _ _ 68 68 rfl B 121 i0 (.agg #[.int .i64 0, .int .i64 0, .int .i64 0, .string ⟨#[]⟩, .int .i64 0, .slice none 0 0, .int .i64 0]) 7 80 Try.underlying68 hi hz0 hz1 hz2 rfl _ _ _ rfl HO.out (.slice (some ⟨vb, 0, none⟩) 1 1) 1 [.int .i64 x.s.cl, .int .i64 x.s.ls, .int .i64 x.s.kd, .string (bs x.s.val), .int .i64 x.s.ver, .slice x.ao x.s.ks.length x.c, .int .i64 x.s.sn] rfl HSRC.out HLL.out.1 HLL.out.2 hB ?_); intro ao' c' w1 ho' hg'; have HO1 : Hid (OwnE B w1 ao' c' (ps ++ [x])) := OwnE.push ho'; have HG1 : Hid (w.grownBy w1 (Value.slice ao ps.length ps.length).ownBlock) := hg'; clear ho' hg')
    go_ret
    exact ⟨ao', c', rfl, HO1.out, HG1.out⟩
  go_enter Try.func163, Try.ntmps163
  go_wp2_with (at_builtin; go_must (refine wpList_append_src _ rfl _ _ 68 68 rfl B 121 i0 (.agg #[.int .i64 0, .int .i64 0, .int .i64 0, .string ⟨#[]⟩, .int .i64 0, .slice none 0 0, .int .i64 0]) 7 80 Try.underlying68 hi hz0 hz1 hz2 rfl _ _ _ rfl HO.out (.slice (some ⟨vb, 0, none⟩) 1 1) 1 [.int .i64 x.s.cl, .int .i64 x.s.ls, .int .i64 x.s.kd, .string (bs x.s.val), .int .i64 x.s.ver, .slice x.ao x.s.ks.length x.c, .int .i64 x.s.sn] rfl HSRC.out HLL.out.1 HLL.out.2 hB ?_); intro ao' c' w1 ho' hg'; have HO1 : Hid (OwnE B w1 ao' c' (ps ++ [x])) := OwnE.push ho'; have HG1 : Hid (w.grownBy w1 (Value.slice ao ps.length c).ownBlock) := hg'; clear ho' hg')
  go_ret
  exact ⟨ao', c', rfl, HO1.out, HG1.out⟩

set_option maxRecDepth 100000 in
set_option maxHeartbeats 4000000 in
theorem insertE_shift (B c i vb g : Nat) (ps : List Se) (x : Se) (w : World) (h : OwnE B w (some ⟨g, 0, none⟩) c ps) (hi : i < ps.length) (hn : ps.length < 32) (hroom : ps.length + 1 ≤ c) (hv : w.heap[vb]? = some (.cells #[.int .i64 x.s.cl, .int .i64 x.s.ls, .int .i64 x.s.kd, .string (bs x.s.val), .int .i64 x.s.ver, .slice x.ao x.s.ks.length x.c, .int .i64 x.s.sn] 121 (0, 0))) (hne : g ≠ vb) :
    Calls Try.prog 163 #[.slice (some ⟨g, 0, none⟩) ps.length c, .int .i64 i, .slice (some ⟨vb, 0, none⟩) 1 1] w fun e w' => e = .returned (.slice (some ⟨g, 0, none⟩) (ps.length + 1) c) ∧ OwnE B w' (some ⟨g, 0, none⟩) c (insE i x ps) ∧ w.grownBy w' (some g) := by
  obtain ⟨g', cs, e0, hBg, hblk, hlc, hcm, hsz, htk⟩ := h.block (by simp)
  simp only [Option.some.injEq, Addr.mk.injEq, and_true] at e0
  subst e0
  unfold maxLen at hcm
  have hz2 : ¬ ((i : Int) = (ps.length : Int)) := by omega
  have hcells : ∀ j v, (seCells ps)[j]? = some v → w.cell? ⟨g, j, none⟩ = some v := fun j v hj => by
    have hlt : j < ps.length * 7 := by have := (List.getElem?_eq_some_iff.1 hj).1; rwa [seCells_len] at this
    rw [blk_cell hblk, ← hj, ← htk, List.getElem?_take, if_pos hlt, Array.getElem?_toList]
  have hsp : ∀ j, j < c * 7 → (w.cell? ⟨g, j, none⟩).isSome = true := fun j hj => by rw [blk_cell hblk, Array.getElem?_eq_getElem (by omega)]; rfl
  have hov : ∀ lb cb, (callFunc 186 #[.slice (some ⟨vb, 0, none⟩) 1 1, .slice (some ⟨g, (i + 1) * 7, none⟩) lb cb]).run Try.prog w = .ok (.value (.bool false)) w := fun lb cb => by
    rw [run_callFunc_extern Try.func186 (by kernel_rfl) (by kernel_rfl) (by kernel_rfl) (e := Extern.SlicesOverlaps.overlaps #[68, 68] #[4]) (by kernel_rfl),
      Lib.run_overlaps_apart w 68 4 121 Try.underlying68 7 Try.sizeOf121 ⟨vb, 0, none⟩ ⟨g, (i + 1) * 7, none⟩ 1 1 lb cb (fun e => hne e.symm) 121 121 7 (c * 7) (by simp [World.shape?, hv]) (by simp [World.shape?, hblk, hsz]) (by omega) (blk_free hv 0) (blk_free hv 7)]
    rfl
  have hdl : (seCells (ps.drop i)).length = (ps.length - i) * 7 := by rw [seCells_len, List.length_drop]
  have hcp1 : ∀ ty dc sc, (Builtin.copy_ #[68, 68] ty #[.slice (some ⟨g, (i + 1) * 7, none⟩) (ps.length - i) dc, .slice (some ⟨g, i * 7, none⟩) (ps.length + 1 - i) sc]).run Try.prog w.drew = .ok (goInt ((ps.length - i : Nat) : Int)) (w.drew.setCells g ((i + 1) * 7) (seCells (ps.drop i))) := fun ty dc sc =>
    run_copy7 w.drew ty g ((i + 1) * 7) (ps.length - i) dc ⟨g, i * 7, none⟩ (ps.length + 1 - i) sc (ps.length - i) (seCells (ps.drop i)) (by simp only [Nat.min_def]; split <;> omega) hdl
      (fun j v hj => by rw [seCells_drop, List.getElem?_drop] at hj; rw [Addr.add_lit]; exact hcells _ v hj)
      (fun j hj => by rw [hdl] at hj; exact hsp _ (by omega)) (fun j hj => blk_free hblk _) (seCells_one _)
  obtain ⟨W1, hW1⟩ : ∃ W1, W1 = w.drew.setCells g ((i + 1) * 7) (seCells (ps.drop i)) := ⟨_, rfl⟩
  obtain ⟨cs1, b1, s1, g1⟩ := blk_setCellsK (b := g) (seCells (ps.drop i)) ((i + 1) * 7) w.drew cs hblk
  rw [← hW1] at hcp1 b1
  have hvW : W1.heap[vb]? = some (.cells #[.int .i64 x.s.cl, .int .i64 x.s.ls, .int .i64 x.s.kd, .string (bs x.s.val), .int .i64 x.s.ver, .slice x.ao x.s.ks.length x.c, .int .i64 x.s.sn] 121 (0, 0)) := by
    rw [hW1, (grownBy_setCellsK g (seCells (ps.drop i)) ((i + 1) * 7) (grown_reflK w.drew (some g))).block vb (lt_of_block hv) (fun e => hne (Option.some.inj e).symm)]
    exact hv
  have hcp2 : ∀ (W : World), (∀ y, W.cell? y = W1.cell? y) → (∀ y, W.frozen? y = W1.frozen? y) → ∀ ty dc, (Builtin.copy_ #[68, 68] ty #[.slice (some ⟨g, i * 7, none⟩) (ps.length + 1 - i) dc, .slice (some ⟨vb, 0, none⟩) 1 1]).run Try.prog W = .ok (goInt ((1 : Nat) : Int)) (W.setCells g (i * 7) [.int .i64 x.s.cl, .int .i64 x.s.ls, .int .i64 x.s.kd, .string (bs x.s.val), .int .i64 x.s.ver, .slice x.ao x.s.ks.length x.c, .int .i64 x.s.sn]) := fun W hWc hWf ty dc =>
    run_copy7 W ty g (i * 7) (ps.length + 1 - i) dc ⟨vb, 0, none⟩ 1 1 1 [.int .i64 x.s.cl, .int .i64 x.s.ls, .int .i64 x.s.kd, .string (bs x.s.val), .int .i64 x.s.ver, .slice x.ao x.s.ks.length x.c, .int .i64 x.s.sn] (by simp only [Nat.min_def]; split <;> omega) rfl
      (fun j v hj => by
        rw [Addr.add_lit, hWc, blk_cell hvW]
        simpa using hj)
      (fun j hj => by
        rw [hWc, blk_cell b1, Array.getElem?_eq_getElem (by simp at hj; omega)]; rfl)
      (fun j hj => by rw [hWf]; exact blk_free b1 _) (fun u hu => by simp at hu; rcases hu with rfl | rfl | rfl | rfl | rfl | rfl | rfl <;> rfl)
  have hw1 : IntKind.i64.wrap ((i : Int) + 1) = (i : Int) + 1 := by rw [IntKind.wrap_i64]; omega
  have hb1 : (0 : Int) ≤ (i : Int) + 1 := by omega
  have htn : ((i : Int) + 1).toNat = i + 1 := by omega
  have hb2 : ¬ (c = i + 1) := by omega
  have hb3 : (i : Int) ≤ (ps.length : Int) + 1 := by omega
  have hb4 : ¬ (c = i) := by omega
  have hin : i ≤ ps.length := by omega
  have mixed : Try.prog.follows Departure.mixedOrders = true := by kernel_rfl
  have HB1 : Hid (W1.heap[g]? = some (.cells cs1 121 (0, 0)) ∧ cs1.size = cs.size ∧ ∀ j, cs1[j]? = if (i + 1) * 7 ≤ j ∧ j < (i + 1) * 7 + (seCells (ps.drop i)).length ∧ j < cs.size then (seCells (ps.drop i))[j - (i + 1) * 7]? else cs[j]?) := ⟨b1, s1, g1⟩
  have HW1 : Hid (W1 = w.drew.setCells g ((i + 1) * 7) (seCells (ps.drop i))) := hW1
  have HTK : Hid (cs.toList.take (ps.length * 7) = seCells ps) := htk
  clear hW1 b1 s1 g1 hvW h htk hsp hcells hv
  go_enter Try.func163, Try.ntmps163
  go_wp2_with (simp only [hov])
  go_region_law_o (refine step_copy_runI rfl _ _ 68 68 rfl _ _ (by simp [Act.eval, Act.put]) (by simp [Act.eval, Act.put]) (hcp1 _ _ _) ?_)
  go_wp2_with (at_builtin; refine wpList_copy_runI _ rfl _ _ 68 68 rfl _ _ rfl rfl (hcp2 _ (fun _ => rfl) (fun _ => rfl) _ _) ?_)
  go_ret
  obtain ⟨b1, s1, g1⟩ := HB1.out
  obtain ⟨cs2, b2, s2, g2⟩ := blk_setCellsK (b := g) [.int .i64 x.s.cl, .int .i64 x.s.ls, .int .i64 x.s.kd, .string (bs x.s.val), .int .i64 x.s.ver, .slice x.ao x.s.ks.length x.c, .int .i64 x.s.sn] (i * 7) W1 cs1 b1
  refine ⟨rfl, ownE_of_blk hBg b2 (by omega) (by unfold maxLen; omega) (by rw [insE_len (by omega)]; exact hroom) (fun j hj => ?_), ?_⟩
  · rw [insE_len (by omega)] at hj
    rw [insE_cells (by omega), g2 j, g1 j]
    have hcj : ∀ q, q < ps.length * 7 → cs[q]? = (seCells ps)[q]? := fun q hq => by
      have := congrArg (fun l => l[q]?) HTK.out
      simpa only [List.getElem?_take, if_pos hq, Array.getElem?_toList] using this
    simp only [List.length_cons, List.length_nil]
    by_cases h1 : j < i * 7
    · rw [if_pos h1, if_neg (by omega), if_neg (by omega)]
      exact hcj j (by omega)
    · rw [if_neg h1]
      by_cases h2 : j < i * 7 + 7
      · rw [if_pos h2, if_pos (by omega)]
      · rw [if_neg h2, if_neg (by omega), if_pos (by rw [hdl]; omega), seCells_drop, List.getElem?_drop]
        exact congrArg (fun q => (seCells ps)[q]?) (by omega)
  · refine grownBy_setCellsK g _ _ ?_
    rw [HW1.out]
    exact grownBy_setCellsK g _ _ (grown_drewK (grown_reflK _ _))

end Go.Proofs.Ytblmmbghnkplkaa
