/-
  Joined: WSh2.
-/
import Derived.Test.YtpfgnhockfofhaaM11
import Derived.Shelf.Spec.SlicesInsertGrow
import Derived.Deep.RegionLaw
/-
  slices.Insert of one item.
-/
namespace Go.Proofs.Ytpfgnhockfofhaa
open Go.RowKit

theorem itCells_take : ∀ (ps : List Pr) (i : Nat), itCells (ps.take i) = (itCells ps).take (i * 2)
  | [], i => by simp [itCells]
  | _ :: _, 0 => by simp [itCells]
  | p :: t, i + 1 => by rw [List.take_succ_cons, itCells_cons, itCells_cons, itCells_take t i, show (i + 1) * 2 = i * 2 + 1 + 1 by omega, List.take_succ_cons, List.take_succ_cons]
theorem itCells_drop : ∀ (ps : List Pr) (i : Nat), itCells (ps.drop i) = (itCells ps).drop (i * 2)
  | [], i => by simp [itCells]
  | _ :: _, 0 => by simp
  | p :: t, i + 1 => by rw [List.drop_succ_cons, itCells_cons, itCells_drop t i, show (i + 1) * 2 = i * 2 + 1 + 1 by omega, List.drop_succ_cons, List.drop_succ_cons]
theorem run_copyI (w : World) (ty : TypeId) (b o dLen dCap : Nat) (a : Addr) (sLen sCap k : Nat) (cs : List Value) (hk : k = Nat.min sLen dLen) (hn : cs.length = k * 2)
    (hsrc : ∀ j v, cs[j]? = some v → w.cell? (a.add j) = some v) (hc : ∀ j, j < cs.length → (w.cell? ⟨b, o + j, none⟩).isSome = true) (hf : ∀ j, j < cs.length → w.frozen? ⟨b, o + j, none⟩ = false) (h1 : ∀ v ∈ cs, v.oneCell' = true) :
    (Builtin.copy_ #[102, 102] ty #[.slice (some ⟨b, o, none⟩) dLen dCap, .slice (some a) sLen sCap]).run Try.prog w = .ok (goInt k) (w.setCells b o cs) := by
  have hl := run_loadCells_list (P := Try.prog) w a cs hsrc
  rw [hn] at hl
  have hst := run_storeCells_cells (P := Try.prog) b o cs 0 w (by simpa using hc) (by simpa using hf) h1
  obtain ⟨i0, hi, hz0, hz1, hz2⟩ := info_parts Try.infoOwnIt
  simp [Builtin.copy_, run_underlying Try.underlying102, Builtin.lenOf, Builtin.firstCells, sizeOf, typeInfo, hi, hz1, ← hk, hl, hst]
theorem ownI_of_blk {B g c : Nat} {w : World} {cs : Array Value} {ps : List Pr} (hB : B ≤ g) (h : w.heap[g]? = some (.cells cs 117 (0, 0))) (hs : cs.size = c * 2) (hm : c ≤ maxLen) (hl : ps.length ≤ c) (hz : ∀ j, j < ps.length * 2 → cs[j]? = (itCells ps)[j]?) : OwnIt B w (some ⟨g, 0, none⟩) c ps := by
  refine ⟨itCells_len ps, .inr ⟨g, c, cs, rfl, hB, h, hl, hm, hs, ?_⟩⟩
  apply List.ext_getElem?
  intro j
  rw [List.getElem?_take]
  split
  · rename_i hj
    rw [Array.getElem?_toList, hz j hj]
  · rename_i hj
    exact (List.getElem?_eq_none (by rw [itCells_len]; omega)).symm
def insI (i : Nat) (x : Pr) (ps : List Pr) : List Pr := ps.take i ++ x :: ps.drop i
theorem insI_len {i : Nat} {x : Pr} {ps : List Pr} (hi : i ≤ ps.length) : (insI i x ps).length = ps.length + 1 := by
  unfold insI
  rw [List.length_append, List.length_cons, List.length_take, List.length_drop]
  omega
theorem insI_cells {i : Nat} {x : Pr} {ps : List Pr} (hi : i ≤ ps.length) (j : Nat) : (itCells (insI i x ps))[j]? = if j < i * 2 then (itCells ps)[j]? else if j < i * 2 + 2 then ([.string (bs x.k), .string (bs x.v)] : List Value)[j - i * 2]? else (itCells ps)[j - 2]? := by
  have hl : (itCells (ps.take i)).length = i * 2 := by rw [itCells_len, List.length_take, Nat.min_eq_left hi]
  unfold insI
  rw [itCells_app, show itCells (x :: ps.drop i) = [.string (bs x.k), .string (bs x.v)] ++ itCells (ps.drop i) by simp [itCells_cons], List.getElem?_append, hl]
  split
  · rename_i hj
    rw [itCells_take, List.getElem?_take, if_pos hj]
  · rw [List.getElem?_append]
    simp only [List.length_cons, List.length_nil]
    split
    · rename_i hj
      rw [if_pos (by omega)]
    · rename_i hj
      rw [if_neg (by omega), itCells_drop, List.getElem?_drop]
      congr 1
      omega

set_option maxRecDepth 100000 in
set_option maxHeartbeats 4000000 in
theorem insertI_end (B c vb : Nat) (ao : Option Addr) (ps : List Pr) (x : Pr) (w : World) (h : OwnIt B w ao c ps) (hn : ps.length < 4000000) (hv : w.heap[vb]? = some (.cells #[.string (bs x.k), .string (bs x.v)] 117 (0, 0))) (hB : B ≤ w.heap.size) :
    Calls Try.prog 78 #[.slice ao ps.length c, .int .i64 ps.length, .slice (some ⟨vb, 0, none⟩) 1 1] w fun e w' => ∃ ao' c', e = .returned (.slice ao' (ps.length + 1) c') ∧ OwnIt B w' ao' c' (ps ++ [x]) ∧ w.grownBy w' (Value.slice ao ps.length c).ownBlock ∧ (∀ g, (Value.slice ao' (ps.length + 1) c').ownBlock = some g → (Value.slice ao ps.length c).ownBlock = some g ∨ w.heap.size ≤ g) := by
  obtain ⟨i0, hi, hz0, hz1, hz2⟩ := info_parts Try.infoOwnIt
  have HO : Hid (OwnIt B w ao c ps) := h
  have HSRC : Hid (Src Try.prog 2 102 (.slice (some ⟨vb, 0, none⟩) 1 1) 1 [.string (bs x.k), .string (bs x.v)] w) := by
    refine Src.ofSlice _ Try.underlying102 _ 1 1 _ rfl ?_ ?_
    · intro j u hj
      match j, hj with
      | 0, hj => simp at hj; subst hj; exact blk_at hv 0 rfl
      | 1, hj => simp at hj; subst hj; exact blk_at hv 1 rfl
    · intro u hu
      simp at hu
      rcases hu with rfl | rfl <;> rfl
  have HLL : Hid (ps.length + 1 ≤ maxLen ∧ (ps.length + 1) * 32 ≤ 140737488355328) := by constructor <;> (try unfold maxLen) <;> omega
  clear h hv
  by_cases hcn : c = ps.length
  · subst hcn
    go_enter Try.func78, Try.ntmps78
    go_wp2_with (at_builtin; go_must (refine wpList_append_at _ rfl _ _ 102 102 rfl B 117 i0 (.agg #[.string ⟨#[]⟩, .string ⟨#[]⟩]) 2 32 Try.underlying102 hi hz0 hz1 hz2 rfl _ _ _ rfl HO.out (.slice (some ⟨vb, 0, none⟩) 1 1) 1 [.string (bs x.k), .string (bs x.v)] rfl HSRC.out HLL.out.1 HLL.out.2 hB ?_); intro ao' c' w1 ho' hg' hat'; have HAT : Hid (∀ g, (Value.slice ao' (ps.length + 1) c').ownBlock = some g → (Value.slice ao ps.length ps.length).ownBlock = some g ∨ w.heap.size ≤ g) := hat'; have HO1 : Hid (OwnIt B w1 ao' c' (ps ++ [x])) := OwnIt.push ho'; have HG1 : Hid (w.grownBy w1 (Value.slice ao ps.length ps.length).ownBlock) := hg'; clear ho' hg' hat')
    go_ret
    exact ⟨ao', c', rfl, HO1.out, HG1.out, HAT.out⟩
  go_enter Try.func78, Try.ntmps78
  go_wp2_with (at_builtin; go_must (refine wpList_append_at _ rfl _ _ 102 102 rfl B 117 i0 (.agg #[.string ⟨#[]⟩, .string ⟨#[]⟩]) 2 32 Try.underlying102 hi hz0 hz1 hz2 rfl _ _ _ rfl HO.out (.slice (some ⟨vb, 0, none⟩) 1 1) 1 [.string (bs x.k), .string (bs x.v)] rfl HSRC.out HLL.out.1 HLL.out.2 hB ?_); intro ao' c' w1 ho' hg' hat'; have HAT : Hid (∀ g, (Value.slice ao' (ps.length + 1) c').ownBlock = some g → (Value.slice ao ps.length c).ownBlock = some g ∨ w.heap.size ≤ g) := hat'; have HO1 : Hid (OwnIt B w1 ao' c' (ps ++ [x])) := OwnIt.push ho'; have HG1 : Hid (w.grownBy w1 (Value.slice ao ps.length c).ownBlock) := hg'; clear ho' hg' hat')
  go_ret
  exact ⟨ao', c', rfl, HO1.out, HG1.out, HAT.out⟩

set_option maxRecDepth 100000 in
set_option maxHeartbeats 4000000 in
theorem insertI_shift (B c i vb g : Nat) (ps : List Pr) (x : Pr) (w : World) (h : OwnIt B w (some ⟨g, 0, none⟩) c ps) (hi : i < ps.length) (hn : ps.length < 4000000) (hroom : ps.length + 1 ≤ c) (hv : w.heap[vb]? = some (.cells #[.string (bs x.k), .string (bs x.v)] 117 (0, 0))) (hne : g ≠ vb) :
    Calls Try.prog 78 #[.slice (some ⟨g, 0, none⟩) ps.length c, .int .i64 i, .slice (some ⟨vb, 0, none⟩) 1 1] w fun e w' => e = .returned (.slice (some ⟨g, 0, none⟩) (ps.length + 1) c) ∧ OwnIt B w' (some ⟨g, 0, none⟩) c (insI i x ps) ∧ w.grownBy w' (some g) := by
  obtain ⟨g', cs, e0, hBg, hblk, hlc, hcm, hsz, htk⟩ := h.block (by simp)
  simp only [Option.some.injEq, Addr.mk.injEq, and_true] at e0
  subst e0
  unfold maxLen at hcm
  have hz2 : ¬ ((i : Int) = (ps.length : Int)) := by omega
  have hcells : ∀ j v, (itCells ps)[j]? = some v → w.cell? ⟨g, j, none⟩ = some v := fun j v hj => by
    have hlt : j < ps.length * 2 := by have := (List.getElem?_eq_some_iff.1 hj).1; rwa [itCells_len] at this
    rw [blk_cell hblk, ← hj, ← htk, List.getElem?_take, if_pos hlt, Array.getElem?_toList]
  have hsp : ∀ j, j < c * 2 → (w.cell? ⟨g, j, none⟩).isSome = true := fun j hj => by rw [blk_cell hblk, Array.getElem?_eq_getElem (by omega)]; rfl
  have hov : ∀ lb cb, (callFunc 85 #[.slice (some ⟨vb, 0, none⟩) 1 1, .slice (some ⟨g, (i + 1) * 2, none⟩) lb cb]).run Try.prog w = .ok (.value (.bool false)) w := fun lb cb => by
    rw [run_callFunc_extern Try.func85 (by kernel_rfl) (by kernel_rfl) (by kernel_rfl) (e := Extern.SlicesOverlaps.overlaps #[102, 102] #[4]) (by kernel_rfl),
      Lib.run_overlaps_apart w 102 4 117 Try.underlying102 2 Try.sizeOf117 ⟨vb, 0, none⟩ ⟨g, (i + 1) * 2, none⟩ 1 1 lb cb (fun e => hne e.symm) 117 117 2 (c * 2) (by simp [World.shape?, hv]) (by simp [World.shape?, hblk, hsz]) (by omega) (blk_free hv 0) (blk_free hv 2)]
    rfl
  have hdl : (itCells (ps.drop i)).length = (ps.length - i) * 2 := by rw [itCells_len, List.length_drop]
  have hcp1 : ∀ ty dc sc, (Builtin.copy_ #[102, 102] ty #[.slice (some ⟨g, (i + 1) * 2, none⟩) (ps.length - i) dc, .slice (some ⟨g, i * 2, none⟩) (ps.length + 1 - i) sc]).run Try.prog w.drew = .ok (goInt ((ps.length - i : Nat) : Int)) (w.drew.setCells g ((i + 1) * 2) (itCells (ps.drop i))) := fun ty dc sc =>
    run_copyI w.drew ty g ((i + 1) * 2) (ps.length - i) dc ⟨g, i * 2, none⟩ (ps.length + 1 - i) sc (ps.length - i) (itCells (ps.drop i)) (by simp only [Nat.min_def]; split <;> omega) hdl
      (fun j v hj => by rw [itCells_drop, List.getElem?_drop] at hj; rw [Addr.add_lit]; exact hcells _ v hj)
      (fun j hj => by rw [hdl] at hj; exact hsp _ (by omega)) (fun j hj => blk_free hblk _) (itCells_one _)
  obtain ⟨W1, hW1⟩ : ∃ W1, W1 = w.drew.setCells g ((i + 1) * 2) (itCells (ps.drop i)) := ⟨_, rfl⟩
  obtain ⟨cs1, b1, s1, g1⟩ := blk_setCellsK (b := g) (itCells (ps.drop i)) ((i + 1) * 2) w.drew cs hblk
  rw [← hW1] at hcp1 b1
  have hvW : W1.heap[vb]? = some (.cells #[.string (bs x.k), .string (bs x.v)] 117 (0, 0)) := by
    rw [hW1, (grownBy_setCellsK g (itCells (ps.drop i)) ((i + 1) * 2) (grown_reflK w.drew (some g))).block vb (lt_of_block hv) (fun e => hne (Option.some.inj e).symm)]
    exact hv
  have hcp2 : ∀ (W : World), (∀ y, W.cell? y = W1.cell? y) → (∀ y, W.frozen? y = W1.frozen? y) → ∀ ty dc, (Builtin.copy_ #[102, 102] ty #[.slice (some ⟨g, i * 2, none⟩) (ps.length + 1 - i) dc, .slice (some ⟨vb, 0, none⟩) 1 1]).run Try.prog W = .ok (goInt ((1 : Nat) : Int)) (W.setCells g (i * 2) [.string (bs x.k), .string (bs x.v)]) := fun W hWc hWf ty dc =>
    run_copyI W ty g (i * 2) (ps.length + 1 - i) dc ⟨vb, 0, none⟩ 1 1 1 [.string (bs x.k), .string (bs x.v)] (by simp only [Nat.min_def]; split <;> omega) rfl
      (fun j v hj => by
        rw [Addr.add_lit, hWc, blk_cell hvW]
        simpa using hj)
      (fun j hj => by
        rw [hWc, blk_cell b1, Array.getElem?_eq_getElem (by simp at hj; omega)]; rfl)
      (fun j hj => by rw [hWf]; exact blk_free b1 _) (fun u hu => by simp at hu; rcases hu with rfl | rfl <;> rfl)
  have hw1 : IntKind.i64.wrap ((i : Int) + 1) = (i : Int) + 1 := by rw [IntKind.wrap_i64]; omega
  have hb1 : (0 : Int) ≤ (i : Int) + 1 := by omega
  have htn : ((i : Int) + 1).toNat = i + 1 := by omega
  have hb2 : ¬ (c = i + 1) := by omega
  have hb3 : (i : Int) ≤ (ps.length : Int) + 1 := by omega
  have hb4 : ¬ (c = i) := by omega
  have hin : i ≤ ps.length := by omega
  have mixed : Try.prog.follows Departure.mixedOrders = true := by kernel_rfl
  have HB1 : Hid (W1.heap[g]? = some (.cells cs1 117 (0, 0)) ∧ cs1.size = cs.size ∧ ∀ j, cs1[j]? = if (i + 1) * 2 ≤ j ∧ j < (i + 1) * 2 + (itCells (ps.drop i)).length ∧ j < cs.size then (itCells (ps.drop i))[j - (i + 1) * 2]? else cs[j]?) := ⟨b1, s1, g1⟩
  have HW1 : Hid (W1 = w.drew.setCells g ((i + 1) * 2) (itCells (ps.drop i))) := hW1
  have HTK : Hid (cs.toList.take (ps.length * 2) = itCells ps) := htk
  clear hW1 b1 s1 g1 hvW h htk hsp hcells hv
  go_enter Try.func78, Try.ntmps78
  go_wp2_with (simp only [hov])
  go_region_law_o (refine step_copy_runI rfl _ _ 102 102 rfl _ _ (by simp [Act.eval, Act.put]) (by simp [Act.eval, Act.put]) (hcp1 _ _ _) ?_)
  go_wp2_with (at_builtin; refine wpList_copy_runI _ rfl _ _ 102 102 rfl _ _ rfl rfl (hcp2 _ (fun _ => rfl) (fun _ => rfl) _ _) ?_)
  go_ret
  obtain ⟨b1, s1, g1⟩ := HB1.out
  obtain ⟨cs2, b2, s2, g2⟩ := blk_setCellsK (b := g) [.string (bs x.k), .string (bs x.v)] (i * 2) W1 cs1 b1
  refine ⟨rfl, ownI_of_blk hBg b2 (by omega) (by unfold maxLen; omega) (by rw [insI_len (by omega)]; exact hroom) (fun j hj => ?_), ?_⟩
  · rw [insI_len (by omega)] at hj
    rw [insI_cells (by omega), g2 j, g1 j]
    have hcj : ∀ q, q < ps.length * 2 → cs[q]? = (itCells ps)[q]? := fun q hq => by
      have := congrArg (fun l => l[q]?) HTK.out
      simpa only [List.getElem?_take, if_pos hq, Array.getElem?_toList] using this
    simp only [List.length_cons, List.length_nil]
    by_cases h1 : j < i * 2
    · rw [if_pos h1, if_neg (by omega), if_neg (by omega)]
      exact hcj j (by omega)
    · rw [if_neg h1]
      by_cases h2 : j < i * 2 + 2
      · rw [if_pos h2, if_pos (by omega)]
      · rw [if_neg h2, if_neg (by omega), if_pos (by rw [hdl]; omega), itCells_drop, List.getElem?_drop]
        congr 1
        omega
  · refine grownBy_setCellsK g _ _ ?_
    rw [HW1.out]
    exact grownBy_setCellsK g _ _ (grown_drewK (grown_reflK _ _))

set_option maxRecDepth 100000 in
set_option maxHeartbeats 4000000 in
theorem insertI_grow (B c i vb g : Nat) (ps : List Pr) (x : Pr) (w : World) (h : OwnIt B w (some ⟨g, 0, none⟩) c ps) (hi : i < ps.length) (hn : ps.length < 4000000) (hroom : c < ps.length + 1) (hv : w.heap[vb]? = some (.cells #[.string (bs x.k), .string (bs x.v)] 117 (0, 0))) (hB : B ≤ w.heap.size) :
    Calls Try.prog 78 #[.slice (some ⟨g, 0, none⟩) ps.length c, .int .i64 i, .slice (some ⟨vb, 0, none⟩) 1 1] w fun e w' => ∃ ao' c', e = .returned (.slice ao' (ps.length + 1) c') ∧ OwnIt B w' ao' c' (insI i x ps) ∧ w.grownBy w' (some g) ∧ (∀ q, (Value.slice ao' (ps.length + 1) c').ownBlock = some q → w.heap.size ≤ q) := by
  obtain ⟨g', cs, e0, hBg, hblk, hlc, hcm, hsz, htk⟩ := h.block (by simp)
  simp only [Option.some.injEq, Addr.mk.injEq, and_true] at e0
  subst e0
  obtain rfl : c = ps.length := by omega
  unfold maxLen at hcm
  obtain ⟨i0, hi0, hz0, hzs, hzb⟩ := info_parts Try.infoOwnIt
  have hz2 : ¬ ((i : Int) = (ps.length : Int)) := by omega
  have hz3 : (ps.length : Int) < (ps.length : Int) + 1 := by omega
  have hcells : ∀ j v, (itCells ps)[j]? = some v → w.cell? ⟨g, j, none⟩ = some v := fun j v hj => by
    have hlt : j < ps.length * 2 := by have := (List.getElem?_eq_some_iff.1 hj).1; rwa [itCells_len] at this
    rw [blk_cell hblk, ← hj, ← htk, List.getElem?_take, if_pos hlt, Array.getElem?_toList]
  have hbw : g < w.heap.size := lt_of_block hblk
  have hvw : vb < w.heap.size := lt_of_block hv
  have hkk : (ps.length : Int) + 1 - (i : Int) = ((ps.length + 1 - i : Nat) : Int) := by omega
  have hik : i + (ps.length + 1 - i) = ps.length + 1 := by omega
  have hold : (Builtin.firstCells i0.size i (.slice (some ⟨g, 0, none⟩) i ps.length)).run Try.prog w.drew = .ok (itCells (ps.take i)).toArray w.drew := by
    rw [hzs]
    exact run_firstCells_some w.drew 2 i ⟨g, 0, none⟩ i ps.length (itCells (ps.take i)) (by rw [itCells_len, List.length_take]; omega) (fun j v hj => by
      rw [Addr.add_lit]
      rw [itCells_take, List.getElem?_take] at hj
      split at hj
      · rw [Nat.zero_add]; exact hcells j v hj
      · cases hj)
  have hrz : ∀ ty, (Builtin.append_ #[102, 3] ty #[.slice (some ⟨g, 0, none⟩) i ps.length, .int .i64 ((ps.length : Int) + 1 - (i : Int))]).run Try.prog w =
      .ok (.slice (some ⟨w.heap.size, 0, none⟩) (ps.length + 1) (grownCap w (ps.length + 1) ps.length 117)) (w.drew.alloc (.cells ((itCells (ps.take i)).toArray ++ Builtin.zeroCells (Value.cells (.agg #[.string ⟨#[]⟩, .string ⟨#[]⟩])) (ps.length + 1 - i) ++ Builtin.zeroCells (Value.cells (.agg #[.string ⟨#[]⟩, .string ⟨#[]⟩])) (grownCap w (ps.length + 1) ps.length 117 - (ps.length + 1))) 117)) := fun ty => by
    have h := Lib.run_append_grow_zeros w 102 3 ty 117 i0 _ .i64 .i64 Try.underlying102 Try.underlying3 hi0 hz0 (some ⟨g, 0, none⟩) i ps.length (itCells (ps.take i)) hold (ps.length + 1 - i) (by omega) (by omega) (by omega) (by omega) (by rw [hzb]; omega) (by rw [hzb, hik]; exact growslice_fits (by omega) (by omega))
    rw [hik] at h
    rw [hkk]
    exact h
  obtain ⟨G, hG⟩ : ∃ G, G = grownCap w (ps.length + 1) ps.length 117 := ⟨_, rfl⟩
  obtain ⟨ROW, hROW⟩ : ∃ ROW : Array Value, ROW = (itCells (ps.take i)).toArray ++ Builtin.zeroCells (Value.cells (.agg #[.string ⟨#[]⟩, .string ⟨#[]⟩])) (ps.length + 1 - i) ++ Builtin.zeroCells (Value.cells (.agg #[.string ⟨#[]⟩, .string ⟨#[]⟩])) (G - (ps.length + 1)) := ⟨_, rfl⟩
  rw [← hG] at hrz
  rw [← hROW] at hrz
  have hGn : ps.length + 1 ≤ G := by rw [hG]; exact grownCap_ge w _ _ _
  have hG63 : G ≤ 9223372036854775807 := by
    have := grownCap_le_maxLen w (ps.length + 1) ps.length 117 (by unfold maxLen; omega)
    rw [← hG] at this
    unfold maxLen at this
    omega
  have htl : (itCells (ps.take i)).length = i * 2 := by rw [itCells_len, List.length_take, Nat.min_eq_left (by omega)]
  have hRl : ROW.size = G * 2 := by
    rw [hROW]
    simp [Builtin.zeroCells, Value.cells, htl]
    omega
  have hRk : ∀ j, j < i * 2 → ROW[j]? = (itCells ps)[j]? := fun j hj => by
    rw [hROW, Array.getElem?_append_left (by simp [Builtin.zeroCells, Value.cells, htl]; omega), Array.getElem?_append_left (by simp [htl]; omega)]
    simp only [List.getElem?_toArray]
    rw [itCells_take, List.getElem?_take, if_pos hj]
  obtain ⟨W1, hW1⟩ : ∃ W1, W1 = w.drew.alloc (.cells ROW 117) := ⟨_, rfl⟩
  rw [← hW1] at hrz
  have hB1 : W1.heap[w.heap.size]? = some (.cells ROW 117 (0, 0)) := by rw [hW1]; exact blk_new w.drew _
  have hgW : W1.heap[g]? = some (.cells cs 117 (0, 0)) := by rw [hW1]; exact blk_past (w := w.drew) hblk _
  have hvW : W1.heap[vb]? = some (.cells #[.string (bs x.k), .string (bs x.v)] 117 (0, 0)) := by rw [hW1]; exact blk_past (w := w.drew) hv _
  have hcpA : ∀ (W : World), (∀ y, W.cell? y = W1.cell? y) → (∀ y, W.frozen? y = W1.frozen? y) → ∀ ty dc, (Builtin.copy_ #[102, 102] ty #[.slice (some ⟨w.heap.size, i * 2, none⟩) (ps.length + 1 - i) dc, .slice (some ⟨vb, 0, none⟩) 1 1]).run Try.prog W = .ok (goInt ((1 : Nat) : Int)) (W.setCells w.heap.size (i * 2) [.string (bs x.k), .string (bs x.v)]) := fun W hWc hWf ty dc =>
    run_copyI W ty w.heap.size (i * 2) (ps.length + 1 - i) dc ⟨vb, 0, none⟩ 1 1 1 [.string (bs x.k), .string (bs x.v)] (by simp only [Nat.min_def]; split <;> omega) rfl
      (fun j v hj => by rw [Addr.add_lit, hWc, blk_cell hvW]; simpa using hj)
      (fun j hj => by rw [hWc, blk_cell hB1, Array.getElem?_eq_getElem (by simp at hj; omega)]; rfl)
      (fun j hj => by rw [hWf]; exact blk_free hB1 _) (fun u hu => by simp at hu; rcases hu with rfl | rfl <;> rfl)
  obtain ⟨cs2, b2, s2, g2⟩ := blk_setCellsK (b := w.heap.size) [.string (bs x.k), .string (bs x.v)] (i * 2) W1 ROW hB1
  have hgW2 : (W1.setCells w.heap.size (i * 2) [.string (bs x.k), .string (bs x.v)]).heap[g]? = some (.cells cs 117 (0, 0)) := by
    rw [(grownBy_setCellsK w.heap.size [.string (bs x.k), .string (bs x.v)] (i * 2) (grown_reflK W1 (some w.heap.size))).block g (lt_of_block hgW) (fun e => by have := Option.some.inj e; omega)]
    exact hgW
  have hdl : (itCells (ps.drop i)).length = (ps.length - i) * 2 := by rw [itCells_len, List.length_drop]
  have hcpB : ∀ (W : World), (∀ y, W.cell? y = (W1.setCells w.heap.size (i * 2) [.string (bs x.k), .string (bs x.v)]).cell? y) → (∀ y, W.frozen? y = (W1.setCells w.heap.size (i * 2) [.string (bs x.k), .string (bs x.v)]).frozen? y) → ∀ ty dc sc, (Builtin.copy_ #[102, 102] ty #[.slice (some ⟨w.heap.size, (i + 1) * 2, none⟩) (ps.length - i) dc, .slice (some ⟨g, i * 2, none⟩) (ps.length - i) sc]).run Try.prog W = .ok (goInt ((ps.length - i : Nat) : Int)) (W.setCells w.heap.size ((i + 1) * 2) (itCells (ps.drop i))) := fun W hWc hWf ty dc sc =>
    run_copyI W ty w.heap.size ((i + 1) * 2) (ps.length - i) dc ⟨g, i * 2, none⟩ (ps.length - i) sc (ps.length - i) (itCells (ps.drop i)) (by simp only [Nat.min_def]; split <;> omega) hdl
      (fun j v hj => by
        rw [itCells_drop, List.getElem?_drop] at hj
        rw [Addr.add_lit, hWc, blk_cell hgW2, ← blk_cell hblk]
        exact hcells _ v hj)
      (fun j hj => by rw [hdl] at hj; rw [hWc, blk_cell b2, Array.getElem?_eq_getElem (by omega)]; rfl)
      (fun j hj => by rw [hWf]; exact blk_free b2 _) (itCells_one _)
  have hGi : ¬ (G = i) := by omega
  have hGim : ¬ (G = i + 1) := by omega
  have hci : ¬ (ps.length = i) := by omega
  have hw1 : IntKind.i64.wrap ((i : Int) + 1) = (i : Int) + 1 := by rw [IntKind.wrap_i64]; omega
  have hb1 : (0 : Int) ≤ (i : Int) + 1 := by omega
  have hin : i ≤ ps.length := by omega
  have htn : ((i : Int) + 1).toNat = i + 1 := by omega
  have hb3 : (i : Int) ≤ (ps.length : Int) := by omega
  have mixed : Try.prog.follows Departure.mixedOrders = true := by kernel_rfl
  subst hW1
  have hE1 : ∀ y, ((w.alloc (.cells ROW 117)).drew).cell? y = (w.drew.alloc (.cells ROW 117)).cell? y := fun y => rfl
  have hE2 : ∀ y, ((w.alloc (.cells ROW 117)).drew).frozen? y = (w.drew.alloc (.cells ROW 117)).frozen? y := fun y => rfl
  have hF1 : ∀ y, (((w.alloc (.cells ROW 117)).drew.setCells w.heap.size (i * 2) [.string (bs x.k), .string (bs x.v)]).drew).cell? y = ((w.drew.alloc (.cells ROW 117)).setCells w.heap.size (i * 2) [.string (bs x.k), .string (bs x.v)]).cell? y := fun y => rfl
  have hF2 : ∀ y, (((w.alloc (.cells ROW 117)).drew.setCells w.heap.size (i * 2) [.string (bs x.k), .string (bs x.v)]).drew).frozen? y = ((w.drew.alloc (.cells ROW 117)).setCells w.heap.size (i * 2) [.string (bs x.k), .string (bs x.v)]).frozen? y := fun y => rfl
  have HTK : Hid (cs.toList.take (ps.length * 2) = itCells ps) := htk
  have HRK : Hid ((∀ j, j < i * 2 → ROW[j]? = (itCells ps)[j]?) ∧ ROW.size = G * 2 ∧ ps.length + 1 ≤ G ∧ G ≤ 9223372036854775807) := ⟨hRk, hRl, hGn, hG63⟩
  clear hkk hik hold hROW hG hRl hRk htk hcells hv h hgW hvW hgW2 b2 s2 g2 hB1
  go_enter Try.func78, Try.ntmps78
  go_wp2_with (first
    | (at_builtin; refine Lib.wpList_append_run _ rfl _ _ _ _ rfl _ _ rfl rfl _ _ (hrz _) ?_)
    | (at_builtin; refine wpList_copy_runI _ rfl _ _ 102 102 rfl _ _ rfl rfl (hcpA _ hE1 hE2 _ _) ?_)
    | (at_builtin; refine wpList_copy_runI _ rfl _ _ 102 102 rfl _ _ rfl rfl (hcpB _ (fun _ => rfl) (fun _ => rfl) _ _ _) ?_))
  go_region_law_o (refine step_copy_runI rfl _ _ 102 102 rfl (.slice (some ⟨w.heap.size, (i + 1) * 2, none⟩) (ps.length - i) (G - (i + 1))) (.slice (some ⟨g, i * 2, none⟩) (ps.length - i) (ps.length - i)) (by simp [Act.eval, Act.put]) (by simp [Act.eval, Act.put]) (hcpB _ hF1 hF2 3 (G - (i + 1)) (ps.length - i)) ?_)
  go_wp2
  go_ret
  obtain ⟨hRk, hRl, hGn, hG63⟩ := HRK.out
  have hV0 : ((w.alloc (.cells ROW 117)).drew).heap[w.heap.size]? = some (.cells ROW 117 (0, 0)) := blk_new w _
  obtain ⟨c2, b2, s2, g2⟩ := blk_setCellsK (b := w.heap.size) [.string (bs x.k), .string (bs x.v)] (i * 2) _ ROW hV0
  obtain ⟨c3, b3, s3, g3⟩ := blk_setCellsK (b := w.heap.size) (itCells (ps.drop i)) ((i + 1) * 2) ((w.alloc (.cells ROW 117)).drew.setCells w.heap.size (i * 2) [.string (bs x.k), .string (bs x.v)]).drew c2 b2
  have hg : w.grownBy (((w.alloc (.cells ROW 117)).drew.setCells w.heap.size (i * 2) [.string (bs x.k), .string (bs x.v)]).drew.setCells w.heap.size ((i + 1) * 2) (itCells (ps.drop i))) (some w.heap.size) := grownBy_setCellsK w.heap.size _ _ (grown_drewK (grownBy_setCellsK w.heap.size _ _ (grown_drewK (grown_allocK (grown_reflK w (some w.heap.size)) _))))
  refine ⟨some ⟨w.heap.size, 0, none⟩, G, rfl, ownI_of_blk hB b3 (by omega) (by unfold maxLen; omega) (by rw [insI_len (by omega)]; exact hGn) (fun j hj => ?_), ⟨hg.os, hg.tape, hg.output, hg.size, fun k hk _ => hg.block k hk (fun e => by have := Option.some.inj e; omega)⟩, fun q hq => by have : w.heap.size = q := (by simpa [Value.ownBlock] using hq); omega⟩
  rw [insI_len (by omega)] at hj
  rw [insI_cells (by omega), g3 j, g2 j]
  simp only [List.length_cons, List.length_nil]
  by_cases h1 : j < i * 2
  · rw [if_pos h1, if_neg (by omega), if_neg (by omega)]
    exact hRk j h1
  · rw [if_neg h1]
    by_cases h2 : j < i * 2 + 2
    · rw [if_pos h2, if_neg (by omega), if_pos (by omega)]
    · rw [if_neg h2, if_pos (by rw [hdl]; omega), itCells_drop, List.getElem?_drop]
      congr 1
      omega

theorem insertI_any (B c i vb : Nat) (ao : Option Addr) (ps : List Pr) (x : Pr) (w : World) (h : OwnIt B w ao c ps) (hi : i ≤ ps.length) (hn : ps.length < 4000000) (hv : w.heap[vb]? = some (.cells #[.string (bs x.k), .string (bs x.v)] 117 (0, 0))) (hne : ∀ a, ao = some a → a.block ≠ vb) (hB : B ≤ w.heap.size) :
    Calls Try.prog 78 #[.slice ao ps.length c, .int .i64 i, .slice (some ⟨vb, 0, none⟩) 1 1] w fun e w' => ∃ ao' c', e = .returned (.slice ao' (ps.length + 1) c') ∧ OwnIt B w' ao' c' (insI i x ps) ∧ w.grownBy w' (Value.slice ao ps.length c).ownBlock ∧ (∀ g, (Value.slice ao' (ps.length + 1) c').ownBlock = some g → (Value.slice ao ps.length c).ownBlock = some g ∨ w.heap.size ≤ g) := by
  by_cases hin : i = ps.length
  · subst hin
    rw [show insI ps.length x ps = ps ++ [x] by unfold insI; simp]
    exact insertI_end B c vb ao ps x w h hn hv hB
  · obtain ⟨g, rfl, _⟩ := h.cells (j := i) (by omega)
    by_cases hroom : ps.length + 1 ≤ c
    · exact (insertI_shift B c i vb g ps x w h (by omega) hn hroom hv (hne _ rfl)).mono fun e w' ⟨h1, h2, h3⟩ => ⟨_, _, h1, h2, h3, fun g hg => .inl (by simpa [Value.ownBlock] using hg)⟩
    · exact (insertI_grow B c i vb g ps x w h (by omega) hn (by omega) hv hB).mono fun e w' ⟨a, c, h1, h2, h3, h4⟩ => ⟨a, c, h1, h2, h3, fun g hg => .inr (h4 g hg)⟩

end Go.Proofs.Ytpfgnhockfofhaa
