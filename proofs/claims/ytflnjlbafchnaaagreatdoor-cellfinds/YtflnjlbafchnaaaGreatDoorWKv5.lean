/-
  slices.Delete of one pair.
-/
import Derived.Test.YtflnjlbafchnaaaGreatDoorWKv4
namespace Go.Proofs.YtflnjlbafchnaaaGreatDoor
open Go.RowKit

theorem run_clearP1 (w : World) (ty : TypeId) (b o c : Nat) (hc : ∀ j, j < 3 → (w.cell? ⟨b, o + j, none⟩).isSome = true) (hf : ∀ j, j < 3 → w.frozen? ⟨b, o + j, none⟩ = false) :
    (Builtin.clear_ #[55] ty #[.slice (some ⟨b, o, none⟩) 1 c]).run Tryz.prog w = .ok (.tuple #[]) (w.setCells b o [.string ⟨#[]⟩, .string ⟨#[]⟩, .int .i64 0]) := by
  have hst := run_storeCells_cells (P := Tryz.prog) b o [.string ⟨#[]⟩, .string ⟨#[]⟩, .int .i64 0] 0 w (by simpa using hc) (by simpa using hf) (by intro v hv'; simp at hv'; rcases hv' with rfl | rfl | rfl <;> rfl)
  simp only [Nat.add_zero] at hst
  have hz : (Builtin.zeroCells (Value.agg #[.string ⟨#[]⟩, .string ⟨#[]⟩, .int .i64 0]).cells 1).toList = [.string ⟨#[]⟩, .string ⟨#[]⟩, .int .i64 0] := by
    simp [Builtin.zeroCells, Value.cells, List.range, List.range.loop]
  simp [Builtin.clear_, run_underlying Tryz.underlying55, hz, hst]
def delP (i : Nat) (ps : List Pr) : List Pr := ps.take i ++ ps.drop (i + 1)
theorem delP_len {i : Nat} {ps : List Pr} (hi : i < ps.length) : (delP i ps).length = ps.length - 1 := by
  unfold delP
  rw [List.length_append, List.length_take, List.length_drop]
  omega
theorem delP_cells {i : Nat} {ps : List Pr} (hi : i < ps.length) (j : Nat) : (kvCells (delP i ps))[j]? = if j < i * 3 then (kvCells ps)[j]? else (kvCells ps)[j + 3]? := by
  have hl : (kvCells (ps.take i)).length = i * 3 := by rw [kvCells_len, List.length_take, Nat.min_eq_left (by omega)]
  unfold delP
  rw [kvCells_app, List.getElem?_append, hl]
  split
  · rename_i hj
    rw [kvCells_take, List.getElem?_take, if_pos hj]
  · rw [kvCells_drop, List.getElem?_drop]
    congr 1
    omega

set_option maxRecDepth 100000 in
set_option maxHeartbeats 4000000 in
theorem deleteP_any (B c i : Nat) (ao : Option Addr) (ps : List Pr) (w : World) (h : OwnP B w ao c ps) (hi : i < ps.length) (hn : ps.length ≤ 32) :
    Calls Tryz.prog 150 #[.slice ao ps.length c, .int .i64 i, .int .i64 (i + 1)] w fun e w' => e = .returned (.slice ao (ps.length - 1) c) ∧ OwnP B w' ao c (delP i ps) ∧ w.grownBy w' (Value.slice ao ps.length c).ownBlock := by
  obtain ⟨g, rfl, _, _, _⟩ := h.cells (by omega)
  obtain ⟨g', cs, e0, hBg, hblk, hlc, hcm, hsz, htk⟩ := h.block (by simp)
  simp only [Option.some.injEq, Addr.mk.injEq, and_true] at e0
  subst e0
  unfold maxLen at hcm
  obtain ⟨i0, hi0, hz0, hzs, hzb⟩ := info_parts Tryz.infoPr
  have hcells : ∀ j v, (kvCells ps)[j]? = some v → w.cell? ⟨g, j, none⟩ = some v := fun j v hj => by
    have hlt : j < ps.length * 3 := by have := (List.getElem?_eq_some_iff.1 hj).1; rwa [kvCells_len] at this
    rw [blk_cell hblk, ← hj, ← htk, List.getElem?_take, if_pos hlt, Array.getElem?_toList]
  have hsp : ∀ j, j < c * 3 → (w.cell? ⟨g, j, none⟩).isSome = true := fun j hj => by rw [blk_cell hblk, Array.getElem?_eq_getElem (by omega)]; rfl
  have hdl : (kvCells (ps.drop (i + 1))).length = (ps.length - (i + 1)) * 3 := by rw [kvCells_len, List.length_drop]
  obtain ⟨W1, hW1⟩ : ∃ W1, W1 = w.drew.setCells g (i * 3) (kvCells (ps.drop (i + 1))) := ⟨_, rfl⟩
  obtain ⟨cs1, b1, s1, g1⟩ := blk_setCellsK (b := g) (kvCells (ps.drop (i + 1))) (i * 3) w.drew cs hblk
  rw [← hW1] at b1
  have hcl : ∀ (W : World), (∀ y, W.cell? y = W1.cell? y) → (∀ y, W.frozen? y = W1.frozen? y) → ∀ ty, (Builtin.clear_ #[55] ty #[.slice (some ⟨g, (ps.length - 1) * 3, none⟩) 1 (c - (ps.length - 1))]).run Tryz.prog W = .ok (.tuple #[]) (W.setCells g ((ps.length - 1) * 3) [.string ⟨#[]⟩, .string ⟨#[]⟩, .int .i64 0]) := fun W hWc hWf ty =>
    run_clearP1 W ty g ((ps.length - 1) * 3) (c - (ps.length - 1)) (fun j hj => by rw [hWc, blk_cell b1, Array.getElem?_eq_getElem (by omega)]; rfl) (fun j hj => by rw [hWf]; exact blk_free b1 _)
  have mixed : Tryz.prog.follows Departure.mixedOrders = true := by kernel_rfl
  have HB1 : Hid (W1.heap[g]? = some (.cells cs1 63 (0, 0)) ∧ cs1.size = cs.size ∧ ∀ j, cs1[j]? = if i * 3 ≤ j ∧ j < i * 3 + (kvCells (ps.drop (i + 1))).length ∧ j < cs.size then (kvCells (ps.drop (i + 1)))[j - i * 3]? else cs[j]?) := ⟨b1, s1, g1⟩
  have HW1 : Hid (W1 = w.drew.setCells g (i * 3) (kvCells (ps.drop (i + 1)))) := hW1
  have HTK : Hid (cs.toList.take (ps.length * 3) = kvCells ps) := htk
  have hs1 : ∀ j u, (kvCells (ps.drop (i + 1)))[j]? = some u → w.cell? ((⟨g, (i + 1) * 3, none⟩ : Addr).add j) = some u := fun j v hj => by rw [kvCells_drop, List.getElem?_drop] at hj; rw [Addr.add_lit]; exact hcells _ v hj
  have hs2 : ∀ j, j < (kvCells (ps.drop (i + 1))).length → (w.cell? ⟨g, 0 + i * 3 + j, none⟩).isSome = true ∧ w.frozen? ⟨g, 0 + i * 3 + j, none⟩ = false := fun j hj => by rw [hdl] at hj; exact ⟨hsp _ (by omega), blk_free hblk _⟩
  have hb0 : ¬ (i : Int) = (i : Int) + 1 := by omega
  have hb1 : (0 : Int) ≤ (i : Int) + 1 := by omega
  have hb3 : (i : Int) ≤ (i : Int) + 1 := by omega
  have hb4 : (i : Int) + 1 ≤ (ps.length : Int) := by omega
  have hb5 : (ps.length : Int) ≤ (c : Int) := by omega
  have htn : ((i : Int) + 1).toNat = i + 1 := by omega
  have hin : i ≤ ps.length := by omega
  have hic : i ≤ c := by omega
  have hsum : i + (ps.length - (i + 1)) = ps.length - 1 := by omega
  clear hW1 b1 s1 g1 h htk hsp hcells
  have he1 : ps.length - (ps.length - 1) = 1 := by omega
  have he2 : ((ps.length - 1 : Nat) : Int) ≤ (ps.length : Int) := by omega
  have he3 : ¬ (c = ps.length - 1) := by omega
  have he4 : ps.length - 1 ≤ ps.length := by omega
  have he5 : ps.length - 1 ≤ c := by omega
  have he6 : 0 + i * 3 = i * 3 := by omega
  have hcl1 : ∀ ty, (Builtin.clear_ #[55] ty #[.slice (some ⟨g, (ps.length - 1) * 3, none⟩) 1 (c - (ps.length - 1))]).run Tryz.prog (w.drew.setCells g (i * 3) (kvCells (ps.drop (i + 1)))) = .ok (.tuple #[]) ((w.drew.setCells g (i * 3) (kvCells (ps.drop (i + 1)))).setCells g ((ps.length - 1) * 3) [.string ⟨#[]⟩, .string ⟨#[]⟩, .int .i64 0]) := hcl _ (fun _ => by rw [HW1.out]) (fun _ => by rw [HW1.out])
  clear hcl
  by_cases hci : c = i + 1
  · have hps : ps.length = i + 1 := by omega
    have hs1' : ∀ j u, (kvCells (ps.drop (i + 1)))[j]? = some u → w.cell? ((⟨g, 0, none⟩ : Addr).add j) = some u := fun j v hj => by
      have := (List.getElem?_eq_some_iff.1 hj).1
      rw [hdl] at this
      omega
    have HPS : Hid (ps.length = i + 1) := hps
    clear hps
    subst hci
    rw [HPS.out, Nat.add_sub_cancel] at hcl1
    rw [HPS.out, Nat.add_sub_cancel]
    clear he1 he2 he3 he4 he5 hsum hb4 hb5 hin hic hlc
    have hj1 : i + 1 - i = 1 := by omega
    rw [hj1] at hcl1
    have hj2 : ¬ (i + 1 = i) := by omega
    have hi' : i < i + 1 := by omega
    have hd0 : (kvCells (ps.drop (i + 1))).length = 0 * 3 := by rw [hdl, HPS.out]; omega
    have HI : Hid (i < ps.length ∧ ps.length ≤ 32) := ⟨hi, hn⟩
    clear hi hn
    go_enter Tryz.func150, Tryz.ntmps150
    go_wp2
    go_region_law_o (refine step_append_room rfl _ _ 55 rfl 63 i0 3 Tryz.underlying55 hi0 hzs g 0 i (i + 1) (by simp [Act.eval, Act.put]) ⟨g, 0, none⟩ 0 0 (kvCells (ps.drop (i + 1))) (by simp [Act.eval, Act.put]) hd0 hs1' (kvCells_one _) (by omega) hs2 ?_)
    go_wp2
    go_ret
    obtain ⟨hi, hn⟩ := HI.out
    have hps := HPS.out
    obtain ⟨b1, s1, g1⟩ := HB1.out
    rw [← HW1.out]
    obtain ⟨cs2, b2, s2, g2⟩ := blk_setCellsK (b := g) [.string ⟨#[]⟩, .string ⟨#[]⟩, .int .i64 0] (i * 3) W1 cs1 b1
    refine ⟨rfl, ?_, ?_⟩
    · have hown := ownP_of_blk (c := i + 1) (ps := delP i ps) hBg b2 (by omega) (by unfold maxLen; omega) (by rw [delP_len hi]; omega) (fun j hj => by
        rw [delP_len hi] at hj
        rw [delP_cells hi, g2 j, g1 j]
        have hcj : ∀ q, q < ps.length * 3 → cs[q]? = (kvCells ps)[q]? := fun q hq => by
          have := congrArg (fun l => l[q]?) HTK.out
          simpa only [List.getElem?_take, if_pos hq, Array.getElem?_toList] using this
        simp only [List.length_cons, List.length_nil]
        rw [if_neg (by omega)]
        by_cases h1 : j < i * 3
        · rw [if_pos h1, if_neg (by omega)]
          exact hcj j (by omega)
        · rw [if_neg h1, if_pos (by rw [hdl]; omega), kvCells_drop, List.getElem?_drop]
          congr 1
          omega)
      exact hown
    · refine grownBy_setCellsK g _ _ ?_
      rw [HW1.out]
      exact grownBy_setCellsK g _ _ (grown_drewK (grown_reflK _ _))
  go_enter Tryz.func150, Tryz.ntmps150
  go_wp2
  go_region_law_o (refine step_append_room rfl _ _ 55 rfl 63 i0 3 Tryz.underlying55 hi0 hzs g 0 i c (by simp [Act.eval, Act.put]) ⟨g, (i + 1) * 3, none⟩ (ps.length - (i + 1)) (c - (i + 1)) (kvCells (ps.drop (i + 1))) (by simp [Act.eval, Act.put]) hdl hs1 (kvCells_one _) (by omega) hs2 ?_)
  go_wp2
  go_ret
  obtain ⟨b1, s1, g1⟩ := HB1.out
  rw [← HW1.out]
  obtain ⟨cs2, b2, s2, g2⟩ := blk_setCellsK (b := g) [.string ⟨#[]⟩, .string ⟨#[]⟩, .int .i64 0] ((ps.length - 1) * 3) W1 cs1 b1
  refine ⟨rfl, ?_, ?_⟩
  · have hown := ownP_of_blk (c := c) (ps := delP i ps) hBg b2 (by omega) (by unfold maxLen; omega) (by rw [delP_len hi]; omega) (fun j hj => by
      rw [delP_len hi] at hj
      rw [delP_cells hi, g2 j, g1 j]
      have hcj : ∀ q, q < ps.length * 3 → cs[q]? = (kvCells ps)[q]? := fun q hq => by
        have := congrArg (fun l => l[q]?) HTK.out
        simpa only [List.getElem?_take, if_pos hq, Array.getElem?_toList] using this
      simp only [List.length_cons, List.length_nil]
      rw [if_neg (by omega)]
      by_cases h1 : j < i * 3
      · rw [if_pos h1, if_neg (by omega)]
        exact hcj j (by omega)
      · rw [if_neg h1, if_pos (by rw [hdl]; omega), kvCells_drop, List.getElem?_drop]
        congr 1
        omega)
    exact hown
  · refine grownBy_setCellsK g _ _ ?_
    rw [HW1.out]
    exact grownBy_setCellsK g _ _ (grown_drewK (grown_reflK _ _))

end Go.Proofs.YtflnjlbafchnaaaGreatDoor
