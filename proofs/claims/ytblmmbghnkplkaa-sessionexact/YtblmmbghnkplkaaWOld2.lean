/-
  Joined: WSe8g, WSe8z, WSeC.
-/
import Derived.Test.YtblmmbghnkplkaaWSe8
import Derived.Test.YtblmmbghnkplkaaWSeB
/-
  slices.Insert of one session, where there is no room.
-/
namespace Go.Proofs.Ytblmmbghnkplkaa
open Go.RowKit

theorem cell_drewset (w : World) (o : Obj) (b off : Nat) (vs : List Value) (y : Addr) : (((w.alloc o).drew.setCells b off vs).drew).cell? y = ((w.drew.alloc o).setCells b off vs).cell? y := by
  have h : (w.alloc o).drew = w.drew.alloc o := rfl
  rw [h]
  rfl
theorem froz_drewset (w : World) (o : Obj) (b off : Nat) (vs : List Value) (y : Addr) : (((w.alloc o).drew.setCells b off vs).drew).frozen? y = ((w.drew.alloc o).setCells b off vs).frozen? y := by
  have h : (w.alloc o).drew = w.drew.alloc o := rfl
  rw [h]
  rfl

set_option maxRecDepth 100000 in
set_option maxHeartbeats 20000000 in
theorem insertE_grow (B c i vb g : Nat) (ps : List Se) (x : Se) (xc : List Value) (w : World) (h : OwnE B w (some ⟨g, 0, none⟩) c ps) (hi : i < ps.length) (hn : ps.length < 32) (hroom : c < ps.length + 1) (hxc : seCell x = xc) (hv : w.heap[vb]? = some (.cells xc.toArray 121 (0, 0))) (hB : B ≤ w.heap.size) :
    Calls Try.prog 163 #[.slice (some ⟨g, 0, none⟩) ps.length c, .int .i64 i, .slice (some ⟨vb, 0, none⟩) 1 1] w fun e w' => ∃ ao' c', e = .returned (.slice ao' (ps.length + 1) c') ∧ OwnE B w' ao' c' (insE i x ps) ∧ w.grownBy w' (some g) := by
  have hxl : xc.length = 7 := by rw [← hxc]; rfl
  have hx1 : ∀ v ∈ xc, v.oneCell' = true := by rw [← hxc]; exact seCell_one x
  obtain ⟨g', cs, e0, hBg, hblk, hlc, hcm, hsz, htk⟩ := h.block (by simp)
  simp only [Option.some.injEq, Addr.mk.injEq, and_true] at e0
  subst e0
  obtain rfl : c = ps.length := by omega
  unfold maxLen at hcm
  obtain ⟨i0, hi0, hz0, hzs, hzb⟩ := info_parts Try.infoSe
  have hz2 : ¬ ((i : Int) = (ps.length : Int)) := by omega
  have hz3 : (ps.length : Int) < (ps.length : Int) + 1 := by omega
  have hcells : ∀ j v, (seCells ps)[j]? = some v → w.cell? ⟨g, j, none⟩ = some v := fun j v hj => by
    have hlt : j < ps.length * 7 := by have := (List.getElem?_eq_some_iff.1 hj).1; rwa [seCells_len] at this
    rw [blk_cell hblk, ← hj, ← htk, List.getElem?_take, if_pos hlt, Array.getElem?_toList]
  have hbw : g < w.heap.size := lt_of_block hblk
  have hvw : vb < w.heap.size := lt_of_block hv
  have hkk : (ps.length : Int) + 1 - (i : Int) = ((ps.length + 1 - i : Nat) : Int) := by omega
  have hik : i + (ps.length + 1 - i) = ps.length + 1 := by omega
  have hold : (Builtin.firstCells i0.size i (.slice (some ⟨g, 0, none⟩) i ps.length)).run Try.prog w.drew = .ok (seCells (ps.take i)).toArray w.drew := by
    rw [hzs]
    exact run_firstCells_some w.drew 7 i ⟨g, 0, none⟩ i ps.length (seCells (ps.take i)) (by rw [seCells_len, List.length_take]; omega) (fun j v hj => by
      rw [Addr.add_lit]
      rw [seCells_take, List.getElem?_take] at hj
      split at hj
      · rw [Nat.zero_add]; exact hcells j v hj
      · cases hj)
  have hrz : ∀ ty, (Builtin.append_ #[68, 3] ty #[.slice (some ⟨g, 0, none⟩) i ps.length, .int .i64 ((ps.length : Int) + 1 - (i : Int))]).run Try.prog w =
      .ok (.slice (some ⟨w.heap.size, 0, none⟩) (ps.length + 1) (grownCap w (ps.length + 1) ps.length 121)) (w.drew.alloc (.cells ((seCells (ps.take i)).toArray ++ Builtin.zeroCells (Value.cells (.agg #[.int .i64 0, .int .i64 0, .int .i64 0, .string ⟨#[]⟩, .int .i64 0, .slice none 0 0, .int .i64 0])) (ps.length + 1 - i) ++ Builtin.zeroCells (Value.cells (.agg #[.int .i64 0, .int .i64 0, .int .i64 0, .string ⟨#[]⟩, .int .i64 0, .slice none 0 0, .int .i64 0])) (grownCap w (ps.length + 1) ps.length 121 - (ps.length + 1))) 121)) := fun ty => by
    have h := Lib.run_append_grow_zeros w 68 3 ty 121 i0 _ .i64 .i64 Try.underlying68 Try.underlying3 hi0 hz0 (some ⟨g, 0, none⟩) i ps.length (seCells (ps.take i)) hold (ps.length + 1 - i) (by omega) (by omega) (by omega) (by omega) (by rw [hzb]; omega) (by rw [hzb, hik]; exact growslice_fits (by omega) (by omega))
    rw [hik] at h
    rw [hkk]
    exact h
  obtain ⟨G, hG⟩ : ∃ G, G = grownCap w (ps.length + 1) ps.length 121 := ⟨_, rfl⟩
  obtain ⟨ROW, hROW⟩ : ∃ ROW : Array Value, ROW = (seCells (ps.take i)).toArray ++ Builtin.zeroCells (Value.cells (.agg #[.int .i64 0, .int .i64 0, .int .i64 0, .string ⟨#[]⟩, .int .i64 0, .slice none 0 0, .int .i64 0])) (ps.length + 1 - i) ++ Builtin.zeroCells (Value.cells (.agg #[.int .i64 0, .int .i64 0, .int .i64 0, .string ⟨#[]⟩, .int .i64 0, .slice none 0 0, .int .i64 0])) (G - (ps.length + 1)) := ⟨_, rfl⟩
  rw [← hG] at hrz
  rw [← hROW] at hrz
  have hGn : ps.length + 1 ≤ G := by rw [hG]; exact grownCap_ge w _ _ _
  have hG63 : G ≤ 9223372036854775807 := by
    have := grownCap_le_maxLen w (ps.length + 1) ps.length 121 (by unfold maxLen; omega)
    rw [← hG] at this
    unfold maxLen at this
    omega
  have htl : (seCells (ps.take i)).length = i * 7 := by rw [seCells_len, List.length_take, Nat.min_eq_left (by omega)]
  have hRl : ROW.size = G * 7 := by
    rw [hROW]
    simp [Builtin.zeroCells, Value.cells, htl]
    omega
  have hRk : ∀ j, j < i * 7 → ROW[j]? = (seCells ps)[j]? := fun j hj => by
    rw [hROW, Array.getElem?_append_left (by simp [Builtin.zeroCells, Value.cells, htl]; omega), Array.getElem?_append_left (by simp [htl]; omega)]
    simp only [List.getElem?_toArray]
    rw [seCells_take, List.getElem?_take, if_pos hj]
  obtain ⟨W1, hW1⟩ : ∃ W1, W1 = w.drew.alloc (.cells ROW 121) := ⟨_, rfl⟩
  rw [← hW1] at hrz
  have hB1 : W1.heap[w.heap.size]? = some (.cells ROW 121 (0, 0)) := by rw [hW1]; exact blk_new w.drew _
  have hgW : W1.heap[g]? = some (.cells cs 121 (0, 0)) := by rw [hW1]; exact blk_past (w := w.drew) hblk _
  have hvW : W1.heap[vb]? = some (.cells xc.toArray 121 (0, 0)) := by rw [hW1]; exact blk_past (w := w.drew) hv _
  have hcpA : ∀ (W : World), (∀ y, W.cell? y = W1.cell? y) → (∀ y, W.frozen? y = W1.frozen? y) → ∀ ty dc, (Builtin.copy_ #[68, 68] ty #[.slice (some ⟨w.heap.size, i * 7, none⟩) (ps.length + 1 - i) dc, .slice (some ⟨vb, 0, none⟩) 1 1]).run Try.prog W = .ok (goInt ((1 : Nat) : Int)) (W.setCells w.heap.size (i * 7) xc) := fun W hWc hWf ty dc =>
    run_copy7 W ty w.heap.size (i * 7) (ps.length + 1 - i) dc ⟨vb, 0, none⟩ 1 1 1 xc (by simp only [Nat.min_def]; split <;> omega) (by rw [hxl])
      (fun j v hj => by rw [Addr.add_lit, hWc, blk_cell hvW]; simpa using hj)
      (fun j hj => by rw [hWc, blk_cell hB1, Array.getElem?_eq_getElem (by rw [hxl] at hj; omega)]; rfl)
      (fun j hj => by rw [hWf]; exact blk_free hB1 _) hx1
  obtain ⟨cs2, b2, s2, g2⟩ := blk_setCellsK (b := w.heap.size) xc (i * 7) W1 ROW hB1
  have hgW2 : (W1.setCells w.heap.size (i * 7) xc).heap[g]? = some (.cells cs 121 (0, 0)) := by
    rw [(grownBy_setCellsK w.heap.size xc (i * 7) (grown_reflK W1 (some w.heap.size))).block g (lt_of_block hgW) (fun e => by have := Option.some.inj e; omega)]
    exact hgW
  have hdl : (seCells (ps.drop i)).length = (ps.length - i) * 7 := by rw [seCells_len, List.length_drop]
  have hcpB : ∀ (W : World), (∀ y, W.cell? y = (W1.setCells w.heap.size (i * 7) xc).cell? y) → (∀ y, W.frozen? y = (W1.setCells w.heap.size (i * 7) xc).frozen? y) → ∀ ty dc sc, (Builtin.copy_ #[68, 68] ty #[.slice (some ⟨w.heap.size, (i + 1) * 7, none⟩) (ps.length - i) dc, .slice (some ⟨g, i * 7, none⟩) (ps.length - i) sc]).run Try.prog W = .ok (goInt ((ps.length - i : Nat) : Int)) (W.setCells w.heap.size ((i + 1) * 7) (seCells (ps.drop i))) := fun W hWc hWf ty dc sc =>
    run_copy7 W ty w.heap.size ((i + 1) * 7) (ps.length - i) dc ⟨g, i * 7, none⟩ (ps.length - i) sc (ps.length - i) (seCells (ps.drop i)) (by simp only [Nat.min_def]; split <;> omega) hdl
      (fun j v hj => by
        rw [seCells_drop, List.getElem?_drop] at hj
        rw [Addr.add_lit, hWc, blk_cell hgW2, ← blk_cell hblk]
        exact hcells _ v hj)
      (fun j hj => by rw [hdl] at hj; rw [hWc, blk_cell b2, Array.getElem?_eq_getElem (by omega)]; rfl)
      (fun j hj => by rw [hWf]; exact blk_free b2 _) (seCells_one _)
  have hGi : ¬ (G = i) := by omega
  have hGim : ¬ (G = i + 1) := by omega
  have hci : ¬ (ps.length = i) := by omega
  have hw1 : IntKind.i64.wrap ((i : Int) + 1) = (i : Int) + 1 := by rw [IntKind.wrap_i64]; omega
  have hb1 : (0 : Int) ≤ (i : Int) + 1 := by omega
  have hin : i ≤ ps.length := by omega
  have htn : ((i : Int) + 1).toNat = i + 1 := by omega
  have hb3 : (i : Int) ≤ (ps.length : Int) := by omega
  have mixed : Try.prog.follows Departure.mixedOrders = true := by kernel_rfl
  subst hW1
  have hE1 : ∀ y, ((w.alloc (.cells ROW 121)).drew).cell? y = (w.drew.alloc (.cells ROW 121)).cell? y := fun y => rfl
  have hE2 : ∀ y, ((w.alloc (.cells ROW 121)).drew).frozen? y = (w.drew.alloc (.cells ROW 121)).frozen? y := fun y => rfl
  have hF1 : ∀ y, (((w.alloc (.cells ROW 121)).drew.setCells w.heap.size (i * 7) xc).drew).cell? y = ((w.drew.alloc (.cells ROW 121)).setCells w.heap.size (i * 7) xc).cell? y := fun y => cell_drewset w _ _ _ _ y
  have hF2 : ∀ y, (((w.alloc (.cells ROW 121)).drew.setCells w.heap.size (i * 7) xc).drew).frozen? y = ((w.drew.alloc (.cells ROW 121)).setCells w.heap.size (i * 7) xc).frozen? y := fun y => froz_drewset w _ _ _ _ y
  have HTK : Hid (cs.toList.take (ps.length * 7) = seCells ps) := htk
  have HRK : Hid ((∀ j, j < i * 7 → ROW[j]? = (seCells ps)[j]?) ∧ ROW.size = G * 7 ∧ ps.length + 1 ≤ G ∧ G ≤ 9223372036854775807) := ⟨hRk, hRl, hGn, hG63⟩
  clear hkk hik hold hROW hG hRl hRk htk hcells hv h hgW hvW hgW2 b2 s2 g2 hB1
  go_enter Try.func163, Try.ntmps163
  go_wp2_with (first
    | (at_builtin; refine Lib.wpList_append_run _ rfl _ _ _ _ rfl _ _ rfl rfl _ _ (hrz _) ?_)
    | (at_builtin; refine wpList_copy_runI _ rfl _ _ 68 68 rfl _ _ rfl rfl (hcpA _ hE1 hE2 _ _) ?_)
    | (at_builtin; refine wpList_copy_runI _ rfl _ _ 68 68 rfl _ _ rfl rfl (hcpB _ hF1 hF2 _ _ _) ?_))
  go_region_law_o (refine step_copy_runI rfl _ _ 68 68 rfl (.slice (some ⟨w.heap.size, (i + 1) * 7, none⟩) (ps.length - i) (G - (i + 1))) (.slice (some ⟨g, i * 7, none⟩) (ps.length - i) (ps.length - i)) (by simp [Act.eval, Act.put]) (by simp [Act.eval, Act.put]) (hcpB _ hF1 hF2 3 (G - (i + 1)) (ps.length - i)) ?_)
  go_wp2
  go_ret
  obtain ⟨hRk, hRl, hGn, hG63⟩ := HRK.out
  have hV0 : ((w.alloc (.cells ROW 121)).drew).heap[w.heap.size]? = some (.cells ROW 121 (0, 0)) := blk_new w _
  obtain ⟨c2, b2, s2, g2⟩ := blk_setCellsK (b := w.heap.size) xc (i * 7) _ ROW hV0
  obtain ⟨c3, b3, s3, g3⟩ := blk_setCellsK (b := w.heap.size) (seCells (ps.drop i)) ((i + 1) * 7) ((w.alloc (.cells ROW 121)).drew.setCells w.heap.size (i * 7) xc).drew c2 b2
  have hg : w.grownBy (((w.alloc (.cells ROW 121)).drew.setCells w.heap.size (i * 7) xc).drew.setCells w.heap.size ((i + 1) * 7) (seCells (ps.drop i))) (some w.heap.size) := grownBy_setCellsK w.heap.size _ _ (grown_drewK (grownBy_setCellsK w.heap.size _ _ (grown_drewK (grown_allocK (grown_reflK w (some w.heap.size)) _))))
  refine ⟨some ⟨w.heap.size, 0, none⟩, G, rfl, ownE_of_blk hB b3 (by omega) (by unfold maxLen; omega) (by rw [insE_len (by omega)]; exact hGn) (fun j hj => ?_), ⟨hg.os, hg.tape, hg.output, hg.size, fun k hk _ => hg.block k hk (fun e => by have := Option.some.inj e; omega)⟩⟩
  rw [insE_len (by omega)] at hj
  have hIC := insE_cells (x := x) (ps := ps) (i := i) (by omega) j
  rw [show ([.int .i64 x.s.cl, .int .i64 x.s.ls, .int .i64 x.s.kd, .string (bs x.s.val), .int .i64 x.s.ver, .slice x.ao x.s.ks.length x.c, .int .i64 x.s.sn] : List Value) = xc from hxc] at hIC
  rw [hIC, g3 j, g2 j, hxl]
  by_cases h1 : j < i * 7
  · rw [if_pos h1, if_neg (by omega), if_neg (by omega)]
    exact hRk j h1
  · rw [if_neg h1]
    by_cases h2 : j < i * 7 + 7
    · rw [if_pos h2, if_neg (by omega), if_pos (by omega)]
    · rw [if_neg h2, if_pos (by rw [hdl]; omega), seCells_drop, List.getElem?_drop]
      exact congrArg (fun q => (seCells ps)[q]?) (by omega)

end Go.Proofs.Ytblmmbghnkplkaa

/-
  slices.Insert of one session.
-/
namespace Go.Proofs.Ytblmmbghnkplkaa
open Go.RowKit

theorem insertE_any (B c i vb : Nat) (ao : Option Addr) (ps : List Se) (x : Se) (w : World) (h : OwnE B w ao c ps) (hi : i ≤ ps.length) (hn : ps.length < 32) (hv : w.heap[vb]? = some (.cells #[.int .i64 x.s.cl, .int .i64 x.s.ls, .int .i64 x.s.kd, .string (bs x.s.val), .int .i64 x.s.ver, .slice x.ao x.s.ks.length x.c, .int .i64 x.s.sn] 121 (0, 0))) (hne : ∀ a, ao = some a → a.block ≠ vb) (hB : B ≤ w.heap.size) :
    Calls Try.prog 163 #[.slice ao ps.length c, .int .i64 i, .slice (some ⟨vb, 0, none⟩) 1 1] w fun e w' => ∃ ao' c', e = .returned (.slice ao' (ps.length + 1) c') ∧ OwnE B w' ao' c' (insE i x ps) ∧ w.grownBy w' (Value.slice ao ps.length c).ownBlock := by
  by_cases hin : i = ps.length
  · subst hin
    rw [show insE ps.length x ps = ps ++ [x] by unfold insE; simp]
    exact insertE_end B c vb ao ps x w h hn hv hB
  · obtain ⟨g, _, rfl, _⟩ := h.block (fun e => by rw [e] at h; have h9 := h.noneE.1; exact hin (by rw [h9] at hi ⊢; simpa using hi))
    by_cases hroom : ps.length + 1 ≤ c
    · exact (insertE_shift B c i vb g ps x w h (by omega) hn hroom hv (hne _ rfl)).mono fun e w' ⟨h1, h2, h3⟩ => ⟨_, _, h1, h2, h3⟩
    · exact insertE_grow B c i vb g ps x (seCell x) w h (by omega) hn (by omega) rfl hv hB

end Go.Proofs.Ytblmmbghnkplkaa

/-
  Sessions: a session is opened.
-/
namespace Go.Proofs.Ytblmmbghnkplkaa
open Go.RowKit

def minFromS (m : Ss) : List Ss → Ss
  | [] => m
  | e :: t => minFromS (if e.sn < m.sn then e else m) t
def oldS : List Ss → Int
  | [] => 0
  | e :: t => (minFromS e t).cl
theorem minFrom_map : ∀ (t : List Se) (m : Se), (minFrom m t).s = minFromS m.s (t.map Se.s)
  | [], m => rfl
  | e :: t, m => by
    show (minFrom (if e.s.sn < m.s.sn then e else m) t).s = minFromS (if e.s.sn < m.s.sn then e.s else m.s) (t.map Se.s)
    rw [minFrom_map t]
    congr 1
    split <;> rfl
theorem oldE_map (es : List Se) : oldE es = oldS (es.map Se.s) := by
  cases es with
  | nil => rfl
  | cons e t =>
    show (minFrom e t).s.cl = (minFromS e.s (t.map Se.s)).cl
    rw [minFrom_map]
def roomS (ss : List Ss) : List Ss := if ss.length < 8 then ss else ss.filter fun f => !decide (f.cl = oldS ss)
def newS (cl tm : Int) : Ss := ⟨cl, 0, 0, [], 0, [], tm⟩
def insS (i : Nat) (x : Ss) (ss : List Ss) : List Ss := ss.take i ++ x :: ss.drop i
theorem roomE_map (es : List Se) : (roomE es).map Se.s = roomS (es.map Se.s) := by
  unfold roomE roomS
  rw [List.length_map]
  split
  · rfl
  · rw [oldE_map, List.filter_map]
    rfl
theorem insE_map (i : Nat) (x : Se) (es : List Se) : (insE i x es).map Se.s = insS i x.s (es.map Se.s) := by
  unfold insE insS
  rw [List.map_append, List.map_cons, List.map_take, List.map_drop]
/-- A session is opened. -/
def openT (ps : List Pr) (ss : List Ss) (tm cl : Int) : List Pr × List Ss × Rr :=
  if isS cl ss = true ∨ isCnt cl = false then (ps, ss, rr0 5) else
  (ps, insS (lowS cl (roomS ss)) (newS cl tm) (roomS ss), ⟨1, [], cl, []⟩)

end Go.Proofs.Ytblmmbghnkplkaa
