/-
  Files are thinned: slices.DeleteFunc over the closure of the names that go.
-/
import Derived.Test.YtnmkccdcgmajgaaWAct2
import Derived.Test.YtnmkccdcgmajgaaWChg1
namespace Go.Proofs.Ytnmkccdcgmajgaa
open Go.RowKit

/-- The block that a row begins in. -/
def Blk (ao : Option Addr) (k : Nat) (_ : Obj) : Prop := ∃ a, ao = some a ∧ a.block = k
theorem zeroFi_cells (n : Nat) : (Builtin.zeroCells (Value.agg #[.string ⟨#[]⟩, .string ⟨#[]⟩]).cells n).toList = List.replicate (n * 2) (.string ⟨#[]⟩) := by
  apply List.ext_getElem
  · simp [Builtin.zeroCells, Value.cells]
  · intro i h1 h2
    simp [Builtin.zeroCells, Value.cells]
    have : i % 2 = 0 ∨ i % 2 = 1 := by omega
    rcases this with e | e <;> simp [e]
theorem run_clearFi (w : World) (ty : TypeId) (b o n c : Nat) (hn : 0 < n) (hc : ∀ j, j < n * 2 → (w.cell? ⟨b, o + j, none⟩).isSome = true) (hf : ∀ j, j < n * 2 → w.frozen? ⟨b, o + j, none⟩ = false) :
    (Builtin.clear_ #[83] ty #[.slice (some ⟨b, o, none⟩) n c]).run Try.prog w = .ok (.tuple #[]) (w.setCells b o (List.replicate (n * 2) (.string ⟨#[]⟩))) := by
  have hst := run_storeCells_cells (P := Try.prog) b o (List.replicate (n * 2) (.string ⟨#[]⟩)) 0 w (by simpa using hc) (by simpa using hf) (by intro v hv'; rw [List.eq_of_mem_replicate hv']; rfl)
  simp only [Nat.add_zero] at hst
  obtain ⟨m, rfl⟩ : ∃ m, n = m + 1 := ⟨n - 1, by omega⟩
  have hz := zeroFi_cells (m + 1)
  simp [Builtin.clear_, run_underlying Try.underlying83, hz, hst]
/-- The first ones of a row of one's own, whatever becomes of the others. -/
theorem OwnFs.head {B g c i : Nat} {w : World} {fs : List Fi} (h : OwnFs B w (some ⟨g, 0, none⟩) c fs) (hi : i ≤ fs.length) : OwnFs B w (some ⟨g, 0, none⟩) c (fs.take i) := by
  rcases h.2 with ⟨h1, h2⟩ | ⟨g', cap, cur, hv, hb, hh, h1, h2, h3, h4⟩
  · simp at h1
  · simp only [Value.slice.injEq, Option.some.injEq, Addr.mk.injEq, true_and, and_true] at hv
    obtain ⟨rfl, rfl⟩ := hv
    have hl : (fs.take i).length = i := by rw [List.length_take]; omega
    refine ⟨by rw [fiCells_len], .inr ⟨g, c, cur, rfl, hb, hh, by omega, h2, h3, ?_⟩⟩
    rw [hl]
    have e : fiCells fs = fiCells (fs.take i) ++ fiCells (fs.drop i) := by rw [← fiCells_app, List.take_append_drop]
    have h5 := congrArg (List.take (i * 2)) h4
    rw [List.take_take, Nat.min_eq_left (by omega), e, List.take_left' (by rw [fiCells_len, hl])] at h5
    exact h5

theorem kept_blk {g i : Nat} {w X : World} (h : Kept (Blk (some ⟨g, 0, none⟩)) w X) (u : Value) : Kept (Blk (some ⟨g, 0, none⟩)) w (X.setCell ⟨g, i, none⟩ u) := h.setCell (p := ⟨g, i, none⟩) (fun _ => ⟨⟨g, 0, none⟩, rfl, rfl⟩) u
theorem kept_blks {g o : Nat} {w X : World} (h : Kept (Blk (some ⟨g, 0, none⟩)) w X) (vs : List Value) : Kept (Blk (some ⟨g, 0, none⟩)) w (X.setCells g o vs) := by
  have hg : X.grownBy (X.setCells g o vs) (some g) := grownBy_setCells g _ _ (grown_refl _ _)
  refine h.trans ⟨hg.os, hg.tape, hg.output, hg.size, fun k ob ho hx => ?_⟩
  rw [hg.block k (lt_of_block ho) (fun e => hx ⟨⟨g, 0, none⟩, rfl, by cases e; rfl⟩)]
  exact ho
theorem OwnFs.behind {B g c o : Nat} {w : World} {fs : List Fi} (h : OwnFs B w (some ⟨g, 0, none⟩) c fs) (ho : fs.length * 2 ≤ o) (vs : List Value) : OwnFs B (w.setCells g o vs) (some ⟨g, 0, none⟩) c fs := by
  refine ⟨h.1, ?_⟩
  rcases h.2 with ⟨h1, h2⟩ | ⟨g', cap, cur, hv, hb, hh, h1, h2, h3, h4⟩
  · simp at h1
  · simp only [Value.slice.injEq, Option.some.injEq, Addr.mk.injEq, true_and, and_true] at hv
    obtain ⟨rfl, rfl⟩ := hv
    obtain ⟨cs', e1, e2, e3⟩ := blk_setCells vs o w cur hh
    refine .inr ⟨g, c, cs', rfl, hb, e1, h1, h2, by rw [e2]; exact h3, ?_⟩
    rw [← h4]
    apply List.ext_getElem?
    intro i
    rw [List.getElem?_take, List.getElem?_take]
    split
    · rename_i hi
      rw [Array.getElem?_toList, Array.getElem?_toList, e3 i, if_neg (by omega)]
    · rfl
theorem filter_start {p : Fi → Bool} {fs : List Fi} {k : Nat} (hk : k < fs.length) (ht : p fs[k] = true) (hn : ∀ j, (hj : j < fs.length) → j < k → p fs[j] = false) : fs.take k = (fs.take (k + 1)).filter fun f => !p f := by
  have e1 : [fs[k]].filter (fun f => !p f) = [] := by simp [ht]
  have e2 : (fs.take k).filter (fun f => !p f) = fs.take k := List.filter_eq_self.2 fun f hf => by
    obtain ⟨j, hj, rfl⟩ := List.getElem_of_mem hf
    rw [List.length_take] at hj
    rw [List.getElem_take, hn j (by omega) (by omega)]
    rfl
  rw [List.take_succ_eq_append_getElem hk, List.filter_append, e1, e2, List.append_nil]
theorem StrRow.keptB {X : Nat → Obj → Prop} {B : Nat} {w w' : World} {so : Option Addr} {ks : List (List UInt8)} (h : StrRow B w so ks) (hk : Kept X w w') (hX : ∀ a o, so = some a → ¬ X a.block o) : StrRow B w' so ks := fun j hj => by
  obtain ⟨a, h0, h1, h2, h3⟩ := h j hj
  have e : (a.add j).block = a.block := by unfold Addr.add; split <;> rfl
  exact ⟨a, h0, h1, cell_kept hk (fun o => by rw [e]; exact hX a o h0) h2, h3⟩

set_option maxRecDepth 100000 in
set_option maxHeartbeats 4000000 in
theorem delW_any (B c C : Nat) (ao : Option Addr) (fs : List Fi) (B2 d : Nat) (so : Option Addr) (ks : List (List UInt8)) (w : World) (h : OwnFs B w ao c fs) (hl : (fs.length : Int) ≤ 1099511627776) (hs : StrRow B2 w so ks) (hsd : ∀ a o, so = some a → ¬ Blk ao a.block o) (hkl : (ks.length : Int) ≤ 9223372036854775807) (hC : w.heap[C]? = some (.cells #[.slice so ks.length d] 53 (0, 0))) (hCd : ∀ o, ¬ Blk ao C o) :
    Calls Try.prog 131 #[.slice ao fs.length c, .func (.func 132) #[] #[.pointer (some ⟨C, 0, none⟩)]] w fun e w' => e = .returned (.slice ao (fs.filter fun f => !inF ks f).length c) ∧ OwnFs B w' ao c (fs.filter fun f => !inF ks f) ∧ Kept (Blk ao) w w' := by
  have HO : Hid (OwnFs B w ao c fs) := h
  have HS : Hid (StrRow B2 w so ks) := hs
  have HCC : Hid (w.heap[C]? = some (.cells #[.slice so ks.length d] 53 (0, 0))) := hC
  have IW := indexW_any w.heap.size c C ao fs B2 d so ks w h.row (by omega) hs hkl (blk_at hC 0 rfl)
  rcases plc_cases (inF ks) fs with ⟨e0, hall⟩ | ⟨k0, hk0, e0, ht, hall⟩
  · rw [e0] at IW
    have HF : Hid ((fs.filter fun f => !inF ks f) = fs) := List.filter_eq_self.2 fun f hf => by rw [hall f hf]; rfl
    rw [HF.out]
    clear h hs hC hall hsd hCd
    go_enter Try.func131, Try.ntmps131
    go_wp2_with fail
    go_fit IW
    rintro e w1 ⟨rfl, k1⟩
    have K1 : Hid (Kept Nil w w1) := k1
    clear k1 IW
    go_wp2
    go_ret
    exact ⟨rfl, HO.out.kept K1.out, K1.out.mono (fun _ _ x => x.elim)⟩
  · rw [e0] at IW
    obtain ⟨g, rfl, hBg, hgw, _⟩ := h.cells (by omega)
    have hcap := own_capF h
    unfold maxLen at hcap
    obtain ⟨p, HP⟩ : ∃ p : Fi → Bool, Hid (p = inF ks) := ⟨_, rfl⟩
    have hne1 : ((k0 : Int) == -1) = false := beq_eq_false_iff_ne.2 (by omega)
    have PF := fun (X : World) (hX : Kept (Blk (some ⟨g, 0, none⟩)) w X) (f : Fi) => wofF_any f B2 d C so ks X (hs.keptB hX hsd) hkl (blk_at (hX.block _ _ hC (hCd _)) 0 rfl)
    rw [← HP.out] at PF ht hall ⊢
    have HT : Hid (p fs[k0] = true ∧ ∀ j, (hj : j < fs.length) → j < k0 → p fs[j] = false) := ⟨ht, hall⟩
    clear h hs hC ht hall hsd hCd
    go_enter Try.func131, Try.ntmps131
    go_wp2_with fail
    go_fit IW
    rintro e w1 ⟨rfl, k1⟩
    have K1 : Hid (Kept Nil w w1) := k1
    clear k1 IW
    go_wp2
    go_loopw [5, 6] (fun u v wr => ∃ i j : Nat, ∃ gs : List Fi, u = .int .i64 i ∧ v = .int .i64 j ∧ i < j ∧ j ≤ fs.length ∧ Hid (gs.length = fs.length) ∧ Hid (gs.take i = (fs.take j).filter fun f => !p f) ∧ Hid (gs.drop j = fs.drop j) ∧ Hid (OwnFs B wr (some ⟨g, 0, none⟩) c gs) ∧ Hid (Kept (Blk (some ⟨g, 0, none⟩)) w wr)) (fun _ v _ => fs.length - (intOf v).toNat)
    case atStart => exact ⟨k0, k0 + 1, fs, rfl, by go_num, by omega, by omega, rfl, filter_start hk0 HT.out.1 HT.out.2, rfl, HO.out.kept K1.out, K1.out.mono (fun _ _ x => x.elim)⟩
    case round =>
      obtain ⟨i, j, gs, rfl, rfl, hij, hjn, HL, HT1, HT2, HOg, HK⟩ := hrel
      by_cases hlt : j < fs.length
      · have hlg : j < gs.length := by rw [HL.out]; exact hlt
        have hlo : i < gs.length := by omega
        obtain ⟨g', e1, _, _, hcs⟩ := HOg.out.cells (by omega)
        simp only [Option.some.injEq, Addr.mk.injEq, and_true] at e1
        subst e1
        obtain ⟨c0, c1, _, _⟩ := hcs j hlg
        obtain ⟨d0, d1, z0, z1⟩ := hcs i hlo
        obtain ⟨y, HY⟩ : ∃ y : Fi, Hid (y = gs[j]) := ⟨gs[j], (rfl : gs[j] = gs[j])⟩
        obtain ⟨y2, HY2⟩ : ∃ y : Fi, Hid (y = gs[i]) := ⟨gs[i], (rfl : gs[i] = gs[i])⟩
        rw [← HY.out] at c0 c1
        rw [← HY2.out] at d0 d1
        have HYf : Hid (y = fs[j]) := by
          show y = fs[j]
          rw [HY.out]
          have e := congrArg (fun l => l[0]?) HT2.out
          simp only [List.getElem?_drop, Nat.add_zero] at e
          rw [List.getElem?_eq_getElem hlg, List.getElem?_eq_getElem hlt] at e
          exact Option.some.inj e
        have hji : (j : Int) < fs.length := by omega
        have hii : (i : Int) < fs.length := by omega
        obtain ⟨W, hW⟩ : ∃ W, W = wr.alloc (.cells #[.string (bs y.1), .string (bs y.2)] 88) := ⟨_, rfl⟩
        have KW : Hid (Kept (Blk (some ⟨g, 0, none⟩)) w W) := by rw [hW]; exact HK.out.alloc _
        have HBW : Hid (W.heap[wr.heap.size]? = some (.cells #[.string (bs y.1), .string (bs y.2)] 88 (0, 0))) := by rw [hW]; exact blk_new _ _
        have HOW : Hid (OwnFs B W (some ⟨g, 0, none⟩) c gs) := by rw [hW]; exact HOg.out.kept ((Kept.refl _ _).alloc _)
        have PY := PF W KW.out y
        clear hcs
        cases hp : p y with
        | true =>
          rw [hp] at PY
          have HPY : Hid (p y = true) := hp
          clear hp
          have b0 : W.cell? ⟨wr.heap.size, 0, none⟩ = some (.string (bs y.1)) := blk_at HBW.out 0 rfl
          have b1 : W.cell? ⟨wr.heap.size, 1, none⟩ = some (.string (bs y.2)) := blk_at HBW.out 1 rfl
          go_wp2_with fail
          rw [← hW]
          clear hW
          go_fit PY
          rintro e w2 ⟨rfl, k2⟩
          have K2 : Hid (Kept Nil W w2) := k2
          clear k2 PY
          go_wp2
          go_roundw
          case rel => exact ⟨i, j + 1, gs, rfl, by go_num, by omega, by omega, HL.out, (by
            show gs.take i = _
            rw [List.take_succ_eq_append_getElem hlt, List.filter_append, ← HT1.out, ← HYf.out]
            simp [HPY.out]), (by
            show gs.drop (j + 1) = _
            rw [← List.drop_drop, ← List.drop_drop, HT2.out]), HOW.out.kept K2.out, KW.out.trans (K2.out.mono (fun _ _ x => x.elim))⟩
          case measure => simp [intOf]; omega
        | false =>
          rw [hp] at PY
          have HPY : Hid (p y = false) := hp
          clear hp
          have b0 : W.cell? ⟨wr.heap.size, 0, none⟩ = some (.string (bs y.1)) := blk_at HBW.out 0 rfl
          have b1 : W.cell? ⟨wr.heap.size, 1, none⟩ = some (.string (bs y.2)) := blk_at HBW.out 1 rfl
          go_wp2_with fail
          rw [← hW]
          clear hW
          go_fit PY
          rintro e w2 ⟨rfl, k2⟩
          have K2 : Hid (Kept Nil W w2) := k2
          have HB2' : Hid (w2.heap[wr.heap.size]? = some (.cells #[.string (bs y.1), .string (bs y.2)] 88 (0, 0))) := k2.block _ _ HBW.out (fun x => x.elim)
          have HO2 : Hid (OwnFs B w2 (some ⟨g, 0, none⟩) c gs) := HOW.out.kept k2
          clear k2 PY b0 b1 c0 c1 d0 d1 z0 z1
          obtain ⟨g3, e1, _, _, hcs⟩ := HO2.out.cells (by omega)
          simp only [Option.some.injEq, Addr.mk.injEq, and_true] at e1
          subst e1
          obtain ⟨d0, d1, z0, z1⟩ := hcs i hlo
          rw [← HY2.out] at d0 d1
          clear hcs
          have b0 : w2.cell? ⟨wr.heap.size, 0, none⟩ = some (.string (bs y.1)) := blk_at HB2'.out 0 rfl
          have b1 : w2.cell? ⟨wr.heap.size, 1, none⟩ = some (.string (bs y.2)) := blk_at HB2'.out 1 rfl
          go_wp2
          go_roundw
          case rel => exact ⟨i + 1, j + 1, gs.set i y, by go_num, by go_num, by omega, by omega, (by show (gs.set i y).length = _; rw [List.length_set]; exact HL.out), (by
            show (gs.set i y).take (i + 1) = _
            rw [List.take_succ_eq_append_getElem (by rw [List.length_set]; exact hlo), List.getElem_set_self, List.take_set_of_le (Nat.le_refl _), HT1.out, List.take_succ_eq_append_getElem hlt, List.filter_append, ← HYf.out]
            simp [HPY.out]), (by
            show (gs.set i y).drop (j + 1) = _
            rw [List.drop_set_of_lt (by omega), ← List.drop_drop, ← List.drop_drop, HT2.out]), HO2.out.set2 hlo y.1 y.2, kept_blk (kept_blk (KW.out.trans (K2.out.mono (fun _ _ x => x.elim))) _) _⟩
          case measure => simp [intOf]; omega
      · obtain rfl : j = fs.length := by omega
        have hji : ¬ (fs.length : Int) < (fs.length : Int) := by omega
        have hii : (i : Int) ≤ (fs.length : Int) := by omega
        have hic : (i : Int) < (c : Int) := by omega
        have hnc : (fs.length : Int) ≤ (c : Int) := by omega
        obtain ⟨cs, hcs⟩ : ∃ cs, Hid (wr.heap[g]? = some (.cells cs 88 (0, 0)) ∧ cs.size = c * 2) := by
          rcases HOg.out.2 with ⟨h1, h2⟩ | ⟨g', cap, cur, hv, hb, hh, h1, h2, h3, h4⟩
          · simp at h1
          · simp only [Value.slice.injEq, Option.some.injEq, Addr.mk.injEq, true_and, and_true] at hv
            obtain ⟨rfl, rfl⟩ := hv
            exact ⟨cur, (⟨hh, h3⟩ : _ ∧ _)⟩
        have hcl : ∀ ty, (Builtin.clear_ #[83] ty #[.slice (some ⟨g, i * 2, none⟩) (fs.length - i) (c - i)]).run Try.prog wr = .ok (.tuple #[]) (wr.setCells g (i * 2) (List.replicate ((fs.length - i) * 2) (.string ⟨#[]⟩))) := fun ty => run_clearFi wr ty g (i * 2) (fs.length - i) (c - i) (by omega) (fun j hj => by rw [blk_cell hcs.out.1, Array.getElem?_eq_getElem (by rw [hcs.out.2]; omega)]; rfl) (fun j hj => blk_free hcs.out.1 _)
        go_wp2
        go_ret
        have HF : gs.take i = fs.filter fun f => !p f := by rw [HT1.out, List.take_length]
        have hli : (gs.take i).length = i := by rw [List.length_take, HL.out]; omega
        rw [← HF]
        exact ⟨by rw [hli]; rfl, (HOg.out.head (by rw [HL.out]; omega)).behind (by rw [hli]; exact Nat.le_refl _) _, kept_blks HK.out _⟩

end Go.Proofs.Ytnmkccdcgmajgaa
