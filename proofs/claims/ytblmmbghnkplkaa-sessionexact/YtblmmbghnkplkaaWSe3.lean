/-
  Sessions: slices.IndexFunc and slices.DeleteFunc, over any closure with one captured value.
-/
import Derived.Test.YtblmmbghnkplkaaWSe1
namespace Go.Proofs.Ytblmmbghnkplkaa
open Go.RowKit

/-- A session as a value. -/
def seV (e : Se) : Value := .agg #[.int .i64 e.s.cl, .int .i64 e.s.ls, .int .i64 e.s.kd, .string (bs e.s.val), .int .i64 e.s.ver, .slice e.ao e.s.ks.length e.c, .int .i64 e.s.sn]
def plcE (p : Se → Bool) (fs : List Se) : Int := if fs.findIdx p < fs.length then (fs.findIdx p : Int) else -1
theorem plcE_hit {p : Se → Bool} {fs : List Se} {k : Nat} (hk : k < fs.length) (hp : p fs[k] = true) (hn : ∀ j, (hj : j < fs.length) → j < k → p fs[j] = false) : plcE p fs = k := by
  have : fs.findIdx p = k := (List.findIdx_eq hk).2 ⟨hp, fun j hj => hn j (by omega) hj⟩
  unfold plcE
  rw [this, if_pos hk]
theorem plcE_miss {p : Se → Bool} {fs : List Se} (hn : ∀ j, (hj : j < fs.length) → p fs[j] = false) : plcE p fs = -1 := by
  have : fs.findIdx p = fs.length := List.findIdx_eq_length.2 (fun x hx => by
    obtain ⟨j, hj, rfl⟩ := List.getElem_of_mem hx
    exact hn j hj)
  unfold plcE
  rw [this, if_neg (by omega)]
theorem plcE_cases (p : Se → Bool) (fs : List Se) : (plcE p fs = -1 ∧ ∀ f ∈ fs, p f = false) ∨ ∃ k, ∃ hk : k < fs.length, plcE p fs = (k : Int) ∧ p fs[k] = true ∧ ∀ j, (hj : j < fs.length) → j < k → p fs[j] = false := by
  by_cases h : fs.findIdx p < fs.length
  · refine .inr ⟨fs.findIdx p, h, by unfold plcE; rw [if_pos h], List.findIdx_getElem (w := h), fun j hj hlt => ?_⟩
    have := List.not_of_lt_findIdx hlt
    simpa using this
  · refine .inl ⟨by unfold plcE; rw [if_neg h], fun f hf => ?_⟩
    have e : fs.findIdx p = fs.length := by have := List.findIdx_le_length (p := p) (xs := fs); omega
    have := List.findIdx_eq_length.1 e f hf
    simpa using this
/-- The block that a row begins in. -/
def BlkE (ao : Option Addr) (k : Nat) (_ : Obj) : Prop := ∃ a, ao = some a ∧ a.block = k
theorem kept_blkE {g i : Nat} {w X : World} (h : Kept (BlkE (some ⟨g, 0, none⟩)) w X) (u : Value) : Kept (BlkE (some ⟨g, 0, none⟩)) w (X.setCell ⟨g, i, none⟩ u) := h.setCell (p := ⟨g, i, none⟩) (fun _ => ⟨⟨g, 0, none⟩, rfl, rfl⟩) u
theorem kept_blksE {g o : Nat} {w X : World} (h : Kept (BlkE (some ⟨g, 0, none⟩)) w X) (vs : List Value) : Kept (BlkE (some ⟨g, 0, none⟩)) w (X.setCells g o vs) := by
  have hg : X.grownBy (X.setCells g o vs) (some g) := grownBy_setCellsK g _ _ (grown_reflK _ _)
  refine h.trans ⟨hg.os, hg.tape, hg.output, hg.size, fun k ob ho hx => ?_⟩
  rw [hg.block k (lt_of_block ho) (fun e => hx ⟨⟨g, 0, none⟩, rfl, by cases e; rfl⟩)]
  exact ho
theorem OwnE.head {B g c i : Nat} {w : World} {fs : List Se} (h : OwnE B w (some ⟨g, 0, none⟩) c fs) (hi : i ≤ fs.length) : OwnE B w (some ⟨g, 0, none⟩) c (fs.take i) := by
  obtain ⟨g', cs, e0, hb, hh, h1, h2, h3, h4⟩ := h.block (by simp)
  cases e0
  have hl : (fs.take i).length = i := by rw [List.length_take]; omega
  refine ⟨by rw [seCells_len], .inr ⟨g, c, cs, rfl, hb, hh, by omega, h2, h3, ?_⟩⟩
  rw [hl, seCells_take, ← h4, List.take_take, Nat.min_eq_left (by omega)]
theorem OwnE.behind {B g c o : Nat} {w : World} {fs : List Se} (h : OwnE B w (some ⟨g, 0, none⟩) c fs) (ho : fs.length * 7 ≤ o) (vs : List Value) : OwnE B (w.setCells g o vs) (some ⟨g, 0, none⟩) c fs := by
  obtain ⟨g', cur, e0, hb, hh, h1, h2, h3, h4⟩ := h.block (by simp)
  cases e0
  obtain ⟨cs', e1, e2, e3⟩ := blk_setCellsK vs o w cur hh
  refine ⟨h.1, .inr ⟨g, c, cs', rfl, hb, e1, h1, h2, by rw [e2]; exact h3, ?_⟩⟩
  rw [← h4]
  apply List.ext_getElem?
  intro i
  rw [List.getElem?_take, List.getElem?_take]
  split
  · rename_i hi
    rw [Array.getElem?_toList, Array.getElem?_toList, e3 i, if_neg (by omega)]
  · rfl
theorem filter_startE {p : Se → Bool} {fs : List Se} {k : Nat} (hk : k < fs.length) (ht : p fs[k] = true) (hn : ∀ j, (hj : j < fs.length) → j < k → p fs[j] = false) : fs.take k = (fs.take (k + 1)).filter fun f => !p f := by
  have e1 : [fs[k]].filter (fun f => !p f) = [] := by simp [ht]
  have e2 : (fs.take k).filter (fun f => !p f) = fs.take k := List.filter_eq_self.2 fun f hf => by
    obtain ⟨j, hj, rfl⟩ := List.getElem_of_mem hf
    rw [List.length_take] at hj
    rw [List.getElem_take, hn j (by omega) (by omega)]
    rfl
  rw [List.take_succ_eq_append_getElem hk, List.filter_append, e1, e2, List.append_nil]
theorem zeroSe_one (n : Nat) : ∀ v ∈ (Builtin.zeroCells (Value.cells (.agg #[.int .i64 0, .int .i64 0, .int .i64 0, .string ⟨#[]⟩, .int .i64 0, .slice none 0 0, .int .i64 0])) n).toList, v.oneCell' = true := fun v hv => by
  obtain ⟨i, hi, rfl⟩ := List.getElem_of_mem hv
  simp [Builtin.zeroCells, Value.cells]
  have : i % 7 = 0 ∨ i % 7 = 1 ∨ i % 7 = 2 ∨ i % 7 = 3 ∨ i % 7 = 4 ∨ i % 7 = 5 ∨ i % 7 = 6 := by omega
  rcases this with e | e | e | e | e | e | e <;> rw [e] <;> rfl
theorem zeroSe_len (n : Nat) : (Builtin.zeroCells (Value.cells (.agg #[.int .i64 0, .int .i64 0, .int .i64 0, .string ⟨#[]⟩, .int .i64 0, .slice none 0 0, .int .i64 0])) n).toList.length = n * 7 := by simp [Builtin.zeroCells, Value.cells]
def zsE (n : Nat) : List Value := (Builtin.zeroCells (Value.cells (.agg #[.int .i64 0, .int .i64 0, .int .i64 0, .string ⟨#[]⟩, .int .i64 0, .slice none 0 0, .int .i64 0])) n).toList
theorem run_clearSe (w : World) (ty : TypeId) (b o n c : Nat) (hn : 0 < n) (hc : ∀ j, j < n * 7 → (w.cell? ⟨b, o + j, none⟩).isSome = true) (hf : ∀ j, j < n * 7 → w.frozen? ⟨b, o + j, none⟩ = false) :
    (Builtin.clear_ #[68] ty #[.slice (some ⟨b, o, none⟩) n c]).run Try.prog w = .ok (.tuple #[]) (w.setCells b o (zsE n)) := by
  have hst := run_storeCells_cells (P := Try.prog) b o (Builtin.zeroCells (Value.cells (.agg #[.int .i64 0, .int .i64 0, .int .i64 0, .string ⟨#[]⟩, .int .i64 0, .slice none 0 0, .int .i64 0])) n).toList 0 w (by rw [zeroSe_len]; simpa using hc) (by rw [zeroSe_len]; simpa using hf) (zeroSe_one n)
  simp only [Nat.add_zero] at hst
  obtain ⟨m, rfl⟩ : ∃ m, n = m + 1 := ⟨n - 1, by omega⟩
  unfold zsE
  simp [Builtin.clear_, run_underlying Try.underlying68, hst]
theorem SeRow.at7 {B j : Nat} {w : World} {ao : Option Addr} {es : List Se} (h : SeRow B w ao es) (hj : j < es.length) : ∃ a, ao = some a ∧ w.cell? (a.add (j * 7)) = some (.int .i64 es[j].s.cl) ∧ w.cell? ⟨(a.add (j * 7)).block, (a.add (j * 7)).off + 1, none⟩ = some (.int .i64 es[j].s.ls) ∧ w.cell? ⟨(a.add (j * 7)).block, (a.add (j * 7)).off + 2, none⟩ = some (.int .i64 es[j].s.kd) ∧ w.cell? ⟨(a.add (j * 7)).block, (a.add (j * 7)).off + 3, none⟩ = some (.string (bs es[j].s.val)) ∧ w.cell? ⟨(a.add (j * 7)).block, (a.add (j * 7)).off + 4, none⟩ = some (.int .i64 es[j].s.ver) ∧ w.cell? ⟨(a.add (j * 7)).block, (a.add (j * 7)).off + 5, none⟩ = some (.slice es[j].ao es[j].s.ks.length es[j].c) ∧ w.cell? ⟨(a.add (j * 7)).block, (a.add (j * 7)).off + 6, none⟩ = some (.int .i64 es[j].s.sn) := by
  obtain ⟨a, ha, _, hc, _⟩ := h j hj
  have e : ∀ r, 0 < r → a.add (j * 7 + r) = ⟨(a.add (j * 7)).block, (a.add (j * 7)).off + r, none⟩ := fun r hr => by
    rw [← addr_add2]
    exact add_posE _ hr
  refine ⟨a, ha, hc 0 _ rfl, ?_, ?_, ?_, ?_, ?_, ?_⟩
  · rw [← e 1 (by omega)]; exact hc 1 _ rfl
  · rw [← e 2 (by omega)]; exact hc 2 _ rfl
  · rw [← e 3 (by omega)]; exact hc 3 _ rfl
  · rw [← e 4 (by omega)]; exact hc 4 _ rfl
  · rw [← e 5 (by omega)]; exact hc 5 _ rfl
  · rw [← e 6 (by omega)]; exact hc 6 _ rfl

set_option maxRecDepth 100000 in
set_option maxHeartbeats 2000000 in
theorem indexE_any (N B c g : Nat) (cap : Value) (p : Se → Bool) (fs : List Se) (w : World) (h : OwnE B w (some ⟨g, 0, none⟩) c fs) (hl : (fs.length : Int) ≤ 9223372036854775807) (eg : ∀ (args : Array Value) (w : World), (callFunc N args).run Try.prog w = .ok (.enter N args) w) (PF : ∀ X, Kept Nil w X → ∀ e : Se, Calls Try.prog N #[seV e, cap] X fun r w' => r = .returned (.bool (p e)) ∧ Kept Nil X w') :
    Calls Try.prog 160 #[.slice (some ⟨g, 0, none⟩) fs.length c, .func (.func N) #[] #[cap]] w fun e w' => e = .returned (.int .i64 (plcE p fs)) ∧ Kept Nil w w' := by
  have HR : Hid (OwnE B w (some ⟨g, 0, none⟩) c fs) := h
  unfold seV at PF
  clear h
  go_enter Try.func160, Try.ntmps160
  go_wp2
  go_loopw [8] (fun i wr => ∃ k : Nat, k ≤ fs.length ∧ i = .int .i64 k ∧ Hid (∀ j, (hj : j < fs.length) → j < k → p fs[j] = false) ∧ Hid (Kept Nil w wr)) (fun i _ => fs.length - (intOf i).toNat)
  case atStart => exact ⟨0, Nat.zero_le _, rfl, fun j _ h => by omega, Kept.refl _ _⟩
  case round =>
    obtain ⟨k, hk, rfl, HN, HK⟩ := hrel
    by_cases hlt : k < fs.length
    · obtain ⟨c0, c1, c2, c3, c4, c5, c6⟩ := (HR.out.kept HK.out).at7 hlt
      have hki : (k : Int) < fs.length := by omega
      obtain ⟨y, HY⟩ : ∃ y : Se, Hid (y = fs[k]) := ⟨fs[k], (rfl : fs[k] = fs[k])⟩
      rw [← HY.out] at c0 c1 c2 c3 c4 c5 c6
      have PY := PF wr HK.out y
      cases hp : p y with
      | true =>
        rw [hp] at PY
        have HPY : Hid (p y = true) := hp
        clear hp
        go_wp2_with fail
        go_fit PY
        rintro e w1 ⟨rfl, k1⟩
        have K1 : Hid (Kept Nil w w1) := HK.out.trans k1
        clear k1 PY
        go_wp2
        go_ret
        exact ⟨by rw [plcE_hit hlt (by rw [← HY.out]; exact HPY.out) HN.out]; rfl, K1.out⟩
      | false =>
        rw [hp] at PY
        have HPY : Hid (p y = false) := hp
        clear hp
        go_wp2_with fail
        go_fit PY
        rintro e w1 ⟨rfl, k1⟩
        have K1 : Hid (Kept Nil w w1) := HK.out.trans k1
        clear k1 PY
        go_wp2
        go_roundw
        case rel => exact ⟨k + 1, by omega, by go_num, fun j hj hjk => (by
          by_cases e : j = k
          · subst e; rw [← HY.out]; exact HPY.out
          · exact HN.out j hj (by omega)), K1.out⟩
        case measure => simp [intOf]; omega
    · obtain rfl : k = fs.length := by omega
      have hirr : ¬ (fs.length : Int) < fs.length := by omega
      go_wp2
      go_ret
      exact ⟨by rw [plcE_miss (fun j hj => HN.out j hj hj)]; rfl, HK.out⟩

set_option maxRecDepth 100000 in
set_option maxHeartbeats 4000000 in
theorem delE_any (N B c g : Nat) (cap : Value) (p : Se → Bool) (fs : List Se) (w : World) (h : OwnE B w (some ⟨g, 0, none⟩) c fs) (hl : (fs.length : Int) ≤ 1099511627776) (eg : ∀ (args : Array Value) (w : World), (callFunc N args).run Try.prog w = .ok (.enter N args) w) (PF : ∀ X, Kept (BlkE (some ⟨g, 0, none⟩)) w X → ∀ e : Se, Calls Try.prog N #[seV e, cap] X fun r w' => r = .returned (.bool (p e)) ∧ Kept Nil X w') :
    Calls Try.prog 124 #[.slice (some ⟨g, 0, none⟩) fs.length c, .func (.func N) #[] #[cap]] w fun e w' => e = .returned (.slice (some ⟨g, 0, none⟩) (fs.filter fun f => !p f).length c) ∧ OwnE B w' (some ⟨g, 0, none⟩) c (fs.filter fun f => !p f) ∧ Kept (BlkE (some ⟨g, 0, none⟩)) w w' := by
  have HO : Hid (OwnE B w (some ⟨g, 0, none⟩) c fs) := h
  have IW := indexE_any N B c g cap p fs w h (by omega) eg (fun X k e => PF X (k.mono (fun _ _ x => x.elim)) e)
  unfold seV at PF
  rcases plcE_cases p fs with ⟨e0, hall⟩ | ⟨k0, hk0, e0, ht, hall⟩
  · rw [e0] at IW
    have HF : Hid ((fs.filter fun f => !p f) = fs) := List.filter_eq_self.2 fun f hf => by rw [hall f hf]; rfl
    rw [HF.out]
    clear h hall PF
    go_enter Try.func124, Try.ntmps124
    go_wp2_with fail
    go_fit IW
    rintro e w1 ⟨rfl, k1⟩
    have K1 : Hid (Kept Nil w w1) := k1
    clear k1 IW
    go_wp2
    go_ret
    exact ⟨rfl, HO.out.kept K1.out, K1.out.mono (fun _ _ x => x.elim)⟩
  · rw [e0] at IW
    obtain ⟨g', cs0, e1, hBg, hh0, hcl0, hcap, hcs0, _⟩ := h.block (by simp)
    cases e1
    unfold maxLen at hcap
    have hne1 : ((k0 : Int) == -1) = false := beq_eq_false_iff_ne.2 (by omega)
    have HT : Hid (p fs[k0] = true ∧ ∀ j, (hj : j < fs.length) → j < k0 → p fs[j] = false) := ⟨ht, hall⟩
    clear h ht hall hh0 hcs0
    go_enter Try.func124, Try.ntmps124
    go_wp2_with fail
    go_fit IW
    rintro e w1 ⟨rfl, k1⟩
    have K1 : Hid (Kept Nil w w1) := k1
    clear k1 IW
    go_wp2
    go_loopw [5, 6] (fun u v wr => ∃ i j : Nat, ∃ gs : List Se, u = .int .i64 i ∧ v = .int .i64 j ∧ i < j ∧ j ≤ fs.length ∧ Hid (gs.length = fs.length) ∧ Hid (gs.take i = (fs.take j).filter fun f => !p f) ∧ Hid (gs.drop j = fs.drop j) ∧ Hid (OwnE B wr (some ⟨g, 0, none⟩) c gs) ∧ Hid (Kept (BlkE (some ⟨g, 0, none⟩)) w wr)) (fun _ v _ => fs.length - (intOf v).toNat)
    case atStart => exact ⟨k0, k0 + 1, fs, rfl, by go_num, by omega, by omega, rfl, filter_startE hk0 HT.out.1 HT.out.2, rfl, HO.out.kept K1.out, K1.out.mono (fun _ _ x => x.elim)⟩
    case round =>
      obtain ⟨i, j, gs, rfl, rfl, hij, hjn, HL, HT1, HT2, HOg, HK⟩ := hrel
      by_cases hlt : j < fs.length
      · have hlg : j < gs.length := by rw [HL.out]; exact hlt
        have hlo : i < gs.length := by omega
        obtain ⟨c0, c1, c2, c3, c4, c5, c6⟩ := HOg.out.at7 hlg
        obtain ⟨y, HY⟩ : ∃ y : Se, Hid (y = gs[j]) := ⟨gs[j], (rfl : gs[j] = gs[j])⟩
        rw [← HY.out] at c0 c1 c2 c3 c4 c5 c6
        have HYf : Hid (y = fs[j]) := by
          show y = fs[j]
          rw [HY.out]
          have e := congrArg (fun l => l[0]?) HT2.out
          simp only [List.getElem?_drop, Nat.add_zero] at e
          rw [List.getElem?_eq_getElem hlg, List.getElem?_eq_getElem hlt] at e
          exact Option.some.inj e
        have hji : (j : Int) < fs.length := by omega
        have hii : (i : Int) < fs.length := by omega
        obtain ⟨W, hW⟩ : ∃ W, W = wr.alloc (.cells #[.int .i64 y.s.cl, .int .i64 y.s.ls, .int .i64 y.s.kd, .string (bs y.s.val), .int .i64 y.s.ver, .slice y.ao y.s.ks.length y.c, .int .i64 y.s.sn] 121) := ⟨_, rfl⟩
        have KW : Hid (Kept (BlkE (some ⟨g, 0, none⟩)) w W) := by rw [hW]; exact HK.out.alloc _
        have HBW : Hid (W.heap[wr.heap.size]? = some (.cells #[.int .i64 y.s.cl, .int .i64 y.s.ls, .int .i64 y.s.kd, .string (bs y.s.val), .int .i64 y.s.ver, .slice y.ao y.s.ks.length y.c, .int .i64 y.s.sn] 121 (0, 0))) := by rw [hW]; exact blk_new _ _
        have HOW : Hid (OwnE B W (some ⟨g, 0, none⟩) c gs) := by rw [hW]; exact HOg.out.kept ((Kept.refl _ _).alloc _)
        have PY := PF W KW.out y
        cases hp : p y with
        | true =>
          rw [hp] at PY
          have HPY : Hid (p y = true) := hp
          clear hp
          have b0 : W.cell? ⟨wr.heap.size, 0, none⟩ = some (.int .i64 y.s.cl) := blk_at HBW.out 0 rfl
          have b1 : W.cell? ⟨wr.heap.size, 1, none⟩ = some (.int .i64 y.s.ls) := blk_at HBW.out 1 rfl
          have b2 : W.cell? ⟨wr.heap.size, 2, none⟩ = some (.int .i64 y.s.kd) := blk_at HBW.out 2 rfl
          have b3 : W.cell? ⟨wr.heap.size, 3, none⟩ = some (.string (bs y.s.val)) := blk_at HBW.out 3 rfl
          have b4 : W.cell? ⟨wr.heap.size, 4, none⟩ = some (.int .i64 y.s.ver) := blk_at HBW.out 4 rfl
          have b5 : W.cell? ⟨wr.heap.size, 5, none⟩ = some (.slice y.ao y.s.ks.length y.c) := blk_at HBW.out 5 rfl
          have b6 : W.cell? ⟨wr.heap.size, 6, none⟩ = some (.int .i64 y.s.sn) := blk_at HBW.out 6 rfl
          go_wp2_with fail
          rw [← hW]
          clear hW
          go_fit PY
          rintro e w2 ⟨rfl, k2⟩
          have K2 : Hid (Kept Nil W w2) := k2
          clear k2 PY
          go_wp2
          go_roundw
          case rel => exact ⟨i, j + 1, gs, rfl, by go_num, by omega, by omega, HL.out, (by
            show gs.take i = _
            rw [List.take_succ_eq_append_getElem hlt, List.filter_append, ← HT1.out, ← HYf.out]
            simp [HPY.out]), (by
            show gs.drop (j + 1) = _
            rw [← List.drop_drop, ← List.drop_drop, HT2.out]), HOW.out.kept K2.out, KW.out.trans (K2.out.mono (fun _ _ x => x.elim))⟩
          case measure => simp [intOf]; omega
        | false =>
          rw [hp] at PY
          have HPY : Hid (p y = false) := hp
          clear hp
          have b0 : W.cell? ⟨wr.heap.size, 0, none⟩ = some (.int .i64 y.s.cl) := blk_at HBW.out 0 rfl
          have b1 : W.cell? ⟨wr.heap.size, 1, none⟩ = some (.int .i64 y.s.ls) := blk_at HBW.out 1 rfl
          have b2 : W.cell? ⟨wr.heap.size, 2, none⟩ = some (.int .i64 y.s.kd) := blk_at HBW.out 2 rfl
          have b3 : W.cell? ⟨wr.heap.size, 3, none⟩ = some (.string (bs y.s.val)) := blk_at HBW.out 3 rfl
          have b4 : W.cell? ⟨wr.heap.size, 4, none⟩ = some (.int .i64 y.s.ver) := blk_at HBW.out 4 rfl
          have b5 : W.cell? ⟨wr.heap.size, 5, none⟩ = some (.slice y.ao y.s.ks.length y.c) := blk_at HBW.out 5 rfl
          have b6 : W.cell? ⟨wr.heap.size, 6, none⟩ = some (.int .i64 y.s.sn) := blk_at HBW.out 6 rfl
          go_wp2_with fail
          rw [← hW]
          clear hW
          go_fit PY
          rintro e w2 ⟨rfl, k2⟩
          have K2 : Hid (Kept Nil W w2) := k2
          have HB2' : Hid (w2.heap[wr.heap.size]? = some (.cells #[.int .i64 y.s.cl, .int .i64 y.s.ls, .int .i64 y.s.kd, .string (bs y.s.val), .int .i64 y.s.ver, .slice y.ao y.s.ks.length y.c, .int .i64 y.s.sn] 121 (0, 0))) := k2.block _ _ HBW.out (fun x => x.elim)
          have HO2 : Hid (OwnE B w2 (some ⟨g, 0, none⟩) c gs) := HOW.out.kept k2
          clear k2 PY b0 b1 b2 b3 b4 b5 b6 c0 c1 c2 c3 c4 c5 c6
          obtain ⟨d0, d1, d2, d3, d4, d5, d6⟩ := HO2.out.at7 hlo
          obtain ⟨g3, cs3, e3, _, hb3, _⟩ := HO2.out.block (by simp)
          cases e3
          have HB3 : Hid (w2.heap[g]? = some (.cells cs3 121 (0, 0))) := hb3
          clear hb3
          have z0 : w2.frozen? ⟨g, i * 7, none⟩ = false := blk_free HB3.out _
          have z1 : w2.frozen? ⟨g, i * 7 + 1, none⟩ = false := blk_free HB3.out _
          have z2 : w2.frozen? ⟨g, i * 7 + 2, none⟩ = false := blk_free HB3.out _
          have z3 : w2.frozen? ⟨g, i * 7 + 3, none⟩ = false := blk_free HB3.out _
          have z4 : w2.frozen? ⟨g, i * 7 + 4, none⟩ = false := blk_free HB3.out _
          have z5 : w2.frozen? ⟨g, i * 7 + 5, none⟩ = false := blk_free HB3.out _
          have z6 : w2.frozen? ⟨g, i * 7 + 6, none⟩ = false := blk_free HB3.out _
          have b0 : w2.cell? ⟨wr.heap.size, 0, none⟩ = some (.int .i64 y.s.cl) := blk_at HB2'.out 0 rfl
          have b1 : w2.cell? ⟨wr.heap.size, 1, none⟩ = some (.int .i64 y.s.ls) := blk_at HB2'.out 1 rfl
          have b2 : w2.cell? ⟨wr.heap.size, 2, none⟩ = some (.int .i64 y.s.kd) := blk_at HB2'.out 2 rfl
          have b3 : w2.cell? ⟨wr.heap.size, 3, none⟩ = some (.string (bs y.s.val)) := blk_at HB2'.out 3 rfl
          have b4 : w2.cell? ⟨wr.heap.size, 4, none⟩ = some (.int .i64 y.s.ver) := blk_at HB2'.out 4 rfl
          have b5 : w2.cell? ⟨wr.heap.size, 5, none⟩ = some (.slice y.ao y.s.ks.length y.c) := blk_at HB2'.out 5 rfl
          have b6 : w2.cell? ⟨wr.heap.size, 6, none⟩ = some (.int .i64 y.s.sn) := blk_at HB2'.out 6 rfl
          go_wp2
          go_roundw
          case rel => exact ⟨i + 1, j + 1, gs.set i y, by go_num, by go_num, by omega, by omega, (by show (gs.set i y).length = _; rw [List.length_set]; exact HL.out), (by
            show (gs.set i y).take (i + 1) = _
            rw [List.take_succ_eq_append_getElem (by rw [List.length_set]; exact hlo), List.getElem_set_self, List.take_set_of_le (Nat.le_refl _), HT1.out, List.take_succ_eq_append_getElem hlt, List.filter_append, ← HYf.out]
            simp [HPY.out]), (by
            show (gs.set i y).drop (j + 1) = _
            rw [List.drop_set_of_lt (by omega), ← List.drop_drop, ← List.drop_drop, HT2.out]), HO2.out.set7 hlo y, kept_blkE (kept_blkE (kept_blkE (kept_blkE (kept_blkE (kept_blkE (kept_blkE (KW.out.trans (K2.out.mono (fun _ _ x => x.elim))) _) _) _) _) _) _) _⟩
          case measure => simp [intOf]; omega
      · obtain rfl : j = fs.length := by omega
        have hji : ¬ (fs.length : Int) < (fs.length : Int) := by omega
        have hii : (i : Int) ≤ (fs.length : Int) := by omega
        have hic : (i : Int) < (c : Int) := by omega
        have hnc : (fs.length : Int) ≤ (c : Int) := by omega
        obtain ⟨cs, hcs⟩ : ∃ cs, Hid (wr.heap[g]? = some (.cells cs 121 (0, 0)) ∧ cs.size = c * 7) := by
          obtain ⟨g', cs', e1, _, hh, _, _, h3, _⟩ := HOg.out.block (by simp)
          cases e1
          exact ⟨cs', (⟨hh, h3⟩ : _ ∧ _)⟩
        have hcl : ∀ ty, (Builtin.clear_ #[68] ty #[.slice (some ⟨g, i * 7, none⟩) (fs.length - i) (c - i)]).run Try.prog wr = .ok (.tuple #[]) (wr.setCells g (i * 7) (zsE (fs.length - i))) := fun ty => run_clearSe wr ty g (i * 7) (fs.length - i) (c - i) (by omega) (fun j hj => by rw [blk_cell hcs.out.1, Array.getElem?_eq_getElem (by rw [hcs.out.2]; omega)]; rfl) (fun j hj => blk_free hcs.out.1 _)
        go_wp2
        go_ret
        have HF : gs.take i = fs.filter fun f => !p f := by rw [HT1.out, List.take_length]
        have hli : (gs.take i).length = i := by rw [List.length_take, HL.out]; omega
        rw [← HF]
        exact ⟨by rw [hli]; rfl, (HOg.out.head (by rw [HL.out]; omega)).behind (by rw [hli]; exact Nat.le_refl _) _, kept_blksE HK.out _⟩

end Go.Proofs.Ytblmmbghnkplkaa
