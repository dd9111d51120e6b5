/-
  Sessions: rows of one's own (seven cells each), and where their keys lie; copies.
-/
import Derived.Test.YtblmmbghnkplkaaWTab5
import Derived.Test.YtblmmbghnkplkaaWKv10
namespace Go.Proofs.Ytblmmbghnkplkaa
open Go.RowKit

/-- A session and where its keys lie. -/
structure Se where
  s : Ss
  ao : Option Addr
  c : Nat
def seCell (e : Se) : List Value := [.int .i64 e.s.cl, .int .i64 e.s.ls, .int .i64 e.s.kd, .string (bs e.s.val), .int .i64 e.s.ver, .slice e.ao e.s.ks.length e.c, .int .i64 e.s.sn]
def seCells (es : List Se) : List Value := es.flatMap seCell
theorem seCells_cons (e : Se) (t : List Se) : seCells (e :: t) = seCell e ++ seCells t := by simp [seCells]
theorem seCells_app (a b : List Se) : seCells (a ++ b) = seCells a ++ seCells b := by simp [seCells]
theorem seCell_len (e : Se) : (seCell e).length = 7 := rfl
theorem seCells_len (es : List Se) : (seCells es).length = es.length * 7 := by
  induction es with
  | nil => rfl
  | cons o t ih => rw [seCells_cons, List.length_append, seCell_len, ih, List.length_cons]; omega
theorem seCells_take (es : List Se) (i : Nat) : seCells (es.take i) = (seCells es).take (i * 7) := by
  by_cases h : i ≤ es.length
  · have e : seCells es = seCells (es.take i) ++ seCells (es.drop i) := by rw [← seCells_app, List.take_append_drop]
    rw [e, List.take_left' (by rw [seCells_len, List.length_take, Nat.min_eq_left h])]
  · rw [List.take_of_length_le (by omega), List.take_of_length_le (by rw [seCells_len]; omega)]
theorem seCells_drop (es : List Se) (i : Nat) : seCells (es.drop i) = (seCells es).drop (i * 7) := by
  by_cases h : i ≤ es.length
  · have e : seCells es = seCells (es.take i) ++ seCells (es.drop i) := by rw [← seCells_app, List.take_append_drop]
    rw [e, List.drop_left' (by rw [seCells_len, List.length_take, Nat.min_eq_left h])]
  · rw [List.drop_of_length_le (by omega), List.drop_of_length_le (by rw [seCells_len]; omega)]
    rfl
theorem seCells_at : ∀ (es : List Se) (j r : Nat) (hj : j < es.length), r < 7 → (seCells es)[j * 7 + r]? = (seCell es[j])[r]?
  | [], j, r, hj, _ => by simp at hj
  | o :: t, 0, r, hj, hr => by
    rw [seCells_cons, Nat.zero_mul, Nat.zero_add, List.getElem?_append_left (by rw [seCell_len]; exact hr)]
    rfl
  | o :: t, j + 1, r, hj, hr => by
    rw [seCells_cons, List.getElem?_append_right (by rw [seCell_len]; omega), seCell_len, show (j + 1) * 7 + r - 7 = j * 7 + r by omega]
    exact seCells_at t j r (by simpa using hj) hr
theorem seCell_one (e : Se) : ∀ v ∈ seCell e, v.oneCell' = true := fun u hu => by
  simp [seCell] at hu
  rcases hu with rfl | rfl | rfl | rfl | rfl | rfl | rfl <;> rfl
theorem seCells_one (es : List Se) : ∀ v ∈ seCells es, v.oneCell' = true := fun u hu => by
  obtain ⟨o, _, hu⟩ := List.mem_flatMap.1 hu
  exact seCell_one o u hu
/-- One cell after another of one session put. -/
theorem seCells_set : ∀ (es : List Se) (k : Nat), k < es.length → ∀ (x : Se), (((((((seCells es).set (k * 7) (.int .i64 x.s.cl)).set (k * 7 + 1) (.int .i64 x.s.ls)).set (k * 7 + 2) (.int .i64 x.s.kd)).set (k * 7 + 3) (.string (bs x.s.val))).set (k * 7 + 4) (.int .i64 x.s.ver)).set (k * 7 + 5) (.slice x.ao x.s.ks.length x.c)).set (k * 7 + 6) (.int .i64 x.s.sn) = seCells (es.set k x)
  | [], k, hk, x => by simp at hk
  | o :: t, 0, hk, x => by simp [seCells_cons, seCell]
  | o :: t, k + 1, hk, x => by
    have h1 := seCells_set t k (by simpa using hk) x
    have hs : ∀ (l : List Value) (n : Nat) (v : Value), (seCell o ++ l).set (n + 7) v = seCell o ++ l.set n v := fun l n v => by
      rw [List.set_append_right _ _ (by rw [seCell_len]; omega), seCell_len, Nat.add_sub_cancel]
    rw [show (k + 1) * 7 = k * 7 + 7 by omega, show k * 7 + 7 + 1 = k * 7 + 1 + 7 by omega, show k * 7 + 7 + 2 = k * 7 + 2 + 7 by omega, show k * 7 + 7 + 3 = k * 7 + 3 + 7 by omega, show k * 7 + 7 + 4 = k * 7 + 4 + 7 by omega, show k * 7 + 7 + 5 = k * 7 + 5 + 7 by omega, show k * 7 + 7 + 6 = k * 7 + 6 + 7 by omega, seCells_cons]
    rw [hs, hs, hs, hs, hs, hs, hs, h1, List.set_cons_succ, seCells_cons]
def OwnE (B : Nat) (w : World) (ao : Option Addr) (c : Nat) (es : List Se) : Prop := w.ownsRow B 121 7 (.slice ao es.length c) es.length (seCells es)
theorem OwnE.kept {B c : Nat} {w w' : World} {ao : Option Addr} {es : List Se} (h : OwnE B w ao c es) (hk : Kept Nil w w') : OwnE B w' ao c es := own_kept h hk (fun _ _ _ x => x.elim)
theorem OwnE.block {B c : Nat} {w : World} {ao : Option Addr} {es : List Se} (h : OwnE B w ao c es) (h0 : ao ≠ none) : ∃ g cs, ao = some ⟨g, 0, none⟩ ∧ B ≤ g ∧ w.heap[g]? = some (.cells cs 121 (0, 0)) ∧ es.length ≤ c ∧ c ≤ maxLen ∧ cs.size = c * 7 ∧ cs.toList.take (es.length * 7) = seCells es := by
  rcases h.2 with ⟨h1, h2⟩ | ⟨g, cap, cur, hv, hb, hh, h1, h2, h3, h4⟩
  · simp only [Value.slice.injEq] at h1
    exact absurd h1.1 h0
  · simp only [Value.slice.injEq] at hv
    obtain ⟨rfl, _, rfl⟩ := hv
    exact ⟨g, cur, rfl, hb, hh, h1, h2, h3, h4⟩
theorem OwnE.noneE {B c : Nat} {w : World} {es : List Se} (h : OwnE B w none c es) : es = [] ∧ c = 0 := by
  rcases h.2 with ⟨h1, h2⟩ | ⟨g, cap, cur, hv, _⟩
  · simp only [Value.slice.injEq] at h1
    exact ⟨List.eq_nil_of_length_eq_zero h2, h1.2.2⟩
  · simp at hv
theorem OwnE.cellsAt {B c g : Nat} {w : World} {es : List Se} (h : OwnE B w (some ⟨g, 0, none⟩) c es) : ∀ j u, (seCells es)[j]? = some u → w.cell? ⟨g, j, none⟩ = some u := fun j u hu => by
  have := h.cells (g := g) rfl j u hu
  cases j with
  | zero => exact this
  | succ j => simpa [Addr.add] using this
/-- The seven cells of one of them. -/
theorem OwnE.at7 {B c g j : Nat} {w : World} {es : List Se} (h : OwnE B w (some ⟨g, 0, none⟩) c es) (hj : j < es.length) : w.cell? ⟨g, j * 7, none⟩ = some (.int .i64 es[j].s.cl) ∧ w.cell? ⟨g, j * 7 + 1, none⟩ = some (.int .i64 es[j].s.ls) ∧ w.cell? ⟨g, j * 7 + 2, none⟩ = some (.int .i64 es[j].s.kd) ∧ w.cell? ⟨g, j * 7 + 3, none⟩ = some (.string (bs es[j].s.val)) ∧ w.cell? ⟨g, j * 7 + 4, none⟩ = some (.int .i64 es[j].s.ver) ∧ w.cell? ⟨g, j * 7 + 5, none⟩ = some (.slice es[j].ao es[j].s.ks.length es[j].c) ∧ w.cell? ⟨g, j * 7 + 6, none⟩ = some (.int .i64 es[j].s.sn) :=
  ⟨h.cellsAt _ _ (seCells_at es j 0 hj (by omega)), h.cellsAt _ _ (seCells_at es j 1 hj (by omega)), h.cellsAt _ _ (seCells_at es j 2 hj (by omega)), h.cellsAt _ _ (seCells_at es j 3 hj (by omega)), h.cellsAt _ _ (seCells_at es j 4 hj (by omega)), h.cellsAt _ _ (seCells_at es j 5 hj (by omega)), h.cellsAt _ _ (seCells_at es j 6 hj (by omega))⟩
theorem OwnE.set7 {B g c k : Nat} {w : World} {es : List Se} (h : OwnE B w (some ⟨g, 0, none⟩) c es) (hk : k < es.length) (x : Se) : OwnE B (((((((w.setCell ⟨g, k * 7, none⟩ (.int .i64 x.s.cl)).setCell ⟨g, k * 7 + 1, none⟩ (.int .i64 x.s.ls)).setCell ⟨g, k * 7 + 2, none⟩ (.int .i64 x.s.kd)).setCell ⟨g, k * 7 + 3, none⟩ (.string (bs x.s.val))).setCell ⟨g, k * 7 + 4, none⟩ (.int .i64 x.s.ver)).setCell ⟨g, k * 7 + 5, none⟩ (.slice x.ao x.s.ks.length x.c)).setCell ⟨g, k * 7 + 6, none⟩ (.int .i64 x.s.sn)) (some ⟨g, 0, none⟩) c (es.set k x) := by
  have := own_setAtK (own_setAtK (own_setAtK (own_setAtK (own_setAtK (own_setAtK (own_setAtK h (k * 7) (.int .i64 x.s.cl)) (k * 7 + 1) (.int .i64 x.s.ls)) (k * 7 + 2) (.int .i64 x.s.kd)) (k * 7 + 3) (.string (bs x.s.val))) (k * 7 + 4) (.int .i64 x.s.ver)) (k * 7 + 5) (.slice x.ao x.s.ks.length x.c)) (k * 7 + 6) (.int .i64 x.s.sn)
  rw [seCells_set es k hk x] at this
  unfold OwnE
  rw [List.length_set]
  exact this
/-- Cells of one session that are put as they are. -/
theorem seCells_same (es : List Se) (k r : Nat) (hk : k < es.length) (hr : r < 7) (u : Value) (hu : (seCell es[k])[r]? = some u) : (seCells es).set (k * 7 + r) u = seCells es := by
  apply List.ext_getElem?
  intro j
  rw [List.getElem?_set]
  split
  · rename_i e
    subst e
    rw [seCells_at es k r hk hr, hu, if_pos (by rw [seCells_len]; omega)]
  · rfl
/-- The answer of one of them put (cells 2 to 5). -/
theorem OwnE.setAns {B g c k : Nat} {w : World} {es : List Se} (h : OwnE B w (some ⟨g, 0, none⟩) c es) (hk : k < es.length) (x : Se) (h0 : x.s.cl = es[k].s.cl) (h1 : x.s.ls = es[k].s.ls) (h6 : x.s.sn = es[k].s.sn) : OwnE B ((((w.setCell ⟨g, k * 7 + 2, none⟩ (.int .i64 x.s.kd)).setCell ⟨g, k * 7 + 3, none⟩ (.string (bs x.s.val))).setCell ⟨g, k * 7 + 4, none⟩ (.int .i64 x.s.ver)).setCell ⟨g, k * 7 + 5, none⟩ (.slice x.ao x.s.ks.length x.c)) (some ⟨g, 0, none⟩) c (es.set k x) := by
  have := own_setAtK (own_setAtK (own_setAtK (own_setAtK h (k * 7 + 2) (.int .i64 x.s.kd)) (k * 7 + 3) (.string (bs x.s.val))) (k * 7 + 4) (.int .i64 x.s.ver)) (k * 7 + 5) (.slice x.ao x.s.ks.length x.c)
  unfold OwnE
  rw [List.length_set, ← seCells_set es k hk x]
  have e0 : (seCells es).set (k * 7) (.int .i64 x.s.cl) = seCells es := seCells_same es k 0 hk (by omega) _ (by rw [h0]; rfl)
  have e1 : (seCells es).set (k * 7 + 1) (.int .i64 x.s.ls) = seCells es := seCells_same es k 1 hk (by omega) _ (by rw [h1]; rfl)
  have e6 : ∀ l : List Value, l[k * 7 + 6]? = some (.int .i64 x.s.sn) → l.set (k * 7 + 6) (.int .i64 x.s.sn) = l := fun l hl => by
    apply List.ext_getElem?
    intro j
    rw [List.getElem?_set]
    split
    · rename_i e
      subst e
      rw [if_pos (List.getElem?_eq_some_iff.1 hl).1, hl]
    · rfl
  rw [e0, e1, e6 _ (by
    rw [List.getElem?_set_ne (by omega), List.getElem?_set_ne (by omega), List.getElem?_set_ne (by omega), List.getElem?_set_ne (by omega), seCells_at es k 6 hk (by omega), h6]
    rfl)]
  exact this

/-- A row of sessions, with where their keys lie, below block B. -/
def SeRow (B : Nat) (w : World) (ao : Option Addr) (es : List Se) : Prop := ∀ j, (hj : j < es.length) → ∃ a, ao = some a ∧ a.block < B ∧ (∀ r u, (seCell es[j])[r]? = some u → w.cell? (a.add (j * 7 + r)) = some u) ∧ StrRow B w es[j].ao es[j].s.ks ∧ (es[j].ao = none → es[j].s.ks = [] ∧ es[j].c = 0) ∧ es[j].s.ks.length ≤ 8796093022200 ∧ es[j].s.val.length ≤ maxLen
theorem SeRow.nil {B : Nat} {w w' : World} {ao : Option Addr} {es : List Se} (h : SeRow B w ao es) (hk : Kept Nil w w') : SeRow B w' ao es := fun j hj => by
  obtain ⟨a, ha, hb, hc, hs, hn, l1, l2⟩ := h j hj
  exact ⟨a, ha, hb, fun r u hu => cell_kept hk (fun _ x => x) (hc r u hu), hs.kept hk (fun _ _ _ x => x), hn, l1, l2⟩
theorem cell_setOther {w : World} {a b : Addr} {v : Value} (h : w.cell? a = some v) (hne : a.block ≠ b.block) (x : Value) : (w.setCell b x).cell? a = some v := by
  have k : Kept (One b.block) w (w.setCell b x) := (Kept.refl (One b.block) w).setCell (p := b) (fun _ => rfl) x
  exact cell_kept k (fun _ e => hne e) h
theorem StrRow.far {B : Nat} {w : World} {ao : Option Addr} {ks : List (List UInt8)} (h : StrRow B w ao ks) {a : Addr} (ha : B ≤ a.block) (u : Value) : StrRow B (w.setCell a u) ao ks := fun j hj => by
  obtain ⟨a', ha', hb, hc, hl⟩ := h j hj
  exact ⟨a', ha', hb, (cell_setOther hc (by rw [add_block]; omega) u), hl⟩
theorem SeRow.far {B : Nat} {w : World} {ao : Option Addr} {es : List Se} (h : SeRow B w ao es) {a : Addr} {u : Value} (ha : B ≤ a.block) : SeRow B (w.setCell a u) ao es := fun j hj => by
  obtain ⟨a', ha', hb, hc, hs, hn, l1, l2⟩ := h j hj
  exact ⟨a', ha', hb, fun r v hv => cell_setOther (hc r v hv) (by rw [add_block]; omega) u, hs.far ha u, hn, l1, l2⟩
theorem SeRow.src {B c : Nat} {w : World} {ao : Option Addr} {es : List Se} (h : SeRow B w ao es) : Src Try.prog 7 68 (.slice ao es.length c) es.length (seCells es) w := by
  cases hes : es with
  | nil =>
    cases ao with
    | none => exact Src.ofNil _ Try.underlying68 c
    | some a => exact Src.ofSlice _ Try.underlying68 a 0 c [] rfl (fun j u hj => by simp at hj) (fun u hu => by simp at hu)
  | cons x t =>
    rw [← hes]
    obtain ⟨a, rfl, _⟩ := h 0 (by rw [hes]; simp)
    refine Src.ofSlice _ Try.underlying68 a es.length c _ (seCells_len es) ?_ (seCells_one es)
    intro j u hj
    have hlt : j < es.length * 7 := by have := (List.getElem?_eq_some_iff.1 hj).1; rwa [seCells_len] at this
    obtain ⟨a', e, _, hc, _⟩ := h (j / 7) (by omega)
    simp only [Option.some.injEq] at e
    subst e
    have hd : j = j / 7 * 7 + j % 7 := by omega
    rw [hd, seCells_at es (j / 7) (j % 7) (by omega) (by omega)] at hj
    have := hc _ _ hj
    rw [← hd] at this
    exact this
theorem Try.infoSe : (Try.prog.info? 121).map (fun i => (i.zero, i.size, i.bytes)) = some (some (.agg #[.int .i64 0, .int .i64 0, .int .i64 0, .string ⟨#[]⟩, .int .i64 0, .slice none 0 0, .int .i64 0]), 7, 80) := by kernel_rfl
theorem StrRow.srcK {B c : Nat} {w : World} {ao : Option Addr} {ks : List (List UInt8)} (h : StrRow B w ao ks) : Src Try.prog 1 53 (.slice ao ks.length c) ks.length (kyCells ks) w := by
  have hone : ∀ u ∈ kyCells ks, u.oneCell' = true := fun u hu => by
    unfold kyCells at hu
    obtain ⟨x, _, rfl⟩ := List.mem_map.1 hu
    rfl
  have hlen : (kyCells ks).length = ks.length * 1 := by unfold kyCells; rw [List.length_map]; omega
  cases hes : ks with
  | nil =>
    cases ao with
    | none => exact Src.ofNil _ Try.underlying53 c
    | some a => exact Src.ofSlice _ Try.underlying53 a 0 c [] rfl (fun j u hj => by simp at hj) (fun u hu => by simp at hu)
  | cons x t =>
    rw [← hes]
    obtain ⟨a, rfl, _⟩ := h 0 (by rw [hes]; simp)
    refine Src.ofSlice _ Try.underlying53 a ks.length c _ hlen ?_ hone
    intro j u hj
    have hlt : j < ks.length := by have := (List.getElem?_eq_some_iff.1 hj).1; rw [hlen] at this; omega
    obtain ⟨a', e, _, hc, _⟩ := h j hlt
    simp only [Option.some.injEq] at e
    subst e
    unfold kyCells at hj
    rw [List.getElem?_map, List.getElem?_eq_getElem hlt] at hj
    simp at hj
    rw [← hj]
    exact hc

set_option maxRecDepth 100000 in
set_option maxHeartbeats 1000000 in
theorem cloneK_any (B c : Nat) (ao : Option Addr) (ks : List (List UInt8)) (w : World) (h : StrRow B w ao ks) (hn : ao = none → ks = [] ∧ c = 0) (hl : ks.length ≤ 8796093022200) :
    Calls Try.prog 156 #[.slice ao ks.length c] w fun e w' => ∃ ao' c', e = .returned (.slice ao' ks.length c') ∧ OwnK w.heap.size w' ao' c' ks ∧ Kept Nil w w' := by
  cases ao with
  | none =>
    obtain ⟨rfl, rfl⟩ := hn rfl
    have hnil : ∀ w : World, (binOp .eql 53 (.slice none 0 0) (.slice none 0 0)).run Try.prog w = .ok (.bool true) w := fun w => Lib.run_eql_slice_nil w 53 9 none 0 0 0 0 Try.underlying53
    go_enter Try.func156, Try.ntmps156
    go_wp2
    go_ret
    exact ⟨none, 0, rfl, World.ownsRow_nil _ _ _ _, Kept.refl _ _⟩
  | some a =>
    obtain ⟨i0, hi, hz0, hz1, hz2⟩ := info_parts Try.infoSt
    have HS : Hid (Src Try.prog 1 53 (.slice (some a) ks.length c) ks.length (kyCells ks) (w.alloc (.cells #[] 9))) := (h.kept ((Kept.refl _ _).alloc _) (fun _ _ _ x => x)).srcK
    have HO : Hid ((w.alloc (.cells #[] 9)).ownsRow w.heap.size 9 1 (.slice (some ⟨w.heap.size, 0, none⟩) 0 0) 0 []) := World.ownsRow_lit w #[] 0 (Nat.le_refl _) (by decide) rfl
    have HLL : Hid (0 + ks.length ≤ maxLen ∧ (0 + ks.length) * 16 ≤ 140737488355328) := by constructor <;> (try unfold maxLen) <;> omega
    have hnil : ∀ w : World, (binOp .eql 53 (.slice (some a) ks.length c) (.slice none 0 0)).run Try.prog w = .ok (.bool false) w := fun w => Lib.run_eql_slice_nil w 53 9 (some a) ks.length c 0 0 Try.underlying53
    clear h hl hn
    go_enter Try.func156, Try.ntmps156
    go_wp2_with (at_builtin; go_must (refine wpList_append_src _ rfl _ _ 53 53 rfl w.heap.size 9 i0 (.string ⟨#[]⟩) 1 16 Try.underlying53 hi hz0 hz1 hz2 rfl _ _ _ rfl HO.out (.slice (some a) ks.length c) ks.length (kyCells ks) rfl HS.out HLL.out.1 HLL.out.2 (by simp) ?_); intro ao' c' w1 ho' hg'; have HO1 : Hid (w1.ownsRow w.heap.size 9 1 (.slice ao' (0 + ks.length) c') (0 + ks.length) ([] ++ kyCells ks)) := ho'; have HG1 : Hid _ := hg'; clear ho' hg')
    go_ret
    have ho := HO1.out
    rw [Nat.zero_add, List.nil_append] at ho
    exact ⟨ao', c', rfl, ho, ((Kept.refl _ _).alloc _).grown HG1.out (fun k hk => own_row HO.out k hk)⟩

set_option maxRecDepth 100000 in
set_option maxHeartbeats 1000000 in
theorem cloneS_any (B c : Nat) (ao : Option Addr) (es : List Se) (w : World) (h : SeRow B w ao es) (hn : ao = none → es = [] ∧ c = 0) (hl : es.length ≤ 1759218604441) :
    Calls Try.prog 117 #[.slice ao es.length c] w fun e w' => ∃ ao' c', e = .returned (.slice ao' es.length c') ∧ OwnE w.heap.size w' ao' c' es ∧ Kept Nil w w' := by
  cases ao with
  | none =>
    obtain ⟨rfl, rfl⟩ := hn rfl
    have hnil : ∀ w : World, (binOp .eql 68 (.slice none 0 0) (.slice none 0 0)).run Try.prog w = .ok (.bool true) w := fun w => Lib.run_eql_slice_nil w 68 121 none 0 0 0 0 Try.underlying68
    go_enter Try.func117, Try.ntmps117
    go_wp2
    go_ret
    exact ⟨none, 0, rfl, World.ownsRow_nil _ _ _ _, Kept.refl _ _⟩
  | some a =>
    obtain ⟨i0, hi, hz0, hz1, hz2⟩ := info_parts Try.infoSe
    have HS : Hid (Src Try.prog 7 68 (.slice (some a) es.length c) es.length (seCells es) (w.alloc (.cells #[] 121))) := (h.nil ((Kept.refl _ _).alloc _)).src
    have HO : Hid ((w.alloc (.cells #[] 121)).ownsRow w.heap.size 121 7 (.slice (some ⟨w.heap.size, 0, none⟩) 0 0) 0 []) := World.ownsRow_lit w #[] 0 (Nat.le_refl _) (by decide) rfl
    have HLL : Hid (0 + es.length ≤ maxLen ∧ (0 + es.length) * 80 ≤ 140737488355328) := by constructor <;> (try unfold maxLen) <;> omega
    have hnil : ∀ w : World, (binOp .eql 68 (.slice (some a) es.length c) (.slice none 0 0)).run Try.prog w = .ok (.bool false) w := fun w => Lib.run_eql_slice_nil w 68 121 (some a) es.length c 0 0 Try.underlying68
    clear h hl hn
    go_enter Try.func117, Try.ntmps117
    go_wp2_with (at_builtin; go_must (refine wpList_append_src _ rfl _ _ 68 68 rfl w.heap.size 121 i0 (.agg #[.int .i64 0, .int .i64 0, .int .i64 0, .string ⟨#[]⟩, .int .i64 0, .slice none 0 0, .int .i64 0]) 7 80 Try.underlying68 hi hz0 hz1 hz2 rfl _ _ _ rfl HO.out (.slice (some a) es.length c) es.length (seCells es) rfl HS.out HLL.out.1 HLL.out.2 (by simp) ?_); intro ao' c' w1 ho' hg'; have HO1 : Hid (w1.ownsRow w.heap.size 121 7 (.slice ao' (0 + es.length) c') (0 + es.length) ([] ++ seCells es)) := ho'; have HG1 : Hid _ := hg'; clear ho' hg')
    go_ret
    have ho := HO1.out
    rw [Nat.zero_add, List.nil_append] at ho
    exact ⟨ao', c', rfl, ho, ((Kept.refl _ _).alloc _).grown HG1.out (fun k hk => own_row HO.out k hk)⟩

set_option maxRecDepth 100000 in
set_option maxHeartbeats 1000000 in
theorem ownResult_any (B c : Nat) (kd ver : Int) (val : List UInt8) (ao : Option Addr) (ks : List (List UInt8)) (w : World) (h : StrRow B w ao ks) (hn : ao = none → ks = [] ∧ c = 0) (hl : ks.length ≤ 8796093022200) :
    Calls Try.prog 118 #[.agg #[.int .i64 kd, .string (bs val), .int .i64 ver, .slice ao ks.length c]] w fun e w' => ∃ ao' c', e = .returned (.agg #[.int .i64 kd, .string (bs val), .int .i64 ver, .slice ao' ks.length c']) ∧ OwnK w.heap.size w' ao' c' ks ∧ Kept Nil w w' := by
  obtain ⟨W, hW⟩ : ∃ W, W = (w.alloc (.cells #[.int .i64 kd, .string (bs val), .int .i64 ver, .slice ao ks.length c] 55)).alloc (.cells #[.int .i64 0, .string ⟨#[]⟩, .int .i64 0, .slice none 0 0] 55) := ⟨_, rfl⟩
  have K0 : Hid (Kept Nil w W) := by rw [hW]; exact ((Kept.refl _ _).alloc _).alloc _
  have HS0 : Hid (W.heap.size = w.heap.size + 2) := by show _ = _; rw [hW]; simp
  have HC := cloneK_any B c ao ks W (h.kept K0.out (fun _ _ _ x => x)) hn hl
  have HB : Hid (W.heap[w.heap.size]? = some (.cells #[.int .i64 kd, .string (bs val), .int .i64 ver, .slice ao ks.length c] 55 (0, 0))) := by rw [hW]; exact blk_past (blk_new _ _) _
  have HR : Hid (W.heap[w.heap.size + 1]? = some (.cells #[.int .i64 0, .string ⟨#[]⟩, .int .i64 0, .slice none 0 0] 55 (0, 0))) := by
    rw [hW]
    have := blk_new (w.alloc (.cells #[.int .i64 kd, .string (bs val), .int .i64 ver, .slice ao ks.length c] 55)) (.cells #[.int .i64 0, .string ⟨#[]⟩, .int .i64 0, .slice none 0 0] 55)
    show _ = _
    simpa using this
  have q3 : W.cell? ⟨w.heap.size, 3, none⟩ = some (.slice ao ks.length c) := blk_at HB.out 3 rfl
  clear h hn hl
  go_enter Try.func118, Try.ntmps118
  go_upto_region 1 with fail
  rw [← hW]
  obtain ⟨C, HCe⟩ : ∃ C, Hid (C = w.heap.size) := ⟨_, rfl⟩
  obtain ⟨D, HDe⟩ : ∃ D, Hid (D = w.heap.size + 1) := ⟨_, rfl⟩
  rw [← HDe.out] at HR ⊢
  rw [← HCe.out] at HB q3 ⊢
  clear hW
  go_wp2_with fail
  go_fit HC
  rintro _ w1 ⟨ao', c', rfl, o1, k1⟩
  have HB1 : Hid (w1.heap[C]? = some (.cells #[.int .i64 kd, .string (bs val), .int .i64 ver, .slice ao ks.length c] 55 (0, 0))) := k1.block _ _ HB.out (fun x => x.elim)
  have HR1 : Hid (w1.heap[D]? = some (.cells #[.int .i64 0, .string ⟨#[]⟩, .int .i64 0, .slice none 0 0] 55 (0, 0))) := k1.block _ _ HR.out (fun x => x.elim)
  have HO1 : Hid (OwnK (w.heap.size + 2) w1 ao' c' ks) := by rw [← HS0.out]; exact o1
  have HK1 : Hid (Kept Nil w w1) := K0.out.trans k1
  clear o1 k1 HC q3
  have hne : C ≠ D := by have := HCe.out; have := HDe.out; omega
  have q3 : w1.cell? ⟨C, 3, none⟩ = some (.slice ao ks.length c) := blk_at HB1.out 3 rfl
  have z3 : w1.frozen? ⟨C, 3, none⟩ = false := blk_free HB1.out 3
  obtain ⟨w2, hw2⟩ : ∃ w2, w2 = w1.setCell ⟨C, 3, none⟩ (.slice ao' ks.length c') := ⟨_, rfl⟩
  have HB2 : Hid (w2.heap[C]? = some (.cells #[.int .i64 kd, .string (bs val), .int .i64 ver, .slice ao' ks.length c'] 55 (0, 0))) := by rw [hw2]; exact blk_set HB1.out 3 _
  have HR2 : Hid (w2.heap[D]? = some (.cells #[.int .i64 0, .string ⟨#[]⟩, .int .i64 0, .slice none 0 0] 55 (0, 0))) := by rw [hw2]; exact blk_other HR1.out (a := ⟨C, 3, none⟩) (fun e => hne e.symm) _
  have HO2 : Hid (OwnK (w.heap.size + 2) w2 ao' c' ks) := by rw [hw2]; exact ownsRow_setCell_below HO1.out (a := ⟨C, 3, none⟩) (by have := HCe.out; show C < _; omega) _
  have HK2 : Hid (Kept Nil w w2) := by rw [hw2]; exact HK1.out.setNew (p := ⟨C, 3, none⟩) (by have := HCe.out; show _ ≤ C; omega) _
  go_upto_region 2 with fail
  rw [← hw2]
  clear hw2 q3 z3 HB1 HR1 HO1 HK1
  have q0 : w2.cell? ⟨C, 0, none⟩ = some (.int .i64 kd) := blk_at HB2.out 0 rfl
  have q1 : w2.cell? ⟨C, 1, none⟩ = some (.string (bs val)) := blk_at HB2.out 1 rfl
  have q2 : w2.cell? ⟨C, 2, none⟩ = some (.int .i64 ver) := blk_at HB2.out 2 rfl
  have q3 : w2.cell? ⟨C, 3, none⟩ = some (.slice ao' ks.length c') := blk_at HB2.out 3 rfl
  have r0 : w2.cell? ⟨D, 0, none⟩ = some (.int .i64 0) := blk_at HR2.out 0 rfl
  have r1 : w2.cell? ⟨D, 1, none⟩ = some (.string ⟨#[]⟩) := blk_at HR2.out 1 rfl
  have r2 : w2.cell? ⟨D, 2, none⟩ = some (.int .i64 0) := blk_at HR2.out 2 rfl
  have r3 : w2.cell? ⟨D, 3, none⟩ = some (.slice none 0 0) := blk_at HR2.out 3 rfl
  have z0 : w2.frozen? ⟨D, 0, none⟩ = false := blk_free HR2.out 0
  have z1 : w2.frozen? ⟨D, 1, none⟩ = false := blk_free HR2.out 1
  have z2 : w2.frozen? ⟨D, 2, none⟩ = false := blk_free HR2.out 2
  have z3 : w2.frozen? ⟨D, 3, none⟩ = false := blk_free HR2.out 3
  obtain ⟨V, hV⟩ : ∃ V, V = (((w2.setCell ⟨D, 0, none⟩ (.int .i64 kd)).setCell ⟨D, 1, none⟩ (.string (bs val))).setCell ⟨D, 2, none⟩ (.int .i64 ver)).setCell ⟨D, 3, none⟩ (.slice ao' ks.length c') := ⟨_, rfl⟩
  have BF : Hid (V.heap[D]? = some (.cells #[.int .i64 kd, .string (bs val), .int .i64 ver, .slice ao' ks.length c'] 55 (0, 0))) := by rw [hV]; exact blk_set (blk_set (blk_set (blk_set HR2.out 0 _) 1 _) 2 _) 3 _
  have hD : D < w.heap.size + 2 := by have := HDe.out; omega
  have hD2 : w.heap.size ≤ D := by have := HDe.out; omega
  have OF : Hid (OwnK (w.heap.size + 2) V ao' c' ks) := by rw [hV]; exact ownsRow_setCell_below (a := ⟨D, 3, none⟩) (ownsRow_setCell_below (a := ⟨D, 2, none⟩) (ownsRow_setCell_below (a := ⟨D, 1, none⟩) (ownsRow_setCell_below (a := ⟨D, 0, none⟩) HO2.out hD _) hD _) hD _) hD _
  have KV : Hid (Kept Nil w V) := by rw [hV]; exact (((HK2.out.setNew (p := ⟨D, 0, none⟩) hD2 _).setNew (p := ⟨D, 1, none⟩) hD2 _).setNew (p := ⟨D, 2, none⟩) hD2 _).setNew (p := ⟨D, 3, none⟩) hD2 _
  go_wp2
  rw [← hV]
  clear hV r0 r1 r2 r3
  have j0 : V.cell? ⟨D, 0, none⟩ = some (.int .i64 kd) := blk_at BF.out 0 rfl
  have j1 : V.cell? ⟨D, 1, none⟩ = some (.string (bs val)) := blk_at BF.out 1 rfl
  have j2 : V.cell? ⟨D, 2, none⟩ = some (.int .i64 ver) := blk_at BF.out 2 rfl
  have j3 : V.cell? ⟨D, 3, none⟩ = some (.slice ao' ks.length c') := blk_at BF.out 3 rfl
  exact bodyPost_ret (v := .agg #[.int .i64 kd, .string (bs val), .int .i64 ver, .slice ao' ks.length c']) (by simp [results, Try.results118, go_sem, j0, j1, j2, j3]) rfl ⟨ao', c', rfl, own_mono OF.out (by omega), KV.out⟩

end Go.Proofs.Ytblmmbghnkplkaa
