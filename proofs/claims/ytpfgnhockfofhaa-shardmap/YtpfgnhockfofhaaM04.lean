/-
  Joined: WDg1, WDg2.
-/
import Derived.Test.YtpfgnhockfofhaaM03
import Derived.BigRegion
import Derived.BigQuiet
import Derived.Deep.RegionHeld3
import Derived.Deep.DeepFit
/-
  Delegations: rows of bounds; ranges; the closures that look at a bound.
-/
namespace Go.Proofs.Ytpfgnhockfofhaa
open Go.RowKit

/-! ### rows of bounds -/
structure Bd where
  f : List UInt8
  h : Int
def bdCell (p : Bd) : List Value := [.string (bs p.f), .int .i64 p.h]
def bdV (p : Bd) : Value := .agg #[.string (bs p.f), .int .i64 p.h]
def bdCells (ps : List Bd) : List Value := ps.flatMap bdCell
def OwnB (B : Nat) (w : World) (ao : Option Addr) (c : Nat) (ps : List Bd) : Prop := w.ownsRow B 120 2 (.slice ao ps.length c) ps.length (bdCells ps)
def FitB (ps : List Bd) : Prop := ∀ p ∈ ps, p.f.length ≤ maxLen
/-- A row of bounds that lies below block B. -/
def BdRow (B : Nat) (w : World) (ao : Option Addr) (ps : List Bd) : Prop := ∀ j, (hj : j < ps.length) → ∃ a, ao = some a ∧ a.block < B ∧ w.cell? (a.add (j * 2)) = some (.string (bs ps[j].f)) ∧ w.cell? ⟨(a.add (j * 2)).block, (a.add (j * 2)).off + 1, none⟩ = some (.int .i64 ps[j].h) ∧ ps[j].f.length ≤ maxLen
theorem BdRow.kept {X : Nat → Obj → Prop} {B : Nat} {w w' : World} {ao : Option Addr} {ps : List Bd} (h : BdRow B w ao ps) (hk : Kept X w w') (hX : ∀ k o, k < B → ¬ X k o) : BdRow B w' ao ps := by
  intro j hj
  obtain ⟨a, ha, hb, c1, c2, l1⟩ := h j hj
  refine ⟨a, ha, hb, cell_kept hk (fun o => ?_) c1, cell_kept hk (fun o => ?_) c2, l1⟩ <;> exact hX _ _ (by simpa [add_block] using hb)
theorem BdRow.nil {B : Nat} {w w' : World} {ao : Option Addr} {ps : List Bd} (h : BdRow B w ao ps) (hk : Kept Nil w w') : BdRow B w' ao ps := h.kept hk (fun _ _ _ x => x)
theorem BdRow.at2 {B j : Nat} {w : World} {a : Addr} {ps : List Bd} (h : BdRow B w (some a) ps) (hj : j < ps.length) : w.cell? (a.add (j * 2)) = some (.string (bs ps[j].f)) ∧ w.cell? ⟨(a.add (j * 2)).block, (a.add (j * 2)).off + 1, none⟩ = some (.int .i64 ps[j].h) ∧ ps[j].f.length ≤ maxLen := by
  obtain ⟨a', e, _, c1, c2, l⟩ := h j hj
  cases e
  exact ⟨c1, c2, l⟩
theorem BdRow.up {B B' : Nat} {w : World} {ao : Option Addr} {ps : List Bd} (h : BdRow B w ao ps) (hb : B ≤ B') : BdRow B' w ao ps := fun j hj => by
  obtain ⟨a, e, hb', r⟩ := h j hj
  exact ⟨a, e, by omega, r⟩
theorem BdRow.take {B : Nat} {w : World} {ao : Option Addr} {ps : List Bd} (h : BdRow B w ao ps) (n : Nat) : BdRow B w ao (ps.take n) := fun j hj => by
  rw [List.length_take] at hj
  obtain ⟨a, e, r⟩ := h j (by omega)
  refine ⟨a, e, ?_⟩
  rw [List.getElem_take]
  exact r
theorem BdRow.drop {B : Nat} {w : World} {a : Addr} {ps : List Bd} (h : BdRow B w (some a) ps) (n : Nat) : BdRow B w (some (a.add (n * 2))) (ps.drop n) := fun j hj => by
  rw [List.length_drop] at hj
  obtain ⟨a', e, hb, r⟩ := h (n + j) (by omega)
  cases e
  refine ⟨_, rfl, by rw [add_block]; exact hb, ?_⟩
  rw [List.getElem_drop, addr_add2, show n * 2 + j * 2 = (n + j) * 2 by omega]
  exact r
theorem bdCells_cons (o : Bd) (t : List Bd) : bdCells (o :: t) = .string (bs o.f) :: .int .i64 o.h :: bdCells t := by simp [bdCells, bdCell]
theorem bdCells_app (a b : List Bd) : bdCells (a ++ b) = bdCells a ++ bdCells b := by simp [bdCells]
theorem bdCells_len (ps : List Bd) : (bdCells ps).length = ps.length * 2 := by
  induction ps with
  | nil => rfl
  | cons o t ih => rw [bdCells_cons]; simp only [List.length_cons, ih]; omega
theorem bdCells_take (ps : List Bd) (i : Nat) : bdCells (ps.take i) = (bdCells ps).take (i * 2) := by
  by_cases h : i ≤ ps.length
  · have e : bdCells ps = bdCells (ps.take i) ++ bdCells (ps.drop i) := by rw [← bdCells_app, List.take_append_drop]
    rw [e, List.take_left' (by rw [bdCells_len, List.length_take, Nat.min_eq_left h])]
  · rw [List.take_of_length_le (by omega), List.take_of_length_le (by rw [bdCells_len]; omega)]
theorem bdCells_at : ∀ (ps : List Bd) (j : Nat) (hj : j < ps.length), (bdCells ps)[j * 2]? = some (.string (bs ps[j].f)) ∧ (bdCells ps)[j * 2 + 1]? = some (.int .i64 ps[j].h)
  | [], j, hj => by simp at hj
  | o :: t, 0, hj => by simp [bdCells_cons]
  | o :: t, j + 1, hj => by
    have h := bdCells_at t j (by simpa using hj)
    have hx : ∀ i, (bdCells (o :: t))[(j + 1) * 2 + i]? = (bdCells t)[j * 2 + i]? := fun i => by
      rw [bdCells_cons, show (j + 1) * 2 + i = (j * 2 + i) + 1 + 1 by omega]
      simp only [List.getElem?_cons_succ]
    have hx0 := hx 0
    simp only [Nat.add_zero] at hx0
    rw [hx0, hx 1]
    simpa using h
theorem bdCells_one (ps : List Bd) : ∀ v ∈ bdCells ps, v.oneCell' = true := fun u hu => by
  obtain ⟨o, _, hu⟩ := List.mem_flatMap.1 hu
  simp [bdCell] at hu
  rcases hu with rfl | rfl <;> rfl
theorem bdCells_set : ∀ (ps : List Bd) (k : Nat), k < ps.length → ∀ (x : Bd), ((bdCells ps).set (k * 2) (.string (bs x.f))).set (k * 2 + 1) (.int .i64 x.h) = bdCells (ps.set k x)
  | [], k, hk, x => by simp at hk
  | o :: t, 0, hk, x => by simp [bdCells_cons]
  | o :: t, k + 1, hk, x => by
    have h1 := bdCells_set t k (by simpa using hk) x
    rw [show (k + 1) * 2 = k * 2 + 1 + 1 by omega, show k * 2 + 1 + 1 + 1 = (k * 2 + 1) + 1 + 1 by omega, bdCells_cons]
    simp only [List.set_cons_succ]
    rw [h1]
    simp [bdCells_cons]
theorem OwnB.set2 {B g c k : Nat} {w : World} {ps : List Bd} (h : OwnB B w (some ⟨g, 0, none⟩) c ps) (hk : k < ps.length) (x : Bd) : OwnB B ((w.setCell ⟨g, k * 2, none⟩ (.string (bs x.f))).setCell ⟨g, k * 2 + 1, none⟩ (.int .i64 x.h)) (some ⟨g, 0, none⟩) c (ps.set k x) := by
  have := own_setAtK (own_setAtK h (k * 2) (.string (bs x.f))) (k * 2 + 1) (.int .i64 x.h)
  rw [bdCells_set ps k hk x] at this
  unfold OwnB
  rw [List.length_set]
  exact this
theorem OwnB.block {B c : Nat} {w : World} {ao : Option Addr} {ps : List Bd} (h : OwnB B w ao c ps) (h0 : ao ≠ none) : ∃ g cs, ao = some ⟨g, 0, none⟩ ∧ B ≤ g ∧ w.heap[g]? = some (.cells cs 120 (0, 0)) ∧ ps.length ≤ c ∧ c ≤ maxLen ∧ cs.size = c * 2 ∧ cs.toList.take (ps.length * 2) = bdCells ps := by
  rcases h.2 with ⟨h1, h2⟩ | ⟨g, cap, cur, hv, hb, hh, h1, h2, h3, h4⟩
  · simp only [Value.slice.injEq] at h1
    exact absurd h1.1 h0
  · simp only [Value.slice.injEq] at hv
    obtain ⟨rfl, _, rfl⟩ := hv
    exact ⟨g, cur, rfl, hb, hh, h1, h2, h3, h4⟩
theorem OwnB.cells {B c : Nat} {w : World} {ao : Option Addr} {ps : List Bd} (h : OwnB B w ao c ps) (h0 : 0 < ps.length) : ∃ g, ao = some ⟨g, 0, none⟩ ∧ B ≤ g ∧ g < w.heap.size ∧ ps.length ≤ c ∧ c ≤ maxLen ∧ ∀ j, (hj : j < ps.length) → w.cell? ⟨g, j * 2, none⟩ = some (.string (bs ps[j].f)) ∧ w.cell? ⟨g, j * 2 + 1, none⟩ = some (.int .i64 ps[j].h) ∧ w.frozen? ⟨g, j * 2, none⟩ = false ∧ w.frozen? ⟨g, j * 2 + 1, none⟩ = false := by
  rcases h.2 with ⟨h1, h2⟩ | ⟨g, cap, cur, hv, hb, hh, h1, h2, h3, h4⟩
  · omega
  · simp only [Value.slice.injEq] at hv
    obtain ⟨rfl, _, rfl⟩ := hv
    refine ⟨g, rfl, hb, lt_of_block hh, h1, h2, fun j hj => ?_⟩
    have hc : ∀ i, i < ps.length * 2 → cur[i]? = (bdCells ps)[i]? := fun i hi => by
      have := congrArg (fun l => l[i]?) h4
      simpa only [List.getElem?_take, if_pos hi, Array.getElem?_toList] using this
    obtain ⟨e1, e2⟩ := bdCells_at ps j hj
    exact ⟨by rw [blk_cell hh, hc _ (by omega), e1], by rw [blk_cell hh, hc _ (by omega), e2], blk_free hh _, blk_free hh _⟩
theorem OwnB.row {B c : Nat} {w : World} {ao : Option Addr} {ps : List Bd} (h : OwnB B w ao c ps) (hs : FitB ps) : BdRow w.heap.size w ao ps := by
  intro j hj
  obtain ⟨g, rfl, _, hg, _, _, hc⟩ := h.cells (by omega)
  obtain ⟨e1, e2, _⟩ := hc j hj
  refine ⟨⟨g, 0, none⟩, rfl, hg, ?_, ?_, hs ps[j] (List.getElem_mem hj)⟩
  · rw [addr_addE]; exact e1
  · rw [addr_addE]; exact e2
theorem OwnB.kept {B c : Nat} {w w' : World} {ao : Option Addr} {ps : List Bd} (h : OwnB B w ao c ps) (hk : Kept Nil w w') : OwnB B w' ao c ps := own_kept h hk (fun _ _ _ x => x.elim)
theorem OwnB.mono {B B' c : Nat} {w : World} {ao : Option Addr} {ps : List Bd} (h : OwnB B w ao c ps) (hb : B' ≤ B) : OwnB B' w ao c ps := by
  refine ⟨h.1, h.2.imp id ?_⟩
  rintro ⟨g, cap, cur, h1, h2, h3⟩
  exact ⟨g, cap, cur, h1, Nat.le_trans hb h2, h3⟩
theorem Try.infoBd : (Try.prog.info? 120).map (fun i => (i.zero, i.size, i.bytes)) = some (some (.agg #[.string ⟨#[]⟩, .int .i64 0]), 2, 24) := by kernel_rfl
theorem BdRow.src {B c : Nat} {w : World} {ao : Option Addr} {ps : List Bd} (h : BdRow B w ao ps) : Src Try.prog 2 103 (.slice ao ps.length c) ps.length (bdCells ps) w := by
  cases hes : ps with
  | nil =>
    cases ao with
    | none => exact Src.ofNil _ Try.underlying103 c
    | some a => exact Src.ofSlice _ Try.underlying103 a 0 c [] rfl (fun j u hj => by simp at hj) (fun u hu => by simp at hu)
  | cons x t =>
    rw [← hes]
    obtain ⟨a, rfl, _⟩ := h 0 (by rw [hes]; simp)
    refine Src.ofSlice _ Try.underlying103 a ps.length c _ (bdCells_len ps) ?_ (bdCells_one ps)
    intro j u hj
    have hlt : j < ps.length * 2 := by have := (List.getElem?_eq_some_iff.1 hj).1; rwa [bdCells_len] at this
    obtain ⟨a', e, _, q0, q1, _⟩ := h (j / 2) (by omega)
    simp only [Option.some.injEq] at e
    subst e
    obtain ⟨e1, e2⟩ := bdCells_at ps (j / 2) (by omega)
    have hadd : ∀ r, 0 < r → j = j / 2 * 2 + r → a.add j = ⟨(a.add (j / 2 * 2)).block, (a.add (j / 2 * 2)).off + r, none⟩ := fun r hr hj => by
      generalize j / 2 * 2 = m at hj ⊢
      rw [hj, ← addr_add2]
      exact add_posE _ hr
    rcases (show j = j / 2 * 2 ∨ j = j / 2 * 2 + 1 by omega) with e | e
    · rw [e] at hj ⊢; rw [e1] at hj; rw [← hj]; exact q0
    · rw [hadd 1 (by omega) e]; rw [e, e2] at hj; rw [← hj]; exact q1
theorem OwnB.push {B : Nat} {w' : World} {ao : Option Addr} {c : Nat} {ps : List Bd} {x : Bd} (h : w'.ownsRow B 120 2 (.slice ao (ps.length + 1) c) (ps.length + 1) (bdCells ps ++ [.string (bs x.f), .int .i64 x.h])) : OwnB B w' ao c (ps ++ [x]) := by
  unfold OwnB
  rw [show bdCells (ps ++ [x]) = bdCells ps ++ [.string (bs x.f), .int .i64 x.h] by simp [bdCells, bdCell], List.length_append]
  exact h
theorem OwnB.join {B : Nat} {w' : World} {ao : Option Addr} {c : Nat} {ps qs : List Bd} (h : w'.ownsRow B 120 2 (.slice ao (ps.length + qs.length) c) (ps.length + qs.length) (bdCells ps ++ bdCells qs)) : OwnB B w' ao c (ps ++ qs) := by
  unfold OwnB
  rw [bdCells_app, List.length_append]
  exact h
/-- A literal slice of one bound. -/
theorem oneB_row (w : World) (x : Bd) (hx : x.f.length ≤ maxLen) : BdRow (w.heap.size + 1) (w.alloc (.cells #[.string (bs x.f), .int .i64 x.h] 120)) (some ⟨w.heap.size, 0, none⟩) [x] := fun j hj => by
  have : j = 0 := by simpa using hj
  subst this
  exact ⟨_, rfl, by simp, by rw [addr_addE]; exact blk_at (blk_new w (.cells #[.string (bs x.f), .int .i64 x.h] 120)) 0 rfl, by rw [addr_addE]; exact blk_at (blk_new w (.cells #[.string (bs x.f), .int .i64 x.h] 120)) 1 rfl, hx⟩

/-! ### ranges -/
def inR (key fr up : List UInt8) : Bool := !lessB key fr && (up.isEmpty || lessB key up)
def someR (fr up : List UInt8) : Bool := up.isEmpty || lessB fr up
theorem inR_self (fr up : List UInt8) : inR fr fr up = someR fr up := by unfold inR someR; rw [less_irrefl]; rfl
theorem less_asymD {a b : List UInt8} (h : lessB a b = true) : lessB b a = false := by
  cases hb : lessB b a with
  | false => rfl
  | true => have := less_trans h hb; rw [less_irrefl] at this; cases this

theorem less_le {a b : List UInt8} : (lessB a b || a == b) = !lessB b a := by
  cases h : lessB b a with
  | true =>
    rw [less_asymD h]
    have : a ≠ b := fun e => by rw [e, less_irrefl] at h; cases h
    simp [this]
  | false =>
    by_cases e : a = b
    · subst e; simp
    · have := less_total h (fun x => e x.symm); simp [this]
set_option maxRecDepth 100000 in
set_option maxHeartbeats 1000000 in
theorem in_any (key fr up : List UInt8) (w : World) : Calls Try.prog 61 #[.string (bs key), .string (bs fr), .string (bs up)] w fun e w' => e = .returned (.bool (inR key fr up)) ∧ w' = w := by
  obtain ⟨z, HZ⟩ : ∃ z, Hid (z = inR key fr up) := ⟨_, rfl⟩
  rw [← HZ.out]
  have t1 := bs_toList key
  have t2 := bs_toList fr
  have t3 := bs_toList up
  have HE : Hid ((Op.bytesLess fr key || fr == key) = !lessB key fr) := less_le
  go_enter Try.func61, Try.ntmps61
  cases h1 : lessB key fr with
  | true =>
    have a1 : (Op.bytesLess fr key || fr == key) = false := by rw [HE.out, h1]; rfl
    have HF : Hid (z = false) := by show _ = _; rw [HZ.out]; unfold inR; rw [h1]; rfl
    clear h1
    have a2 : Op.bytesLess fr key = false := by simp at a1; exact a1.1
    have a3 : ¬ fr = key := by simp at a1; exact a1.2
    go_wp2
    go_ret
    exact ⟨by rw [HF.out]; first | rfl | simp, rfl⟩
  | false =>
    have a1 : (Op.bytesLess fr key || fr == key) = true := by rw [HE.out, h1]; rfl
    have a2 : Op.bytesLess fr key = true ∨ fr = key := by simpa using a1
    have HF : Hid (z = (up.isEmpty || lessB key up)) := by show _ = _; rw [HZ.out]; unfold inR; rw [h1]; rfl
    clear h1
    cases up with
    | nil =>
      go_wp2
      go_ret
      exact ⟨by rw [HF.out]; first | rfl | (simp only [a1]; rfl) | simp [a1], rfl⟩
    | cons u t =>
      go_wp2
      go_ret
      exact ⟨by rw [HF.out]; first | rfl | (simp only [a1]; rfl) | simp [a1], rfl⟩
set_option maxRecDepth 100000 in
set_option maxHeartbeats 1000000 in
theorem some_any (fr up : List UInt8) (w : World) : Calls Try.prog 62 #[.string (bs fr), .string (bs up)] w fun e w' => e = .returned (.bool (someR fr up)) ∧ w' = w := by
  have C := in_any fr fr up w
  rw [inR_self] at C
  go_enter Try.func62, Try.ntmps62
  go_wp2_with fail
  go_fit C
  rintro e w1 ⟨rfl, rfl⟩
  go_wp2
  go_ret
  exact ⟨rfl, rfl⟩
set_option maxRecDepth 100000 in
set_option maxHeartbeats 1000000 in
theorem same_any (x y : Bd) (w : World) : Calls Try.prog 74 #[bdV x, bdV y] w fun e w' => e = .returned (.bool (decide (x.h = y.h))) ∧ Kept Nil w w' := by
  unfold bdV
  go_enter Try.func74, Try.ntmps74
  go_wp2
  go_ret
  exact ⟨by first | rfl | simp, ((Kept.refl _ _).alloc _).alloc _⟩
def followB (x y : Bd) : Bool := lessB x.f y.f && !decide (x.h = y.h)
theorem gt_less (a b : List UInt8) : (!Op.bytesLess a b && !a == b) = lessB b a := by
  have h := @less_le a b
  have h2 : (!(lessB a b || a == b)) = lessB b a := by rw [h, Bool.not_not]
  rw [← h2, Bool.not_or]
  rfl
/-- Is the bound behind a key? -/
def gtP (key : List UInt8) (x : Bd) : Bool := lessB key x.f
def geP (key : List UInt8) (x : Bd) : Bool := !lessB x.f key
def othP (ho : Int) (fr up : List UInt8) (x : Bd) : Bool := !decide (x.h = ho) && inR x.f fr up
set_option maxRecDepth 100000 in
set_option maxHeartbeats 1000000 in
theorem atC_any (x : Bd) (b : Nat) (key : List UInt8) (w : World) (hb : w.cell? ⟨b, 0, none⟩ = some (.string (bs key))) : Calls Try.prog 58 #[bdV x, .pointer (some ⟨b, 0, none⟩)] w fun e w' => e = .returned (.bool (gtP key x)) ∧ Kept Nil w w' := by
  have hl := World.block_lt_of_cell? w _ hb
  simp only at hl
  have t1 := bs_toList x.f
  have t2 := bs_toList key
  unfold bdV
  go_enter Try.func58, Try.ntmps58
  go_wp2
  go_ret
  exact ⟨by unfold gtP; rw [← gt_less x.f key]; first | rfl | simp, (Kept.refl _ _).alloc _⟩
set_option maxRecDepth 100000 in
set_option maxHeartbeats 1000000 in
theorem setC2_any (x : Bd) (b : Nat) (key : List UInt8) (w : World) (hb : w.cell? ⟨b, 0, none⟩ = some (.string (bs key))) : Calls Try.prog 72 #[bdV x, .pointer (some ⟨b, 0, none⟩)] w fun e w' => e = .returned (.bool (gtP key x)) ∧ Kept Nil w w' := by
  have hl := World.block_lt_of_cell? w _ hb
  simp only at hl
  have t1 := bs_toList x.f
  have t2 := bs_toList key
  unfold bdV
  go_enter Try.func72, Try.ntmps72
  go_wp2
  go_ret
  exact ⟨by unfold gtP; rw [← gt_less x.f key]; first | rfl | simp, (Kept.refl _ _).alloc _⟩
set_option maxRecDepth 100000 in
set_option maxHeartbeats 1000000 in
theorem setC1_any (x : Bd) (b : Nat) (key : List UInt8) (w : World) (hb : w.cell? ⟨b, 0, none⟩ = some (.string (bs key))) : Calls Try.prog 71 #[bdV x, .pointer (some ⟨b, 0, none⟩)] w fun e w' => e = .returned (.bool (geP key x)) ∧ Kept Nil w w' := by
  have hl := World.block_lt_of_cell? w _ hb
  simp only at hl
  have t1 := bs_toList x.f
  have t2 := bs_toList key
  unfold bdV
  go_enter Try.func71, Try.ntmps71
  go_wp2
  go_ret
  exact ⟨by unfold geP lessB; first | rfl | simp, (Kept.refl _ _).alloc _⟩
set_option maxRecDepth 100000 in
set_option maxHeartbeats 1000000 in
theorem hasC_any (x : Bd) (b1 b2 b3 : Nat) (ho : Int) (fr up : List UInt8) (w : World) (h1 : w.cell? ⟨b1, 0, none⟩ = some (.int .i64 ho)) (h2 : w.cell? ⟨b2, 0, none⟩ = some (.string (bs fr))) (h3 : w.cell? ⟨b3, 0, none⟩ = some (.string (bs up))) : Calls Try.prog 60 #[bdV x, .pointer (some ⟨b1, 0, none⟩), .pointer (some ⟨b2, 0, none⟩), .pointer (some ⟨b3, 0, none⟩)] w fun e w' => e = .returned (.bool (othP ho fr up x)) ∧ Kept Nil w w' := by
  have hl1 := World.block_lt_of_cell? w _ h1
  have hl2 := World.block_lt_of_cell? w _ h2
  have hl3 := World.block_lt_of_cell? w _ h3
  simp only at hl1 hl2 hl3
  have I := fun X => in_any x.f fr up X
  obtain ⟨z, HZ⟩ : ∃ z, Hid (z = othP ho fr up x) := ⟨_, rfl⟩
  rw [← HZ.out]
  unfold bdV
  go_enter Try.func60, Try.ntmps60
  by_cases hh : x.h = ho
  · have HF : Hid (z = false) := by show _ = _; rw [HZ.out]; unfold othP; simp [hh]
    go_wp2
    go_ret
    exact ⟨by rw [HF.out]; first | rfl | simp [hh], (Kept.refl _ _).alloc _⟩
  · have HF : Hid (z = inR x.f fr up) := by show _ = _; rw [HZ.out]; unfold othP; simp [hh]
    have hh2 : (x.h == ho) = false := beq_eq_false_iff_ne.2 hh
    go_wp2_with fail
    go_fit (I _)
    rintro e w1 ⟨rfl, rfl⟩
    go_wp2
    go_ret
    exact ⟨by rw [HF.out]; first | rfl | simp [hh], (Kept.refl _ _).alloc _⟩

end Go.Proofs.Ytpfgnhockfofhaa

/-
  Delegations: the library's Search, countAhead, At; Clone, IndexFunc, ContainsFunc, Has.
-/
namespace Go.Proofs.Ytpfgnhockfofhaa
open Go.RowKit

set_option maxRecDepth 100000 in
set_option maxHeartbeats 2000000 in
theorem search_any (N n : Nat) (c1 c2 : Value) (q : Nat → Bool) (w : World) (hn : (n : Int) ≤ 4611686018427387903)
    (eg : ∀ (args : Array Value) (w : World), (callFunc N args).run Try.prog w = .ok (.enter N args) w)
    (hm : ∀ i j, i ≤ j → j < n → q i = true → q j = true)
    (PF : ∀ X, Kept Nil w X → ∀ i, i < n → Calls Try.prog N #[.int .i64 i, c1, c2] X fun r w' => r = .returned (.bool (q i)) ∧ Kept Nil X w') :
    Calls Try.prog 76 #[.int .i64 n, .func (.func N) #[] #[c1, c2]] w fun e w' => ∃ k : Nat, k ≤ n ∧ e = .returned (.int .i64 k) ∧ (∀ i, i < k → q i = false) ∧ (∀ i, k ≤ i → i < n → q i = true) ∧ Kept Nil w w' := by
  have HM : Hid (∀ i j, i ≤ j → j < n → q i = true → q j = true) := hm
  clear hm
  go_enter Try.func76, Try.ntmps76
  go_wp2
  go_loopw [5, 6] (fun u v wr => ∃ i j : Nat, i ≤ j ∧ j ≤ n ∧ u = .int .i64 i ∧ v = .int .i64 j ∧ Hid (∀ x, x < i → q x = false) ∧ Hid (∀ x, j ≤ x → x < n → q x = true) ∧ Hid (Kept Nil w wr)) (fun u v _ => (intOf v).toNat - (intOf u).toNat)
  case atStart => exact ⟨0, n, Nat.zero_le _, Nat.le_refl _, rfl, rfl, fun x h0 => by omega, fun x hx h0 => by omega, Kept.refl _ _⟩
  case round =>
    obtain ⟨i, j, hij, hjn, rfl, rfl, H1, H2, HK⟩ := hrel
    by_cases hlt : i < j
    · have hli : (i : Int) < (j : Int) := by omega
      have hmn : (i + j) / 2 < n := by omega
      have PY := PF wr HK.out ((i + j) / 2) hmn
      cases hq : q ((i + j) / 2) with
      | false =>
        rw [hq] at PY
        have HQ : Hid (q ((i + j) / 2) = false) := hq
        clear hq
        go_wp2_with fail
        go_fit PY
        rintro e w1 ⟨rfl, k1⟩
        have K1 : Hid (Kept Nil w w1) := HK.out.trans k1
        clear k1 PY
        go_wp2
        go_roundw
        case rel => exact ⟨(i + j) / 2 + 1, j, by omega, hjn, by congr 1, rfl, fun x hx => (by
          cases hxx : q x with
          | false => rfl
          | true => have := HM.out x ((i + j) / 2) (by omega) hmn hxx; rw [HQ.out] at this; cases this), H2.out, K1.out⟩
        case measure => simp [intOf]; omega
      | true =>
        rw [hq] at PY
        have HQ : Hid (q ((i + j) / 2) = true) := hq
        clear hq
        go_wp2_with fail
        go_fit PY
        rintro e w1 ⟨rfl, k1⟩
        have K1 : Hid (Kept Nil w w1) := HK.out.trans k1
        clear k1 PY
        go_wp2
        go_roundw
        case rel => exact ⟨i, (i + j) / 2, by omega, by omega, rfl, by congr 1, H1.out, fun x hx hxn => HM.out _ x hx hxn HQ.out, K1.out⟩
        case measure => simp [intOf]; omega
    · obtain rfl : i = j := by omega
      have hli : ¬ (i : Int) < (i : Int) := by omega
      go_wp2
      go_ret
      exact ⟨i, hjn, rfl, H1.out, H2.out, HK.out⟩

set_option maxRecDepth 100000 in
set_option maxHeartbeats 2000000 in
theorem cntC_any (N B b2 b3 i c : Nat) (a : Addr) (cap : Value) (p : Bd → Bool) (ps : List Bd) (w : World) (h : BdRow B w (some a) ps) (hi : i < ps.length)
    (eg : ∀ (args : Array Value) (w : World), (callFunc N args).run Try.prog w = .ok (.enter N args) w)
    (h2 : w.cell? ⟨b2, 0, none⟩ = some (.slice (some a) ps.length c)) (h3 : w.cell? ⟨b3, 0, none⟩ = some (.func (.func N) #[] #[cap]))
    (PF : ∀ X, Kept Nil w X → ∀ x : Bd, Calls Try.prog N #[bdV x, cap] X fun r w' => r = .returned (.bool (p x)) ∧ Kept Nil X w') :
    Calls Try.prog 77 #[.int .i64 i, .pointer (some ⟨b3, 0, none⟩), .pointer (some ⟨b2, 0, none⟩)] w fun e w' => e = .returned (.bool (p (ps[i]))) ∧ Kept Nil w w' := by
  obtain ⟨c0, c1, _⟩ := h.at2 hi
  obtain ⟨y, HY⟩ : ∃ y : Bd, Hid (y = ps[i]) := ⟨ps[i], (rfl : ps[i] = ps[i])⟩
  rw [← HY.out] at c0 c1 ⊢
  have PY := PF w.drew (Kept.refl _ _).drew y
  unfold bdV at PY
  have hii : (i : Int) < ps.length := by omega
  clear PF h
  go_enter Try.func77, Try.ntmps77
  go_wp2_with fail
  go_region_held3 (fun w' => w'.cell? ⟨b2, 0, none⟩ = some (.slice (some a) ps.length c) ∧ w'.cell? ⟨b3, 0, none⟩ = some (.func (.func N) #[] #[cap]) ∧ w'.cell? (a.add (i * 2)) = some (.string (bs y.f)) ∧ w'.cell? ⟨(a.add (i * 2)).block, (a.add (i * 2)).off + 1, none⟩ = some (.int .i64 y.h)) (first | assumption | go_keep) (first | (go_fit PY; rintro e wa ⟨rfl, ka⟩; have Ka : Hid (Kept Nil w wa) := (Kept.refl _ _).drew.trans ka; have q2 := cell_kept Ka.out (fun _ x => x) h2; have q3 := cell_kept Ka.out (fun _ x => x) h3; have q0 := cell_kept Ka.out (fun _ x => x) c0; have q1 := cell_kept Ka.out (fun _ x => x) c1))
  go_wp2
  go_ret
  exact ⟨rfl, Ka.out⟩
/-- How many stand ahead of the first that is such. -/
theorem findIdx_is {p : Bd → Bool} {ps : List Bd} {k : Nat} (hk : k ≤ ps.length) (h1 : ∀ i, (hi : i < ps.length) → i < k → p ps[i] = false) (h2 : ∀ i, (hi : i < ps.length) → k ≤ i → p ps[i] = true) : ps.findIdx p = k := by
  by_cases h : k < ps.length
  · exact (List.findIdx_eq h).2 ⟨h2 k h (Nat.le_refl _), fun j hj => h1 j (by omega) hj⟩
  · have e : k = ps.length := by omega
    subst e
    exact List.findIdx_eq_length.2 (fun x hx => by
      obtain ⟨j, hj, rfl⟩ := List.getElem_of_mem hx
      exact h1 j hj hj)
/-- From the first that is such on all are such. -/
def MonB (p : Bd → Bool) (ps : List Bd) : Prop := ∀ i j, (hi : i < ps.length) → (hj : j < ps.length) → i ≤ j → p ps[i] = true → p ps[j] = true
set_option maxRecDepth 100000 in
set_option maxHeartbeats 2000000 in
theorem count_any (N B c : Nat) (a : Addr) (cap : Value) (p : Bd → Bool) (ps : List Bd) (w : World) (h : BdRow B w (some a) ps) (hm : MonB p ps) (hl : (ps.length : Int) ≤ 4611686018427387903)
    (eg : ∀ (args : Array Value) (w : World), (callFunc N args).run Try.prog w = .ok (.enter N args) w)
    (PF : ∀ X, Kept Nil w X → ∀ x : Bd, Calls Try.prog N #[bdV x, cap] X fun r w' => r = .returned (.bool (p x)) ∧ Kept Nil X w') :
    Calls Try.prog 57 #[.slice (some a) ps.length c, .func (.func N) #[] #[cap]] w fun e w' => e = .returned (.int .i64 (ps.findIdx p)) ∧ Kept Nil w w' := by
  obtain ⟨W, hW⟩ : ∃ W, W = (w.alloc (.cells #[.slice (some a) ps.length c] 103)).alloc (.cells #[.func (.func N) #[] #[cap]] 131) := ⟨_, rfl⟩
  have KW : Hid (Kept Nil w W) := by rw [hW]; exact ((Kept.refl _ _).alloc _).alloc _
  have s1 : (w.alloc (.cells #[.slice (some a) ps.length c] 103)).heap.size = w.heap.size + 1 := by simp
  have h2 : Hid (W.cell? ⟨w.heap.size, 0, none⟩ = some (.slice (some a) ps.length c)) := by
    rw [hW]; exact blk_at (blk_past (blk_new w (.cells #[.slice (some a) ps.length c] 103)) _) 0 rfl
  have h3 : Hid (W.cell? ⟨w.heap.size + 1, 0, none⟩ = some (.func (.func N) #[] #[cap])) := by
    rw [hW, ← s1]; exact blk_at (blk_new _ (.cells #[.func (.func N) #[] #[cap]] 131)) 0 rfl
  have SE := search_any 77 ps.length (.pointer (some ⟨w.heap.size + 1, 0, none⟩)) (.pointer (some ⟨w.heap.size, 0, none⟩)) (fun i => match ps[i]? with | some x => p x | none => true) W hl (enters_of Try.func77 (by kernel_rfl) rfl)
    (fun i j hij hj hi => by
      rw [List.getElem?_eq_getElem hj]
      rw [List.getElem?_eq_getElem (by omega)] at hi
      exact hm i j (by omega) hj hij hi)
    (fun X kX i hi => by
      have := cntC_any N B w.heap.size (w.heap.size + 1) i c a cap p ps X (h.nil (KW.out.trans kX)) hi eg (cell_kept kX (fun _ x => x) h2.out) (cell_kept kX (fun _ x => x) h3.out) (fun Y kY x => PF Y ((KW.out.trans kX).trans kY) x)
      simpa only [List.getElem?_eq_getElem hi] using this)
  have hc := h2.out
  clear PF h hm s1
  go_enter Try.func57, Try.ntmps57
  go_wp2_with fail
  rw [← hW]
  clear hW
  go_fit SE
  rintro e w1 ⟨k, hk, rfl, p1, p2, k1⟩
  have HP : Hid (ps.findIdx p = k) := findIdx_is hk (fun i hi hik => by have := p1 i hik; simpa only [List.getElem?_eq_getElem hi] using this) (fun i hi hik => by have := p2 i hik hi; simpa only [List.getElem?_eq_getElem hi] using this)
  have K1 : Hid (Kept Nil w w1) := KW.out.trans k1
  clear k1 p1 p2 SE
  go_wp2
  go_ret
  exact ⟨by rw [HP.out]; rfl, K1.out⟩
end Go.Proofs.Ytpfgnhockfofhaa
