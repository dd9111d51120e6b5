/-
  Joined: WKv1, WKvM, WKv2.
-/
import Derived.Test.YtflnjlbafchnaaaGreatDoorQ01
import Derived.Lib.SliceRun
import Derived.Shelf.Small.Strs
import Derived.Deep.DeepFit
/-
  Rows of pairs of one's own; keys compared.
-/
namespace Go.Proofs.YtflnjlbafchnaaaGreatDoor
open Go.RowKit

def kvCell (p : Pr) : List Value := [.string (bs p.k), .string (bs p.v), .int .i64 p.n]
def kvCells (ps : List Pr) : List Value := ps.flatMap kvCell
def OwnP (B : Nat) (w : World) (ao : Option Addr) (c : Nat) (ps : List Pr) : Prop := w.ownsRow B 63 3 (.slice ao ps.length c) ps.length (kvCells ps)
/-- Texts that are no longer than a text may be. -/
def Fit (ps : List Pr) : Prop := ∀ p ∈ ps, p.k.length ≤ maxLen ∧ p.v.length ≤ maxLen
theorem kvCells_cons (o : Pr) (t : List Pr) : kvCells (o :: t) = .string (bs o.k) :: .string (bs o.v) :: .int .i64 o.n :: kvCells t := by simp [kvCells, kvCell]
theorem kvCells_app (a b : List Pr) : kvCells (a ++ b) = kvCells a ++ kvCells b := by simp [kvCells]
theorem kvCells_len (ps : List Pr) : (kvCells ps).length = ps.length * 3 := by
  induction ps with
  | nil => rfl
  | cons o t ih => rw [kvCells_cons]; simp only [List.length_cons, ih]; omega
theorem kvCells_take (ps : List Pr) (i : Nat) : kvCells (ps.take i) = (kvCells ps).take (i * 3) := by
  by_cases h : i ≤ ps.length
  · have e : kvCells ps = kvCells (ps.take i) ++ kvCells (ps.drop i) := by rw [← kvCells_app, List.take_append_drop]
    rw [e, List.take_left' (by rw [kvCells_len, List.length_take, Nat.min_eq_left h])]
  · rw [List.take_of_length_le (by omega), List.take_of_length_le (by rw [kvCells_len]; omega)]
theorem kvCells_drop (ps : List Pr) (i : Nat) : kvCells (ps.drop i) = (kvCells ps).drop (i * 3) := by
  by_cases h : i ≤ ps.length
  · have e : kvCells ps = kvCells (ps.take i) ++ kvCells (ps.drop i) := by rw [← kvCells_app, List.take_append_drop]
    rw [e, List.drop_left' (by rw [kvCells_len, List.length_take, Nat.min_eq_left h])]
  · rw [List.drop_of_length_le (by omega), List.drop_of_length_le (by rw [kvCells_len]; omega)]
    rfl
theorem kvCells_at : ∀ (ps : List Pr) (j : Nat) (hj : j < ps.length), (kvCells ps)[j * 3]? = some (.string (bs ps[j].k)) ∧ (kvCells ps)[j * 3 + 1]? = some (.string (bs ps[j].v)) ∧ (kvCells ps)[j * 3 + 2]? = some (.int .i64 ps[j].n)
  | [], j, hj => by simp at hj
  | o :: t, 0, hj => by simp [kvCells_cons]
  | o :: t, j + 1, hj => by
    have h := kvCells_at t j (by simpa using hj)
    have hx : ∀ i, (kvCells (o :: t))[(j + 1) * 3 + i]? = (kvCells t)[j * 3 + i]? := fun i => by
      rw [kvCells_cons, show (j + 1) * 3 + i = (j * 3 + i) + 1 + 1 + 1 by omega]
      simp only [List.getElem?_cons_succ]
    have hx0 := hx 0
    simp only [Nat.add_zero] at hx0
    rw [hx0, hx 1, hx 2]
    simpa using h
theorem kvCells_one (ps : List Pr) : ∀ v ∈ kvCells ps, v.oneCell' = true := fun u hu => by
  obtain ⟨o, _, hu⟩ := List.mem_flatMap.1 hu
  simp [kvCell] at hu
  rcases hu with rfl | rfl | rfl <;> rfl
theorem kvCells_set : ∀ (ps : List Pr) (k : Nat), k < ps.length → ∀ (x : Pr), (((kvCells ps).set (k * 3) (.string (bs x.k))).set (k * 3 + 1) (.string (bs x.v))).set (k * 3 + 2) (.int .i64 x.n) = kvCells (ps.set k x)
  | [], k, hk, x => by simp at hk
  | o :: t, 0, hk, x => by simp [kvCells_cons]
  | o :: t, k + 1, hk, x => by
    have h1 := kvCells_set t k (by simpa using hk) x
    rw [show (k + 1) * 3 = k * 3 + 1 + 1 + 1 by omega, show k * 3 + 1 + 1 + 1 + 1 = (k * 3 + 1) + 1 + 1 + 1 by omega, show k * 3 + 1 + 1 + 1 + 2 = (k * 3 + 2) + 1 + 1 + 1 by omega, kvCells_cons]
    simp only [List.set_cons_succ]
    rw [h1]
    simp [kvCells_cons]
theorem OwnP.set3 {B g c k : Nat} {w : World} {ps : List Pr} (h : OwnP B w (some ⟨g, 0, none⟩) c ps) (hk : k < ps.length) (x : Pr) : OwnP B (((w.setCell ⟨g, k * 3, none⟩ (.string (bs x.k))).setCell ⟨g, k * 3 + 1, none⟩ (.string (bs x.v))).setCell ⟨g, k * 3 + 2, none⟩ (.int .i64 x.n)) (some ⟨g, 0, none⟩) c (ps.set k x) := by
  have := own_setAtK (own_setAtK (own_setAtK h (k * 3) (.string (bs x.k))) (k * 3 + 1) (.string (bs x.v))) (k * 3 + 2) (.int .i64 x.n)
  rw [kvCells_set ps k hk x] at this
  unfold OwnP
  rw [List.length_set]
  exact this
theorem OwnP.block {B c : Nat} {w : World} {ao : Option Addr} {ps : List Pr} (h : OwnP B w ao c ps) (h0 : ao ≠ none) : ∃ g cs, ao = some ⟨g, 0, none⟩ ∧ B ≤ g ∧ w.heap[g]? = some (.cells cs 63 (0, 0)) ∧ ps.length ≤ c ∧ c ≤ maxLen ∧ cs.size = c * 3 ∧ cs.toList.take (ps.length * 3) = kvCells ps := by
  rcases h.2 with ⟨h1, h2⟩ | ⟨g, cap, cur, hv, hb, hh, h1, h2, h3, h4⟩
  · simp only [Value.slice.injEq] at h1
    exact absurd h1.1 h0
  · simp only [Value.slice.injEq] at hv
    obtain ⟨rfl, _, rfl⟩ := hv
    exact ⟨g, cur, rfl, hb, hh, h1, h2, h3, h4⟩
theorem OwnP.cells {B c : Nat} {w : World} {ao : Option Addr} {ps : List Pr} (h : OwnP B w ao c ps) (h0 : 0 < ps.length) : ∃ g, ao = some ⟨g, 0, none⟩ ∧ B ≤ g ∧ g < w.heap.size ∧ ∀ j, (hj : j < ps.length) → w.cell? ⟨g, j * 3, none⟩ = some (.string (bs ps[j].k)) ∧ w.cell? ⟨g, j * 3 + 1, none⟩ = some (.string (bs ps[j].v)) ∧ w.cell? ⟨g, j * 3 + 2, none⟩ = some (.int .i64 ps[j].n) ∧ w.frozen? ⟨g, j * 3, none⟩ = false ∧ w.frozen? ⟨g, j * 3 + 1, none⟩ = false ∧ w.frozen? ⟨g, j * 3 + 2, none⟩ = false := by
  rcases h.2 with ⟨h1, h2⟩ | ⟨g, cap, cur, hv, hb, hh, h1, h2, h3, h4⟩
  · omega
  · simp only [Value.slice.injEq] at hv
    obtain ⟨rfl, _, rfl⟩ := hv
    refine ⟨g, rfl, hb, lt_of_block hh, fun j hj => ?_⟩
    have hc : ∀ i, i < ps.length * 3 → cur[i]? = (kvCells ps)[i]? := fun i hi => by
      have := congrArg (fun l => l[i]?) h4
      simpa only [List.getElem?_take, if_pos hi, Array.getElem?_toList] using this
    obtain ⟨e1, e2, e3⟩ := kvCells_at ps j hj
    exact ⟨by rw [blk_cell hh, hc _ (by omega), e1], by rw [blk_cell hh, hc _ (by omega), e2], by rw [blk_cell hh, hc _ (by omega), e3], blk_free hh _, blk_free hh _, blk_free hh _⟩
theorem OwnP.row {B c : Nat} {w : World} {ao : Option Addr} {ps : List Pr} (h : OwnP B w ao c ps) (hs : Fit ps) : PairRow w.heap.size w ao ps := by
  intro j hj
  obtain ⟨g, rfl, _, hg, hc⟩ := h.cells (by omega)
  obtain ⟨e1, e2, e3, _⟩ := hc j hj
  obtain ⟨l1, l2⟩ := hs ps[j] (List.getElem_mem hj)
  refine ⟨⟨g, 0, none⟩, rfl, hg, ?_, ?_, ?_, l1, l2⟩
  · rw [addr_addE]; exact e1
  · rw [addr_addE]; exact e2
  · rw [addr_addE]; exact e3
theorem OwnP.kept {B c : Nat} {w w' : World} {ao : Option Addr} {ps : List Pr} (h : OwnP B w ao c ps) (hk : Kept Nil w w') : OwnP B w' ao c ps := own_kept h hk (fun _ _ _ x => x.elim)
theorem OwnP.mono {B B' c : Nat} {w : World} {ao : Option Addr} {ps : List Pr} (h : OwnP B w ao c ps) (hb : B' ≤ B) : OwnP B' w ao c ps := by
  refine ⟨h.1, h.2.imp id ?_⟩
  rintro ⟨g, cap, cur, h1, h2, h3⟩
  exact ⟨g, cap, cur, h1, Nat.le_trans hb h2, h3⟩
theorem PairRow.fit {B : Nat} {w : World} {ao : Option Addr} {ps : List Pr} (h : PairRow B w ao ps) : Fit ps := fun p hp => by
  obtain ⟨j, hj, rfl⟩ := List.getElem_of_mem hp
  obtain ⟨_, _, _, _, _, _, l1, l2⟩ := h j hj
  exact ⟨l1, l2⟩
theorem Tryz.infoPr : (Tryz.prog.info? 63).map (fun i => (i.zero, i.size, i.bytes)) = some (some (.agg #[.string ⟨#[]⟩, .string ⟨#[]⟩, .int .i64 0]), 3, 40) := by kernel_rfl
theorem PairRow.src {B c : Nat} {w : World} {ao : Option Addr} {ps : List Pr} (h : PairRow B w ao ps) : Src Tryz.prog 3 55 (.slice ao ps.length c) ps.length (kvCells ps) w := by
  cases hes : ps with
  | nil =>
    cases ao with
    | none => exact Src.ofNil _ Tryz.underlying55 c
    | some a => exact Src.ofSlice _ Tryz.underlying55 a 0 c [] rfl (fun j u hj => by simp at hj) (fun u hu => by simp at hu)
  | cons x t =>
    rw [← hes]
    obtain ⟨a, rfl, _⟩ := h 0 (by rw [hes]; simp)
    refine Src.ofSlice _ Tryz.underlying55 a ps.length c _ (kvCells_len ps) ?_ (kvCells_one ps)
    intro j u hj
    have hlt : j < ps.length * 3 := by have := (List.getElem?_eq_some_iff.1 hj).1; rwa [kvCells_len] at this
    obtain ⟨a', e, _, q0, q1, q2, _⟩ := h (j / 3) (by omega)
    simp only [Option.some.injEq] at e
    subst e
    obtain ⟨e1, e2, e3⟩ := kvCells_at ps (j / 3) (by omega)
    have hadd : ∀ r, 0 < r → j = j / 3 * 3 + r → a.add j = ⟨(a.add (j / 3 * 3)).block, (a.add (j / 3 * 3)).off + r, none⟩ := fun r hr hj => by
      generalize j / 3 * 3 = m at hj ⊢
      rw [hj, ← addr_add2]
      exact add_posE _ hr
    rcases (show j = j / 3 * 3 ∨ j = j / 3 * 3 + 1 ∨ j = j / 3 * 3 + 2 by omega) with e | e | e
    · rw [e] at hj ⊢; rw [e1] at hj; rw [← hj]; exact q0
    · rw [hadd 1 (by omega) e]; rw [e, e2] at hj; rw [← hj]; exact q1
    · rw [hadd 2 (by omega) e]; rw [e, e3] at hj; rw [← hj]; exact q2
theorem OwnP.push {B : Nat} {w' : World} {ao : Option Addr} {c : Nat} {ps : List Pr} {x : Pr} (h : w'.ownsRow B 63 3 (.slice ao (ps.length + 1) c) (ps.length + 1) (kvCells ps ++ [.string (bs x.k), .string (bs x.v), .int .i64 x.n])) : OwnP B w' ao c (ps ++ [x]) := by
  unfold OwnP
  rw [show kvCells (ps ++ [x]) = kvCells ps ++ [.string (bs x.k), .string (bs x.v), .int .i64 x.n] by simp [kvCells, kvCell], List.length_append]
  exact h

/-! compared -/
def cmpB (x y : List UInt8) : Int := Lib.compareBytes x y
set_option maxRecDepth 100000 in
set_option maxHeartbeats 1000000 in
theorem compareString_any (x y : List UInt8) (w : World) :
    Calls Tryz.prog 104 #[.string (bs x), .string (bs y)] w fun e w' => e = .returned (.int .i64 (cmpB x y)) ∧ w' = w := by
  go_enter Tryz.func104, Tryz.ntmps104
  go_wp2
  rw [run_callFunc_extern Tryz.func144 (by kernel_rfl) (by kernel_rfl) (by kernel_rfl) (e := Extern.BytealgCompare.compare) (by kernel_rfl), Lib.run_compareString]
  simp only [Result.andThen]
  rw [Oper.upon_value]
  go_wp2
  go_ret
  exact ⟨by unfold cmpB; rw [bs_data, bs_data]; rfl, rfl⟩
set_option maxRecDepth 100000 in
set_option maxHeartbeats 1000000 in
theorem compare_any (x y : List UInt8) (w : World) :
    Calls Tryz.prog 46 #[.string (bs x), .string (bs y)] w fun e w' => e = .returned (.int .i64 (cmpB x y)) ∧ w' = w := by
  go_enter Tryz.func46, Tryz.ntmps46
  go_wp2_with fail
  go_fit (compareString_any x y w)
  rintro e w1 ⟨rfl, rfl⟩
  go_wp2
  go_ret
  exact ⟨rfl, rfl⟩
set_option maxRecDepth 100000 in
set_option maxHeartbeats 1000000 in
theorem findF_any (p : Pr) (key : List UInt8) (w : World) :
    Calls Tryz.prog 114 #[.agg #[.string (bs p.k), .string (bs p.v), .int .i64 p.n], .string (bs key)] w fun e w' => e = .returned (.int .i64 (cmpB p.k key)) ∧ Kept Nil w w' := by
  go_enter Tryz.func114, Tryz.ntmps114
  go_wp2_with fail
  go_fit (compare_any p.k key _)
  rintro e w1 ⟨rfl, rfl⟩
  go_wp2
  go_ret
  exact ⟨rfl, (Kept.refl _ _).alloc _⟩

end Go.Proofs.YtflnjlbafchnaaaGreatDoor

/-
  Keys in order, plainly.
-/
namespace Go.Proofs.YtflnjlbafchnaaaGreatDoor
open Go.RowKit

theorem less_nil_right (x : List UInt8) : lessB x [] = false := by cases x <;> rfl
theorem less_cons (a b : UInt8) (x y : List UInt8) : lessB (a :: x) (b :: y) = (decide (a < b) || (a == b && lessB x y)) := rfl
theorem cmp_cons (a b : UInt8) (x y : List UInt8) : cmpB (a :: x) (b :: y) = if a < b then -1 else if b < a then 1 else cmpB x y := rfl
theorem u8_eq {a b : UInt8} (h1 : ¬ a < b) (h2 : ¬ b < a) : a = b := by
  apply UInt8.toNat_inj.1
  rw [UInt8.lt_iff_toNat_lt] at h1 h2
  omega
theorem cmp_less : ∀ (x y : List UInt8), (cmpB x y < 0 ↔ lessB x y = true) ∧ (cmpB x y = 0 ↔ x = y)
  | [], [] => by simp [cmpB, Lib.compareBytes, less_nil_right]
  | [], b :: y => by simp [cmpB, Lib.compareBytes]; rfl
  | a :: x, [] => by simp [cmpB, Lib.compareBytes, less_nil_right]
  | a :: x, b :: y => by
    obtain ⟨h1, h2⟩ := cmp_less x y
    rw [cmp_cons, less_cons]
    by_cases hab : a < b
    · have hne : a ≠ b := fun e => by subst e; rw [UInt8.lt_iff_toNat_lt] at hab; omega
      simp [hab, hne]
    · by_cases hba : b < a
      · have hne : a ≠ b := fun e => by subst e; rw [UInt8.lt_iff_toNat_lt] at hba; omega
        simp [hab, hba, hne]
      · obtain rfl := u8_eq hab hba
        simp [hab, h1, h2]
theorem less_irrefl (x : List UInt8) : lessB x x = false := by
  have h := cmp_less x x
  cases hx : lessB x x
  · rfl
  · have a := h.1.2 hx
    have b := h.2.2 rfl
    omega
theorem less_trans : ∀ {x y z : List UInt8}, lessB x y = true → lessB y z = true → lessB x z = true
  | _, [], _, h, _ => by rw [less_nil_right] at h; cases h
  | _, _ :: _, [], _, h => by rw [less_nil_right] at h; cases h
  | [], _ :: _, _ :: _, _, _ => rfl
  | a :: x, b :: y, c :: z, h1, h2 => by
    rw [less_cons] at h1 h2 ⊢
    simp only [Bool.or_eq_true, decide_eq_true_eq, Bool.and_eq_true, beq_iff_eq] at h1 h2 ⊢
    rcases h1 with h1 | ⟨rfl, h1⟩
    · rcases h2 with h2 | ⟨rfl, h2⟩
      · left; rw [UInt8.lt_iff_toNat_lt] at *; omega
      · left; exact h1
    · rcases h2 with h2 | ⟨rfl, h2⟩
      · left; exact h2
      · right; exact ⟨rfl, less_trans h1 h2⟩
theorem less_total {x y : List UInt8} (h : lessB x y = false) (hne : x ≠ y) : lessB y x = true := by
  have a := cmp_less x y
  have b := cmp_less y x
  cases hy : lessB y x
  · exfalso
    have h1 : ¬ cmpB x y < 0 := fun hh => by rw [a.1.1 hh] at h; cases h
    have h2 : ¬ cmpB y x < 0 := fun hh => by rw [b.1.1 hh] at hy; cases hy
    exact hne (less_eq h hy)
  · rfl
where
  less_eq : ∀ {x y : List UInt8}, lessB x y = false → lessB y x = false → x = y
  | [], [], _, _ => rfl
  | [], _ :: _, h, _ => by cases h
  | _ :: _, [], _, h => by cases h
  | a :: x, b :: y, h1, h2 => by
    rw [less_cons] at h1 h2
    simp only [Bool.or_eq_false_iff, decide_eq_false_iff_not, Bool.and_eq_false_iff] at h1 h2
    obtain rfl := u8_eq h1.1 h2.1
    simp only [beq_self_eq_true, Bool.true_eq_false, false_or] at h1 h2
    rw [less_eq h1.2 h2.2]
/-- Keys rise. -/
def Srt (ps : List Pr) : Prop := ps.Pairwise fun a b => lessB a.k b.k = true
theorem rise_srt : ∀ {ps : List Pr} {q : Option (List UInt8)}, pRise q ps = true → Srt ps ∧ (∀ p ∈ ps, prOk p = true) ∧ (∀ x, q = some x → ∀ p ∈ ps, lessB x p.k = true)
  | [], _, _ => ⟨List.Pairwise.nil, (fun p hp => by cases hp), (fun x _ p hp => by cases hp)⟩
  | p :: t, q, h => by
    unfold pRise at h
    simp only [Bool.and_eq_true] at h
    obtain ⟨⟨h1, h2⟩, h3⟩ := h
    obtain ⟨i1, i2, i3⟩ := rise_srt h3
    refine ⟨List.pairwise_cons.2 ⟨fun b hb => i3 p.k rfl b hb, i1⟩, fun x hx => ?_, fun x hx y hy => ?_⟩
    · rcases List.mem_cons.1 hx with rfl | hx
      · exact h1
      · exact i2 x hx
    · subst hx
      rcases List.mem_cons.1 hy with rfl | hy
      · exact h2
      · exact less_trans h2 (i3 p.k rfl y hy)
theorem srt_rise : ∀ {ps : List Pr} {q : Option (List UInt8)}, Srt ps → (∀ p ∈ ps, prOk p = true) → (∀ x, q = some x → ∀ p ∈ ps, lessB x p.k = true) → pRise q ps = true
  | [], _, _, _, _ => by unfold pRise; rfl
  | p :: t, q, h1, h2, h3 => by
    obtain ⟨g1, g2⟩ := List.pairwise_cons.1 h1
    unfold pRise
    simp only [Bool.and_eq_true]
    refine ⟨⟨h2 p (by simp), ?_⟩, srt_rise g2 (fun x hx => h2 x (by simp [hx])) (fun x hx y hy => by cases hx; exact g1 y hy)⟩
    cases q with
    | none => rfl
    | some x => exact h3 x rfl p (by simp)
/-- Where a key stands, or would stand. -/
def lowP (key : List UInt8) (ps : List Pr) : Nat := ps.findIdx fun p => !lessB p.k key
theorem lowP_le (key : List UInt8) (ps : List Pr) : lowP key ps ≤ ps.length := List.findIdx_le_length
theorem lowP_lt {key : List UInt8} {ps : List Pr} {j : Nat} (hj : j < ps.length) (h : j < lowP key ps) : lessB ps[j].k key = true := by
  have := List.not_of_lt_findIdx h
  simpa using this
theorem lowP_ge {key : List UInt8} {ps : List Pr} (hs : Srt ps) {j : Nat} (hj : j < ps.length) (h : lowP key ps ≤ j) : lessB ps[j].k key = false := by
  have hl : lowP key ps < ps.length := by omega
  have h0 : lessB ps[lowP key ps].k key = false := by
    have := List.findIdx_getElem (p := fun p : Pr => !lessB p.k key) (xs := ps) (w := hl)
    simp only [Bool.not_eq_true'] at this
    exact this
  by_cases e : lowP key ps = j
  · subst e; exact h0
  · cases hx : lessB ps[j].k key
    · rfl
    · have := List.pairwise_iff_getElem.1 hs (lowP key ps) j hl hj (by omega)
      rw [less_trans this hx] at h0
      cases h0
theorem lowP_eq {key : List UInt8} {ps : List Pr} (hs : Srt ps) {i : Nat} (hi : i ≤ ps.length) (h1 : ∀ j, (hj : j < ps.length) → j < i → lessB ps[j].k key = true) (h2 : ∀ j, (hj : j < ps.length) → i ≤ j → lessB ps[j].k key = false) : lowP key ps = i := by
  have hl := lowP_le key ps
  by_cases ha : lowP key ps < i
  · have := h1 _ (by omega) ha
    rw [lowP_ge hs (by omega) (Nat.le_refl _)] at this
    cases this
  · by_cases hb : i < lowP key ps
    · have := h2 i (by omega) (Nat.le_refl _)
      rw [lowP_lt (by omega) hb] at this
      cases this
    · omega
/-- Is the key there? -/
def isThere (key : List UInt8) (ps : List Pr) : Bool := match ps[lowP key ps]? with | none => false | some p => decide (p.k = key)

end Go.Proofs.YtflnjlbafchnaaaGreatDoor

/-
  kv: a key is searched.
-/
namespace Go.Proofs.YtflnjlbafchnaaaGreatDoor
open Go.RowKit

set_option maxRecDepth 100000 in
set_option maxHeartbeats 2000000 in
theorem bsf_any (B c : Nat) (ao : Option Addr) (ps : List Pr) (key : List UInt8) (w : World) (h : PairRow B w ao ps) (hs : Srt ps) (hl : ps.length ≤ 32) :
    Calls Tryz.prog 113 #[.slice ao ps.length c, .string (bs key), .func (.func 114) #[] #[]] w fun e w' => e = .returned (.tuple #[.int .i64 (lowP key ps), .bool (isThere key ps)]) ∧ Kept Nil w w' := by
  have HR : Hid (PairRow B w ao ps) := h
  have HS : Hid (Srt ps) := hs
  clear h hs
  go_enter Tryz.func113, Tryz.ntmps113
  go_wp2
  go_loopw [9, 10] (fun u v wr => ∃ i j : Nat, i ≤ j ∧ j ≤ ps.length ∧ u = .int .i64 i ∧ v = .int .i64 j ∧ Hid (∀ q, (hq : q < ps.length) → q < i → lessB ps[q].k key = true) ∧ Hid (∀ q, (hq : q < ps.length) → j ≤ q → lessB ps[q].k key = false) ∧ Hid (Kept Nil w wr)) (fun u v _ => (intOf v).toNat - (intOf u).toNat)
  case atStart => exact ⟨0, ps.length, Nat.zero_le _, Nat.le_refl _, rfl, rfl, fun q hq h0 => by omega, fun q hq h0 => by omega, Kept.refl _ _⟩
  case round =>
    obtain ⟨i, j, hij, hjn, rfl, rfl, H1, H2, HK⟩ := hrel
    by_cases hlt : i < j
    · have hli : (i : Int) < (j : Int) := by omega
      have hm : (i + j) / 2 < ps.length := by omega
      obtain ⟨a, rfl, hb, c0, c1, c2, _, _⟩ := (HR.out.nil HK.out) ((i + j) / 2) hm
      obtain ⟨y, HY⟩ : ∃ y : Pr, Hid (y = ps[(i + j) / 2]) := ⟨ps[(i + j) / 2], (rfl : ps[(i + j) / 2] = ps[(i + j) / 2])⟩
      rw [← HY.out] at c0 c1 c2
      have CM := findF_any y key wr
      have HC : Hid (cmpB y.k key < 0 ↔ lessB y.k key = true) := (cmp_less y.k key).1
      generalize cmpB y.k key = z at *
      by_cases hz : z < 0
      · have HL : Hid (lessB y.k key = true) := HC.out.1 hz
        go_wp2_with fail
        go_fit CM
        rintro e w1 ⟨rfl, k1⟩
        have K1 : Hid (Kept Nil w w1) := HK.out.trans k1
        clear k1 CM
        go_wp2
        go_roundw
        case rel => exact ⟨(i + j) / 2 + 1, j, by omega, hjn, by congr 1, rfl, fun q hq hqi => (by
          by_cases e : q = (i + j) / 2
          · subst e; rw [← HY.out]; exact HL.out
          · have h1 := List.pairwise_iff_getElem.1 HS.out q ((i + j) / 2) hq hm (by omega)
            rw [← HY.out] at h1
            exact less_trans h1 HL.out), H2.out, K1.out⟩
        case measure => simp [intOf]; omega
      · have HL : Hid (lessB y.k key = false) := by
          show lessB y.k key = false
          cases hx : lessB y.k key
          · rfl
          · exact absurd (HC.out.2 hx) hz
        go_wp2_with fail
        go_fit CM
        rintro e w1 ⟨rfl, k1⟩
        have K1 : Hid (Kept Nil w w1) := HK.out.trans k1
        clear k1 CM
        go_wp2
        go_roundw
        case rel => exact ⟨i, (i + j) / 2, by omega, by omega, rfl, by congr 1, H1.out, fun q hq hqi => (by
          by_cases e : q = (i + j) / 2
          · subst e; rw [← HY.out]; exact HL.out
          · cases hx : lessB ps[q].k key
            · rfl
            · have h1 := List.pairwise_iff_getElem.1 HS.out ((i + j) / 2) q hm hq (by omega)
              rw [← HY.out] at h1
              have h2 := HL.out
              rw [less_trans h1 hx] at h2
              cases h2), K1.out⟩
        case measure => simp [intOf]; omega
    · obtain rfl : i = j := by omega
      have HLow : Hid (lowP key ps = i) := lowP_eq HS.out hjn H1.out H2.out
      by_cases hin : i < ps.length
      · have hii : (i : Int) < ps.length := by omega
        obtain ⟨a, rfl, hb, c0, c1, c2, _, _⟩ := (HR.out.nil HK.out) i hin
        obtain ⟨y, HY⟩ : ∃ y : Pr, Hid (y = ps[i]) := ⟨ps[i], (rfl : ps[i] = ps[i])⟩
        rw [← HY.out] at c0 c1 c2
        have HTH : Hid (isThere key ps = decide (y.k = key)) := by
          show isThere key ps = _
          unfold isThere
          rw [HLow.out, List.getElem?_eq_getElem hin, ← HY.out]
        have CM := findF_any y key wr
        have HC : Hid (cmpB y.k key = 0 ↔ y.k = key) := (cmp_less y.k key).2
        generalize cmpB y.k key = z at *
        go_wp2_with fail
        go_fit CM
        rintro e w1 ⟨rfl, k1⟩
        have K1 : Hid (Kept Nil w w1) := HK.out.trans k1
        clear k1 CM
        go_wp2
        go_ret2
        exact ⟨by rw [HLow.out, HTH.out, ← decide_eq_decide.2 HC.out]; first | rfl | (cases hd : decide (z = 0) <;> simp_all), K1.out⟩
      · have hii : ¬ (i : Int) < ps.length := by omega
        have HTH : Hid (isThere key ps = false) := by
          show isThere key ps = _
          unfold isThere
          rw [HLow.out, List.getElem?_eq_none (by omega)]
        go_wp2
        go_ret2
        exact ⟨by rw [HLow.out, HTH.out]; rfl, HK.out⟩

/-- A spot in memory: its key, value, version, the pairs, the place. -/
def SpotAt (w : World) (b : Nat) (k v : List UInt8) (n : Int) (ao : Option Addr) (len c : Nat) (at' : Int) : Prop := w.heap[b]? = some (.cells #[.string (bs k), .string (bs v), .int .i64 n, .slice ao len c, .int .i64 at'] 121 (0, 0))
/-- What a key has: its value and version; nothing, and version 0, if it is not there. -/
def spotV (key : List UInt8) (ps : List Pr) : List UInt8 := if isThere key ps = true then ((ps[lowP key ps]?).map Pr.v).getD [] else []
def spotN (key : List UInt8) (ps : List Pr) : Int := if isThere key ps = true then ((ps[lowP key ps]?).map Pr.n).getD 0 else 0
theorem kept_one {b i : Nat} {w X : World} (h : Kept (One b) w X) (u : Value) : Kept (One b) w (X.setCell ⟨b, i, none⟩ u) := h.setCell (p := ⟨b, i, none⟩) (fun _ => rfl) u
theorem there_at {key : List UInt8} {ps : List Pr} (h : isThere key ps = true) : ∃ hl : lowP key ps < ps.length, ps[lowP key ps].k = key ∧ spotV key ps = ps[lowP key ps].v ∧ spotN key ps = ps[lowP key ps].n := by
  have h' := h
  unfold isThere at h'
  by_cases hl : lowP key ps < ps.length
  · rw [List.getElem?_eq_getElem hl] at h'
    refine ⟨hl, of_decide_eq_true h', ?_, ?_⟩
    · unfold spotV; rw [if_pos h, List.getElem?_eq_getElem hl]; rfl
    · unfold spotN; rw [if_pos h, List.getElem?_eq_getElem hl]; rfl
  · rw [List.getElem?_eq_none (by omega)] at h'
    cases h'

set_option maxRecDepth 100000 in
set_option maxHeartbeats 2000000 in
theorem find_any (b c : Nat) (ao : Option Addr) (ps : List Pr) (key : List UInt8) (w : World) (h : PairRow w.heap.size w ao ps) (hs : Srt ps) (hl : ps.length ≤ 32) (hb : SpotAt w b [] [] 0 ao ps.length c 0) (hne : ∀ a, ao = some a → a.block ≠ b) :
    Calls Tryz.prog 70 #[.pointer (some ⟨b, 0, none⟩), .string (bs key)] w fun e w' => e = .returned (.tuple #[]) ∧ SpotAt w' b key (spotV key ps) (spotN key ps) ao ps.length c (lowP key ps) ∧ Kept (One b) w w' := by
  have HR : Hid (PairRow w.heap.size w ao ps) := h
  have HB : Hid (w.heap[b]? = some (.cells #[.string (bs []), .string (bs []), .int .i64 0, .slice ao ps.length c, .int .i64 0] 121 (0, 0))) := hb
  have HNE : Hid (∀ a, ao = some a → a.block ≠ b) := hne
  have BS := bsf_any w.heap.size c ao ps key w h hs hl
  have q3 : w.cell? ⟨b, 3, none⟩ = some (.slice ao ps.length c) := blk_at HB.out 3 rfl
  clear h hs hb hne
  obtain ⟨sv, HSV⟩ : ∃ x : List UInt8, Hid (x = spotV key ps) := ⟨_, rfl⟩
  obtain ⟨sn, HSN⟩ : ∃ x : Int, Hid (x = spotN key ps) := ⟨_, rfl⟩
  obtain ⟨lo, HLO⟩ : ∃ x : Nat, Hid (x = lowP key ps) := ⟨_, rfl⟩
  obtain ⟨th, HTH⟩ : ∃ x : Bool, Hid (x = isThere key ps) := ⟨_, rfl⟩
  rw [← HSV.out, ← HSN.out, ← HLO.out]
  rw [← HLO.out, ← HTH.out] at BS
  go_enter Tryz.func70, Tryz.ntmps70
  go_wp2_with fail
  go_fit BS
  rintro e w1 ⟨rfl, k1⟩
  have K1 : Hid (Kept Nil w w1) := k1
  have HB1 : Hid (w1.heap[b]? = some (.cells #[.string (bs []), .string (bs []), .int .i64 0, .slice ao ps.length c, .int .i64 0] 121 (0, 0))) := k1.block _ _ HB.out (fun x => x.elim)
  clear k1 BS q3
  have p0 : w1.cell? ⟨b, 0, none⟩ = some (.string (bs [])) := blk_at HB1.out 0 rfl
  have p1 : w1.cell? ⟨b, 1, none⟩ = some (.string (bs [])) := blk_at HB1.out 1 rfl
  have p2 : w1.cell? ⟨b, 2, none⟩ = some (.int .i64 0) := blk_at HB1.out 2 rfl
  have p3 : w1.cell? ⟨b, 3, none⟩ = some (.slice ao ps.length c) := blk_at HB1.out 3 rfl
  have p4 : w1.cell? ⟨b, 4, none⟩ = some (.int .i64 0) := blk_at HB1.out 4 rfl
  have z0 : w1.frozen? ⟨b, 0, none⟩ = false := blk_free HB1.out 0
  have z1 : w1.frozen? ⟨b, 1, none⟩ = false := blk_free HB1.out 1
  have z2 : w1.frozen? ⟨b, 2, none⟩ = false := blk_free HB1.out 2
  have z4 : w1.frozen? ⟨b, 4, none⟩ = false := blk_free HB1.out 4
  cases th with
  | false =>
    have HV : Hid (sv = [] ∧ sn = 0) := ⟨by rw [HSV.out]; unfold spotV; rw [← HTH.out]; rfl, by rw [HSN.out]; unfold spotN; rw [← HTH.out]; rfl⟩
    go_wp2
    go_end0
    refine ⟨rfl, ?_, kept_one (kept_one (K1.out.mono (fun _ _ x => x.elim)) _) _⟩
    rw [HV.out.1, HV.out.2]
    exact blk_set (blk_set HB1.out 4 _) 0 _
  | true =>
    obtain ⟨hl', e1, e2, e3⟩ := there_at HTH.out.symm
    obtain ⟨a, rfl, hba, c0, c1, c2, _, _⟩ := (HR.out.nil K1.out) (lowP key ps) hl'
    have hne2 := HNE.out a rfl
    rw [e1] at c0
    rw [← e2, ← HSV.out] at c1
    rw [← e3, ← HSN.out] at c2
    rw [← HLO.out] at c0 c1 c2
    have hlo : lo < ps.length := by rw [HLO.out]; exact hl'
    clear e1 e2 e3
    have hne3 : (a.add (lo * 3)).block ≠ b := by rw [add_block]; exact hne2
    have hai : (lo : Int) < ps.length := by omega
    obtain ⟨W2, hW2⟩ : ∃ W, W = (w1.setCell ⟨b, 4, none⟩ (.int .i64 lo)).setCell ⟨b, 0, none⟩ (.string (bs key)) := ⟨_, rfl⟩
    have KO : Hid (Kept (One b) w1 W2) := by rw [hW2]; exact kept_one (kept_one (Kept.refl _ _) _) _
    have HB2 : Hid (W2.heap[b]? = some (.cells #[.string (bs key), .string (bs []), .int .i64 0, .slice (some a) ps.length c, .int .i64 lo] 121 (0, 0))) := by rw [hW2]; exact blk_set (blk_set HB1.out 4 _) 0 _
    have d0 := cell_kept KO.out (fun o e => hne3 e) c0
    have d1 : W2.cell? ⟨(a.add (lo * 3)).block, (a.add (lo * 3)).off + 1, none⟩ = some (.string (bs sv)) := cell_kept KO.out (fun o e => hne3 e) c1
    have d2 : W2.cell? ⟨(a.add (lo * 3)).block, (a.add (lo * 3)).off + 2, none⟩ = some (.int .i64 sn) := cell_kept KO.out (fun o e => hne3 e) c2
    go_upto_region 3 with fail
    rw [← hW2]
    clear hW2 c0 c1 c2 p0 p1 p2 p3 p4 z0 z1 z2 z4
    have p0 : W2.cell? ⟨b, 0, none⟩ = some (.string (bs key)) := blk_at HB2.out 0 rfl
    have p1 : W2.cell? ⟨b, 1, none⟩ = some (.string (bs [])) := blk_at HB2.out 1 rfl
    have p2 : W2.cell? ⟨b, 2, none⟩ = some (.int .i64 0) := blk_at HB2.out 2 rfl
    have p3 : W2.cell? ⟨b, 3, none⟩ = some (.slice (some a) ps.length c) := blk_at HB2.out 3 rfl
    have z0 : W2.frozen? ⟨b, 0, none⟩ = false := blk_free HB2.out 0
    have z1 : W2.frozen? ⟨b, 1, none⟩ = false := blk_free HB2.out 1
    have z2 : W2.frozen? ⟨b, 2, none⟩ = false := blk_free HB2.out 2
    go_wp2
    go_end0
    exact ⟨rfl, blk_set (blk_set (blk_set HB2.out 0 _) 1 _) 2 _, kept_one (kept_one (kept_one ((K1.out.mono (fun _ _ x => x.elim)).trans KO.out) _) _) _⟩

end Go.Proofs.YtflnjlbafchnaaaGreatDoor
