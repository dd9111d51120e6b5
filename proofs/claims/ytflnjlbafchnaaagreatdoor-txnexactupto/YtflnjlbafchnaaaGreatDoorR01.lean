/-
  Joined: WStepA, WLog2, WKv0, WKv1, WKvM, WKv2, WKv3, WKv4, WKv5, WKv6, WKv7, WKv8, WKv9, WKvN, WKv10, WKv11, WCmd, WKv12, WKvC, WKvIn.
-/
import Derived.Test.YtflnjlbafchnaaaGreatDoorR00
import Derived.Deep.RegionLaw
import Derived.Lib.SliceRun
import Derived.Deep.AppendSrc
import Derived.Laws.CopyRow
import Derived.OwnWalk
import Derived.Laws.IdiomStrings
import Derived.RegionCalls
import Derived.Deep.RegionWith
import Derived.Laws.OwnMore
import Derived.Deep.CutRange
import Derived.Deep.CutBlock
import Derived.Deep.LoopGhost
import Derived.Lib.AppendZeros
import Derived.Shelf.Small.Strs
import Derived.Deep.DeepFit
import Derived.BigRegion
import Derived.Deep.RegionHeld3
import Derived.Shelf.Spec.SlicesInsertGrow
import Derived.Deep.DeepCutAuto
import Derived.Test.YtflnjlbafchnaaaGreatDoorRows
import Derived.ProofKit
import Derived.OpenShut
import Derived.ShutString
import Derived.ChangeOld
import Derived.SizedLaws
import Derived.ChangeSlices
import Derived.Lib.SmallJoins
import Derived.Deep.Strs
import Derived.Deep.Slices
/-
  'append' onto a row of the call's own, as a step within a region that draws its order. A law on the model, over any program.
-/
namespace Go.Proofs.YtflnjlbafchnaaaGreatDoor
open Go.RowKit
variable {P : Program} (w : World)

theorem step_append_src {ops : Array Oper} {o : Oper} {a : Act} {K : Act → World → Prop} {Q : Exit → Act → World → Prop} {E : Prop} (hgd : o.guard = none) (s xo : Operand) (t tx : TypeId)
    (ho : o.op = .call { callee := .builtin .append, args := #[s, xo], argTypes := #[t, tx] })
    (base : Nat) (e : TypeId) (i : TypeInfo) (z : Value) (size bytes : Nat) (ht : P.underlying t = some (.slice e)) (hi : P.info? e = some i) (hz : i.zero = some z)
    (hsize : i.size = size) (hby : i.bytes = bytes) (hzs : z.cells.size = size)
    (v : Value) (n : Nat) (xs : List Value) (hv : a.eval s = v) (hown : w.ownsRow base e size v n xs) (x : Value) (m : Nat) (news : List Value) (hx : a.eval xo = x) (hs : Src P size tx x m news w)
    (h63 : n + m ≤ maxLen) (hbytes : (n + m) * bytes ≤ 140737488355328) (hbase : base ≤ w.heap.size)
    (h : ∀ ao c w', w'.ownsRow base e size (.slice ao (n + m) c) (n + m) (xs ++ news) → w.grownBy w' v.ownBlock → K (a.put o.dst (.slice ao (n + m) c)) w') :
    if Region.wanted o (yielded ops a.tmps) = true then Oper.wp P o a w K Q else E := by
  rw [if_pos (by simp [Region.wanted, hgd])]
  exact wp_append_src w s xo t tx ho base e i z size bytes ht hi hz hsize hby hzs v n xs hv hown x m news hx hs h63 hbytes hbase fun v' w' h2 h3 => by
    obtain ⟨ao, c, rfl⟩ := own_shape h2
    exact h ao c w' h2 h3

end Go.Proofs.YtflnjlbafchnaaaGreatDoor

/-
  TermAt and Fresh, and slices.Clone at entries: the program's.
-/
namespace Go.Proofs.YtflnjlbafchnaaaGreatDoor
open Go.RowKit

/-! ### the library's Clone at entries -/
theorem add_posE (a : Addr) {i : Nat} (h : 0 < i) : a.add i = ⟨a.block, a.off + i, none⟩ := by unfold Addr.add; rw [if_neg (by omega)]
end Go.Proofs.YtflnjlbafchnaaaGreatDoor

/-
  What the map's texts take from others: cells set in a row, blocks that grow, texts compared.
-/
namespace Go.Proofs.YtflnjlbafchnaaaGreatDoor
open Go.RowKit

theorem grown_reflK (w : World) (r : Option Nat) : w.grownBy w r := ⟨rfl, rfl, rfl, Nat.le_refl _, fun _ _ _ => rfl⟩
theorem grown_allocK {a w : World} {r : Option Nat} (h : a.grownBy w r) (o : Obj) : a.grownBy (w.alloc o) r := ⟨h.os, h.tape, h.output, by have := h.size; simp; omega, fun k hk hne => by
  rw [Below.heap_alloc _ _ _ (by have := h.size; omega)]; exact h.block k hk hne⟩
theorem own_setAtK {B e size g n cap : Nat} {w : World} {xs : List Value} (h : w.ownsRow B e size (.slice (some ⟨g, 0, none⟩) n cap) n xs) (i : Nat) (u : Value) : (w.setCell ⟨g, i, none⟩ u).ownsRow B e size (.slice (some ⟨g, 0, none⟩) n cap) n (xs.set i u) := by
  refine ⟨by rw [List.length_set]; exact h.1, ?_⟩
  rcases h.2 with ⟨h1, _⟩ | ⟨g', cap', cur, hv, hb, hh, h1, h2, h3, h4⟩
  · simp at h1
  · simp only [Value.slice.injEq, Option.some.injEq, Addr.mk.injEq, true_and, and_true] at hv
    obtain ⟨rfl, rfl⟩ := hv
    refine .inr ⟨g, cap, _, rfl, hb, blk_set hh i u, h1, h2, by simpa using h3, ?_⟩
    rw [Array.toList_setIfInBounds, List.take_set, h4]
end Go.Proofs.YtflnjlbafchnaaaGreatDoor

/-
  Rows of pairs of one's own; keys compared.
-/
namespace Go.Proofs.YtflnjlbafchnaaaGreatDoor
open Go.RowKit

def kvCell (p : Pr) : List Value := [.string (bs p.k), .string (bs p.v), .int .i64 p.n]
def kvCells (ps : List Pr) : List Value := ps.flatMap kvCell
def OwnP (B : Nat) (w : World) (ao : Option Addr) (c : Nat) (ps : List Pr) : Prop := w.ownsRow B 63 3 (.slice ao ps.length c) ps.length (kvCells ps)
/-- Texts that are no longer than a text may be. -/
def Fit (ps : List Pr) : Prop := ∀ p ∈ ps, p.k.length ≤ maxLen ∧ p.v.length ≤ maxLen
theorem kvCells_cons (o : Pr) (t : List Pr) : kvCells (o :: t) = .string (bs o.k) :: .string (bs o.v) :: .int .i64 o.n :: kvCells t := by simp [kvCells, kvCell]
theorem kvCells_len (ps : List Pr) : (kvCells ps).length = ps.length * 3 := by
  induction ps with
  | nil => rfl
  | cons o t ih => rw [kvCells_cons]; simp only [List.length_cons, ih]; omega
theorem kvCells_at : ∀ (ps : List Pr) (j : Nat) (hj : j < ps.length), (kvCells ps)[j * 3]? = some (.string (bs ps[j].k)) ∧ (kvCells ps)[j * 3 + 1]? = some (.string (bs ps[j].v)) ∧ (kvCells ps)[j * 3 + 2]? = some (.int .i64 ps[j].n)
  | [], j, hj => by simp at hj
  | o :: t, 0, hj => by simp [kvCells_cons]
  | o :: t, j + 1, hj => by
    have h := kvCells_at t j (by simpa using hj)
    have hx : ∀ i, (kvCells (o :: t))[(j + 1) * 3 + i]? = (kvCells t)[j * 3 + i]? := fun i => by
      rw [kvCells_cons, show (j + 1) * 3 + i = (j * 3 + i) + 1 + 1 + 1 by omega]
      simp only [List.getElem?_cons_succ]
    have hx0 := hx 0
    simp only [Nat.add_zero] at hx0
    rw [hx0, hx 1, hx 2]
    simpa using h
theorem kvCells_one (ps : List Pr) : ∀ v ∈ kvCells ps, v.oneCell' = true := fun u hu => by
  obtain ⟨o, _, hu⟩ := List.mem_flatMap.1 hu
  simp [kvCell] at hu
  rcases hu with rfl | rfl | rfl <;> rfl
theorem OwnP.block {B c : Nat} {w : World} {ao : Option Addr} {ps : List Pr} (h : OwnP B w ao c ps) (h0 : ao ≠ none) : ∃ g cs, ao = some ⟨g, 0, none⟩ ∧ B ≤ g ∧ w.heap[g]? = some (.cells cs 63 (0, 0)) ∧ ps.length ≤ c ∧ c ≤ maxLen ∧ cs.size = c * 3 ∧ cs.toList.take (ps.length * 3) = kvCells ps := by
  rcases h.2 with ⟨h1, h2⟩ | ⟨g, cap, cur, hv, hb, hh, h1, h2, h3, h4⟩
  · simp only [Value.slice.injEq] at h1
    exact absurd h1.1 h0
  · simp only [Value.slice.injEq] at hv
    obtain ⟨rfl, _, rfl⟩ := hv
    exact ⟨g, cur, rfl, hb, hh, h1, h2, h3, h4⟩
theorem OwnP.cells {B c : Nat} {w : World} {ao : Option Addr} {ps : List Pr} (h : OwnP B w ao c ps) (h0 : 0 < ps.length) : ∃ g, ao = some ⟨g, 0, none⟩ ∧ B ≤ g ∧ g < w.heap.size ∧ ∀ j, (hj : j < ps.length) → w.cell? ⟨g, j * 3, none⟩ = some (.string (bs ps[j].k)) ∧ w.cell? ⟨g, j * 3 + 1, none⟩ = some (.string (bs ps[j].v)) ∧ w.cell? ⟨g, j * 3 + 2, none⟩ = some (.int .i64 ps[j].n) ∧ w.frozen? ⟨g, j * 3, none⟩ = false ∧ w.frozen? ⟨g, j * 3 + 1, none⟩ = false ∧ w.frozen? ⟨g, j * 3 + 2, none⟩ = false := by
  rcases h.2 with ⟨h1, h2⟩ | ⟨g, cap, cur, hv, hb, hh, h1, h2, h3, h4⟩
  · omega
  · simp only [Value.slice.injEq] at hv
    obtain ⟨rfl, _, rfl⟩ := hv
    refine ⟨g, rfl, hb, lt_of_block hh, fun j hj => ?_⟩
    have hc : ∀ i, i < ps.length * 3 → cur[i]? = (kvCells ps)[i]? := fun i hi => by
      have := congrArg (fun l => l[i]?) h4
      simpa only [List.getElem?_take, if_pos hi, Array.getElem?_toList] using this
    obtain ⟨e1, e2, e3⟩ := kvCells_at ps j hj
    exact ⟨by rw [blk_cell hh, hc _ (by omega), e1], by rw [blk_cell hh, hc _ (by omega), e2], by rw [blk_cell hh, hc _ (by omega), e3], blk_free hh _, blk_free hh _, blk_free hh _⟩
theorem OwnP.row {B c : Nat} {w : World} {ao : Option Addr} {ps : List Pr} (h : OwnP B w ao c ps) (hs : Fit ps) : PairRow w.heap.size w ao ps := by
  intro j hj
  obtain ⟨g, rfl, _, hg, hc⟩ := h.cells (by omega)
  obtain ⟨e1, e2, e3, _⟩ := hc j hj
  obtain ⟨l1, l2⟩ := hs ps[j] (List.getElem_mem hj)
  refine ⟨⟨g, 0, none⟩, rfl, hg, ?_, ?_, ?_, l1, l2⟩
  · rw [addr_addE]; exact e1
  · rw [addr_addE]; exact e2
  · rw [addr_addE]; exact e3
theorem OwnP.kept {B c : Nat} {w w' : World} {ao : Option Addr} {ps : List Pr} (h : OwnP B w ao c ps) (hk : Kept Nil w w') : OwnP B w' ao c ps := own_kept h hk (fun _ _ _ x => x.elim)
theorem OwnP.mono {B B' c : Nat} {w : World} {ao : Option Addr} {ps : List Pr} (h : OwnP B w ao c ps) (hb : B' ≤ B) : OwnP B' w ao c ps := by
  refine ⟨h.1, h.2.imp id ?_⟩
  rintro ⟨g, cap, cur, h1, h2, h3⟩
  exact ⟨g, cap, cur, h1, Nat.le_trans hb h2, h3⟩
theorem PairRow.src {B c : Nat} {w : World} {ao : Option Addr} {ps : List Pr} (h : PairRow B w ao ps) : Src Tryz.prog 3 55 (.slice ao ps.length c) ps.length (kvCells ps) w := by
  cases hes : ps with
  | nil =>
    cases ao with
    | none => exact Src.ofNil _ Tryz.underlying55 c
    | some a => exact Src.ofSlice _ Tryz.underlying55 a 0 c [] rfl (fun j u hj => by simp at hj) (fun u hu => by simp at hu)
  | cons x t =>
    rw [← hes]
    obtain ⟨a, rfl, _⟩ := h 0 (by rw [hes]; simp)
    refine Src.ofSlice _ Tryz.underlying55 a ps.length c _ (kvCells_len ps) ?_ (kvCells_one ps)
    intro j u hj
    have hlt : j < ps.length * 3 := by have := (List.getElem?_eq_some_iff.1 hj).1; rwa [kvCells_len] at this
    obtain ⟨a', e, _, q0, q1, q2, _⟩ := h (j / 3) (by omega)
    simp only [Option.some.injEq] at e
    subst e
    obtain ⟨e1, e2, e3⟩ := kvCells_at ps (j / 3) (by omega)
    have hadd : ∀ r, 0 < r → j = j / 3 * 3 + r → a.add j = ⟨(a.add (j / 3 * 3)).block, (a.add (j / 3 * 3)).off + r, none⟩ := fun r hr hj => by
      generalize j / 3 * 3 = m at hj ⊢
      rw [hj, ← addr_add2]
      exact add_posE _ hr
    rcases (show j = j / 3 * 3 ∨ j = j / 3 * 3 + 1 ∨ j = j / 3 * 3 + 2 by omega) with e | e | e
    · rw [e] at hj ⊢; rw [e1] at hj; rw [← hj]; exact q0
    · rw [hadd 1 (by omega) e]; rw [e, e2] at hj; rw [← hj]; exact q1
    · rw [hadd 2 (by omega) e]; rw [e, e3] at hj; rw [← hj]; exact q2
theorem OwnP.push {B : Nat} {w' : World} {ao : Option Addr} {c : Nat} {ps : List Pr} {x : Pr} (h : w'.ownsRow B 63 3 (.slice ao (ps.length + 1) c) (ps.length + 1) (kvCells ps ++ [.string (bs x.k), .string (bs x.v), .int .i64 x.n])) : OwnP B w' ao c (ps ++ [x]) := by
  unfold OwnP
  rw [show kvCells (ps ++ [x]) = kvCells ps ++ [.string (bs x.k), .string (bs x.v), .int .i64 x.n] by simp [kvCells, kvCell], List.length_append]
  exact h

/-! compared -/
def cmpB (x y : List UInt8) : Int := Lib.compareBytes x y
set_option maxRecDepth 100000 in
set_option maxHeartbeats 1000000 in
theorem compareString_any (x y : List UInt8) (w : World) :
    Calls Tryz.prog 104 #[.string (bs x), .string (bs y)] w fun e w' => e = .returned (.int .i64 (cmpB x y)) ∧ w' = w := by
  go_enter Tryz.func104, Tryz.ntmps104
  go_wp2
  rw [run_callFunc_extern Tryz.func144 (by kernel_rfl) (by kernel_rfl) (by kernel_rfl) (e := Extern.BytealgCompare.compare) (by kernel_rfl), Lib.run_compareString]
  simp only [Result.andThen]
  rw [Oper.upon_value]
  go_wp2
  go_ret
  exact ⟨by unfold cmpB; rw [bs_data, bs_data]; rfl, rfl⟩
set_option maxRecDepth 100000 in
set_option maxHeartbeats 1000000 in
theorem compare_any (x y : List UInt8) (w : World) :
    Calls Tryz.prog 46 #[.string (bs x), .string (bs y)] w fun e w' => e = .returned (.int .i64 (cmpB x y)) ∧ w' = w := by
  go_enter Tryz.func46, Tryz.ntmps46
  go_wp2_with fail
  go_fit (compareString_any x y w)
  rintro e w1 ⟨rfl, rfl⟩
  go_wp2
  go_ret
  exact ⟨rfl, rfl⟩
end Go.Proofs.YtflnjlbafchnaaaGreatDoor

/-
  Keys in order, plainly.
-/
namespace Go.Proofs.YtflnjlbafchnaaaGreatDoor
open Go.RowKit

theorem less_nil_right (x : List UInt8) : lessB x [] = false := by cases x <;> rfl
theorem less_cons (a b : UInt8) (x y : List UInt8) : lessB (a :: x) (b :: y) = (decide (a < b) || (a == b && lessB x y)) := rfl
theorem cmp_cons (a b : UInt8) (x y : List UInt8) : cmpB (a :: x) (b :: y) = if a < b then -1 else if b < a then 1 else cmpB x y := rfl
theorem u8_eq {a b : UInt8} (h1 : ¬ a < b) (h2 : ¬ b < a) : a = b := by
  apply UInt8.toNat_inj.1
  rw [UInt8.lt_iff_toNat_lt] at h1 h2
  omega
theorem cmp_less : ∀ (x y : List UInt8), (cmpB x y < 0 ↔ lessB x y = true) ∧ (cmpB x y = 0 ↔ x = y)
  | [], [] => by simp [cmpB, Lib.compareBytes, less_nil_right]
  | [], b :: y => by simp [cmpB, Lib.compareBytes]; rfl
  | a :: x, [] => by simp [cmpB, Lib.compareBytes, less_nil_right]
  | a :: x, b :: y => by
    obtain ⟨h1, h2⟩ := cmp_less x y
    rw [cmp_cons, less_cons]
    by_cases hab : a < b
    · have hne : a ≠ b := fun e => by subst e; rw [UInt8.lt_iff_toNat_lt] at hab; omega
      simp [hab, hne]
    · by_cases hba : b < a
      · have hne : a ≠ b := fun e => by subst e; rw [UInt8.lt_iff_toNat_lt] at hba; omega
        simp [hab, hba, hne]
      · obtain rfl := u8_eq hab hba
        simp [hab, h1, h2]
theorem less_irrefl (x : List UInt8) : lessB x x = false := by
  have h := cmp_less x x
  cases hx : lessB x x
  · rfl
  · have a := h.1.2 hx
    have b := h.2.2 rfl
    omega
theorem less_trans : ∀ {x y z : List UInt8}, lessB x y = true → lessB y z = true → lessB x z = true
  | _, [], _, h, _ => by rw [less_nil_right] at h; cases h
  | _, _ :: _, [], _, h => by rw [less_nil_right] at h; cases h
  | [], _ :: _, _ :: _, _, _ => rfl
  | a :: x, b :: y, c :: z, h1, h2 => by
    rw [less_cons] at h1 h2 ⊢
    simp only [Bool.or_eq_true, decide_eq_true_eq, Bool.and_eq_true, beq_iff_eq] at h1 h2 ⊢
    rcases h1 with h1 | ⟨rfl, h1⟩
    · rcases h2 with h2 | ⟨rfl, h2⟩
      · left; rw [UInt8.lt_iff_toNat_lt] at *; omega
      · left; exact h1
    · rcases h2 with h2 | ⟨rfl, h2⟩
      · left; exact h2
      · right; exact ⟨rfl, less_trans h1 h2⟩
theorem less_total {x y : List UInt8} (h : lessB x y = false) (hne : x ≠ y) : lessB y x = true := by
  have a := cmp_less x y
  have b := cmp_less y x
  cases hy : lessB y x
  · exfalso
    have h1 : ¬ cmpB x y < 0 := fun hh => by rw [a.1.1 hh] at h; cases h
    have h2 : ¬ cmpB y x < 0 := fun hh => by rw [b.1.1 hh] at hy; cases hy
    exact hne (less_eq h hy)
  · rfl
where
  less_eq : ∀ {x y : List UInt8}, lessB x y = false → lessB y x = false → x = y
  | [], [], _, _ => rfl
  | [], _ :: _, h, _ => by cases h
  | _ :: _, [], _, h => by cases h
  | a :: x, b :: y, h1, h2 => by
    rw [less_cons] at h1 h2
    simp only [Bool.or_eq_false_iff, decide_eq_false_iff_not, Bool.and_eq_false_iff] at h1 h2
    obtain rfl := u8_eq h1.1 h2.1
    simp only [beq_self_eq_true, Bool.true_eq_false, false_or] at h1 h2
    rw [less_eq h1.2 h2.2]
/-- Keys rise. -/
def Srt (ps : List Pr) : Prop := ps.Pairwise fun a b => lessB a.k b.k = true
theorem rise_srt : ∀ {ps : List Pr} {q : Option (List UInt8)}, pRise q ps = true → Srt ps ∧ (∀ p ∈ ps, prOk p = true) ∧ (∀ x, q = some x → ∀ p ∈ ps, lessB x p.k = true)
  | [], _, _ => ⟨List.Pairwise.nil, (fun p hp => by cases hp), (fun x _ p hp => by cases hp)⟩
  | p :: t, q, h => by
    unfold pRise at h
    simp only [Bool.and_eq_true] at h
    obtain ⟨⟨h1, h2⟩, h3⟩ := h
    obtain ⟨i1, i2, i3⟩ := rise_srt h3
    refine ⟨List.pairwise_cons.2 ⟨fun b hb => i3 p.k rfl b hb, i1⟩, fun x hx => ?_, fun x hx y hy => ?_⟩
    · rcases List.mem_cons.1 hx with rfl | hx
      · exact h1
      · exact i2 x hx
    · subst hx
      rcases List.mem_cons.1 hy with rfl | hy
      · exact h2
      · exact less_trans h2 (i3 p.k rfl y hy)
theorem srt_rise : ∀ {ps : List Pr} {q : Option (List UInt8)}, Srt ps → (∀ p ∈ ps, prOk p = true) → (∀ x, q = some x → ∀ p ∈ ps, lessB x p.k = true) → pRise q ps = true
  | [], _, _, _, _ => by unfold pRise; rfl
  | p :: t, q, h1, h2, h3 => by
    obtain ⟨g1, g2⟩ := List.pairwise_cons.1 h1
    unfold pRise
    simp only [Bool.and_eq_true]
    refine ⟨⟨h2 p (by simp), ?_⟩, srt_rise g2 (fun x hx => h2 x (by simp [hx])) (fun x hx y hy => by cases hx; exact g1 y hy)⟩
    cases q with
    | none => rfl
    | some x => exact h3 x rfl p (by simp)
/-- Where a key stands, or would stand. -/
def lowP (key : List UInt8) (ps : List Pr) : Nat := ps.findIdx fun p => !lessB p.k key
theorem lowP_le (key : List UInt8) (ps : List Pr) : lowP key ps ≤ ps.length := List.findIdx_le_length
theorem lowP_lt {key : List UInt8} {ps : List Pr} {j : Nat} (hj : j < ps.length) (h : j < lowP key ps) : lessB ps[j].k key = true := by
  have := List.not_of_lt_findIdx h
  simpa using this
theorem lowP_ge {key : List UInt8} {ps : List Pr} (hs : Srt ps) {j : Nat} (hj : j < ps.length) (h : lowP key ps ≤ j) : lessB ps[j].k key = false := by
  have hl : lowP key ps < ps.length := by omega
  have h0 : lessB ps[lowP key ps].k key = false := by
    have := List.findIdx_getElem (p := fun p : Pr => !lessB p.k key) (xs := ps) (w := hl)
    simp only [Bool.not_eq_true'] at this
    exact this
  by_cases e : lowP key ps = j
  · subst e; exact h0
  · cases hx : lessB ps[j].k key
    · rfl
    · have := List.pairwise_iff_getElem.1 hs (lowP key ps) j hl hj (by omega)
      rw [less_trans this hx] at h0
      cases h0
/-- Is the key there? -/
def isThere (key : List UInt8) (ps : List Pr) : Bool := match ps[lowP key ps]? with | none => false | some p => decide (p.k = key)

end Go.Proofs.YtflnjlbafchnaaaGreatDoor

/-
  kv: a key is searched.
-/
namespace Go.Proofs.YtflnjlbafchnaaaGreatDoor
open Go.RowKit

/-- What a key has: its value and version; nothing, and version 0, if it is not there. -/
def spotV (key : List UInt8) (ps : List Pr) : List UInt8 := if isThere key ps = true then ((ps[lowP key ps]?).map Pr.v).getD [] else []
def spotN (key : List UInt8) (ps : List Pr) : Int := if isThere key ps = true then ((ps[lowP key ps]?).map Pr.n).getD 0 else 0
theorem there_at {key : List UInt8} {ps : List Pr} (h : isThere key ps = true) : ∃ hl : lowP key ps < ps.length, ps[lowP key ps].k = key ∧ spotV key ps = ps[lowP key ps].v ∧ spotN key ps = ps[lowP key ps].n := by
  have h' := h
  unfold isThere at h'
  by_cases hl : lowP key ps < ps.length
  · rw [List.getElem?_eq_getElem hl] at h'
    refine ⟨hl, of_decide_eq_true h', ?_, ?_⟩
    · unfold spotV; rw [if_pos h, List.getElem?_eq_getElem hl]; rfl
    · unfold spotN; rw [if_pos h, List.getElem?_eq_getElem hl]; rfl
  · rw [List.getElem?_eq_none (by omega)] at h'
    cases h'

end Go.Proofs.YtflnjlbafchnaaaGreatDoor

/-
  kv: pairs copied; is there room; what a key has.
-/
namespace Go.Proofs.YtflnjlbafchnaaaGreatDoor
open Go.RowKit

def roomB (len : Nat) (n : Int) (x : List UInt8) : Bool := !(decide (n = 0) && decide (len = 32)) && (decide (x.length ≤ 64) && decide (n < 1099511627775))
end Go.Proofs.YtflnjlbafchnaaaGreatDoor

/-
  slices.Insert of one pair.
-/
namespace Go.Proofs.YtflnjlbafchnaaaGreatDoor
open Go.RowKit

def insP (i : Nat) (x : Pr) (ps : List Pr) : List Pr := ps.take i ++ x :: ps.drop i
theorem insP_len {i : Nat} {x : Pr} {ps : List Pr} (hi : i ≤ ps.length) : (insP i x ps).length = ps.length + 1 := by
  unfold insP
  rw [List.length_append, List.length_cons, List.length_take, List.length_drop]
  omega
end Go.Proofs.YtflnjlbafchnaaaGreatDoor

/-
  slices.Delete of one pair.
-/
namespace Go.Proofs.YtflnjlbafchnaaaGreatDoor
open Go.RowKit

end Go.Proofs.YtflnjlbafchnaaaGreatDoor

/-
  kv: a pair is put, or goes.
-/
namespace Go.Proofs.YtflnjlbafchnaaaGreatDoor
open Go.RowKit

/-- The spot's block, and that of its pairs. -/
def Two (b : Nat) (ao : Option Addr) : Nat → Obj → Prop := fun k _ => k = b ∨ ∃ a, ao = some a ∧ a.block = k
/-- What a call leaves: all of an elder world, and of the caller's all but the spot and its pairs. -/
structure KK (w0 w : World) (b : Nat) (ao : Option Addr) (X : World) : Prop where
  old : Kept Nil w0 X
  two : Kept (Two b ao) w X
theorem KK.then {w0 w X Y : World} {b : Nat} {ao : Option Addr} (h : KK w0 w b ao X) (k : Kept Nil X Y) : KK w0 w b ao Y := ⟨h.old.trans k, h.two.trans (k.mono fun _ _ x => x.elim)⟩
theorem KK.alloc {w0 w X : World} {b : Nat} {ao : Option Addr} (h : KK w0 w b ao X) (o : Obj) : KK w0 w b ao (X.alloc o) := ⟨h.old.alloc o, h.two.alloc o⟩
theorem KK.drew {w0 w X : World} {b : Nat} {ao : Option Addr} (h : KK w0 w b ao X) : KK w0 w b ao X.drew := ⟨h.old.drew, h.two.drew⟩
theorem KK.size {w0 w X : World} {b : Nat} {ao : Option Addr} (h : KK w0 w b ao X) : w0.heap.size ≤ X.heap.size := h.old.size
theorem KK.setRow {w0 w X : World} {b g i : Nat} (h : KK w0 w b (some ⟨g, 0, none⟩) X) (hg : w0.heap.size ≤ g) (u : Value) : KK w0 w b (some ⟨g, 0, none⟩) (X.setCell ⟨g, i, none⟩ u) := ⟨h.old.setNew hg u, h.two.setCell (p := ⟨g, i, none⟩) (fun _ => .inr ⟨_, rfl, rfl⟩) u⟩
theorem KK.grown {w0 w X Y : World} {b len c : Nat} {ao : Option Addr} (h : KK w0 w b ao X) (hg : X.grownBy Y (Value.slice ao len c).ownBlock) (hrow : ∀ k, (Value.slice ao len c).ownBlock = some k → w0.heap.size ≤ k) : KK w0 w b ao Y :=
  ⟨h.old.grown hg hrow, ⟨hg.os.trans h.two.os, hg.tape.trans h.two.tape, hg.output.trans h.two.output, Nat.le_trans h.two.size hg.size, fun k o ho hx => by
    have hk := lt_of_block ho
    rw [hg.block k (by have := h.two.size; omega) (fun e => hx (.inr (by
      cases ao with
      | none => simp [Value.ownBlock] at e
      | some a => exact ⟨a, rfl, by simpa [Value.ownBlock] using e.symm⟩)))]
    exact h.two.block k o ho hx⟩⟩
theorem OwnP.own {B c k : Nat} {w : World} {ao : Option Addr} {ps : List Pr} (h : OwnP B w ao c ps) (hk : (Value.slice ao ps.length c).ownBlock = some k) : ∃ a, ao = some a ∧ a.block = k := by
  cases ao with
  | none => simp [Value.ownBlock] at hk
  | some a => exact ⟨a, rfl, by simpa [Value.ownBlock] using hk⟩
theorem grown_blk {w w' : World} {ob : Option Nat} {k : Nat} {o : Obj} (h : w.grownBy w' ob) (hk : w.heap[k]? = some o) (hne : ob ≠ some k) : w'.heap[k]? = some o := by
  rw [h.block k (lt_of_block hk) (fun e => hne e.symm)]
  exact hk
end Go.Proofs.YtflnjlbafchnaaaGreatDoor

/-
  kv: put.
-/
namespace Go.Proofs.YtflnjlbafchnaaaGreatDoor
open Go.RowKit

end Go.Proofs.YtflnjlbafchnaaaGreatDoor

/-
  kv: a pair goes.
-/
namespace Go.Proofs.YtflnjlbafchnaaaGreatDoor
open Go.RowKit

end Go.Proofs.YtflnjlbafchnaaaGreatDoor

/-
  kv: the keys that begin with a key.
-/
namespace Go.Proofs.YtflnjlbafchnaaaGreatDoor
open Go.RowKit

def prefB (s p : List UInt8) : Bool := decide (s.take p.length = p)
/-- What the closure asks: is the key no longer ahead? -/
def offK (key : List UInt8) (p : Pr) : Bool := !prefB p.k key
end Go.Proofs.YtflnjlbafchnaaaGreatDoor

/-
  The map, plainly: what the document's loops make of sorted pairs.
-/
namespace Go.Proofs.YtflnjlbafchnaaaGreatDoor
open Go.RowKit

/-- The pairs whose keys begin with a key, so many at most (0: all). -/
def listP (key : List UInt8) (most : Int) (L : List Pr) : List Pr := if 0 < most ∧ most < ((L.take (L.findIdx (offK key))).length : Int) then (L.take (L.findIdx (offK key))).take most.toNat else L.take (L.findIdx (offK key))
theorem there_getElem {key : List UInt8} {ps : List Pr} (hl : lowP key ps < ps.length) : isThere key ps = decide (ps[lowP key ps].k = key) := by
  unfold isThere
  rw [List.getElem?_eq_getElem hl]
theorem ne_past {key : List UInt8} {ps : List Pr} (h : Srt ps) {j : Nat} (hj : j < ps.length) (hl : lowP key ps < j) : ps[j].k ≠ key := fun e => by
  have h1 := List.pairwise_iff_getElem.1 h (lowP key ps) j (by omega) hj hl
  rw [e, lowP_ge h (by omega) (Nat.le_refl _)] at h1
  cases h1
theorem ne_before {key : List UInt8} {ps : List Pr} {j : Nat} (hj : j < ps.length) (hl : j < lowP key ps) : ps[j].k ≠ key := fun e => by
  have h1 := lowP_lt hj hl
  rw [e, less_irrefl] at h1
  cases h1
/-- The number of a key's pair; -1: there is none. -/
def getP (key : List UInt8) (ps : List Pr) : Int := if isThere key ps = true then (lowP key ps : Int) else -1
theorem getP_hit {key : List UInt8} {ps : List Pr} (h : Srt ps) {j : Nat} (hj : j < ps.length) (he : ps[j].k = key) : getP key ps = j := by
  have h1 : lowP key ps = j := by
    by_cases a : lowP key ps < j
    · exact absurd he (ne_past h hj a)
    · by_cases b : j < lowP key ps
      · exact absurd he (ne_before hj b)
      · omega
  unfold getP
  have h2 : ps[lowP key ps]'(by omega) = ps[j] := by simp only [h1]
  rw [there_getElem (by omega), if_pos (by rw [h2]; simp [he]), h1]
end Go.Proofs.YtflnjlbafchnaaaGreatDoor

/-
  kv: list.
-/
namespace Go.Proofs.YtflnjlbafchnaaaGreatDoor
open Go.RowKit

def kyCells (ns : List (List UInt8)) : List Value := ns.map fun n => Value.string (bs n)
theorem kyCells_snoc (ns : List (List UInt8)) (n : List UInt8) : kyCells (ns ++ [n]) = kyCells ns ++ [.string (bs n)] := by simp [kyCells]
/-- Texts of one's own. -/
def OwnK (B : Nat) (w : World) (ao : Option Addr) (c : Nat) (ns : List (List UInt8)) : Prop := w.ownsRow B 9 1 (.slice ao ns.length c) ns.length (kyCells ns)
theorem OwnK.kept {B c : Nat} {w w' : World} {ao : Option Addr} {ns : List (List UInt8)} (h : OwnK B w ao c ns) (hk : Kept Nil w w') : OwnK B w' ao c ns := own_kept h hk (fun _ _ _ x => x.elim)
theorem Tryz.infoSt : (Tryz.prog.info? 9).map (fun i => (i.zero, i.size, i.bytes)) = some (some (.string ⟨#[]⟩), 1, 16) := by kernel_rfl
theorem src_ky {w : World} (z : List UInt8) : Src Tryz.prog 1 48 (.slice (some ⟨w.heap.size, 0, none⟩) 1 1) 1 [.string (bs z)] (w.alloc (.cells #[.string (bs z)] 9)) := by
  refine Src.ofSlice _ Tryz.underlying48 _ 1 1 _ rfl ?_ ?_
  · intro j u hj
    match j, hj with
    | 0, hj =>
      simp at hj
      subst hj
      simp [Addr.add]
  · intro u hu
    simp at hu
    subst hu
    rfl
end Go.Proofs.YtflnjlbafchnaaaGreatDoor

/-
  kv: swap and do.
-/
namespace Go.Proofs.YtflnjlbafchnaaaGreatDoor
open Go.RowKit

/-- A result. -/
structure Rr where
  kd : Int
  v : List UInt8
  n : Int
  ks : List (List UInt8)
def rrV (r : Rr) (ko : Option Addr) (kc : Nat) : Value := .agg #[.int .i64 r.kd, .string (bs r.v), .int .i64 r.n, .slice ko r.ks.length kc]
def putRr (x : List UInt8) (n : Int) (len : Nat) : Rr := if roomB len n x = false then ⟨4, [], 0, []⟩ else ⟨1, [], n + 1, []⟩
def tellRr (kd : Int) (v : List UInt8) (n : Int) : Rr := if n = 0 then ⟨2, [], 0, []⟩ else ⟨kd, v, n, []⟩
def dropRr (n : Int) : Rr := if n = 0 then ⟨2, [], 0, []⟩ else ⟨1, [], n, []⟩
def swapRr (val v : List UInt8) (m n : Int) (len : Nat) : Rr := if n = m then putRr val n len else tellRr 3 v n
theorem OwnK.nil (B : Nat) (w : World) : OwnK B w none 0 [] := World.ownsRow_nil _ _ _ _
def doR (kd : Int) (key val : List UInt8) (m : Int) (v : List UInt8) (n : Int) (i : Nat) (ps : List Pr) : Rr := if kd = 1 then putRr val n ps.length else if kd = 2 then tellRr 1 v n else if kd = 3 then dropRr n else if kd = 4 then swapRr val v m n ps.length else if kd = 5 then putRr (v ++ val) n ps.length else ⟨1, [], 0, (listP key m (ps.drop i)).map Pr.k⟩
end Go.Proofs.YtflnjlbafchnaaaGreatDoor

/-
  Which commands may be: the program's IsCommand and the document's: the same plain test.
-/
namespace Go.Proofs.YtflnjlbafchnaaaGreatDoor
open Go.RowKit

def isCmd (k : Int) (key val : List UInt8) (i : Int) : Bool :=
  decide (key.length ≤ 16) && decide (val.length ≤ 64) && isNum i &&
    (if k = 6 then val.isEmpty
     else if k = 2 ∨ k = 3 then val.isEmpty && decide (i = 0) && !key.isEmpty
     else if k = 1 ∨ k = 5 then decide (i = 0) && !key.isEmpty
     else if k = 4 then !key.isEmpty else false)
end Go.Proofs.YtflnjlbafchnaaaGreatDoor

/-
  kv: Apply.
-/
namespace Go.Proofs.YtflnjlbafchnaaaGreatDoor
open Go.RowKit

def apR (kd : Int) (ck val : List UInt8) (m : Int) (ps : List Pr) : Rr := if (pairsOk ps && isCmd kd ck val m) = true then doR kd ck val m (spotV ck ps) (spotN ck ps) (lowP ck ps) ps else ⟨5, [], 0, []⟩
theorem pairs_ok {ps : List Pr} (h : pairsOk ps = true) : ps.length ≤ 32 ∧ Srt ps ∧ ∀ p ∈ ps, prOk p = true := by
  unfold pairsOk at h
  simp only [Bool.and_eq_true, decide_eq_true_eq] at h
  exact ⟨h.1, (rise_srt h.2).1, (rise_srt h.2).2.1⟩
theorem prOk_iff {p : Pr} (h : prOk p = true) : p.k ≠ [] ∧ p.k.length ≤ 16 ∧ p.v.length ≤ 64 ∧ 1 ≤ p.n ∧ p.n ≤ 1099511627775 := by
  unfold prOk isCnt at h
  simp at h
  exact ⟨h.1.1.1, h.1.1.2, h.1.2, by omega, by omega⟩
def ApPost (w : World) (ps : List Pr) (r : Rr) (e : Ending) (w' : World) : Prop := ∃ ao' c' ko kc, e = .returned (.tuple #[.slice ao' ps.length c', rrV r ko kc]) ∧ OwnP w.heap.size w' ao' c' ps ∧ OwnK w.heap.size w' ko kc r.ks ∧ Kept Nil w w'
theorem Kept.under {a w w' : World} {b : Nat} (h : Kept Nil a w) (k : Kept (One b) w w') (hb : a.heap.size ≤ b) : Kept Nil a w' :=
  ⟨k.os.trans h.os, k.tape.trans h.tape, k.output.trans h.output, Nat.le_trans h.size k.size, fun q o ho hx => k.block q o (h.block q o ho hx) (fun e => by
    have h1 := lt_of_block ho
    have h2 : q = b := e
    omega)⟩
theorem ApPost.drew {w w' : World} {ps : List Pr} {r : Rr} {e : Ending} (h : ApPost w ps r e w') : ApPost w ps r e w'.drew := by
  obtain ⟨a, b, c, d, h1, h2, h3, h4⟩ := h
  exact ⟨a, b, c, d, h1, h2.kept (Kept.refl _ _).drew, h3.kept (Kept.refl _ _).drew, h4.drew⟩
end Go.Proofs.YtflnjlbafchnaaaGreatDoor

/-
  kv: rows of commands; what a command leaves is small; rows that others leave alone.
-/
namespace Go.Proofs.YtflnjlbafchnaaaGreatDoor
open Go.RowKit

/-- A command. -/
structure Cm where
  kd : Int
  k : List UInt8
  v : List UInt8
  m : Int
/-- A row of commands that lies below block B. -/
def CmRow (B : Nat) (w : World) (ao : Option Addr) (cs : List Cm) : Prop := ∀ j, (hj : j < cs.length) → ∃ a, ao = some a ∧ a.block < B ∧ w.cell? (a.add (j * 4)) = some (.int .i64 cs[j].kd) ∧ w.cell? ⟨(a.add (j * 4)).block, (a.add (j * 4)).off + 1, none⟩ = some (.string (bs cs[j].k)) ∧ w.cell? ⟨(a.add (j * 4)).block, (a.add (j * 4)).off + 2, none⟩ = some (.string (bs cs[j].v)) ∧ w.cell? ⟨(a.add (j * 4)).block, (a.add (j * 4)).off + 3, none⟩ = some (.int .i64 cs[j].m) ∧ cs[j].k.length ≤ maxLen ∧ cs[j].v.length ≤ maxLen
theorem CmRow.nil {B : Nat} {w w' : World} {ao : Option Addr} {cs : List Cm} (h : CmRow B w ao cs) (hk : Kept Nil w w') : CmRow B w' ao cs := fun j hj => by
  obtain ⟨a, ha, hb, c0, c1, c2, c3, l1, l2⟩ := h j hj
  exact ⟨a, ha, hb, cell_kept hk (fun _ x => x) c0, cell_kept hk (fun _ x => x) c1, cell_kept hk (fun _ x => x) c2, cell_kept hk (fun _ x => x) c3, l1, l2⟩
theorem OwnK.row {B c : Nat} {w : World} {ao : Option Addr} {ks : List (List UInt8)} (h : OwnK B w ao c ks) (hs : ∀ x ∈ ks, x.length ≤ maxLen) : StrRow w.heap.size w ao ks := fun j hj => by
  rcases h.2 with ⟨h1, _⟩ | ⟨g, cap, cur, hv, hb, hh, h1, h2, h3, h4⟩
  · simp at h1
    rw [h1.2.1] at hj
    simp at hj
  · simp only [Value.slice.injEq] at hv
    obtain ⟨rfl, _, _⟩ := hv
    refine ⟨_, rfl, lt_of_block hh, ?_, hs _ (List.getElem_mem hj)⟩
    rw [addr_addE, blk_cell hh]
    have := congrArg (fun l => l[j]?) h4
    simp only [List.getElem?_take, if_pos (show j < ks.length * 1 by omega), Array.getElem?_toList] at this
    rw [this]
    simp [kyCells, hj]
theorem OwnP.far {B c : Nat} {w w' : World} {ao : Option Addr} {ps : List Pr} {ob : Option Nat} (h : OwnP B w ao c ps) (hg : w.grownBy w' ob) (hne : ob ≠ (Value.slice ao ps.length c).ownBlock ∨ ob = none) : OwnP B w' ao c ps := by
  refine ⟨h.1, h.2.imp id ?_⟩
  rintro ⟨g, cap, cur, hv, hb, hh, h3⟩
  refine ⟨g, cap, cur, hv, hb, ?_, h3⟩
  rw [hg.block g (lt_of_block hh) (fun e => by
    rcases hne with hne | hne
    · rw [hv] at hne; exact hne e.symm
    · rw [hne] at e; cases e)]
  exact hh

end Go.Proofs.YtflnjlbafchnaaaGreatDoor

/-
  Pairs and commands that are handed in: what the form says of them.
-/
namespace Go.Proofs.YtflnjlbafchnaaaGreatDoor
open Go.ChangeShapes Go.WideShapes Go.ChangeAt Go.RowKit
open Go.ChangeMaps (open_string shut_string)

theorem Tryz.ownE : ownKnob Tryz.prog.godebug = none := by kernel_rfl
theorem Tryz.laidOutE : laidOutB Tryz.prog = true := by kernel_rfl
theorem Tryz.cellsIntE : Tryz.prog.cellsOf 3 = 1 := by kernel_rfl
theorem Tryz.cellsStrE : Tryz.prog.cellsOf 9 = 1 := by kernel_rfl
theorem list4 {α : Type} {cs : List α} (h : cs.length = 4) : ∃ a b c d, cs = [a, b, c, d] := by
  match cs, h with
  | [a, b, c, d], _ => exact ⟨a, b, c, d, rfl⟩
theorem add_pos (a : Addr) {i : Nat} (h : 0 < i) : a.add i = ⟨a.block, a.off + i, none⟩ := by unfold Addr.add; rw [if_neg (by omega)]
theorem add_zero (a : Addr) : a.add 0 = a := rfl
instance : Inhabited Pr := ⟨⟨[], [], 0⟩⟩
instance : Inhabited Cm := ⟨⟨0, [], [], 0⟩⟩

section
variable {H : Type} {enc : TypeId × Value → H} {W : World} {fuel : Nat} {v : Value} {y : DataW H × List MemPlace}

end
end Go.Proofs.YtflnjlbafchnaaaGreatDoor
