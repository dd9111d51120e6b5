/-
  DelegFunction: rows of what was given, rows of texts; keyOf, pick.
-/
import Derived.Test.YtllmcjmbicgahaaWDgM
namespace Go.Proofs.Ytllmcjmbicgahaa
open Go.RowKit

def OwnG (B : Nat) (w : World) (ao : Option Addr) (c : Nat) (ps : List Pr) : Prop := w.ownsRow B 36 3 (.slice ao ps.length c) ps.length (kvCells ps)
theorem OwnG.set3 {B g c k : Nat} {w : World} {ps : List Pr} (h : OwnG B w (some ⟨g, 0, none⟩) c ps) (hk : k < ps.length) (x : Pr) : OwnG B (((w.setCell ⟨g, k * 3, none⟩ (.string (bs x.k))).setCell ⟨g, k * 3 + 1, none⟩ (.string (bs x.v))).setCell ⟨g, k * 3 + 2, none⟩ (.int .i64 x.n)) (some ⟨g, 0, none⟩) c (ps.set k x) := by
  have := own_setAtK (own_setAtK (own_setAtK h (k * 3) (.string (bs x.k))) (k * 3 + 1) (.string (bs x.v))) (k * 3 + 2) (.int .i64 x.n)
  rw [kvCells_set ps k hk x] at this
  unfold OwnG
  rw [List.length_set]
  exact this
theorem OwnG.block {B c : Nat} {w : World} {ao : Option Addr} {ps : List Pr} (h : OwnG B w ao c ps) (h0 : ao ≠ none) : ∃ g cs, ao = some ⟨g, 0, none⟩ ∧ B ≤ g ∧ w.heap[g]? = some (.cells cs 36 (0, 0)) ∧ ps.length ≤ c ∧ c ≤ maxLen ∧ cs.size = c * 3 ∧ cs.toList.take (ps.length * 3) = kvCells ps := by
  rcases h.2 with ⟨h1, h2⟩ | ⟨g, cap, cur, hv, hb, hh, h1, h2, h3, h4⟩
  · simp only [Value.slice.injEq] at h1
    exact absurd h1.1 h0
  · simp only [Value.slice.injEq] at hv
    obtain ⟨rfl, _, rfl⟩ := hv
    exact ⟨g, cur, rfl, hb, hh, h1, h2, h3, h4⟩
theorem OwnG.cells {B c : Nat} {w : World} {ao : Option Addr} {ps : List Pr} (h : OwnG B w ao c ps) (h0 : 0 < ps.length) : ∃ g, ao = some ⟨g, 0, none⟩ ∧ B ≤ g ∧ g < w.heap.size ∧ ∀ j, (hj : j < ps.length) → w.cell? ⟨g, j * 3, none⟩ = some (.string (bs ps[j].k)) ∧ w.cell? ⟨g, j * 3 + 1, none⟩ = some (.string (bs ps[j].v)) ∧ w.cell? ⟨g, j * 3 + 2, none⟩ = some (.int .i64 ps[j].n) ∧ w.frozen? ⟨g, j * 3, none⟩ = false ∧ w.frozen? ⟨g, j * 3 + 1, none⟩ = false ∧ w.frozen? ⟨g, j * 3 + 2, none⟩ = false := by
  rcases h.2 with ⟨h1, h2⟩ | ⟨g, cap, cur, hv, hb, hh, h1, h2, h3, h4⟩
  · omega
  · simp only [Value.slice.injEq] at hv
    obtain ⟨rfl, _, rfl⟩ := hv
    refine ⟨g, rfl, hb, lt_of_block hh, fun j hj => ?_⟩
    have hc : ∀ i, i < ps.length * 3 → cur[i]? = (kvCells ps)[i]? := fun i hi => by
      have := congrArg (fun l => l[i]?) h4
      simpa only [List.getElem?_take, if_pos hi, Array.getElem?_toList] using this
    obtain ⟨e1, e2, e3⟩ := kvCells_at ps j hj
    exact ⟨by rw [blk_cell hh, hc _ (by omega), e1], by rw [blk_cell hh, hc _ (by omega), e2], by rw [blk_cell hh, hc _ (by omega), e3], blk_free hh _, blk_free hh _, blk_free hh _⟩
theorem OwnG.row {B c : Nat} {w : World} {ao : Option Addr} {ps : List Pr} (h : OwnG B w ao c ps) (hs : Fit ps) : PairRow w.heap.size w ao ps := by
  intro j hj
  obtain ⟨g, rfl, _, hg, hc⟩ := h.cells (by omega)
  obtain ⟨e1, e2, e3, _⟩ := hc j hj
  obtain ⟨l1, l2⟩ := hs ps[j] (List.getElem_mem hj)
  refine ⟨⟨g, 0, none⟩, rfl, hg, ?_, ?_, ?_, l1, l2⟩
  · rw [addr_addE]; exact e1
  · rw [addr_addE]; exact e2
  · rw [addr_addE]; exact e3
theorem OwnG.kept {B c : Nat} {w w' : World} {ao : Option Addr} {ps : List Pr} (h : OwnG B w ao c ps) (hk : Kept Nil w w') : OwnG B w' ao c ps := own_kept h hk (fun _ _ _ x => x.elim)
theorem OwnG.mono {B B' c : Nat} {w : World} {ao : Option Addr} {ps : List Pr} (h : OwnG B w ao c ps) (hb : B' ≤ B) : OwnG B' w ao c ps := by
  refine ⟨h.1, h.2.imp id ?_⟩
  rintro ⟨g, cap, cur, h1, h2, h3⟩
  exact ⟨g, cap, cur, h1, Nat.le_trans hb h2, h3⟩
theorem Try.infoGv : (Try.prog.info? 36).map (fun i => (i.zero, i.size, i.bytes)) = some (some (.agg #[.string ⟨#[]⟩, .string ⟨#[]⟩, .int .i64 0]), 3, 40) := by kernel_rfl
theorem PairRow.srcG {B c : Nat} {w : World} {ao : Option Addr} {ps : List Pr} (h : PairRow B w ao ps) : Src Try.prog 3 32 (.slice ao ps.length c) ps.length (kvCells ps) w := by
  cases hes : ps with
  | nil =>
    cases ao with
    | none => exact Src.ofNil _ Try.underlying32 c
    | some a => exact Src.ofSlice _ Try.underlying32 a 0 c [] rfl (fun j u hj => by simp at hj) (fun u hu => by simp at hu)
  | cons x t =>
    rw [← hes]
    obtain ⟨a, rfl, _⟩ := h 0 (by rw [hes]; simp)
    refine Src.ofSlice _ Try.underlying32 a ps.length c _ (kvCells_len ps) ?_ (kvCells_one ps)
    intro j u hj
    have hlt : j < ps.length * 3 := by have := (List.getElem?_eq_some_iff.1 hj).1; rwa [kvCells_len] at this
    obtain ⟨a', e, _, q0, q1, q2, _⟩ := h (j / 3) (by omega)
    simp only [Option.some.injEq] at e
    subst e
    obtain ⟨e1, e2, e3⟩ := kvCells_at ps (j / 3) (by omega)
    have hadd : ∀ r, 0 < r → j = j / 3 * 3 + r → a.add j = ⟨(a.add (j / 3 * 3)).block, (a.add (j / 3 * 3)).off + r, none⟩ := fun r hr hj => by
      generalize j / 3 * 3 = m at hj ⊢
      rw [hj, ← addr_add2]
      exact add_posE _ hr
    rcases (show j = j / 3 * 3 ∨ j = j / 3 * 3 + 1 ∨ j = j / 3 * 3 + 2 by omega) with e | e | e
    · rw [e] at hj ⊢; rw [e1] at hj; rw [← hj]; exact q0
    · rw [hadd 1 (by omega) e]; rw [e, e2] at hj; rw [← hj]; exact q1
    · rw [hadd 2 (by omega) e]; rw [e, e3] at hj; rw [← hj]; exact q2
theorem OwnG.push {B : Nat} {w' : World} {ao : Option Addr} {c : Nat} {ps : List Pr} {x : Pr} (h : w'.ownsRow B 36 3 (.slice ao (ps.length + 1) c) (ps.length + 1) (kvCells ps ++ [.string (bs x.k), .string (bs x.v), .int .i64 x.n])) : OwnG B w' ao c (ps ++ [x]) := by
  unfold OwnG
  rw [show kvCells (ps ++ [x]) = kvCells ps ++ [.string (bs x.k), .string (bs x.v), .int .i64 x.n] by simp [kvCells, kvCell], List.length_append]
  exact h


/-! ### texts of one's own -/
def tdCells (ns : List (List UInt8)) : List Value := ns.map fun n => Value.string (bs n)
def OwnTd (B : Nat) (w : World) (ao : Option Addr) (c : Nat) (ns : List (List UInt8)) : Prop := w.ownsRow B 9 1 (.slice ao ns.length c) ns.length (tdCells ns)
theorem tdCells_len (ns : List (List UInt8)) : (tdCells ns).length = ns.length * 1 := by simp [tdCells]
theorem tdCells_one (ns : List (List UInt8)) : ∀ v ∈ tdCells ns, v.oneCell' = true := fun u hu => by
  obtain ⟨n, _, rfl⟩ := List.mem_map.1 hu
  rfl
theorem OwnTd.kept {B c : Nat} {w w' : World} {ao : Option Addr} {ns : List (List UInt8)} (h : OwnTd B w ao c ns) (hk : Kept Nil w w') : OwnTd B w' ao c ns := own_kept h hk (fun _ _ _ x => x.elim)
theorem OwnTd.cell {B c : Nat} {w : World} {ao : Option Addr} {ks : List (List UInt8)} (h : OwnTd B w ao c ks) {j : Nat} (hj : j < ks.length) : ∃ g, ao = some ⟨g, 0, none⟩ ∧ g < w.heap.size ∧ w.cell? ⟨g, j, none⟩ = some (.string (bs ks[j])) := by
  rcases h.2 with ⟨h1, _⟩ | ⟨g, cap, cur, hv, hb, hh, h1, h2, h3, h4⟩
  · simp at h1
    rw [h1.2.1] at hj
    simp at hj
  · simp only [Value.slice.injEq] at hv
    obtain ⟨rfl, _, _⟩ := hv
    refine ⟨g, rfl, lt_of_block hh, ?_⟩
    rw [blk_cell hh]
    have := congrArg (fun l => l[j]?) h4
    simp only [List.getElem?_take, if_pos (show j < ks.length * 1 by omega), Array.getElem?_toList] at this
    rw [this]
    simp [tdCells, hj]
theorem StrRow.srcTd {B c : Nat} {w : World} {ao : Option Addr} {ks : List (List UInt8)} (h : StrRow B w ao ks) : Src Try.prog 1 33 (.slice ao ks.length c) ks.length (tdCells ks) w := by
  cases hes : ks with
  | nil =>
    cases ao with
    | none => exact Src.ofNil _ Try.underlying33 c
    | some a => exact Src.ofSlice _ Try.underlying33 a 0 c [] rfl (fun j u hj => by simp at hj) (fun u hu => by simp at hu)
  | cons x t =>
    rw [← hes]
    obtain ⟨a, rfl, _⟩ := h 0 (by rw [hes]; simp)
    refine Src.ofSlice _ Try.underlying33 a ks.length c _ (tdCells_len ks) ?_ (tdCells_one ks)
    intro j u hj
    have hlt : j < ks.length := by have := (List.getElem?_eq_some_iff.1 hj).1; simpa [tdCells] using this
    obtain ⟨a', e, _, q0, _⟩ := h j hlt
    simp only [Option.some.injEq] at e
    subst e
    rw [q0]
    simpa [tdCells, hlt] using hj
theorem Try.infoTd : (Try.prog.info? 9).map (fun i => (i.zero, i.size, i.bytes)) = some (some (.string ⟨#[]⟩), 1, 16) := by kernel_rfl
theorem own_farD {B size n : Nat} {e : TypeId} {w w' : World} {v : Value} {xs : List Value} {ob : Option Nat} (h : w.ownsRow B e size v n xs) (hg : w.grownBy w' ob) (hne : ∀ g, v.ownBlock = some g → ob ≠ some g) : w'.ownsRow B e size v n xs := by
  refine ⟨h.1, h.2.imp id ?_⟩
  rintro ⟨g, cap, cur, hv, hb, hh, h3⟩
  refine ⟨g, cap, cur, hv, hb, ?_, h3⟩
  rw [hg.block g (lt_of_block hh) (fun e => hne g (by rw [hv]; rfl) e.symm)]
  exact hh
/-- Rows of two types lie apart. -/
theorem own_tyD {B B' size size' n n' : Nat} {e e' : TypeId} {w : World} {v v' : Value} {xs xs' : List Value} (h : w.ownsRow B e size v n xs) (h' : w.ownsRow B' e' size' v' n' xs') (hne : e ≠ e') : ∀ g, v.ownBlock = some g → v'.ownBlock ≠ some g := fun g eg eg' => by
  rcases h.2 with ⟨hv, _⟩ | ⟨g1, cap, cur, hv, _, hh, _⟩
  · rw [hv] at eg; simp [Value.ownBlock] at eg
  · rcases h'.2 with ⟨hv2, _⟩ | ⟨g2, cap2, cur2, hv2, _, hh2, _⟩
    · rw [hv2] at eg'; simp [Value.ownBlock] at eg'
    · rw [hv] at eg
      rw [hv2] at eg'
      simp [Value.ownBlock] at eg eg'
      subst eg
      subst eg'
      rw [hh] at hh2
      simp at hh2
      exact hne hh2.2

theorem pickD_val (c n : Int) (hn : 0 < n) : c % n = if c.tmod n < 0 then c.tmod n + n else c.tmod n := by
  have h1 := Int.emod_nonneg c (show n ≠ 0 by omega)
  have h2 := Int.emod_lt_of_pos c hn
  have h3 := Int.tmod_eq_emod (a := c) (b := n)
  have h4 : (n.natAbs : Int) = n := by omega
  split at h3 <;> split <;> omega
set_option maxRecDepth 100000 in
theorem pickD_any (c n : Int) (w : World) (hn : 0 < n) (hn2 : n ≤ 9223372036854775807) :
    Calls Try.prog 18 #[.int .i64 c, .int .i64 n] w fun e w' => e = .returned (.int .i64 (c % n)) ∧ w' = w := by
  have hv := pickD_val c n hn
  have h1 := Int.emod_nonneg c (show n ≠ 0 by omega)
  have h2 := Int.emod_lt_of_pos c hn
  have hne : (n == 0) = false := by simp; omega
  by_cases hneg : c.tmod n < 0
  · rw [if_pos hneg] at hv
    have HV : Hid (c % n = c.tmod n + n) := hv
    rw [hv] at h1 h2
    clear hv
    go_enter Try.func18, Try.ntmps18
    go_wp2
    go_ret
    rw [HV.out]
    exact ⟨rfl, rfl⟩
  · rw [if_neg hneg] at hv
    have HV : Hid (c % n = c.tmod n) := hv
    rw [hv] at h1 h2
    clear hv
    go_enter Try.func18, Try.ntmps18
    go_wp2
    go_ret
    rw [HV.out]
    exact ⟨rfl, rfl⟩
set_option maxRecDepth 100000 in
set_option maxHeartbeats 1000000 in
theorem keyOf_any (x : List UInt8) (w : World) (hx : (x.length : Int) ≤ 9223372036854775807) : Calls Try.prog 17 #[.string (bs x)] w fun e w' => e = .returned (.string (bs (x.take 16))) ∧ w' = w := by
  have hds : (bs x).size = x.length := bs_size _
  by_cases h : 16 < x.length
  · have hi : (x.length : Int) > 16 := by omega
    have hi2 : (16 : Int) < x.length := by omega
    have hi3 : (16 : Int) ≤ x.length := by omega
    have he : (bs x).extract 0 16 = bs (x.take 16) := bs_take x 16
    go_enter Try.func17, Try.ntmps17
    go_wp2
    go_ret
    exact ⟨by first | rfl | (simp [he]; done), rfl⟩
  · have hi : ¬ (x.length : Int) > 16 := by omega
    have hi2 : ¬ (16 : Int) < x.length := by omega
    have HE : Hid (x.take 16 = x) := List.take_of_length_le (by omega)
    go_enter Try.func17, Try.ntmps17
    go_wp2
    go_ret
    exact ⟨by rw [HE.out]; rfl, rfl⟩
/-- What was given, tamed. -/
def tameG (g : Pr) : Pr := ⟨g.k.take 16, g.v.take 16, 1 + g.n % 9⟩
def gsAt (raw : List Pr) (i : Nat) : List Pr := (raw.take i).map tameG ++ raw.drop i
theorem gsAt_len (raw : List Pr) (i : Nat) : (gsAt raw i).length = raw.length := by simp [gsAt]; omega
theorem gsAt_at {raw : List Pr} {i : Nat} (h : i < raw.length) : (gsAt raw i)[i]'(by rw [gsAt_len]; exact h) = raw[i] := by
  unfold gsAt
  rw [List.getElem_append_right (by simp; omega)]
  simp [List.length_take, Nat.min_eq_left (Nat.le_of_lt h)]
theorem gsAt_next {raw : List Pr} {i : Nat} (h : i < raw.length) : (gsAt raw i).set i (tameG raw[i]) = gsAt raw (i + 1) := by
  unfold gsAt
  have hl : ((raw.take i).map tameG).length = i := by simp; omega
  rw [List.set_append_right _ _ (by omega), hl, Nat.sub_self, List.drop_eq_getElem_cons h, List.set_cons_zero, List.take_succ_eq_append_getElem h, List.map_append, List.append_assoc]
  rfl
theorem gsAt_all (raw : List Pr) : gsAt raw raw.length = raw.map tameG := by simp [gsAt]
/-- Whom the last range with a key was given to. -/
def wantG (l : List Pr) (key : List UInt8) : Int := l.foldl (fun a g => if inR key g.k g.v = true then g.n else a) 1
theorem wantG_next {l : List Pr} {i : Nat} (h : i < l.length) (key : List UInt8) : wantG (l.take (i + 1)) key = if inR key l[i].k l[i].v = true then l[i].n else wantG (l.take i) key := by
  unfold wantG
  rw [List.take_succ_eq_append_getElem h, List.foldl_append]
  rfl

end Go.Proofs.Ytllmcjmbicgahaa
