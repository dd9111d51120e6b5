/-
  DelegFunction: rows of what was given, rows of texts; keyOf, pick.
-/
import Derived.Test.YtmlncfnnldplgaaWDgM
namespace Go.Proofs.Ytmlncfnnldplgaa
open Go.RowKit

/-! ### texts of one's own -/
def tdCells (ns : List (List UInt8)) : List Value := ns.map fun n => Value.string (bs n)
def OwnTd (B : Nat) (w : World) (ao : Option Addr) (c : Nat) (ns : List (List UInt8)) : Prop := w.ownsRow B 9 1 (.slice ao ns.length c) ns.length (tdCells ns)
theorem tdCells_len (ns : List (List UInt8)) : (tdCells ns).length = ns.length * 1 := by simp [tdCells]
theorem tdCells_one (ns : List (List UInt8)) : ∀ v ∈ tdCells ns, v.oneCell' = true := fun u hu => by
  obtain ⟨n, _, rfl⟩ := List.mem_map.1 hu
  rfl
theorem OwnTd.kept {B c : Nat} {w w' : World} {ao : Option Addr} {ns : List (List UInt8)} (h : OwnTd B w ao c ns) (hk : Kept Nil w w') : OwnTd B w' ao c ns := own_kept h hk (fun _ _ _ x => x.elim)
theorem OwnTd.cell {B c : Nat} {w : World} {ao : Option Addr} {ks : List (List UInt8)} (h : OwnTd B w ao c ks) {j : Nat} (hj : j < ks.length) : ∃ g, ao = some ⟨g, 0, none⟩ ∧ g < w.heap.size ∧ w.cell? ⟨g, j, none⟩ = some (.string (bs ks[j])) := by
  rcases h.2 with ⟨h1, _⟩ | ⟨g, cap, cur, hv, hb, hh, h1, h2, h3, h4⟩
  · simp at h1
    rw [h1.2.1] at hj
    simp at hj
  · simp only [Value.slice.injEq] at hv
    obtain ⟨rfl, _, _⟩ := hv
    refine ⟨g, rfl, lt_of_block hh, ?_⟩
    rw [blk_cell hh]
    have := congrArg (fun l => l[j]?) h4
    simp only [List.getElem?_take, if_pos (show j < ks.length * 1 by omega), Array.getElem?_toList] at this
    rw [this]
    simp [tdCells, hj]
theorem StrRow.srcTd {B c : Nat} {w : World} {ao : Option Addr} {ks : List (List UInt8)} (h : StrRow B w ao ks) : Src Try.prog 1 54 (.slice ao ks.length c) ks.length (tdCells ks) w := by
  cases hes : ks with
  | nil =>
    cases ao with
    | none => exact Src.ofNil _ Try.underlying54 c
    | some a => exact Src.ofSlice _ Try.underlying54 a 0 c [] rfl (fun j u hj => by simp at hj) (fun u hu => by simp at hu)
  | cons x t =>
    rw [← hes]
    obtain ⟨a, rfl, _⟩ := h 0 (by rw [hes]; simp)
    refine Src.ofSlice _ Try.underlying54 a ks.length c _ (tdCells_len ks) ?_ (tdCells_one ks)
    intro j u hj
    have hlt : j < ks.length := by have := (List.getElem?_eq_some_iff.1 hj).1; simpa [tdCells] using this
    obtain ⟨a', e, _, q0, _⟩ := h j hlt
    simp only [Option.some.injEq] at e
    subst e
    rw [q0]
    simpa [tdCells, hlt] using hj
theorem Try.infoTd : (Try.prog.info? 9).map (fun i => (i.zero, i.size, i.bytes)) = some (some (.string ⟨#[]⟩), 1, 16) := by kernel_rfl
theorem own_farD {B size n : Nat} {e : TypeId} {w w' : World} {v : Value} {xs : List Value} {ob : Option Nat} (h : w.ownsRow B e size v n xs) (hg : w.grownBy w' ob) (hne : ∀ g, v.ownBlock = some g → ob ≠ some g) : w'.ownsRow B e size v n xs := by
  refine ⟨h.1, h.2.imp id ?_⟩
  rintro ⟨g, cap, cur, hv, hb, hh, h3⟩
  refine ⟨g, cap, cur, hv, hb, ?_, h3⟩
  rw [hg.block g (lt_of_block hh) (fun e => hne g (by rw [hv]; rfl) e.symm)]
  exact hh
/-- Rows of two types lie apart. -/
theorem own_tyD {B B' size size' n n' : Nat} {e e' : TypeId} {w : World} {v v' : Value} {xs xs' : List Value} (h : w.ownsRow B e size v n xs) (h' : w.ownsRow B' e' size' v' n' xs') (hne : e ≠ e') : ∀ g, v.ownBlock = some g → v'.ownBlock ≠ some g := fun g eg eg' => by
  rcases h.2 with ⟨hv, _⟩ | ⟨g1, cap, cur, hv, _, hh, _⟩
  · rw [hv] at eg; simp [Value.ownBlock] at eg
  · rcases h'.2 with ⟨hv2, _⟩ | ⟨g2, cap2, cur2, hv2, _, hh2, _⟩
    · rw [hv2] at eg'; simp [Value.ownBlock] at eg'
    · rw [hv] at eg
      rw [hv2] at eg'
      simp [Value.ownBlock] at eg eg'
      subst eg
      subst eg'
      rw [hh] at hh2
      simp at hh2
      exact hne hh2.2

theorem pickD_val (c n : Int) (hn : 0 < n) : c % n = if c.tmod n < 0 then c.tmod n + n else c.tmod n := by
  have h1 := Int.emod_nonneg c (show n ≠ 0 by omega)
  have h2 := Int.emod_lt_of_pos c hn
  have h3 := Int.tmod_eq_emod (a := c) (b := n)
  have h4 : (n.natAbs : Int) = n := by omega
  split at h3 <;> split <;> omega
set_option maxRecDepth 100000 in
theorem pickD_any (c n : Int) (w : World) (hn : 0 < n) (hn2 : n ≤ 9223372036854775807) :
    Calls Try.prog 22 #[.int .i64 c, .int .i64 n] w fun e w' => e = .returned (.int .i64 (c % n)) ∧ w' = w := by
  have hv := pickD_val c n hn
  have h1 := Int.emod_nonneg c (show n ≠ 0 by omega)
  have h2 := Int.emod_lt_of_pos c hn
  have hne : (n == 0) = false := by simp; omega
  by_cases hneg : c.tmod n < 0
  · rw [if_pos hneg] at hv
    have HV : Hid (c % n = c.tmod n + n) := hv
    rw [hv] at h1 h2
    clear hv
    go_enter Try.func22, Try.ntmps22
    go_wp2
    go_ret
    rw [HV.out]
    exact ⟨rfl, rfl⟩
  · rw [if_neg hneg] at hv
    have HV : Hid (c % n = c.tmod n) := hv
    rw [hv] at h1 h2
    clear hv
    go_enter Try.func22, Try.ntmps22
    go_wp2
    go_ret
    rw [HV.out]
    exact ⟨rfl, rfl⟩
/-- What was given, tamed. -/
def tameG (g : Pr) : Pr := ⟨g.k.take 16, g.v.take 16, 1 + g.n % 9⟩
def gsAt (raw : List Pr) (i : Nat) : List Pr := (raw.take i).map tameG ++ raw.drop i
theorem gsAt_len (raw : List Pr) (i : Nat) : (gsAt raw i).length = raw.length := by simp [gsAt]; omega
theorem gsAt_at {raw : List Pr} {i : Nat} (h : i < raw.length) : (gsAt raw i)[i]'(by rw [gsAt_len]; exact h) = raw[i] := by
  unfold gsAt
  rw [List.getElem_append_right (by simp; omega)]
  simp [List.length_take, Nat.min_eq_left (Nat.le_of_lt h)]
theorem gsAt_next {raw : List Pr} {i : Nat} (h : i < raw.length) : (gsAt raw i).set i (tameG raw[i]) = gsAt raw (i + 1) := by
  unfold gsAt
  have hl : ((raw.take i).map tameG).length = i := by simp; omega
  rw [List.set_append_right _ _ (by omega), hl, Nat.sub_self, List.drop_eq_getElem_cons h, List.set_cons_zero, List.take_succ_eq_append_getElem h, List.map_append, List.append_assoc]
  rfl
theorem gsAt_all (raw : List Pr) : gsAt raw raw.length = raw.map tameG := by simp [gsAt]
/-- Whom the last range with a key was given to. -/
def wantG (l : List Pr) (key : List UInt8) : Int := l.foldl (fun a g => if inR key g.k g.v = true then g.n else a) 1
theorem wantG_next {l : List Pr} {i : Nat} (h : i < l.length) (key : List UInt8) : wantG (l.take (i + 1)) key = if inR key l[i].k l[i].v = true then l[i].n else wantG (l.take i) key := by
  unfold wantG
  rw [List.take_succ_eq_append_getElem h, List.foldl_append]
  rfl

end Go.Proofs.Ytmlncfnnldplgaa
