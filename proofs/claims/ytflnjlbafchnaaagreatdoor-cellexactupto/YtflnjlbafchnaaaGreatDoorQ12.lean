/-
  Joined: WTxR, WCeM, WCe1.
-/
import Derived.Test.YtflnjlbafchnaaaGreatDoorQ11
import Derived.Laws.IdiomStrings
import Derived.Lib.CutLaws
import Derived.Test.YtflnjlbafchnaaaGreatDoorQ01
import Derived.Handy
/-
  Transactions: the document's decimal and amount.
-/
namespace Go.Proofs.YtflnjlbafchnaaaGreatDoor
open Go.RowKit

set_option maxRecDepth 100000 in
set_option maxHeartbeats 1000000 in
theorem refDecimal_any : ∀ (n : Nat), n ≤ 9223372036854775807 → ∀ (w : World), Calls Tryz.prog 55 #[.int .i64 n] w fun e w' => e = .returned (.string (bs (Lib.decDigits n))) ∧ Kept Nil w w' := fun n => by
  induction n using Nat.strongRecOn with
  | ind n ih =>
    intro hn w
    have hr : Int.tmod (n : Int) 10 = ((n % 10 : Nat) : Int) := rfl
    have hq : Int.tdiv (n : Int) 10 = ((n / 10 : Nat) : Int) := rfl
    have hm : n % 10 < 10 := Nat.mod_lt _ (by omega)
    obtain ⟨d, HDe⟩ : ∃ d, Hid (d = n % 10) := ⟨_, rfl⟩
    rw [← HDe.out] at hr hm
    obtain ⟨y, HY⟩ : ∃ y : UInt8, Hid (y = UInt8.ofNat (48 + d)) := ⟨_, rfl⟩
    have hcv : (convert 159 9 (.slice (some ⟨w.heap.size, 0, none⟩) 1 1)).run Tryz.prog (w.alloc (.cells #[.int .u8 (48 + (d : Int))] 5)) = .ok (.string (bs [y])) (w.alloc (.cells #[.int .u8 (48 + (d : Int))] 5)) := by
      refine run_convert_bytes_back _ _ _ _ ⟨w.heap.size, 0, none⟩ 1 [y] Tryz.underlying159 Tryz.underlying5 Tryz.underlying9 ?_
      intro j hj
      obtain rfl : j = 0 := by simp at hj; omega
      rw [HY.out]
      show (w.alloc (.cells #[.int .u8 (48 + (d : Int))] 5)).cell? ⟨w.heap.size, 0, none⟩ = _
      simp
      omega
    by_cases c : n < 10
    · have he : Lib.decDigits n = [y] := by
        rw [decDigits_small c, HY.out, HDe.out, Nat.mod_eq_of_lt c]
      rw [he]
      have c' : (n : Int) < 10 := by omega
      clear ih
      go_enter Tryz.func55, Tryz.ntmps55
      go_wp2
      go_ret
      exact ⟨rfl, (Kept.refl _ _).alloc _⟩
    · have he : bs (Lib.decDigits (n / 10)) ++ bs [y] = bs (Lib.decDigits n) := by
        rw [bs_append, HY.out, HDe.out]
        conv => rhs; rw [Lib.decDigits, dif_neg c]
      have hl1 : (bs (Lib.decDigits (n / 10))).size ≤ 9223372036854775800 := by
        rw [bs_size, Lib.decDigits_length]
        exact nDig_le _
      have hl2 : (bs [y]).size = 1 := rfl
      have c' : ¬ (n : Int) < 10 := by omega
      have IH := ih (n / 10) (by omega) (by omega) (w.alloc (.cells #[.int .u8 (48 + (d : Int))] 5))
      clear ih
      go_enter Tryz.func55, Tryz.ntmps55
      go_wp2_with fail
      go_fit IH
      rintro _ w1 ⟨rfl, k1⟩
      have K1 : Hid (Kept Nil w w1) := ((Kept.refl _ _).alloc _).trans k1
      clear k1 IH hcv
      go_wp2
      go_ret
      exact ⟨rfl, K1.out⟩

theorem amtGo_at {most x k : Nat} {l : List UInt8} (h : k < l.length) : amtGo most x (l.drop k) = if 48 ≤ l[k].toNat ∧ l[k].toNat ≤ 57 ∧ x ≤ most then amtGo most (10 * x + (l[k].toNat - 48)) (l.drop (k + 1)) else none := by
  rw [List.drop_eq_getElem_cons h]
  rfl
set_option maxRecDepth 100000 in
set_option maxHeartbeats 2000000 in
theorem refAmount_any (l : List UInt8) (most : Nat) (hl : l.length ≤ maxLen) (hm : most ≤ 999999999) (w : World) :
    Calls Tryz.prog 110 #[.string (bs l), .int .i64 most] w fun e w' => e = .returned (.int .i64 (amtZ most l)) ∧ w' = w := by
  unfold maxLen at hl
  have hsz := bs_size l
  obtain ⟨z, HZ⟩ : ∃ z, Hid (z = amtZ most l) := ⟨_, rfl⟩
  rw [← HZ.out]
  go_enter Tryz.func110, Tryz.ntmps110
  go_wp2
  go_loop [5, 6] (fun n i => ∃ k x : Nat, k ≤ l.length ∧ i = .int .i64 k ∧ n = .int .i64 x ∧ x ≤ 10000000000 ∧ Hid (amtGo most 0 l = amtGo most x (l.drop k))) (fun _ i => l.length - (intOf i).toNat)
  case atStart => exact ⟨0, 0, Nat.zero_le _, rfl, rfl, by omega, rfl⟩
  case round =>
    obtain ⟨k, x, hk, rfl, rfl, hx, HA⟩ := hrel
    by_cases hlt : k < l.length
    · have HB : Hid (amtGo most 0 l = if 48 ≤ l[k].toNat ∧ l[k].toNat ≤ 57 ∧ x ≤ most then amtGo most (10 * x + (l[k].toNat - 48)) (l.drop (k + 1)) else none) := HA.out.trans (amtGo_at hlt)
      obtain ⟨c, hcl⟩ : ∃ c, l[k] = c := ⟨_, rfl⟩
      have hat : ∀ h, (bs l)[k]'h = c := fun h => (bs_at l k h).trans hcl
      rw [hcl] at HB
      clear hcl HA
      have hc := c.toNat_lt
      by_cases c1 : c.toNat < 48
      · obtain rfl : z = -1 := HZ.out.trans (amtGo_none (HB.out.trans (if_neg (by omega))))
        go_wp2
        go_ret
        exact ⟨rfl, rfl⟩
      · by_cases c2 : 57 < c.toNat
        · obtain rfl : z = -1 := HZ.out.trans (amtGo_none (HB.out.trans (if_neg (by omega))))
          go_wp2
          go_ret
          exact ⟨rfl, rfl⟩
        · by_cases c3 : most < x
          · obtain rfl : z = -1 := HZ.out.trans (amtGo_none (HB.out.trans (if_neg (by omega))))
            go_wp2
            go_ret
            exact ⟨rfl, rfl⟩
          · have HC : Hid (amtGo most 0 l = amtGo most (10 * x + (c.toNat - 48)) (l.drop (k + 1))) := HB.out.trans (if_pos ⟨by omega, by omega, by omega⟩)
            clear HB
            go_wp2
            go_round
            case rel => exact ⟨k + 1, 10 * x + (c.toNat - 48), by omega, by go_num, by go_num, by omega, HC⟩
            case measure => simp [intOf]; omega
    · have HC : Hid (amtGo most 0 l = some x) := by
        have := HA.out
        rw [List.drop_of_length_le (by omega)] at this
        exact this
      have HD : Hid (z = if l = [] ∨ most < x ∨ (l[0]? = some 48 ∧ 1 < l.length) then -1 else (x : Int)) := HZ.out.trans (amtGo_some HC.out)
      clear HA HC
      by_cases e0 : l = []
      · obtain rfl : z = -1 := HD.out.trans (if_pos (.inl e0))
        have hne : ((bs l).toList == ([] : List UInt8)) = true := by rw [bs_toList, e0]; rfl
        clear e0 HD
        go_wp2
        go_ret
        exact ⟨rfl, rfl⟩
      · have hne : ((bs l).toList == ([] : List UInt8)) = false := by
          rw [bs_toList]
          cases l with
          | nil => exact absurd rfl e0
          | cons _ _ => rfl
        have hpos : 0 < l.length := List.length_pos_iff.2 e0
        obtain ⟨c, hcl⟩ : ∃ c, l[0] = c := ⟨_, rfl⟩
        have hat : ∀ h, (bs l)[0]'h = c := fun h => (bs_at l 0 h).trans hcl
        have HC0 : Hid (l[0]? = some c) := by show _ = _; rw [List.getElem?_eq_getElem hpos, hcl]
        clear hcl
        by_cases c1 : most < x
        · obtain rfl : z = -1 := HD.out.trans (if_pos (.inr (.inl c1)))
          go_wp2
          go_ret
          exact ⟨rfl, rfl⟩
        · by_cases c2 : c = 48
          · subst c2
            by_cases c3 : 1 < l.length
            · obtain rfl : z = -1 := HD.out.trans (if_pos (.inr (.inr ⟨HC0.out, c3⟩)))
              go_wp2
              go_ret
              exact ⟨rfl, rfl⟩
            · obtain rfl : z = x := HD.out.trans (if_neg (by rintro (h | h | h); exact e0 h; exact c1 h; exact c3 h.2))
              go_wp2
              go_ret
              exact ⟨rfl, rfl⟩
          · obtain rfl : z = x := HD.out.trans (if_neg (by
              rintro (h | h | h)
              · exact e0 h
              · exact c1 h
              · rw [HC0.out] at h
                exact c2 (Option.some.inj h.1)))
            have c2' : ((c.toNat : Int) == 48) = false := by
              have : c.toNat ≠ 48 := fun e => c2 (by rw [← UInt8.toNat_inj]; exact e)
              simp
              omega
            go_wp2
            go_ret
            exact ⟨rfl, rfl⟩
end Go.Proofs.YtflnjlbafchnaaaGreatDoor

/-
  Cells, plainly: what a cell says, the text that says it, what a text says.
-/
namespace Go.Proofs.YtflnjlbafchnaaaGreatDoor
open Go.Lib

/-- A cell: the value and version of its key (none: version 0), what it says (0 here, 1 moving, 2 gone), how often the key was handed over, to which group. -/
structure Ce where
  v : List UInt8
  n : Nat
  s : Nat
  h : Nat
  g : Nat
def wHere : List UInt8 := [104, 101, 114, 101]
def wMov : List UInt8 := [109, 111, 118, 105, 110, 103]
def wGon : List UInt8 := [103, 111, 110, 101]
def cw (s : Nat) : List UInt8 := if s = 0 then wHere else if s = 1 then wMov else wGon
def sayOf (w : List UInt8) : Option Nat := if w = wHere then some 0 else if w = wMov then some 1 else if w = wGon then some 2 else none
def ceTail (v : List UInt8) (n : Nat) : List UInt8 := if v = [] ∧ n = 0 then [] else 32 :: (decDigits n ++ 32 :: 61 :: v)
def ceTxt (c : Ce) : List UInt8 := cw c.s ++ 32 :: (decDigits c.h ++ ((if c.s = 0 then [] else 32 :: decDigits c.g) ++ ceTail c.v c.n))
structure Ce.Ok (c : Ce) : Prop where
  v : c.v.length ≤ 32
  n : c.n ≤ 999999
  vn : c.n = 0 → c.v = []
  s : c.s ≤ 2
  h : c.h ≤ 999999
  g0 : c.s = 0 → c.g = 0
  g1 : c.s ≠ 0 → 1 ≤ c.g ∧ c.g ≤ 4
  gone : c.s = 2 → c.n = 0
/-- The numbers that stand in a cell that says this, from where to where each. -/
def ceSpec (s : Nat) (full : Bool) : List (Nat × Nat) := (0, 999999) :: ((if s = 0 then [] else [(1, 4)]) ++ (if full = true then [(1, 999999)] else []))
def ceRd : List (List UInt8) → List (Nat × Nat) → Option (List Nat)
  | [], [] => some []
  | w :: ws, (a, b) :: r => match amt b w with
    | some v => if a ≤ v then (ceRd ws r).map (fun l => v :: l) else none
    | none => none
  | _, _ => none
def mkCe (v : List UInt8) (s : Nat) : List Nat → Ce
  | [h] => ⟨v, 0, s, h, 0⟩
  | [h, x] => if s = 0 then ⟨v, x, s, h, 0⟩ else ⟨v, 0, s, h, x⟩
  | [h, g, n] => ⟨v, n, s, h, g⟩
  | _ => ⟨v, 0, s, 0, 0⟩
/-- What a text says, by its parts: the pieces ahead of the mark, the value, whether there is one. -/
def ceBy (ps : List (List UInt8)) (v : List UInt8) (full : Bool) : Option Ce :=
  match ps with
  | [] => none
  | w :: ws => match sayOf w with
    | none => none
    | some s => if (full = true ∧ s = 2) ∨ 32 < v.length then none else (ceRd ws (ceSpec s full)).map (mkCe v s)
def ceOf (l : List UInt8) : Option Ce := ceBy (pcs (cut l [32, 61]).1) (cut l [32, 61]).2.1 (cut l [32, 61]).2.2

theorem index_miss2 {l : List UInt8} (h : ∀ c ∈ l, c ≠ 61) : index l [32, 61] = -1 := by
  induction l with
  | nil => rfl
  | cons c l ih =>
    have := ih (fun x hx => h x (by simp [hx]))
    unfold index
    rw [if_neg ?_, if_pos (by rw [this]; rfl)]
    intro hp
    cases l with
    | nil => simp [List.isPrefixOf] at hp
    | cons d l =>
      have hd := h d (by simp)
      simp only [List.isPrefixOf, Bool.and_eq_true, beq_iff_eq] at hp
      exact hd hp.2.1.symm
theorem index_at2 {a r : List UInt8} (h : ∀ c ∈ a, c ≠ 61) : index (a ++ 32 :: 61 :: r) [32, 61] = a.length := by
  induction a with
  | nil => simp [index, List.isPrefixOf]
  | cons c a ih =>
    have := ih (fun x hx => h x (by simp [hx]))
    rw [List.cons_append]
    unfold index
    rw [if_neg ?_, this, if_neg (by simp)]
    · simp
    · intro hp
      cases a with
      | nil => simp [List.isPrefixOf] at hp
      | cons d a =>
        have hd := h d (by simp)
        simp only [List.cons_append, List.isPrefixOf, Bool.and_eq_true, beq_iff_eq] at hp
        exact hd hp.2.1.symm
theorem cut_miss2 {l : List UInt8} (h : ∀ c ∈ l, c ≠ 61) : cut l [32, 61] = (l, [], false) := by
  unfold cut
  rw [index_miss2 h, if_neg (by omega)]
theorem cut_at2 {a r : List UInt8} (h : ∀ c ∈ a, c ≠ 61) : cut (a ++ 32 :: 61 :: r) [32, 61] = (a, r, true) := by
  unfold cut
  rw [index_at2 h, if_pos (by omega)]
  simp only [Int.toNat_natCast, Prod.mk.injEq, and_true]
  refine ⟨List.take_left' rfl, ?_⟩
  rw [List.drop_append]
  simp
theorem digits_ne61 (n : Nat) : ∀ c ∈ decDigits n, c ≠ 61 := by
  intro c hc e
  obtain ⟨k, hk, hkc⟩ := List.getElem_of_mem hc
  obtain ⟨d, hd⟩ := digit_of_decFrom _ _ _ (decFrom_digits n) k c (by rw [List.getElem?_eq_getElem hk, hkc])
  rw [e] at hd
  cases hd
theorem cw_nb (s : Nat) : ∀ c ∈ cw s, c ≠ 32 := by
  unfold cw
  split
  · decide
  · split <;> decide
theorem cw_ne61 (s : Nat) : ∀ c ∈ cw s, c ≠ 61 := by
  unfold cw
  split
  · decide
  · split <;> decide
theorem sayOf_cw {s : Nat} (h : s ≤ 2) : sayOf (cw s) = some s := by
  rcases (show s = 0 ∨ s = 1 ∨ s = 2 by omega) with e | e | e <;> subst e <;> rfl
theorem sayOf_some {w : List UInt8} {s : Nat} (h : sayOf w = some s) : s ≤ 2 ∧ w = cw s := by
  unfold sayOf at h
  split at h
  · cases h; rename_i e; exact ⟨by omega, e⟩
  · split at h
    · cases h; rename_i e; exact ⟨by omega, e⟩
    · split at h
      · cases h; rename_i e; exact ⟨by omega, e⟩
      · cases h
/-- The head of a cell's text: what stands ahead of the mark. -/
def ceHead (c : Ce) : List UInt8 := cw c.s ++ 32 :: (decDigits c.h ++ ((if c.s = 0 then [] else 32 :: decDigits c.g) ++ (if c.v = [] ∧ c.n = 0 then [] else 32 :: decDigits c.n)))
theorem head_ne61 (c : Ce) : ∀ x ∈ ceHead c, x ≠ 61 := by
  intro x hx
  unfold ceHead at hx
  simp only [List.mem_append, List.mem_cons] at hx
  rcases hx with hx | hx | hx | hx | hx
  · exact cw_ne61 _ x hx
  · rw [hx]; decide
  · exact digits_ne61 _ x hx
  · split at hx
    · cases hx
    · rcases List.mem_cons.1 hx with hx | hx
      · rw [hx]; decide
      · exact digits_ne61 _ x hx
  · split at hx
    · cases hx
    · rcases List.mem_cons.1 hx with hx | hx
      · rw [hx]; decide
      · exact digits_ne61 _ x hx
theorem txt_head (c : Ce) : ceTxt c = if c.v = [] ∧ c.n = 0 then ceHead c else ceHead c ++ 32 :: 61 :: c.v := by
  unfold ceTxt ceHead ceTail
  by_cases h : c.v = [] ∧ c.n = 0
  · rw [if_pos h, if_pos h, if_pos h]
  · rw [if_neg h, if_neg h, if_neg h]
    simp
theorem cut_txt (c : Ce) : cut (ceTxt c) [32, 61] = (ceHead c, (if c.v = [] ∧ c.n = 0 then [] else c.v), decide (¬ (c.v = [] ∧ c.n = 0))) := by
  rw [txt_head]
  by_cases h : c.v = [] ∧ c.n = 0
  · rw [if_pos h, if_pos h, cut_miss2 (head_ne61 c), decide_eq_false (by simpa using h)]
  · rw [if_neg h, if_neg h, cut_at2 (head_ne61 c), decide_eq_true (by simpa using h)]
theorem pcs_head (c : Ce) : pcs (ceHead c) = cw c.s :: decDigits c.h :: ((if c.s = 0 then [] else [decDigits c.g]) ++ (if c.v = [] ∧ c.n = 0 then [] else [decDigits c.n])) := by
  unfold ceHead
  rw [pcs_app (cw_nb _)]
  by_cases h : c.s = 0
  · rw [if_pos h, if_pos h]
    by_cases hv : c.v = [] ∧ c.n = 0
    · rw [if_pos hv, if_pos hv]
      simp only [List.append_nil]
      rw [pcs_one (digits_nb _)]
    · rw [if_neg hv, if_neg hv]
      simp only [List.nil_append]
      rw [pcs_app (digits_nb _), pcs_one (digits_nb _)]
  · rw [if_neg h, if_neg h]
    by_cases hv : c.v = [] ∧ c.n = 0
    · rw [if_pos hv, if_pos hv]
      simp only [List.append_nil]
      rw [pcs_app (digits_nb _), pcs_one (digits_nb _)]
    · rw [if_neg hv, if_neg hv]
      simp only [List.cons_append, List.nil_append]
      rw [pcs_app (digits_nb _), pcs_app (digits_nb _), pcs_one (digits_nb _)]
/-- What is written is read. -/
theorem ceOf_txt {c : Ce} (h : c.Ok) : ceOf (ceTxt c) = some c := by
  have hh := h.h
  have hn := h.n
  unfold ceOf
  rw [cut_txt, pcs_head]
  simp only
  unfold ceBy
  simp only
  rw [sayOf_cw h.s]
  simp only
  have hvl : (if c.v = [] ∧ c.n = 0 then [] else c.v).length ≤ 32 := by
    split
    · simp
    · exact h.v
  rw [if_neg ?_]
  · by_cases hs : c.s = 0
    · by_cases hv : c.v = [] ∧ c.n = 0
      · have e1 : decide (¬ (c.v = [] ∧ c.n = 0)) = false := decide_eq_false (by simpa using hv)
        rw [e1]
        simp only [hs, hv, ceSpec, ceRd, amt_digits hh, and_self, if_true]
        obtain ⟨v, n, s, hh', g⟩ := c
        simp only at *
        have := h.g0 hs
        simp only at this
        subst hs this
        simp [mkCe, hv.1, hv.2, ceRd]
      · have hn1 : 1 ≤ c.n := by
          rcases Nat.eq_zero_or_pos c.n with e | e
          · exact absurd ⟨h.vn e, e⟩ hv
          · exact e
        have e1 : decide (¬ (c.v = [] ∧ c.n = 0)) = true := decide_eq_true (by simpa using hv)
        rw [e1]
        simp only [hs, hv, ceSpec, ceRd, amt_digits hh, amt_digits hn, if_true, if_false, List.nil_append, hn1]
        obtain ⟨v, n, s, hh', g⟩ := c
        simp only at *
        have := h.g0 hs
        simp only at this
        subst hs this
        simp [mkCe]
    · obtain ⟨hg1, hg4⟩ := h.g1 hs
      by_cases hv : c.v = [] ∧ c.n = 0
      · have e1 : decide (¬ (c.v = [] ∧ c.n = 0)) = false := decide_eq_false (by simpa using hv)
        rw [e1]
        simp only [hs, hv, ceSpec, ceRd, amt_digits hh, and_self, if_true, if_false, List.append_nil]
        obtain ⟨v, n, s, hh', g⟩ := c
        simp only at *
        simp [mkCe, hs, hv.1, hv.2, ceRd, amt_digits hg4, hg1]
      · have hn1 : 1 ≤ c.n := by
          rcases Nat.eq_zero_or_pos c.n with e | e
          · exact absurd ⟨h.vn e, e⟩ hv
          · exact e
        have e1 : decide (¬ (c.v = [] ∧ c.n = 0)) = true := decide_eq_true (by simpa using hv)
        rw [e1]
        simp only [hs, hv, ceSpec, ceRd, amt_digits hh, amt_digits hg4, amt_digits hn, if_true, if_false, List.cons_append, List.nil_append, hg1, hn1]
        obtain ⟨v, n, s, hh', g⟩ := c
        simp only at *
        simp [mkCe]
  · rintro (⟨h1, h2⟩ | h1)
    · have := h.gone h2
      have h3 : ¬ (c.v = [] ∧ c.n = 0) := of_decide_eq_true h1
      exact h3 ⟨h.vn this, this⟩
    · omega
theorem ceRd_len : ∀ {ws : List (List UInt8)} {r : List (Nat × Nat)} {l : List Nat}, ceRd ws r = some l → ws.length = r.length ∧ l.length = r.length
  | [], [], l, h => by cases h; exact ⟨rfl, rfl⟩
  | [], _ :: _, l, h => by cases h
  | _ :: _, [], l, h => by cases h
  | w :: ws, (a, b) :: r, l, h => by
    unfold ceRd at h
    split at h
    · split at h
      · cases hr : ceRd ws r with
        | none => rw [hr] at h; cases h
        | some m =>
          rw [hr] at h
          cases h
          have := ceRd_len hr
          simp
          omega
      · cases h
    · cases h
theorem ceRd_cons {w : List UInt8} {ws : List (List UInt8)} {a b : Nat} {r : List (Nat × Nat)} {l : List Nat} (h : ceRd (w :: ws) ((a, b) :: r) = some l) : ∃ v m, l = v :: m ∧ amt b w = some v ∧ a ≤ v ∧ ceRd ws r = some m := by
  unfold ceRd at h
  split at h
  · rename_i v hv
    split at h
    · rename_i ha
      cases hr : ceRd ws r with
      | none => rw [hr] at h; cases h
      | some m => rw [hr] at h; cases h; exact ⟨v, m, rfl, hv, ha, rfl⟩
    · cases h
  · cases h
/-- What is read may be. -/
theorem ceBy_ok {ps : List (List UInt8)} {v : List UInt8} {full : Bool} {c : Ce} (hv0 : full = false → v = []) (h : ceBy ps v full = some c) : c.Ok := by
  unfold ceBy at h
  split at h
  · cases h
  · rename_i w ws
    split at h
    · cases h
    · rename_i s hs
      split at h
      · cases h
      · rename_i hc
        simp only [not_or] at hc
        obtain ⟨hc1, hc2⟩ := hc
        have hs2 := (sayOf_some hs).1
        cases hr : ceRd ws (ceSpec s full) with
        | none => rw [hr] at h; cases h
        | some l =>
          rw [hr] at h
          simp only [Option.map_some, Option.some.injEq] at h
          subst h
          unfold ceSpec at hr
          cases ws with
          | nil => cases hr
          | cons w1 ws =>
            obtain ⟨h1, m, rfl, a1, b1, hr1⟩ := ceRd_cons hr
            have c1 := (amt_some a1).1
            by_cases s0 : s = 0
            · rw [if_pos s0, List.nil_append] at hr1
              cases full with
              | false =>
                obtain rfl := hv0 rfl
                cases ws with
                | nil => cases hr1; exact ⟨by simp [mkCe], by simp [mkCe], fun _ => rfl, by simp [mkCe]; omega, c1, fun _ => rfl, fun e => absurd (show s = 0 from s0) e, fun _ => rfl⟩
                | cons _ _ => cases hr1
              | true =>
                cases ws with
                | nil => cases hr1
                | cons w2 ws =>
                  obtain ⟨n1, m2, rfl, a2, b2, hr2⟩ := ceRd_cons hr1
                  have c2 := (amt_some a2).1
                  cases ws with
                  | nil =>
                    cases hr2
                    have e : mkCe v s [h1, n1] = ⟨v, n1, s, h1, 0⟩ := if_pos s0
                    rw [e]
                    exact ⟨by show v.length ≤ 32; omega, c2, fun e => by simp only at e; omega, by show s ≤ 2; omega, c1, fun _ => rfl, fun e => absurd s0 e, fun e => by simp only at e; omega⟩
                  | cons _ _ => cases hr2
            · rw [if_neg s0] at hr1
              cases ws with
              | nil => cases hr1
              | cons w2 ws =>
                obtain ⟨g1, m2, rfl, a2, b2, hr2⟩ := ceRd_cons hr1
                have c2 := (amt_some a2).1
                cases full with
                | false =>
                  obtain rfl := hv0 rfl
                  cases ws with
                  | nil =>
                    cases hr2
                    have e : mkCe [] s [h1, g1] = ⟨[], 0, s, h1, g1⟩ := if_neg s0
                    rw [e]
                    exact ⟨by simp, by simp, fun _ => rfl, by show s ≤ 2; omega, c1, fun e => absurd e s0, fun _ => ⟨b2, c2⟩, fun _ => rfl⟩
                  | cons _ _ => cases hr2
                | true =>
                  cases ws with
                  | nil => cases hr2
                  | cons w3 ws =>
                    obtain ⟨n1, m3, rfl, a3, b3, hr3⟩ := ceRd_cons hr2
                    have c3 := (amt_some a3).1
                    cases ws with
                    | nil =>
                      cases hr3
                      exact ⟨by show v.length ≤ 32; omega, c3, fun e => by simp only [mkCe] at e; omega, by show s ≤ 2; omega, c1, fun e => absurd e s0, fun _ => ⟨b2, c2⟩, fun e => absurd ⟨rfl, e⟩ hc1⟩
                    | cons _ _ => cases hr3
theorem cut_false {l : List UInt8} (h : (cut l [32, 61]).2.2 = false) : (cut l [32, 61]).2.1 = [] ∧ (cut l [32, 61]).1 = l := by
  unfold cut at h ⊢
  split at h
  · cases h
  · rename_i hc
    rw [if_neg hc]
    exact ⟨rfl, rfl⟩
theorem ceOf_ok {l : List UInt8} {c : Ce} (h : ceOf l = some c) : c.Ok := ceBy_ok (fun e => (cut_false e).1) h
theorem digits_len6 {n : Nat} (h : n ≤ 999999) : (decDigits n).length ≤ 6 := by
  rw [decDigits_length]
  have h10 : ∀ (k u : Nat), u < 10 ^ (k + 1) → nDigits u ≤ k + 1 := by
    intro k
    induction k with
    | zero => intro u hu; rw [nDigits_small (by simpa using hu)]; omega
    | succ k ih =>
      intro u hu
      by_cases h : u < 10
      · rw [nDigits_small h]; omega
      · rw [nDigits_big h]
        have := ih (u / 10) (by rw [Nat.div_lt_iff_lt_mul (by omega)]; rw [Nat.pow_succ] at hu; omega)
        omega
  exact h10 5 n (by omega)
end Go.Proofs.YtflnjlbafchnaaaGreatDoor

/-
  Cells: what the package's own table holds; saysOf, numbers (the program).
-/
namespace Go.Proofs.YtflnjlbafchnaaaGreatDoor
open Go.RowKit

/-- What a world holds in the library's variables, and in the table of words. -/
structure LW (w : World) : Prop where
  l : LD w
  c0 : w.cell? ⟨1, 0, none⟩ = some (.string ⟨#[104, 101, 114, 101]⟩)
  c1 : w.cell? ⟨1, 1, none⟩ = some (.string ⟨#[109, 111, 118, 105, 110, 103]⟩)
  c2 : w.cell? ⟨1, 2, none⟩ = some (.string ⟨#[103, 111, 110, 101]⟩)
theorem LD.keptE {X : Nat → Obj → Prop} {w w' : World} (h : LD w) (k : Kept X w w') (hX : ∀ q o, q < 14 → ¬ X q o) : LD w' := by
  refine ⟨?_, ?_, ?_, ?_⟩
  · obtain ⟨m, hm⟩ := h.m
    refine ⟨m, ?_⟩
    have hlt : 0 < w.heap.size := World.block_lt_of_cell? w _ hm
    rw [World.cell?_of_block (w := w) (by rw [k.block 0 _ (Array.getElem?_eq_getElem hlt) (hX 0 _ (by omega)), Array.getElem?_eq_getElem hlt])]
    exact hm
  · obtain ⟨tp, p, hv⟩ := h.s
    exact ⟨tp, p, var_kept (show Tryz.prog.globalNamed "strconv.ErrSyntax" = some 3 by kernel_rfl) (fun o => hX 3 o (by decide)) k hv⟩
  · obtain ⟨tp, p, hv⟩ := h.r
    exact ⟨tp, p, var_kept (show Tryz.prog.globalNamed "strconv.ErrRange" = some 4 by kernel_rfl) (fun o => hX 4 o (by decide)) k hv⟩
  · exact var_kept (show Tryz.prog.globalNamed "internal/strconv.uint64pow10" = some 2 by kernel_rfl) (fun o => hX 2 o (by decide)) k h.t
theorem LW.keptX {X : Nat → Obj → Prop} {w w' : World} (h : LW w) (k : Kept X w w') (hX : ∀ q o, q < 14 → ¬ X q o) : LW w' := by
  refine ⟨h.l.keptE k hX, ?_, ?_, ?_⟩
  · exact cell_kept k (fun o => hX 1 o (by decide)) h.c0
  · exact cell_kept k (fun o => hX 1 o (by decide)) h.c1
  · exact cell_kept k (fun o => hX 1 o (by decide)) h.c2
theorem LW.kept {w w' : World} (h : LW w) (k : Kept Nil w w') : LW w' := h.keptX k (fun _ _ _ x => x.elim)
def sayR (l : List UInt8) : Nat := (sayOf l).getD 0
def sayB (l : List UInt8) : Bool := (sayOf l).isSome
theorem lit_eq (l m : List UInt8) : (m == (bs l).toList) = decide (l = m) := by
  rw [bs_toList]
  by_cases h : l = m
  · rw [decide_eq_true h, h]; simp
  · rw [decide_eq_false h]; simp only [beq_eq_false_iff_ne]; exact fun e => h e.symm
set_option maxRecDepth 100000 in
set_option maxHeartbeats 1000000 in
theorem saysOf_any (l : List UInt8) (w : World) (hL : LW w) :
    Calls Tryz.prog 178 #[.string (bs l)] w fun e w' => e = .returned (.tuple #[.int .i64 (sayR l), .bool (sayB l)]) ∧ w' = w := by
  have q0 := hL.c0
  have q1 := hL.c1
  have q2 := hL.c2
  have i0 : ∀ X, (Instr.index 203 (.agg #[.string ⟨#[104, 101, 114, 101]⟩, .string ⟨#[109, 111, 118, 105, 110, 103]⟩, .string ⟨#[103, 111, 110, 101]⟩]) (.int .i64 0)).run Tryz.prog X = .ok (.string ⟨#[104, 101, 114, 101]⟩) X := fun _ => by kernel_rfl
  have i1 : ∀ X, (Instr.index 203 (.agg #[.string ⟨#[104, 101, 114, 101]⟩, .string ⟨#[109, 111, 118, 105, 110, 103]⟩, .string ⟨#[103, 111, 110, 101]⟩]) (.int .i64 1)).run Tryz.prog X = .ok (.string ⟨#[109, 111, 118, 105, 110, 103]⟩) X := fun _ => by kernel_rfl
  have i2 : ∀ X, (Instr.index 203 (.agg #[.string ⟨#[104, 101, 114, 101]⟩, .string ⟨#[109, 111, 118, 105, 110, 103]⟩, .string ⟨#[103, 111, 110, 101]⟩]) (.int .i64 2)).run Tryz.prog X = .ok (.string ⟨#[103, 111, 110, 101]⟩) X := fun _ => by kernel_rfl
  have e0 := lit_eq l [104, 101, 114, 101]
  have e1 := lit_eq l [109, 111, 118, 105, 110, 103]
  have e2 := lit_eq l [103, 111, 110, 101]
  clear hL
  by_cases c0 : l = wHere
  · have h1 : sayR l = 0 := by unfold sayR; rw [c0]; rfl
    have h2 : sayB l = true := by unfold sayB; rw [c0]; rfl
    rw [decide_eq_true (show l = [104, 101, 114, 101] from c0)] at e0
    rw [h1, h2]
    clear c0 h1 h2 e1 e2
    go_enter Tryz.func178, Tryz.ntmps178
    go_wp2
    refine wp_loop_rounds 4 ?_
    rw [rounds_succ]
    go_wp2
    go_ret2
    exact ⟨rfl, rfl⟩
  · rw [decide_eq_false (show ¬ l = [104, 101, 114, 101] from c0)] at e0
    by_cases c1 : l = wMov
    · have h1 : sayR l = 1 := by unfold sayR; rw [c1]; rfl
      have h2 : sayB l = true := by unfold sayB; rw [c1]; rfl
      rw [decide_eq_true (show l = [109, 111, 118, 105, 110, 103] from c1)] at e1
      rw [h1, h2]
      clear c0 c1 h1 h2 e2
      go_enter Tryz.func178, Tryz.ntmps178
      go_wp2
      refine wp_loop_rounds 4 ?_
      rw [rounds_succ]
      go_wp2
      rw [rounds_succ]
      go_wp2
      go_ret2
      exact ⟨rfl, rfl⟩
    · rw [decide_eq_false (show ¬ l = [109, 111, 118, 105, 110, 103] from c1)] at e1
      by_cases c2 : l = wGon
      · have h1 : sayR l = 2 := by unfold sayR; rw [c2]; rfl
        have h2 : sayB l = true := by unfold sayB; rw [c2]; rfl
        rw [decide_eq_true (show l = [103, 111, 110, 101] from c2)] at e2
        rw [h1, h2]
        clear c0 c1 c2 h1 h2
        go_enter Tryz.func178, Tryz.ntmps178
        go_wp2
        refine wp_loop_rounds 4 ?_
        rw [rounds_succ]
        go_wp2
        rw [rounds_succ]
        go_wp2
        rw [rounds_succ]
        go_wp2
        go_ret2
        exact ⟨rfl, rfl⟩
      · have h1 : sayR l = 0 := by unfold sayR sayOf; rw [if_neg c0, if_neg c1, if_neg c2]; rfl
        have h2 : sayB l = false := by unfold sayB sayOf; rw [if_neg c0, if_neg c1, if_neg c2]; rfl
        rw [decide_eq_false (show ¬ l = [103, 111, 110, 101] from c2)] at e2
        rw [h1, h2]
        clear c0 c1 c2 h1 h2
        go_enter Tryz.func178, Tryz.ntmps178
        go_wp2
        refine wp_loop_rounds 4 ?_
        rw [rounds_succ]
        go_wp2
        rw [rounds_succ]
        go_wp2
        rw [rounds_succ]
        go_wp2
        rw [rounds_succ]
        go_wp2
        go_ret2
        exact ⟨rfl, rfl⟩
end Go.Proofs.YtflnjlbafchnaaaGreatDoor
