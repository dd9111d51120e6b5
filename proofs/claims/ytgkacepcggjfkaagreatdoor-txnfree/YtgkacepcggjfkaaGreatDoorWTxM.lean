/-
  Transactions, plainly: numbers in decimal digits, texts cut at blanks, what a key says.
-/
import Derived.Lib.AtoiTie
import Derived.Lib.AtoiAllCases
import Derived.Lib.SplitLaws
import Derived.Lib.ItoaNum
namespace Go.Proofs.YtgkacepcggjfkaaGreatDoor
open Go.Lib

/-! ### digits -/
theorem decFrom_app (acc : Nat) : ∀ (l : List UInt8) (n : Nat) (b : UInt8) (d : Nat), decFrom acc l = some n → digitVal b = some d → decFrom acc (l ++ [b]) = some (n * 10 + d) := fun l n b d h hb => by
  have := decFrom_take (l ++ [b]) l.length acc n b d (by rw [List.take_left' rfl]; exact h) (by simp) hb
  rwa [List.take_of_length_le (by simp)] at this
theorem digitVal_of {d : Nat} (h : d < 10) : digitVal (UInt8.ofNat (48 + d)) = some d := by
  rcases (show d = 0 ∨ d = 1 ∨ d = 2 ∨ d = 3 ∨ d = 4 ∨ d = 5 ∨ d = 6 ∨ d = 7 ∨ d = 8 ∨ d = 9 by omega) with h | h | h | h | h | h | h | h | h | h <;> subst h <;> rfl
theorem of_digitVal {b : UInt8} {d : Nat} (h : digitVal b = some d) : d < 10 ∧ b = UInt8.ofNat (48 + d) := by
  obtain ⟨h1, h2, rfl⟩ := digitVal_eq h
  refine ⟨by omega, ?_⟩
  rw [show 48 + (b.toNat - 48) = b.toNat by omega]
  exact (UInt8.ofNat_toNat (x := b)).symm
theorem decFrom_digits : ∀ (n : Nat), decFrom 0 (decDigits n) = some n := fun n => by
  induction n using Nat.strongRecOn with
  | ind n ih =>
    by_cases h : n < 10
    · rw [decDigits_one h]
      have := digitVal_of h
      simp only [decFrom, this]
      simp
    · rw [decDigits, dif_neg h, decFrom_app 0 _ _ _ _ (ih (n / 10) (by omega)) (digitVal_of (Nat.mod_lt n (by omega)))]
      congr 1
      omega
theorem digits_ne (n : Nat) : decDigits n ≠ [] := by
  intro h
  have := decDigits_length n
  rw [h] at this
  have := nDigits_pos n
  simp at *
  omega
theorem decNat_digits (n : Nat) : decNat (decDigits n) = some n := by
  unfold decNat
  rw [if_neg (by simpa using digits_ne n)]
  exact decFrom_digits n
theorem digits_inj {a b : Nat} (h : decDigits a = decDigits b) : a = b := by
  have := decFrom_digits a
  rw [h, decFrom_digits b] at this
  exact (Option.some.inj this).symm
theorem nDigits_le9 {n : Nat} (h : n ≤ 999999999) : nDigits n ≤ 9 := by
  have h10 : ∀ (k u : Nat), u < 10 ^ (k + 1) → nDigits u ≤ k + 1 := by
    intro k
    induction k with
    | zero => intro u hu; rw [nDigits_small (by simpa using hu)]; omega
    | succ k ih =>
      intro u hu
      by_cases h : u < 10
      · rw [nDigits_small h]; omega
      · rw [nDigits_big h]
        have := ih (u / 10) (by rw [Nat.div_lt_iff_lt_mul (by omega)]; rw [Nat.pow_succ] at hu; omega)
        omega
  exact h10 8 n (by omega)
theorem digits_len9 {n : Nat} (h : n ≤ 999999999) : (decDigits n).length ≤ 9 := by rw [decDigits_length]; exact nDigits_le9 h
theorem decDigits_small {n : Nat} (h : n < 10) : decDigits n = [UInt8.ofNat (48 + n)] := decDigits_one h
theorem nDig_le (n : Nat) (h : n ≤ 9223372036854775807 := by omega) : nDigits n ≤ 9223372036854775800 := by
  have h10 : ∀ (k u : Nat), u < 10 ^ (k + 1) → nDigits u ≤ k + 1 := by
    intro k
    induction k with
    | zero => intro u hu; rw [nDigits_small (by simpa using hu)]; omega
    | succ k ih =>
      intro u hu
      by_cases h : u < 10
      · rw [nDigits_small h]; omega
      · rw [nDigits_big h]
        have := ih (u / 10) (by rw [Nat.div_lt_iff_lt_mul (by omega)]; rw [Nat.pow_succ] at hu; omega)
        omega
  have := h10 19 n (by have : (10 : Nat) ^ 20 = 100000000000000000000 := by decide
                       omega)
  omega
/-- Whatever is written without noughts ahead is what its number writes. -/
theorem digits_of : ∀ (l : List UInt8) (n : Nat), decFrom 0 l = some n → l ≠ [] → (l[0]? = some 48 → l.length = 1) → decDigits n = l ∧ (l[0]? ≠ some 48 → 1 ≤ n) := fun l => by
  have key : ∀ (k : Nat) (l : List UInt8), l.length = k → ∀ (n : Nat), decFrom 0 l = some n → l ≠ [] → (l[0]? = some 48 → l.length = 1) → decDigits n = l ∧ (l[0]? ≠ some 48 → 1 ≤ n) := by
    intro k
    induction k with
    | zero => intro l hl n _ hne; exact absurd (List.length_eq_zero_iff.1 hl) hne
    | succ k ih =>
      intro l hl n h hne hz
      obtain ⟨l', b, rfl⟩ : ∃ l' b, l = l' ++ [b] := ⟨l.dropLast, l.getLast hne, (List.dropLast_concat_getLast hne).symm⟩
      have hl' : l'.length = k := by simpa using hl
      obtain ⟨d, hd⟩ := digit_of_decFrom _ _ _ h k b (by rw [← hl']; simp)
      obtain ⟨m, hm⟩ := decFrom_prefix _ _ _ h k
      rw [List.take_left' hl'] at hm
      have hn : n = m * 10 + d := by
        have := decFrom_app 0 l' m b d hm hd
        rw [h] at this
        exact Option.some.inj this
      obtain ⟨hd10, hb⟩ := of_digitVal hd
      by_cases he : l' = []
      · subst he
        simp only [decFrom, Option.some.injEq] at hm
        subst hm
        simp only [Nat.zero_mul, Nat.zero_add] at hn
        subst hn
        refine ⟨by rw [decDigits_one hd10, hb]; rfl, ?_⟩
        intro h0
        rcases Nat.eq_zero_or_pos n with rfl | hp
        · exact absurd (by simp [hb]) h0
        · exact hp
      · have h0 : (l' ++ [b])[0]? = l'[0]? := by
          rw [List.getElem?_append_left (List.length_pos_iff.2 he)]
        have hlen2 : (l' ++ [b]).length ≠ 1 := by
          have := List.length_pos_iff.2 he
          simp
          omega
        have hnz : l'[0]? ≠ some 48 := fun e => hlen2 (hz (h0.trans e))
        obtain ⟨e1, e2⟩ := ih l' hl' m hm he (fun e => absurd e hnz)
        have hm1 := e2 hnz
        refine ⟨?_, fun _ => by omega⟩
        have hbig : ¬ n < 10 := by omega
        rw [decDigits, dif_neg hbig]
        have e3 : n / 10 = m := by omega
        have e4 : n % 10 = d := by omega
        rw [e3, e4, e1, ← hb]
  exact key _ l rfl

/-- A number from 0 to `most`, written as it would be here. -/
def amt (most : Nat) (l : List UInt8) : Option Nat :=
  match decNat l with
  | some v => if v ≤ most ∧ decDigits v = l then some v else none
  | none => none
theorem amt_digits {most v : Nat} (h : v ≤ most) : amt most (decDigits v) = some v := by
  unfold amt
  rw [decNat_digits]
  simp [h]
theorem amt_some {most v : Nat} {l : List UInt8} (h : amt most l = some v) : v ≤ most ∧ l = decDigits v := by
  unfold amt at h
  split at h
  · split at h
    · rename_i hc
      cases h
      exact ⟨hc.1, hc.2.symm⟩
    · cases h
  · cases h
theorem amt_iff {most v : Nat} {l : List UInt8} : amt most l = some v ↔ v ≤ most ∧ l = decDigits v :=
  ⟨amt_some, fun ⟨h, e⟩ => by rw [e]; exact amt_digits h⟩
/-- strconv's answer at such a text. -/
theorem atoi_digits {v : Nat} (h : v ≤ 999999999) : atoiAll (decDigits v) = .ok (v : Int) := by
  have hl := digits_len9 h
  rw [atoiAll_short _ (by omega)]
  have ha : atoi (decDigits v) = some (v : Int) := by
    have hd := decNat_digits v
    have hne := digits_ne v
    cases hc : decDigits v with
    | nil => exact absurd hc hne
    | cons c r =>
      obtain ⟨d, hdv⟩ := digit_of_decFrom _ _ _ (decFrom_digits v) 0 c (by rw [hc]; rfl)
      obtain ⟨h1, h2, _⟩ := digitVal_eq hdv
      rw [hc] at hd
      unfold atoi
      have n43 : ¬ (c == 43) = true := fun e => by
        have := beq_iff_eq.1 e
        subst this
        simp at h1
      have n45 : ¬ (c == 45) = true := fun e => by
        have := beq_iff_eq.1 e
        subst this
        simp at h1
      simp only [hd, Option.map_some]
      rw [if_neg n45, if_neg n43]
  rw [ha]
  rfl
/-- What readNumber answers: whether the text is a number from `least` to `most` as it would be written here. -/
def isNumB (least most : Int) (l : List UInt8) : NumEnd Int → Bool
  | .ok v => decide (least ≤ v) && decide (v ≤ most) && decide (itoa v = l)
  | _ => false
theorem isNumB_yes {least most v : Nat} {l : List UInt8} (hm : most ≤ 999999999) (h : amt most l = some v) (hl : least ≤ v) : atoiAll l = .ok (v : Int) ∧ isNumB least most l (atoiAll l) = true := by
  obtain ⟨h1, rfl⟩ := amt_some h
  have := atoi_digits (v := v) (by omega)
  refine ⟨this, ?_⟩
  rw [this]
  have e : itoa (v : Int) = decDigits v := by
    unfold itoa
    rw [if_neg (by omega)]
    rfl
  simp only [isNumB, Bool.and_eq_true, decide_eq_true_eq]
  exact ⟨⟨by omega, by omega⟩, e⟩
theorem isNumB_of {least most : Nat} {l : List UInt8} (h : isNumB least most l (atoiAll l) = true) : ∃ v : Nat, atoiAll l = .ok (v : Int) ∧ amt most l = some v ∧ least ≤ v := by
  cases ha : atoiAll l with
  | «syntax» => rw [ha] at h; cases h
  | range => rw [ha] at h; cases h
  | ok v =>
    rw [ha] at h
    simp only [isNumB, Bool.and_eq_true, decide_eq_true_eq] at h
    obtain ⟨⟨h1, h2⟩, h3⟩ := h
    obtain ⟨n, rfl⟩ : ∃ n : Nat, v = n := ⟨v.toNat, by omega⟩
    have e : itoa (n : Int) = decDigits n := by
      unfold itoa
      rw [if_neg (by omega)]
      rfl
    refine ⟨n, rfl, amt_iff.2 ⟨by omega, by rw [← h3, e]⟩, by omega⟩
theorem isNumB_no {least most : Nat} {l : List UInt8} (h : ∀ v, amt most l = some v → v < least) : isNumB least most l (atoiAll l) = false := by
  cases hb : isNumB least most l (atoiAll l) with
  | false => rfl
  | true =>
    obtain ⟨v, _, h2, h3⟩ := isNumB_of hb
    have := h v h2
    omega
/-- The document's way: byte by byte. -/
def amtGo (most : Nat) : Nat → List UInt8 → Option Nat
  | acc, [] => some acc
  | acc, c :: r => if 48 ≤ c.toNat ∧ c.toNat ≤ 57 ∧ acc ≤ most then amtGo most (10 * acc + (c.toNat - 48)) r else none
theorem amtGo_decFrom (most : Nat) : ∀ (l : List UInt8) (acc v : Nat), amtGo most acc l = some v → decFrom acc l = some v
  | [], acc, v, h => h
  | c :: r, acc, v, h => by
    unfold amtGo at h
    split at h
    · rename_i hc
      have := amtGo_decFrom most r _ _ h
      unfold decFrom
      have hd : digitVal c = some (c.toNat - 48) := by unfold digitVal; rw [if_pos ⟨hc.1, hc.2.1⟩]
      rw [hd]
      simp only
      rw [Nat.mul_comm acc 10]
      exact this
    · cases h
theorem decFrom_mono : ∀ (l : List UInt8) (acc v : Nat), decFrom acc l = some v → acc ≤ v
  | [], acc, v, h => by simp only [decFrom, Option.some.injEq] at h; omega
  | c :: r, acc, v, h => by
    unfold decFrom at h
    split at h
    · rename_i d hd
      have := decFrom_mono r _ _ h
      omega
    · cases h
theorem amtGo_of (most : Nat) : ∀ (l : List UInt8) (acc v : Nat), decFrom acc l = some v → v ≤ most → amtGo most acc l = some v
  | [], acc, v, h, _ => h
  | c :: r, acc, v, h, hv => by
    have hm := decFrom_mono _ _ _ h
    unfold decFrom at h
    split at h
    · rename_i d hd
      obtain ⟨h1, h2, rfl⟩ := digitVal_eq hd
      unfold amtGo
      rw [if_pos ⟨h1, h2, by omega⟩, Nat.mul_comm 10 acc]
      exact amtGo_of most r _ _ h hv
    · cases h
/-- What the document's reading comes to, as an int. -/
def amtZ (most : Nat) (l : List UInt8) : Int := match amt most l with | some v => v | none => -1
theorem amtZ_some {most : Nat} {l : List UInt8} {v : Nat} (h : amt most l = some v) : amtZ most l = v := by unfold amtZ; rw [h]
theorem amtZ_none {most : Nat} {l : List UInt8} (h : amt most l = none) : amtZ most l = -1 := by unfold amtZ; rw [h]
theorem amtZ_lt {most : Nat} {l : List UInt8} : (amtZ most l < 0) ↔ amt most l = none := by
  cases h : amt most l with
  | some v => rw [amtZ_some h]; simp
  | none => rw [amtZ_none h]; simp
theorem amtGo_none {most : Nat} {l : List UInt8} (h : amtGo most 0 l = none) : amtZ most l = -1 := by
  refine amtZ_none ?_
  cases ha : amt most l with
  | none => rfl
  | some v =>
    obtain ⟨h1, rfl⟩ := amt_some ha
    rw [amtGo_of most _ 0 v (decFrom_digits v) h1] at h
    cases h
theorem amtGo_some {most n : Nat} {l : List UInt8} (h : amtGo most 0 l = some n) : amtZ most l = if l = [] ∨ most < n ∨ (l[0]? = some 48 ∧ 1 < l.length) then -1 else (n : Int) := by
  have hd := amtGo_decFrom most _ _ _ h
  split
  · rename_i hc
    refine amtZ_none ?_
    cases ha : amt most l with
    | none => rfl
    | some v =>
      obtain ⟨h1, rfl⟩ := amt_some ha
      rw [decFrom_digits v] at hd
      have hvn := Option.some.inj hd
      subst hvn
      rcases hc with hc | hc | ⟨hc, hc2⟩
      · exact absurd hc (digits_ne _)
      · omega
      · exfalso
        by_cases h10 : v < 10
        · rw [decDigits_one h10] at hc2
          simp at hc2
        · have hh : ∀ n : Nat, 1 ≤ n → (decDigits n)[0]? ≠ some 48 := by
            intro n
            induction n using Nat.strongRecOn with
            | ind n ih =>
              intro hn
              by_cases h : n < 10
              · rw [decDigits_one h]
                simp only [List.getElem?_cons_zero, ne_eq, Option.some.injEq]
                rcases (show n = 1 ∨ n = 2 ∨ n = 3 ∨ n = 4 ∨ n = 5 ∨ n = 6 ∨ n = 7 ∨ n = 8 ∨ n = 9 by omega) with h | h | h | h | h | h | h | h | h <;> subst h <;> decide
              · rw [decDigits, dif_neg h, List.getElem?_append_left (List.length_pos_iff.2 (digits_ne _))]
                exact ih (n / 10) (by omega) (by omega)
          exact hh v (by omega) hc
  · rename_i hc
    simp only [not_or, not_and] at hc
    obtain ⟨c1, c2, c3⟩ := hc
    have hlen := List.length_pos_iff.2 c1
    obtain ⟨e, _⟩ := digits_of l n hd c1 (fun e => by have := c3 e; omega)
    exact amtZ_some (amt_iff.2 ⟨by omega, e.symm⟩)

/-! ### cut at blanks -/
def pcs : List UInt8 → List (List UInt8)
  | [] => [[]]
  | c :: r => if c = 32 then [] :: pcs r else match pcs r with
    | h :: t => (c :: h) :: t
    | [] => [[c]]
theorem pcs_ne (l : List UInt8) : pcs l ≠ [] := by
  cases l with
  | nil => simp [pcs]
  | cons c r =>
    unfold pcs
    split
    · simp
    · split <;> simp
theorem pcs_app {a : List UInt8} (h : ∀ c ∈ a, c ≠ 32) (r : List UInt8) : pcs (a ++ 32 :: r) = a :: pcs r := by
  induction a with
  | nil => simp [pcs]
  | cons c a ih =>
    have hc := h c (by simp)
    rw [List.cons_append, pcs, if_neg hc, ih (fun x hx => h x (by simp [hx]))]
theorem pcs_one {a : List UInt8} (h : ∀ c ∈ a, c ≠ 32) : pcs a = [a] := by
  induction a with
  | nil => simp [pcs]
  | cons c a ih =>
    have hc := h c (by simp)
    rw [pcs, if_neg hc, ih (fun x hx => h x (by simp [hx]))]
/-- Every text is a first piece without blanks, and more behind a blank, if there is one. -/
theorem pcs_cases (l : List UInt8) : (∀ c ∈ l, c ≠ 32) ∨ ∃ a r, l = a ++ 32 :: r ∧ ∀ c ∈ a, c ≠ 32 := by
  induction l with
  | nil => exact .inl (by simp)
  | cons c l ih =>
    by_cases hc : c = 32
    · exact .inr ⟨[], l, by rw [hc]; rfl, by simp⟩
    · rcases ih with h | ⟨a, r, rfl, h⟩
      · exact .inl (by intro x hx; rcases List.mem_cons.1 hx with e | hx'; exact (e ▸ hc); exact h x hx')
      · exact .inr ⟨c :: a, r, rfl, by intro x hx; rcases List.mem_cons.1 hx with e | hx'; exact (e ▸ hc); exact h x hx'⟩
theorem index_miss {l : List UInt8} (h : ∀ c ∈ l, c ≠ 32) : index l [32] = -1 := by
  induction l with
  | nil => rfl
  | cons c l ih =>
    have hc := h c (by simp)
    have := ih (fun x hx => h x (by simp [hx]))
    unfold index
    rw [if_neg (by simp [List.isPrefixOf]; exact fun e => hc e.symm), if_pos (by rw [this]; rfl)]
theorem index_at {a r : List UInt8} (h : ∀ c ∈ a, c ≠ 32) : index (a ++ 32 :: r) [32] = a.length := by
  induction a with
  | nil => simp [index, List.isPrefixOf]
  | cons c a ih =>
    have hc := h c (by simp)
    have := ih (fun x hx => h x (by simp [hx]))
    rw [List.cons_append]
    unfold index
    rw [if_neg (by simp [List.isPrefixOf]; exact fun e => hc e.symm), this, if_neg (by simp)]
    simp
theorem split_pcs (l : List UInt8) : splitK [32] 0 (count l [32]) l = pcs l := by
  induction hk : l.length using Nat.strongRecOn generalizing l with
  | ind k ih =>
    rcases pcs_cases l with h | ⟨a, r, rfl, h⟩
    · rw [pcs_one h, count_miss (index_miss h)]
      rfl
    · have hi := index_at (r := r) h
      rw [count_hit (by simp) hi, pcs_app h]
      have hd : (a ++ 32 :: r).drop (a.length + [(32 : UInt8)].length) = r := by
        rw [List.drop_append]
        simp
      rw [hd, Nat.add_comm 1, splitK, if_neg (by rw [hi]; simp), hi]
      simp only [Int.toNat_natCast, Nat.add_zero]
      rw [hd, List.take_left' rfl, ih r.length (by rw [← hk]; simp; omega) r rfl]
theorem count_pcs (l : List UInt8) : count l [32] + 1 = (pcs l).length := by
  induction hk : l.length using Nat.strongRecOn generalizing l with
  | ind k ih =>
    rcases pcs_cases l with h | ⟨a, r, rfl, h⟩
    · rw [pcs_one h, count_miss (index_miss h)]
      rfl
    · have hi := index_at (r := r) h
      rw [count_hit (by simp) hi, pcs_app h]
      have hd : (a ++ 32 :: r).drop (a.length + [(32 : UInt8)].length) = r := by
        rw [List.drop_append]
        simp
      rw [hd, List.length_cons, ← ih r.length (by rw [← hk]; simp; omega) r rfl]
      omega

/-! ### what a key says -/
structure Hd where
  n : Nat
  b : Nat
  t : Nat
def Hd.no : Hd := ⟨0, 0, 0⟩
def MA : Nat := 999999999
def MT : Nat := 999
/-- The text that says it. -/
def Hd.txt (h : Hd) : List UInt8 := if h.b = 0 then decDigits h.n else decDigits h.n ++ 32 :: (decDigits h.b ++ 32 :: decDigits h.t)
def hd3 (x y z : List UInt8) : Hd :=
  match amt MA x, amt MT y, amt MA z with
  | some n, some b, some t => if 1 ≤ b then ⟨n, b, t⟩ else Hd.no
  | _, _, _ => Hd.no
def hdOf (l : List UInt8) : Hd :=
  match pcs l with
  | [x] => ⟨(amt MA x).getD 0, 0, 0⟩
  | [x, y, z] => hd3 x y z
  | _ => Hd.no
structure Hd.Ok (h : Hd) : Prop where
  n : h.n ≤ 999999999
  b : h.b ≤ 999
  t : h.t ≤ 999999999
  z : h.b = 0 → h.t = 0
theorem Hd.no_ok : Hd.no.Ok := ⟨by decide, by decide, by decide, fun _ => rfl⟩
theorem hdOf_ok (l : List UInt8) : (hdOf l).Ok := by
  unfold hdOf
  split
  · rename_i x _
    cases h : amt MA x with
    | none => exact Hd.no_ok
    | some v => exact ⟨(amt_some h).1, Nat.zero_le _, Nat.zero_le _, fun _ => rfl⟩
  · rename_i x y z _
    unfold hd3
    split
    · rename_i n b t h1 h2 h3
      split
      · exact ⟨(amt_some h1).1, (amt_some h2).1, (amt_some h3).1, fun e => by simp at e; omega⟩
      · exact Hd.no_ok
    · exact Hd.no_ok
  · exact Hd.no_ok
theorem digits_nb (n : Nat) : ∀ c ∈ decDigits n, c ≠ 32 := by
  intro c hc e
  obtain ⟨k, hk, hkc⟩ := List.getElem_of_mem hc
  obtain ⟨d, hd⟩ := digit_of_decFrom _ _ _ (decFrom_digits n) k c (by rw [List.getElem?_eq_getElem hk, hkc])
  rw [e] at hd
  cases hd
/-- What is written is read. -/
theorem hdOf_txt {h : Hd} (ho : h.Ok) : hdOf h.txt = h := by
  unfold Hd.txt
  split
  · rename_i hb
    unfold hdOf
    rw [pcs_one (digits_nb _)]
    simp only
    rw [amt_digits (show h.n ≤ MA from ho.n)]
    have := ho.z hb
    cases h
    simp_all
  · rename_i hb
    unfold hdOf
    rw [pcs_app (digits_nb _), pcs_app (digits_nb _), pcs_one (digits_nb _)]
    simp only
    unfold hd3
    rw [amt_digits (show h.n ≤ MA from ho.n), amt_digits (show h.b ≤ MT from ho.b), amt_digits (show h.t ≤ MA from ho.t)]
    simp only
    rw [if_pos (by omega)]
theorem hdOf_nil : hdOf [] = Hd.no := rfl
end Go.Proofs.YtgkacepcggjfkaaGreatDoor
