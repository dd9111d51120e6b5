/-
  Joined: WTxM, WTx0, WTx1, WCeM, WCe1.
-/
import Derived.Lib.AtoiTie
import Derived.Lib.AtoiAllCases
import Derived.Lib.SplitLaws
import Derived.Lib.ItoaNum
import Derived.Test.YtflnjlbafchnaaaGreatDoorWOld
import Derived.Test.YtflnjlbafchnaaaGreatDoorWShT
import Derived.Lib.CutLaws
import Derived.Handy
/-
  Transactions, plainly: numbers in decimal digits, texts cut at blanks, what a key says.
-/
namespace Go.Proofs.YtflnjlbafchnaaaGreatDoor
open Go.Lib

/-! ### digits -/
theorem decFrom_app (acc : Nat) : ∀ (l : List UInt8) (n : Nat) (b : UInt8) (d : Nat), decFrom acc l = some n → digitVal b = some d → decFrom acc (l ++ [b]) = some (n * 10 + d) := fun l n b d h hb => by
  have := decFrom_take (l ++ [b]) l.length acc n b d (by rw [List.take_left' rfl]; exact h) (by simp) hb
  rwa [List.take_of_length_le (by simp)] at this
theorem digitVal_of {d : Nat} (h : d < 10) : digitVal (UInt8.ofNat (48 + d)) = some d := by
  rcases (show d = 0 ∨ d = 1 ∨ d = 2 ∨ d = 3 ∨ d = 4 ∨ d = 5 ∨ d = 6 ∨ d = 7 ∨ d = 8 ∨ d = 9 by omega) with h | h | h | h | h | h | h | h | h | h <;> subst h <;> rfl
theorem of_digitVal {b : UInt8} {d : Nat} (h : digitVal b = some d) : d < 10 ∧ b = UInt8.ofNat (48 + d) := by
  obtain ⟨h1, h2, rfl⟩ := digitVal_eq h
  refine ⟨by omega, ?_⟩
  rw [show 48 + (b.toNat - 48) = b.toNat by omega]
  exact (UInt8.ofNat_toNat (x := b)).symm
theorem decFrom_digits : ∀ (n : Nat), decFrom 0 (decDigits n) = some n := fun n => by
  induction n using Nat.strongRecOn with
  | ind n ih =>
    by_cases h : n < 10
    · rw [decDigits_one h]
      have := digitVal_of h
      simp only [decFrom, this]
      simp
    · rw [decDigits, dif_neg h, decFrom_app 0 _ _ _ _ (ih (n / 10) (by omega)) (digitVal_of (Nat.mod_lt n (by omega)))]
      congr 1
      omega
theorem digits_ne (n : Nat) : decDigits n ≠ [] := by
  intro h
  have := decDigits_length n
  rw [h] at this
  have := nDigits_pos n
  simp at *
  omega
theorem decNat_digits (n : Nat) : decNat (decDigits n) = some n := by
  unfold decNat
  rw [if_neg (by simpa using digits_ne n)]
  exact decFrom_digits n
theorem digits_inj {a b : Nat} (h : decDigits a = decDigits b) : a = b := by
  have := decFrom_digits a
  rw [h, decFrom_digits b] at this
  exact (Option.some.inj this).symm
theorem nDigits_le9 {n : Nat} (h : n ≤ 999999999) : nDigits n ≤ 9 := by
  have h10 : ∀ (k u : Nat), u < 10 ^ (k + 1) → nDigits u ≤ k + 1 := by
    intro k
    induction k with
    | zero => intro u hu; rw [nDigits_small (by simpa using hu)]; omega
    | succ k ih =>
      intro u hu
      by_cases h : u < 10
      · rw [nDigits_small h]; omega
      · rw [nDigits_big h]
        have := ih (u / 10) (by rw [Nat.div_lt_iff_lt_mul (by omega)]; rw [Nat.pow_succ] at hu; omega)
        omega
  exact h10 8 n (by omega)
theorem digits_len9 {n : Nat} (h : n ≤ 999999999) : (decDigits n).length ≤ 9 := by rw [decDigits_length]; exact nDigits_le9 h
theorem decDigits_small {n : Nat} (h : n < 10) : decDigits n = [UInt8.ofNat (48 + n)] := decDigits_one h
theorem nDig_le (n : Nat) (h : n ≤ 9223372036854775807 := by omega) : nDigits n ≤ 9223372036854775800 := by
  have h10 : ∀ (k u : Nat), u < 10 ^ (k + 1) → nDigits u ≤ k + 1 := by
    intro k
    induction k with
    | zero => intro u hu; rw [nDigits_small (by simpa using hu)]; omega
    | succ k ih =>
      intro u hu
      by_cases h : u < 10
      · rw [nDigits_small h]; omega
      · rw [nDigits_big h]
        have := ih (u / 10) (by rw [Nat.div_lt_iff_lt_mul (by omega)]; rw [Nat.pow_succ] at hu; omega)
        omega
  have := h10 19 n (by have : (10 : Nat) ^ 20 = 100000000000000000000 := by decide
                       omega)
  omega
/-- Whatever is written without noughts ahead is what its number writes. -/
theorem digits_of : ∀ (l : List UInt8) (n : Nat), decFrom 0 l = some n → l ≠ [] → (l[0]? = some 48 → l.length = 1) → decDigits n = l ∧ (l[0]? ≠ some 48 → 1 ≤ n) := fun l => by
  have key : ∀ (k : Nat) (l : List UInt8), l.length = k → ∀ (n : Nat), decFrom 0 l = some n → l ≠ [] → (l[0]? = some 48 → l.length = 1) → decDigits n = l ∧ (l[0]? ≠ some 48 → 1 ≤ n) := by
    intro k
    induction k with
    | zero => intro l hl n _ hne; exact absurd (List.length_eq_zero_iff.1 hl) hne
    | succ k ih =>
      intro l hl n h hne hz
      obtain ⟨l', b, rfl⟩ : ∃ l' b, l = l' ++ [b] := ⟨l.dropLast, l.getLast hne, (List.dropLast_concat_getLast hne).symm⟩
      have hl' : l'.length = k := by simpa using hl
      obtain ⟨d, hd⟩ := digit_of_decFrom _ _ _ h k b (by rw [← hl']; simp)
      obtain ⟨m, hm⟩ := decFrom_prefix _ _ _ h k
      rw [List.take_left' hl'] at hm
      have hn : n = m * 10 + d := by
        have := decFrom_app 0 l' m b d hm hd
        rw [h] at this
        exact Option.some.inj this
      obtain ⟨hd10, hb⟩ := of_digitVal hd
      by_cases he : l' = []
      · subst he
        simp only [decFrom, Option.some.injEq] at hm
        subst hm
        simp only [Nat.zero_mul, Nat.zero_add] at hn
        subst hn
        refine ⟨by rw [decDigits_one hd10, hb]; rfl, ?_⟩
        intro h0
        rcases Nat.eq_zero_or_pos n with rfl | hp
        · exact absurd (by simp [hb]) h0
        · exact hp
      · have h0 : (l' ++ [b])[0]? = l'[0]? := by
          rw [List.getElem?_append_left (List.length_pos_iff.2 he)]
        have hlen2 : (l' ++ [b]).length ≠ 1 := by
          have := List.length_pos_iff.2 he
          simp
          omega
        have hnz : l'[0]? ≠ some 48 := fun e => hlen2 (hz (h0.trans e))
        obtain ⟨e1, e2⟩ := ih l' hl' m hm he (fun e => absurd e hnz)
        have hm1 := e2 hnz
        refine ⟨?_, fun _ => by omega⟩
        have hbig : ¬ n < 10 := by omega
        rw [decDigits, dif_neg hbig]
        have e3 : n / 10 = m := by omega
        have e4 : n % 10 = d := by omega
        rw [e3, e4, e1, ← hb]
  exact key _ l rfl

/-- A number from 0 to `most`, written as it would be here. -/
def amt (most : Nat) (l : List UInt8) : Option Nat :=
  match decNat l with
  | some v => if v ≤ most ∧ decDigits v = l then some v else none
  | none => none
theorem amt_digits {most v : Nat} (h : v ≤ most) : amt most (decDigits v) = some v := by
  unfold amt
  rw [decNat_digits]
  simp [h]
theorem amt_some {most v : Nat} {l : List UInt8} (h : amt most l = some v) : v ≤ most ∧ l = decDigits v := by
  unfold amt at h
  split at h
  · split at h
    · rename_i hc
      cases h
      exact ⟨hc.1, hc.2.symm⟩
    · cases h
  · cases h
theorem amt_iff {most v : Nat} {l : List UInt8} : amt most l = some v ↔ v ≤ most ∧ l = decDigits v :=
  ⟨amt_some, fun ⟨h, e⟩ => by rw [e]; exact amt_digits h⟩
/-- strconv's answer at such a text. -/
theorem atoi_digits {v : Nat} (h : v ≤ 999999999) : atoiAll (decDigits v) = .ok (v : Int) := by
  have hl := digits_len9 h
  rw [atoiAll_short _ (by omega)]
  have ha : atoi (decDigits v) = some (v : Int) := by
    have hd := decNat_digits v
    have hne := digits_ne v
    cases hc : decDigits v with
    | nil => exact absurd hc hne
    | cons c r =>
      obtain ⟨d, hdv⟩ := digit_of_decFrom _ _ _ (decFrom_digits v) 0 c (by rw [hc]; rfl)
      obtain ⟨h1, h2, _⟩ := digitVal_eq hdv
      rw [hc] at hd
      unfold atoi
      have n43 : ¬ (c == 43) = true := fun e => by
        have := beq_iff_eq.1 e
        subst this
        simp at h1
      have n45 : ¬ (c == 45) = true := fun e => by
        have := beq_iff_eq.1 e
        subst this
        simp at h1
      simp only [hd, Option.map_some]
      rw [if_neg n45, if_neg n43]
  rw [ha]
  rfl
/-- What readNumber answers: whether the text is a number from `least` to `most` as it would be written here. -/
def isNumB (least most : Int) (l : List UInt8) : NumEnd Int → Bool
  | .ok v => decide (least ≤ v) && decide (v ≤ most) && decide (itoa v = l)
  | _ => false
theorem isNumB_yes {least most v : Nat} {l : List UInt8} (hm : most ≤ 999999999) (h : amt most l = some v) (hl : least ≤ v) : atoiAll l = .ok (v : Int) ∧ isNumB least most l (atoiAll l) = true := by
  obtain ⟨h1, rfl⟩ := amt_some h
  have := atoi_digits (v := v) (by omega)
  refine ⟨this, ?_⟩
  rw [this]
  have e : itoa (v : Int) = decDigits v := by
    unfold itoa
    rw [if_neg (by omega)]
    rfl
  simp only [isNumB, Bool.and_eq_true, decide_eq_true_eq]
  exact ⟨⟨by omega, by omega⟩, e⟩
theorem isNumB_of {least most : Nat} {l : List UInt8} (h : isNumB least most l (atoiAll l) = true) : ∃ v : Nat, atoiAll l = .ok (v : Int) ∧ amt most l = some v ∧ least ≤ v := by
  cases ha : atoiAll l with
  | «syntax» => rw [ha] at h; cases h
  | range => rw [ha] at h; cases h
  | ok v =>
    rw [ha] at h
    simp only [isNumB, Bool.and_eq_true, decide_eq_true_eq] at h
    obtain ⟨⟨h1, h2⟩, h3⟩ := h
    obtain ⟨n, rfl⟩ : ∃ n : Nat, v = n := ⟨v.toNat, by omega⟩
    have e : itoa (n : Int) = decDigits n := by
      unfold itoa
      rw [if_neg (by omega)]
      rfl
    refine ⟨n, rfl, amt_iff.2 ⟨by omega, by rw [← h3, e]⟩, by omega⟩
theorem isNumB_no {least most : Nat} {l : List UInt8} (h : ∀ v, amt most l = some v → v < least) : isNumB least most l (atoiAll l) = false := by
  cases hb : isNumB least most l (atoiAll l) with
  | false => rfl
  | true =>
    obtain ⟨v, _, h2, h3⟩ := isNumB_of hb
    have := h v h2
    omega
/-- The document's way: byte by byte. -/
def amtGo (most : Nat) : Nat → List UInt8 → Option Nat
  | acc, [] => some acc
  | acc, c :: r => if 48 ≤ c.toNat ∧ c.toNat ≤ 57 ∧ acc ≤ most then amtGo most (10 * acc + (c.toNat - 48)) r else none
theorem amtGo_decFrom (most : Nat) : ∀ (l : List UInt8) (acc v : Nat), amtGo most acc l = some v → decFrom acc l = some v
  | [], acc, v, h => h
  | c :: r, acc, v, h => by
    unfold amtGo at h
    split at h
    · rename_i hc
      have := amtGo_decFrom most r _ _ h
      unfold decFrom
      have hd : digitVal c = some (c.toNat - 48) := by unfold digitVal; rw [if_pos ⟨hc.1, hc.2.1⟩]
      rw [hd]
      simp only
      rw [Nat.mul_comm acc 10]
      exact this
    · cases h
theorem decFrom_mono : ∀ (l : List UInt8) (acc v : Nat), decFrom acc l = some v → acc ≤ v
  | [], acc, v, h => by simp only [decFrom, Option.some.injEq] at h; omega
  | c :: r, acc, v, h => by
    unfold decFrom at h
    split at h
    · rename_i d hd
      have := decFrom_mono r _ _ h
      omega
    · cases h
theorem amtGo_of (most : Nat) : ∀ (l : List UInt8) (acc v : Nat), decFrom acc l = some v → v ≤ most → amtGo most acc l = some v
  | [], acc, v, h, _ => h
  | c :: r, acc, v, h, hv => by
    have hm := decFrom_mono _ _ _ h
    unfold decFrom at h
    split at h
    · rename_i d hd
      obtain ⟨h1, h2, rfl⟩ := digitVal_eq hd
      unfold amtGo
      rw [if_pos ⟨h1, h2, by omega⟩, Nat.mul_comm 10 acc]
      exact amtGo_of most r _ _ h hv
    · cases h
/-- What the document's reading comes to, as an int. -/
def amtZ (most : Nat) (l : List UInt8) : Int := match amt most l with | some v => v | none => -1
theorem amtZ_some {most : Nat} {l : List UInt8} {v : Nat} (h : amt most l = some v) : amtZ most l = v := by unfold amtZ; rw [h]
theorem amtZ_none {most : Nat} {l : List UInt8} (h : amt most l = none) : amtZ most l = -1 := by unfold amtZ; rw [h]
theorem amtZ_lt {most : Nat} {l : List UInt8} : (amtZ most l < 0) ↔ amt most l = none := by
  cases h : amt most l with
  | some v => rw [amtZ_some h]; simp
  | none => rw [amtZ_none h]; simp
theorem amtGo_none {most : Nat} {l : List UInt8} (h : amtGo most 0 l = none) : amtZ most l = -1 := by
  refine amtZ_none ?_
  cases ha : amt most l with
  | none => rfl
  | some v =>
    obtain ⟨h1, rfl⟩ := amt_some ha
    rw [amtGo_of most _ 0 v (decFrom_digits v) h1] at h
    cases h
theorem amtGo_some {most n : Nat} {l : List UInt8} (h : amtGo most 0 l = some n) : amtZ most l = if l = [] ∨ most < n ∨ (l[0]? = some 48 ∧ 1 < l.length) then -1 else (n : Int) := by
  have hd := amtGo_decFrom most _ _ _ h
  split
  · rename_i hc
    refine amtZ_none ?_
    cases ha : amt most l with
    | none => rfl
    | some v =>
      obtain ⟨h1, rfl⟩ := amt_some ha
      rw [decFrom_digits v] at hd
      have hvn := Option.some.inj hd
      subst hvn
      rcases hc with hc | hc | ⟨hc, hc2⟩
      · exact absurd hc (digits_ne _)
      · omega
      · exfalso
        by_cases h10 : v < 10
        · rw [decDigits_one h10] at hc2
          simp at hc2
        · have hh : ∀ n : Nat, 1 ≤ n → (decDigits n)[0]? ≠ some 48 := by
            intro n
            induction n using Nat.strongRecOn with
            | ind n ih =>
              intro hn
              by_cases h : n < 10
              · rw [decDigits_one h]
                simp only [List.getElem?_cons_zero, ne_eq, Option.some.injEq]
                rcases (show n = 1 ∨ n = 2 ∨ n = 3 ∨ n = 4 ∨ n = 5 ∨ n = 6 ∨ n = 7 ∨ n = 8 ∨ n = 9 by omega) with h | h | h | h | h | h | h | h | h <;> subst h <;> decide
              · rw [decDigits, dif_neg h, List.getElem?_append_left (List.length_pos_iff.2 (digits_ne _))]
                exact ih (n / 10) (by omega) (by omega)
          exact hh v (by omega) hc
  · rename_i hc
    simp only [not_or, not_and] at hc
    obtain ⟨c1, c2, c3⟩ := hc
    have hlen := List.length_pos_iff.2 c1
    obtain ⟨e, _⟩ := digits_of l n hd c1 (fun e => by have := c3 e; omega)
    exact amtZ_some (amt_iff.2 ⟨by omega, e.symm⟩)

/-! ### cut at blanks -/
def pcs : List UInt8 → List (List UInt8)
  | [] => [[]]
  | c :: r => if c = 32 then [] :: pcs r else match pcs r with
    | h :: t => (c :: h) :: t
    | [] => [[c]]
theorem pcs_ne (l : List UInt8) : pcs l ≠ [] := by
  cases l with
  | nil => simp [pcs]
  | cons c r =>
    unfold pcs
    split
    · simp
    · split <;> simp
theorem pcs_app {a : List UInt8} (h : ∀ c ∈ a, c ≠ 32) (r : List UInt8) : pcs (a ++ 32 :: r) = a :: pcs r := by
  induction a with
  | nil => simp [pcs]
  | cons c a ih =>
    have hc := h c (by simp)
    rw [List.cons_append, pcs, if_neg hc, ih (fun x hx => h x (by simp [hx]))]
theorem pcs_one {a : List UInt8} (h : ∀ c ∈ a, c ≠ 32) : pcs a = [a] := by
  induction a with
  | nil => simp [pcs]
  | cons c a ih =>
    have hc := h c (by simp)
    rw [pcs, if_neg hc, ih (fun x hx => h x (by simp [hx]))]
/-- Every text is a first piece without blanks, and more behind a blank, if there is one. -/
theorem pcs_cases (l : List UInt8) : (∀ c ∈ l, c ≠ 32) ∨ ∃ a r, l = a ++ 32 :: r ∧ ∀ c ∈ a, c ≠ 32 := by
  induction l with
  | nil => exact .inl (by simp)
  | cons c l ih =>
    by_cases hc : c = 32
    · exact .inr ⟨[], l, by rw [hc]; rfl, by simp⟩
    · rcases ih with h | ⟨a, r, rfl, h⟩
      · exact .inl (by intro x hx; rcases List.mem_cons.1 hx with e | hx'; exact (e ▸ hc); exact h x hx')
      · exact .inr ⟨c :: a, r, rfl, by intro x hx; rcases List.mem_cons.1 hx with e | hx'; exact (e ▸ hc); exact h x hx'⟩
theorem index_miss {l : List UInt8} (h : ∀ c ∈ l, c ≠ 32) : index l [32] = -1 := by
  induction l with
  | nil => rfl
  | cons c l ih =>
    have hc := h c (by simp)
    have := ih (fun x hx => h x (by simp [hx]))
    unfold index
    rw [if_neg (by simp [List.isPrefixOf]; exact fun e => hc e.symm), if_pos (by rw [this]; rfl)]
theorem index_at {a r : List UInt8} (h : ∀ c ∈ a, c ≠ 32) : index (a ++ 32 :: r) [32] = a.length := by
  induction a with
  | nil => simp [index, List.isPrefixOf]
  | cons c a ih =>
    have hc := h c (by simp)
    have := ih (fun x hx => h x (by simp [hx]))
    rw [List.cons_append]
    unfold index
    rw [if_neg (by simp [List.isPrefixOf]; exact fun e => hc e.symm), this, if_neg (by simp)]
    simp
theorem split_pcs (l : List UInt8) : splitK [32] 0 (count l [32]) l = pcs l := by
  induction hk : l.length using Nat.strongRecOn generalizing l with
  | ind k ih =>
    rcases pcs_cases l with h | ⟨a, r, rfl, h⟩
    · rw [pcs_one h, count_miss (index_miss h)]
      rfl
    · have hi := index_at (r := r) h
      rw [count_hit (by simp) hi, pcs_app h]
      have hd : (a ++ 32 :: r).drop (a.length + [(32 : UInt8)].length) = r := by
        rw [List.drop_append]
        simp
      rw [hd, Nat.add_comm 1, splitK, if_neg (by rw [hi]; simp), hi]
      simp only [Int.toNat_natCast, Nat.add_zero]
      rw [hd, List.take_left' rfl, ih r.length (by rw [← hk]; simp; omega) r rfl]
theorem count_pcs (l : List UInt8) : count l [32] + 1 = (pcs l).length := by
  induction hk : l.length using Nat.strongRecOn generalizing l with
  | ind k ih =>
    rcases pcs_cases l with h | ⟨a, r, rfl, h⟩
    · rw [pcs_one h, count_miss (index_miss h)]
      rfl
    · have hi := index_at (r := r) h
      rw [count_hit (by simp) hi, pcs_app h]
      have hd : (a ++ 32 :: r).drop (a.length + [(32 : UInt8)].length) = r := by
        rw [List.drop_append]
        simp
      rw [hd, List.length_cons, ← ih r.length (by rw [← hk]; simp; omega) r rfl]
      omega

/-! ### what a key says -/
structure Hd where
  n : Nat
  b : Nat
  t : Nat
def Hd.no : Hd := ⟨0, 0, 0⟩
def MA : Nat := 999999999
def MT : Nat := 999
/-- The text that says it. -/
def Hd.txt (h : Hd) : List UInt8 := if h.b = 0 then decDigits h.n else decDigits h.n ++ 32 :: (decDigits h.b ++ 32 :: decDigits h.t)
def hd3 (x y z : List UInt8) : Hd :=
  match amt MA x, amt MT y, amt MA z with
  | some n, some b, some t => if 1 ≤ b then ⟨n, b, t⟩ else Hd.no
  | _, _, _ => Hd.no
def hdOf (l : List UInt8) : Hd :=
  match pcs l with
  | [x] => ⟨(amt MA x).getD 0, 0, 0⟩
  | [x, y, z] => hd3 x y z
  | _ => Hd.no
structure Hd.Ok (h : Hd) : Prop where
  n : h.n ≤ 999999999
  b : h.b ≤ 999
  t : h.t ≤ 999999999
  z : h.b = 0 → h.t = 0
theorem Hd.no_ok : Hd.no.Ok := ⟨by decide, by decide, by decide, fun _ => rfl⟩
theorem hdOf_ok (l : List UInt8) : (hdOf l).Ok := by
  unfold hdOf
  split
  · rename_i x _
    cases h : amt MA x with
    | none => exact Hd.no_ok
    | some v => exact ⟨(amt_some h).1, Nat.zero_le _, Nat.zero_le _, fun _ => rfl⟩
  · rename_i x y z _
    unfold hd3
    split
    · rename_i n b t h1 h2 h3
      split
      · exact ⟨(amt_some h1).1, (amt_some h2).1, (amt_some h3).1, fun e => by simp at e; omega⟩
      · exact Hd.no_ok
    · exact Hd.no_ok
  · exact Hd.no_ok
theorem digits_nb (n : Nat) : ∀ c ∈ decDigits n, c ≠ 32 := by
  intro c hc e
  obtain ⟨k, hk, hkc⟩ := List.getElem_of_mem hc
  obtain ⟨d, hd⟩ := digit_of_decFrom _ _ _ (decFrom_digits n) k c (by rw [List.getElem?_eq_getElem hk, hkc])
  rw [e] at hd
  cases hd
/-- What is written is read. -/
theorem hdOf_txt {h : Hd} (ho : h.Ok) : hdOf h.txt = h := by
  unfold Hd.txt
  split
  · rename_i hb
    unfold hdOf
    rw [pcs_one (digits_nb _)]
    simp only
    rw [amt_digits (show h.n ≤ MA from ho.n)]
    have := ho.z hb
    cases h
    simp_all
  · rename_i hb
    unfold hdOf
    rw [pcs_app (digits_nb _), pcs_app (digits_nb _), pcs_one (digits_nb _)]
    simp only
    unfold hd3
    rw [amt_digits (show h.n ≤ MA from ho.n), amt_digits (show h.b ≤ MT from ho.b), amt_digits (show h.t ≤ MA from ho.t)]
    simp only
    rw [if_pos (by omega)]
theorem hdOf_nil : hdOf [] = Hd.no := rfl
end Go.Proofs.YtflnjlbafchnaaaGreatDoor

/-
  Transactions: what the library's package-level variables hold; strconv's and strings' answers over lists of bytes.
-/
namespace Go.Proofs.YtflnjlbafchnaaaGreatDoor
open Go.RowKit Go.Sort

/-- What a world holds in the library's variables. -/
structure LD (w : World) : Prop where
  m : ∃ m, w.cell? ⟨0, 0, none⟩ = some (.int .i64 m)
  s : ∃ tp p, w.var? Tryz.prog "strconv.ErrSyntax" = some #[.iface tp p]
  r : ∃ tp p, w.var? Tryz.prog "strconv.ErrRange" = some #[.iface tp p]
  t : Lib.TabIs Tryz.prog w "internal/strconv.uint64pow10" .u64 Lib.pow10Tab
theorem var_kept {X : Nat → Obj → Prop} {w w' : World} {n : String} {g : Nat} {cs : Array Value} (hg : Tryz.prog.globalNamed n = some g) (hX : ∀ o, ¬ X g o) (k : Kept X w w') (h : w.var? Tryz.prog n = some cs) : w'.var? Tryz.prog n = some cs := by
  unfold World.var? at h ⊢
  rw [hg] at h ⊢
  simp only [Option.bind_some] at h ⊢
  cases hb : w.heap[g]? with
  | none => rw [hb] at h; cases h
  | some o => rw [k.block _ _ hb (hX o), ← hb]; exact h
theorem LD.keptX {X : Nat → Obj → Prop} {w w' : World} (h : LD w) (k : Kept X w w') (hX : ∀ q o, q < 20 → ¬ X q o) : LD w' := by
  refine ⟨?_, ?_, ?_, ?_⟩
  · obtain ⟨m, hm⟩ := h.m
    refine ⟨m, ?_⟩
    have hlt : 0 < w.heap.size := World.block_lt_of_cell? w _ hm
    rw [World.cell?_of_block (w := w) (by rw [k.block 0 _ (Array.getElem?_eq_getElem hlt) (hX 0 _ (by omega)), Array.getElem?_eq_getElem hlt])]
    exact hm
  · obtain ⟨tp, p, hv⟩ := h.s
    exact ⟨tp, p, var_kept (show Tryz.prog.globalNamed "strconv.ErrSyntax" = some 3 by kernel_rfl) (fun o => hX 3 o (by decide)) k hv⟩
  · obtain ⟨tp, p, hv⟩ := h.r
    exact ⟨tp, p, var_kept (show Tryz.prog.globalNamed "strconv.ErrRange" = some 4 by kernel_rfl) (fun o => hX 4 o (by decide)) k hv⟩
  · exact var_kept (show Tryz.prog.globalNamed "internal/strconv.uint64pow10" = some 2 by kernel_rfl) (fun o => hX 2 o (by decide)) k h.t
theorem LD.kept {w w' : World} (h : LD w) (k : Kept Nil w w') : LD w' := h.keptX k (fun _ _ _ x => x.elim)

theorem kept_grow (w : World) (k : Nat) (os : Array Obj) : Kept Nil w (grow (w.drewN k) os) := by
  refine ⟨rfl, by simp [grow], rfl, by simp [grow], fun q o hq _ => ?_⟩
  have hlt : q < w.heap.size := by
    rcases Nat.lt_or_ge q w.heap.size with h | h
    · exact h
    · rw [Array.getElem?_eq_none h] at hq; cases hq
  show ((w.drewN k).heap ++ os)[q]? = some o
  have : (w.drewN k).heap = w.heap := by simp
  rw [this, Array.getElem?_append_left hlt]
  exact hq
/-- strconv.Itoa. -/
theorem itoa_any (n : Int) (h0 : -9223372036854775808 ≤ n) (h1 : n ≤ 9223372036854775807) (w : World) (hL : LD w) :
    Calls Tryz.prog 105 #[.int .i64 n] w fun e w' => e = .returned (.string (bs (Lib.itoa n))) ∧ Kept Nil w w' :=
  (Tryz.strconv_Itoa n h0 h1 w hL.t).mono (by
    rintro e w' ⟨rfl, k, os, rfl⟩
    exact ⟨rfl, kept_grow w k os⟩)
theorem itoa_nat (n : Nat) : Lib.itoa (n : Int) = Lib.decDigits n := by
  unfold Lib.itoa
  rw [if_neg (by omega)]
  rfl
/-- strconv.Atoi. -/
theorem atoi_any (l : List UInt8) (hl : l.length ≤ 281474976710656) (w : World) (hL : LD w) :
    Calls Tryz.prog 155 #[.string (bs l)] w fun e w' => ∃ v x, e = .returned (.tuple #[.int .i64 v, x]) ∧ Kept Nil w w' ∧ -9223372036854775808 ≤ v ∧ v ≤ 9223372036854775807 ∧ ((x = .nilIface ∧ Lib.atoiAll l = .ok v) ∨ ((∃ t a, x = .iface t (.pointer (some a))) ∧ ∀ u, Lib.atoiAll l ≠ .ok u)) := by
  have hsz : (bs l).size = l.length := bs_size l
  have hd : (bs l).data.toList = l := bs_data l
  cases ha : Lib.atoiAll l with
  | ok v =>
    have hb := Lib.atoiAll_bounds ha
    refine (Tryz.strconv_Atoi_ok (bs l) (by omega) v (by rw [hd]; exact ha) w).mono ?_
    rintro e w' ⟨rfl, hw⟩
    refine ⟨v, _, rfl, ?_, hb.1, hb.2, .inl ⟨rfl, rfl⟩⟩
    rcases hw with rfl | ⟨t, rfl⟩
    · exact Kept.refl _ _
    · exact Kept.ofBelow (Lib.bytesWorld_below _ _ _) _
  | «syntax» =>
    obtain ⟨tp, p, hv⟩ := hL.s
    refine (Tryz.strconv_Atoi_syntax_var (bs l) (by omega) (by rw [hd]; exact ha) tp p w hv).mono ?_
    rintro e w' ⟨N, rfl, _, _, hb⟩
    exact ⟨0, _, rfl, Kept.ofBelow hb _, by decide, by decide, .inr ⟨⟨_, _, rfl⟩, fun u h => by cases h⟩⟩
  | range =>
    obtain ⟨tp, p, hv⟩ := hL.r
    refine (Tryz.strconv_Atoi_range_var (bs l) (by omega) (by rw [hd]; exact ha) tp p w hv).mono ?_
    rintro e w' ⟨N, rfl, _, _, hb⟩
    have hs := Lib.atoiSat_bounds (bs l).data.toList
    exact ⟨_, _, rfl, Kept.ofBelow hb _, hs.1, hs.2, .inr ⟨⟨_, _, rfl⟩, fun u h => by cases h⟩⟩
/-- strings.Split at a blank. -/
theorem split_any (l : List UInt8) (hl : l.length < 4294967281) (w : World) (hL : LD w) :
    Calls Tryz.prog 120 #[.string (bs l), .string ⟨#[32]⟩] w fun e w' => e = .returned (.slice (some ⟨w.heap.size, 0, none⟩) (pcs l).length (pcs l).length) ∧ w' = w.alloc (.cells ((pcs l).map fun x => Value.string (bs x)).toArray 9) := by
  obtain ⟨m, hm⟩ := hL.m
  have hsz : (bs l).size = l.length := bs_size l
  have hd : (bs l).data.toList = l := bs_data l
  refine (Tryz.strings_Split (bs l) ⟨#[32]⟩ m w (by omega) hm (by decide)).mono ?_
  rintro e w' ⟨rfl, rfl⟩
  have hc : Lib.countB (bs l) ⟨#[32]⟩ = Lib.count l [32] := by
    unfold Lib.countB
    rw [hd]
  have hp : (Lib.splitB ⟨#[32]⟩ 0 (Lib.count l [32]) (bs l)).map Value.string = (pcs l).map fun x => Value.string (bs x) := by
    have := Lib.splitB_data ⟨#[32]⟩ 0 (Lib.count l [32]) (bs l)
    rw [hd] at this
    have h2 : (Lib.splitB ⟨#[32]⟩ 0 (Lib.count l [32]) (bs l)).map (fun s => s.data.toList) = pcs l := this.trans (split_pcs l)
    rw [← h2, List.map_map]
    refine List.map_congr_left fun s _ => ?_
    show Value.string s = Value.string (bs s.data.toList)
    rw [bs_self]
  rw [hc, count_pcs, hp]
  exact ⟨rfl, rfl⟩
end Go.Proofs.YtflnjlbafchnaaaGreatDoor

/-
  Transactions: bound.Decimal, read (the program).
-/
namespace Go.Proofs.YtflnjlbafchnaaaGreatDoor
open Go.RowKit

def RnPost (w : World) (l : List UInt8) (b : Bool) (e : Ending) (w' : World) : Prop := ∃ v : Int, e = .returned (.tuple #[.int .i64 v, .bool b]) ∧ (Lib.atoiAll l = .ok v ∨ b = false) ∧ Kept Nil w w'
set_option maxRecDepth 100000 in
set_option maxHeartbeats 1000000 in
theorem readNumber_any (l : List UInt8) (least most : Int) (hl : l.length ≤ 281474976710656) (w : World) (hL : LD w) :
    Calls Tryz.prog 121 #[.string (bs l), .int .i64 least, .int .i64 most] w (RnPost w l (isNumB least most l (Lib.atoiAll l))) := by
  obtain ⟨b, HB⟩ : ∃ b : Bool, Hid (b = isNumB least most l (Lib.atoiAll l)) := ⟨_, rfl⟩
  rw [← HB.out]
  have HL : Hid (LD w) := hL
  have AT := atoi_any l hl w hL
  clear hL
  go_enter Tryz.func121, Tryz.ntmps121
  go_wp2_with fail
  go_fit AT
  clear AT
  rintro _ w1 ⟨v, x, rfl, k1, hv0, hv1, hx⟩
  have K1 : Hid (Kept Nil w w1) := k1
  have HL1 : Hid (LD w1) := HL.out.kept k1
  clear k1
  rcases hx with ⟨rfl, ha⟩ | ⟨⟨t, a, rfl⟩, ha⟩
  · have HA : Hid (Lib.atoiAll l = .ok v) := ha
    clear ha
    by_cases c1 : v < least
    · have HE : Hid (false = b) := by
        show _ = _
        rw [HB.out, HA.out]
        have : ¬ least ≤ v := by omega
        simp [isNumB, this]
      obtain rfl : b = false := HE.out.symm
      go_wp2
      go_ret2
      exact ⟨0, rfl, .inr rfl, K1.out⟩
    · by_cases c2 : most < v
      · have HE : Hid (false = b) := by
          show _ = _
          rw [HB.out, HA.out]
          have : ¬ v ≤ most := by omega
          simp [isNumB, this]
        obtain rfl : b = false := HE.out.symm
        go_wp2
        go_ret2
        exact ⟨0, rfl, .inr rfl, K1.out⟩
      · have IT := itoa_any v hv0 hv1 w1 HL1.out
        go_wp2_with fail
        go_fit IT
        rintro _ w2 ⟨rfl, k2⟩
        have HE : Hid (((bs (Lib.itoa v)).toList == (bs l).toList) = b) := by
          have d1 : least ≤ v := by omega
          have d2 : v ≤ most := by omega
          show _ = _
          rw [HB.out, HA.out, bs_toList, bs_toList]
          simp only [isNumB, d1, d2, decide_true, Bool.true_and]
          rw [Bool.eq_iff_iff]
          simp
        have K2 : Hid (Kept Nil w w2) := K1.out.trans k2
        clear k2 IT
        cases b with
        | true =>
          have he := HE.out
          have he2 : ((bs (Lib.itoa v)).toList != (bs l).toList) = false := by rw [bne, he]; rfl
          go_wp2
          go_ret2
          exact ⟨v, rfl, .inl HA.out, K2.out⟩
        | false =>
          have he := HE.out
          have he2 : ((bs (Lib.itoa v)).toList != (bs l).toList) = true := by rw [bne, he]; rfl
          go_wp2
          go_ret2
          exact ⟨0, rfl, .inr rfl, K2.out⟩
  · have HE : Hid (false = b) := by
      show _ = _
      rw [HB.out]
      cases h : Lib.atoiAll l with
      | ok u => exact absurd h (ha u)
      | «syntax» => rfl
      | range => rfl
    obtain rfl : b = false := HE.out.symm
    clear ha
    go_wp2
    go_ret2
    exact ⟨0, rfl, .inr rfl, K1.out⟩

/-! ### read, plainly -/
theorem pcs_len (l : List UInt8) : ∀ x ∈ pcs l, x.length ≤ l.length := by
  induction l with
  | nil => intro x hx; simp [pcs] at hx; simp [hx]
  | cons c r ih =>
    intro x hx
    unfold pcs at hx
    split at hx
    · rcases List.mem_cons.1 hx with rfl | hx
      · simp
      · have := ih x hx; simp; omega
    · split at hx
      · rename_i h t e
        rcases List.mem_cons.1 hx with rfl | hx
        · have := ih h (by rw [e]; simp); simp; omega
        · have := ih x (by rw [e]; simp [hx]); simp; omega
      · simp at hx; rw [hx]; simp
theorem amt_of_false {least most : Nat} {x : List UInt8} (hm : most ≤ 999999999) (h : isNumB least most x (Lib.atoiAll x) = false) : ∀ v, amt most x = some v → v < least := fun v hv => by
  rcases Nat.lt_or_ge v least with h1 | h1
  · exact h1
  · have := (isNumB_yes hm hv h1).2
    rw [h] at this
    cases this
theorem amt_zero {x : List UInt8} (h : isNumB 0 999999999 x (Lib.atoiAll x) = false) : amt MA x = none := by
  cases ha : amt MA x with
  | none => rfl
  | some v => have := amt_of_false (least := 0) (most := 999999999) (by decide) h v ha; omega
theorem amt_true {x : List UInt8} {v : Int} (h : isNumB 0 999999999 x (Lib.atoiAll x) = true) (hv : Lib.atoiAll x = .ok v) : ∃ n : Nat, v = n ∧ amt MA x = some n := by
  obtain ⟨n, h1, h2, _⟩ := isNumB_of (least := 0) (most := 999999999) h
  rw [hv] at h1
  cases h1
  exact ⟨n, rfl, h2⟩
theorem hdOf_bad0 {l x : List UInt8} {r : List (List UInt8)} (hp : pcs l = x :: r) (h : amt MA x = none) : hdOf l = Hd.no := by
  unfold hdOf
  rw [hp]
  match r with
  | [] => simp only [h]; rfl
  | [_] => rfl
  | [y, z] => show hd3 x y z = _; unfold hd3; rw [h]
  | _ :: _ :: _ :: _ => rfl
theorem hdOf_one {l x : List UInt8} {n : Nat} (hp : pcs l = [x]) (h : amt MA x = some n) : hdOf l = ⟨n, 0, 0⟩ := by
  unfold hdOf
  rw [hp]
  simp only [h]
  rfl
theorem hdOf_len {l x : List UInt8} {r : List (List UInt8)} (hp : pcs l = x :: r) (h1 : (pcs l).length ≠ 1) (h3 : (pcs l).length ≠ 3) : hdOf l = Hd.no := by
  unfold hdOf
  rw [hp] at h1 h3 ⊢
  match r with
  | [] => simp at h1
  | [_] => rfl
  | [y, z] => simp at h3
  | _ :: _ :: _ :: _ => rfl
theorem hdOf_bad1 {l x y z : List UInt8} (hp : pcs l = [x, y, z]) (h : isNumB 1 999 y (Lib.atoiAll y) = false) : hdOf l = Hd.no := by
  unfold hdOf
  rw [hp]
  show hd3 x y z = _
  unfold hd3
  split
  · rename_i h1 h2 h3
    rw [if_neg]
    have := amt_of_false (least := 1) (most := 999) (by decide) h _ h2
    omega
  · rfl
theorem hdOf_bad2 {l x y z : List UInt8} (hp : pcs l = [x, y, z]) (h : amt MA z = none) : hdOf l = Hd.no := by
  unfold hdOf
  rw [hp]
  show hd3 x y z = _
  unfold hd3
  rw [h]
  split
  · rename_i h3
    cases h3
  · rfl
theorem hdOf_three {l x y z : List UInt8} {n t : Nat} {v : Int} (hp : pcs l = [x, y, z]) (h1 : amt MA x = some n) (h2 : isNumB 1 999 y (Lib.atoiAll y) = true) (hv : Lib.atoiAll y = .ok v) (h3 : amt MA z = some t) : ∃ b : Nat, v = b ∧ hdOf l = ⟨n, b, t⟩ := by
  obtain ⟨b, g1, g2, g3⟩ := isNumB_of (least := 1) (most := 999) h2
  rw [hv] at g1
  cases g1
  refine ⟨b, rfl, ?_⟩
  unfold hdOf
  rw [hp]
  show hd3 x y z = _
  unfold hd3
  rw [h1, show amt MT y = some b from g2, h3]
  simp only
  rw [if_pos g3]
end Go.Proofs.YtflnjlbafchnaaaGreatDoor

/-
  Cells, plainly: what a cell says, the text that says it, what a text says.
-/
namespace Go.Proofs.YtflnjlbafchnaaaGreatDoor
open Go.Lib

/-- A cell: the value and version of its key (none: version 0), what it says (0 here, 1 moving, 2 gone), how often the key was handed over, to which group. -/
structure Ce where
  v : List UInt8
  n : Nat
  s : Nat
  h : Nat
  g : Nat
def wHere : List UInt8 := [104, 101, 114, 101]
def wMov : List UInt8 := [109, 111, 118, 105, 110, 103]
def wGon : List UInt8 := [103, 111, 110, 101]
def cw (s : Nat) : List UInt8 := if s = 0 then wHere else if s = 1 then wMov else wGon
def sayOf (w : List UInt8) : Option Nat := if w = wHere then some 0 else if w = wMov then some 1 else if w = wGon then some 2 else none
def ceTail (v : List UInt8) (n : Nat) : List UInt8 := if v = [] ∧ n = 0 then [] else 32 :: (decDigits n ++ 32 :: 61 :: v)
def ceTxt (c : Ce) : List UInt8 := cw c.s ++ 32 :: (decDigits c.h ++ ((if c.s = 0 then [] else 32 :: decDigits c.g) ++ ceTail c.v c.n))
structure Ce.Ok (c : Ce) : Prop where
  v : c.v.length ≤ 32
  n : c.n ≤ 999999
  vn : c.n = 0 → c.v = []
  s : c.s ≤ 2
  h : c.h ≤ 999999
  g0 : c.s = 0 → c.g = 0
  g1 : c.s ≠ 0 → 1 ≤ c.g ∧ c.g ≤ 4
  gone : c.s = 2 → c.n = 0
/-- The numbers that stand in a cell that says this, from where to where each. -/
def ceSpec (s : Nat) (full : Bool) : List (Nat × Nat) := (0, 999999) :: ((if s = 0 then [] else [(1, 4)]) ++ (if full = true then [(1, 999999)] else []))
def ceRd : List (List UInt8) → List (Nat × Nat) → Option (List Nat)
  | [], [] => some []
  | w :: ws, (a, b) :: r => match amt b w with
    | some v => if a ≤ v then (ceRd ws r).map (fun l => v :: l) else none
    | none => none
  | _, _ => none
def mkCe (v : List UInt8) (s : Nat) : List Nat → Ce
  | [h] => ⟨v, 0, s, h, 0⟩
  | [h, x] => if s = 0 then ⟨v, x, s, h, 0⟩ else ⟨v, 0, s, h, x⟩
  | [h, g, n] => ⟨v, n, s, h, g⟩
  | _ => ⟨v, 0, s, 0, 0⟩
/-- What a text says, by its parts: the pieces ahead of the mark, the value, whether there is one. -/
def ceBy (ps : List (List UInt8)) (v : List UInt8) (full : Bool) : Option Ce :=
  match ps with
  | [] => none
  | w :: ws => match sayOf w with
    | none => none
    | some s => if (full = true ∧ s = 2) ∨ 32 < v.length then none else (ceRd ws (ceSpec s full)).map (mkCe v s)
def ceOf (l : List UInt8) : Option Ce := ceBy (pcs (cut l [32, 61]).1) (cut l [32, 61]).2.1 (cut l [32, 61]).2.2

theorem index_miss2 {l : List UInt8} (h : ∀ c ∈ l, c ≠ 61) : index l [32, 61] = -1 := by
  induction l with
  | nil => rfl
  | cons c l ih =>
    have := ih (fun x hx => h x (by simp [hx]))
    unfold index
    rw [if_neg ?_, if_pos (by rw [this]; rfl)]
    intro hp
    cases l with
    | nil => simp [List.isPrefixOf] at hp
    | cons d l =>
      have hd := h d (by simp)
      simp only [List.isPrefixOf, Bool.and_eq_true, beq_iff_eq] at hp
      exact hd hp.2.1.symm
theorem index_at2 {a r : List UInt8} (h : ∀ c ∈ a, c ≠ 61) : index (a ++ 32 :: 61 :: r) [32, 61] = a.length := by
  induction a with
  | nil => simp [index, List.isPrefixOf]
  | cons c a ih =>
    have := ih (fun x hx => h x (by simp [hx]))
    rw [List.cons_append]
    unfold index
    rw [if_neg ?_, this, if_neg (by simp)]
    · simp
    · intro hp
      cases a with
      | nil => simp [List.isPrefixOf] at hp
      | cons d a =>
        have hd := h d (by simp)
        simp only [List.cons_append, List.isPrefixOf, Bool.and_eq_true, beq_iff_eq] at hp
        exact hd hp.2.1.symm
theorem cut_miss2 {l : List UInt8} (h : ∀ c ∈ l, c ≠ 61) : cut l [32, 61] = (l, [], false) := by
  unfold cut
  rw [index_miss2 h, if_neg (by omega)]
theorem cut_at2 {a r : List UInt8} (h : ∀ c ∈ a, c ≠ 61) : cut (a ++ 32 :: 61 :: r) [32, 61] = (a, r, true) := by
  unfold cut
  rw [index_at2 h, if_pos (by omega)]
  simp only [Int.toNat_natCast, Prod.mk.injEq, and_true]
  refine ⟨List.take_left' rfl, ?_⟩
  rw [List.drop_append]
  simp
theorem digits_ne61 (n : Nat) : ∀ c ∈ decDigits n, c ≠ 61 := by
  intro c hc e
  obtain ⟨k, hk, hkc⟩ := List.getElem_of_mem hc
  obtain ⟨d, hd⟩ := digit_of_decFrom _ _ _ (decFrom_digits n) k c (by rw [List.getElem?_eq_getElem hk, hkc])
  rw [e] at hd
  cases hd
theorem cw_nb (s : Nat) : ∀ c ∈ cw s, c ≠ 32 := by
  unfold cw
  split
  · decide
  · split <;> decide
theorem cw_ne61 (s : Nat) : ∀ c ∈ cw s, c ≠ 61 := by
  unfold cw
  split
  · decide
  · split <;> decide
theorem sayOf_cw {s : Nat} (h : s ≤ 2) : sayOf (cw s) = some s := by
  rcases (show s = 0 ∨ s = 1 ∨ s = 2 by omega) with e | e | e <;> subst e <;> rfl
theorem sayOf_some {w : List UInt8} {s : Nat} (h : sayOf w = some s) : s ≤ 2 ∧ w = cw s := by
  unfold sayOf at h
  split at h
  · cases h; rename_i e; exact ⟨by omega, e⟩
  · split at h
    · cases h; rename_i e; exact ⟨by omega, e⟩
    · split at h
      · cases h; rename_i e; exact ⟨by omega, e⟩
      · cases h
/-- The head of a cell's text: what stands ahead of the mark. -/
def ceHead (c : Ce) : List UInt8 := cw c.s ++ 32 :: (decDigits c.h ++ ((if c.s = 0 then [] else 32 :: decDigits c.g) ++ (if c.v = [] ∧ c.n = 0 then [] else 32 :: decDigits c.n)))
theorem head_ne61 (c : Ce) : ∀ x ∈ ceHead c, x ≠ 61 := by
  intro x hx
  unfold ceHead at hx
  simp only [List.mem_append, List.mem_cons] at hx
  rcases hx with hx | hx | hx | hx | hx
  · exact cw_ne61 _ x hx
  · rw [hx]; decide
  · exact digits_ne61 _ x hx
  · split at hx
    · cases hx
    · rcases List.mem_cons.1 hx with hx | hx
      · rw [hx]; decide
      · exact digits_ne61 _ x hx
  · split at hx
    · cases hx
    · rcases List.mem_cons.1 hx with hx | hx
      · rw [hx]; decide
      · exact digits_ne61 _ x hx
theorem txt_head (c : Ce) : ceTxt c = if c.v = [] ∧ c.n = 0 then ceHead c else ceHead c ++ 32 :: 61 :: c.v := by
  unfold ceTxt ceHead ceTail
  by_cases h : c.v = [] ∧ c.n = 0
  · rw [if_pos h, if_pos h, if_pos h]
  · rw [if_neg h, if_neg h, if_neg h]
    simp
theorem cut_txt (c : Ce) : cut (ceTxt c) [32, 61] = (ceHead c, (if c.v = [] ∧ c.n = 0 then [] else c.v), decide (¬ (c.v = [] ∧ c.n = 0))) := by
  rw [txt_head]
  by_cases h : c.v = [] ∧ c.n = 0
  · rw [if_pos h, if_pos h, cut_miss2 (head_ne61 c), decide_eq_false (by simpa using h)]
  · rw [if_neg h, if_neg h, cut_at2 (head_ne61 c), decide_eq_true (by simpa using h)]
theorem pcs_head (c : Ce) : pcs (ceHead c) = cw c.s :: decDigits c.h :: ((if c.s = 0 then [] else [decDigits c.g]) ++ (if c.v = [] ∧ c.n = 0 then [] else [decDigits c.n])) := by
  unfold ceHead
  rw [pcs_app (cw_nb _)]
  by_cases h : c.s = 0
  · rw [if_pos h, if_pos h]
    by_cases hv : c.v = [] ∧ c.n = 0
    · rw [if_pos hv, if_pos hv]
      simp only [List.append_nil]
      rw [pcs_one (digits_nb _)]
    · rw [if_neg hv, if_neg hv]
      simp only [List.nil_append]
      rw [pcs_app (digits_nb _), pcs_one (digits_nb _)]
  · rw [if_neg h, if_neg h]
    by_cases hv : c.v = [] ∧ c.n = 0
    · rw [if_pos hv, if_pos hv]
      simp only [List.append_nil]
      rw [pcs_app (digits_nb _), pcs_one (digits_nb _)]
    · rw [if_neg hv, if_neg hv]
      simp only [List.cons_append, List.nil_append]
      rw [pcs_app (digits_nb _), pcs_app (digits_nb _), pcs_one (digits_nb _)]
/-- What is written is read. -/
theorem ceOf_txt {c : Ce} (h : c.Ok) : ceOf (ceTxt c) = some c := by
  have hh := h.h
  have hn := h.n
  unfold ceOf
  rw [cut_txt, pcs_head]
  simp only
  unfold ceBy
  simp only
  rw [sayOf_cw h.s]
  simp only
  have hvl : (if c.v = [] ∧ c.n = 0 then [] else c.v).length ≤ 32 := by
    split
    · simp
    · exact h.v
  rw [if_neg ?_]
  · by_cases hs : c.s = 0
    · by_cases hv : c.v = [] ∧ c.n = 0
      · have e1 : decide (¬ (c.v = [] ∧ c.n = 0)) = false := decide_eq_false (by simpa using hv)
        rw [e1]
        simp only [hs, hv, ceSpec, ceRd, amt_digits hh, and_self, if_true]
        obtain ⟨v, n, s, hh', g⟩ := c
        simp only at *
        have := h.g0 hs
        simp only at this
        subst hs this
        simp [mkCe, hv.1, hv.2, ceRd]
      · have hn1 : 1 ≤ c.n := by
          rcases Nat.eq_zero_or_pos c.n with e | e
          · exact absurd ⟨h.vn e, e⟩ hv
          · exact e
        have e1 : decide (¬ (c.v = [] ∧ c.n = 0)) = true := decide_eq_true (by simpa using hv)
        rw [e1]
        simp only [hs, hv, ceSpec, ceRd, amt_digits hh, amt_digits hn, if_true, if_false, List.nil_append, hn1]
        obtain ⟨v, n, s, hh', g⟩ := c
        simp only at *
        have := h.g0 hs
        simp only at this
        subst hs this
        simp [mkCe]
    · obtain ⟨hg1, hg4⟩ := h.g1 hs
      by_cases hv : c.v = [] ∧ c.n = 0
      · have e1 : decide (¬ (c.v = [] ∧ c.n = 0)) = false := decide_eq_false (by simpa using hv)
        rw [e1]
        simp only [hs, hv, ceSpec, ceRd, amt_digits hh, and_self, if_true, if_false, List.append_nil]
        obtain ⟨v, n, s, hh', g⟩ := c
        simp only at *
        simp [mkCe, hs, hv.1, hv.2, ceRd, amt_digits hg4, hg1]
      · have hn1 : 1 ≤ c.n := by
          rcases Nat.eq_zero_or_pos c.n with e | e
          · exact absurd ⟨h.vn e, e⟩ hv
          · exact e
        have e1 : decide (¬ (c.v = [] ∧ c.n = 0)) = true := decide_eq_true (by simpa using hv)
        rw [e1]
        simp only [hs, hv, ceSpec, ceRd, amt_digits hh, amt_digits hg4, amt_digits hn, if_true, if_false, List.cons_append, List.nil_append, hg1, hn1]
        obtain ⟨v, n, s, hh', g⟩ := c
        simp only at *
        simp [mkCe]
  · rintro (⟨h1, h2⟩ | h1)
    · have := h.gone h2
      have h3 : ¬ (c.v = [] ∧ c.n = 0) := of_decide_eq_true h1
      exact h3 ⟨h.vn this, this⟩
    · omega
theorem ceRd_len : ∀ {ws : List (List UInt8)} {r : List (Nat × Nat)} {l : List Nat}, ceRd ws r = some l → ws.length = r.length ∧ l.length = r.length
  | [], [], l, h => by cases h; exact ⟨rfl, rfl⟩
  | [], _ :: _, l, h => by cases h
  | _ :: _, [], l, h => by cases h
  | w :: ws, (a, b) :: r, l, h => by
    unfold ceRd at h
    split at h
    · split at h
      · cases hr : ceRd ws r with
        | none => rw [hr] at h; cases h
        | some m =>
          rw [hr] at h
          cases h
          have := ceRd_len hr
          simp
          omega
      · cases h
    · cases h
theorem ceRd_cons {w : List UInt8} {ws : List (List UInt8)} {a b : Nat} {r : List (Nat × Nat)} {l : List Nat} (h : ceRd (w :: ws) ((a, b) :: r) = some l) : ∃ v m, l = v :: m ∧ amt b w = some v ∧ a ≤ v ∧ ceRd ws r = some m := by
  unfold ceRd at h
  split at h
  · rename_i v hv
    split at h
    · rename_i ha
      cases hr : ceRd ws r with
      | none => rw [hr] at h; cases h
      | some m => rw [hr] at h; cases h; exact ⟨v, m, rfl, hv, ha, rfl⟩
    · cases h
  · cases h
/-- What is read may be. -/
theorem ceBy_ok {ps : List (List UInt8)} {v : List UInt8} {full : Bool} {c : Ce} (hv0 : full = false → v = []) (h : ceBy ps v full = some c) : c.Ok := by
  unfold ceBy at h
  split at h
  · cases h
  · rename_i w ws
    split at h
    · cases h
    · rename_i s hs
      split at h
      · cases h
      · rename_i hc
        simp only [not_or] at hc
        obtain ⟨hc1, hc2⟩ := hc
        have hs2 := (sayOf_some hs).1
        cases hr : ceRd ws (ceSpec s full) with
        | none => rw [hr] at h; cases h
        | some l =>
          rw [hr] at h
          simp only [Option.map_some, Option.some.injEq] at h
          subst h
          unfold ceSpec at hr
          cases ws with
          | nil => cases hr
          | cons w1 ws =>
            obtain ⟨h1, m, rfl, a1, b1, hr1⟩ := ceRd_cons hr
            have c1 := (amt_some a1).1
            by_cases s0 : s = 0
            · rw [if_pos s0, List.nil_append] at hr1
              cases full with
              | false =>
                obtain rfl := hv0 rfl
                cases ws with
                | nil => cases hr1; exact ⟨by simp [mkCe], by simp [mkCe], fun _ => rfl, by simp [mkCe]; omega, c1, fun _ => rfl, fun e => absurd (show s = 0 from s0) e, fun _ => rfl⟩
                | cons _ _ => cases hr1
              | true =>
                cases ws with
                | nil => cases hr1
                | cons w2 ws =>
                  obtain ⟨n1, m2, rfl, a2, b2, hr2⟩ := ceRd_cons hr1
                  have c2 := (amt_some a2).1
                  cases ws with
                  | nil =>
                    cases hr2
                    have e : mkCe v s [h1, n1] = ⟨v, n1, s, h1, 0⟩ := if_pos s0
                    rw [e]
                    exact ⟨by show v.length ≤ 32; omega, c2, fun e => by simp only at e; omega, by show s ≤ 2; omega, c1, fun _ => rfl, fun e => absurd s0 e, fun e => by simp only at e; omega⟩
                  | cons _ _ => cases hr2
            · rw [if_neg s0] at hr1
              cases ws with
              | nil => cases hr1
              | cons w2 ws =>
                obtain ⟨g1, m2, rfl, a2, b2, hr2⟩ := ceRd_cons hr1
                have c2 := (amt_some a2).1
                cases full with
                | false =>
                  obtain rfl := hv0 rfl
                  cases ws with
                  | nil =>
                    cases hr2
                    have e : mkCe [] s [h1, g1] = ⟨[], 0, s, h1, g1⟩ := if_neg s0
                    rw [e]
                    exact ⟨by simp, by simp, fun _ => rfl, by show s ≤ 2; omega, c1, fun e => absurd e s0, fun _ => ⟨b2, c2⟩, fun _ => rfl⟩
                  | cons _ _ => cases hr2
                | true =>
                  cases ws with
                  | nil => cases hr2
                  | cons w3 ws =>
                    obtain ⟨n1, m3, rfl, a3, b3, hr3⟩ := ceRd_cons hr2
                    have c3 := (amt_some a3).1
                    cases ws with
                    | nil =>
                      cases hr3
                      exact ⟨by show v.length ≤ 32; omega, c3, fun e => by simp only [mkCe] at e; omega, by show s ≤ 2; omega, c1, fun e => absurd e s0, fun _ => ⟨b2, c2⟩, fun e => absurd ⟨rfl, e⟩ hc1⟩
                    | cons _ _ => cases hr3
theorem cut_false {l : List UInt8} (h : (cut l [32, 61]).2.2 = false) : (cut l [32, 61]).2.1 = [] ∧ (cut l [32, 61]).1 = l := by
  unfold cut at h ⊢
  split at h
  · cases h
  · rename_i hc
    rw [if_neg hc]
    exact ⟨rfl, rfl⟩
theorem ceOf_ok {l : List UInt8} {c : Ce} (h : ceOf l = some c) : c.Ok := ceBy_ok (fun e => (cut_false e).1) h
theorem digits_len6 {n : Nat} (h : n ≤ 999999) : (decDigits n).length ≤ 6 := by
  rw [decDigits_length]
  have h10 : ∀ (k u : Nat), u < 10 ^ (k + 1) → nDigits u ≤ k + 1 := by
    intro k
    induction k with
    | zero => intro u hu; rw [nDigits_small (by simpa using hu)]; omega
    | succ k ih =>
      intro u hu
      by_cases h : u < 10
      · rw [nDigits_small h]; omega
      · rw [nDigits_big h]
        have := ih (u / 10) (by rw [Nat.div_lt_iff_lt_mul (by omega)]; rw [Nat.pow_succ] at hu; omega)
        omega
  exact h10 5 n (by omega)
theorem cw_len (s : Nat) : (cw s).length ≤ 6 := by
  unfold cw
  split
  · decide
  · split <;> decide
theorem txt_len {c : Ce} (h : c.Ok) : (ceTxt c).length ≤ 64 := by
  unfold ceTxt
  have h1 := cw_len c.s
  have h2 := digits_len6 h.h
  have h3 := digits_len6 h.n
  have h4 := h.v
  have h5 : (if c.s = 0 then [] else 32 :: decDigits c.g).length ≤ 2 := by
    by_cases e : c.s = 0
    · rw [if_pos e]; simp
    · rw [if_neg e, decDigits_one (by have := (h.g1 e).2; omega)]
      simp
  have h6 : (ceTail c.v c.n).length ≤ 9 + c.v.length := by
    unfold ceTail
    split
    · simp
    · simp; omega
  simp only [List.length_append, List.length_cons]
  omega
/-- Only what says 'here' begins with that word. -/
theorem txt_here {c : Ce} (h : c.s ≤ 2) : (4 < (ceTxt c).length ∧ (ceTxt c).take 4 = wHere) ↔ c.s = 0 := by
  unfold ceTxt
  rcases (show c.s = 0 ∨ c.s = 1 ∨ c.s = 2 by omega) with e | e | e <;> rw [e]
  · refine ⟨fun _ => rfl, fun _ => ⟨?_, rfl⟩⟩
    simp [cw, wHere]
  · refine ⟨fun hh => ?_, fun hh => by omega⟩
    exfalso
    have := hh.2
    simp [cw, wMov, wHere] at this
  · refine ⟨fun hh => ?_, fun hh => by omega⟩
    exfalso
    have := hh.2
    simp [cw, wGon, wHere] at this
end Go.Proofs.YtflnjlbafchnaaaGreatDoor

/-
  Cells: what the package's own table holds; saysOf, numbers (the program).
-/
namespace Go.Proofs.YtflnjlbafchnaaaGreatDoor
open Go.RowKit

/-- What a world holds in the library's variables, and in the table of words. -/
structure LW (w : World) : Prop where
  l : LD w
  c0 : w.cell? ⟨1, 0, none⟩ = some (.string ⟨#[104, 101, 114, 101]⟩)
  c1 : w.cell? ⟨1, 1, none⟩ = some (.string ⟨#[109, 111, 118, 105, 110, 103]⟩)
  c2 : w.cell? ⟨1, 2, none⟩ = some (.string ⟨#[103, 111, 110, 101]⟩)
theorem LD.keptE {X : Nat → Obj → Prop} {w w' : World} (h : LD w) (k : Kept X w w') (hX : ∀ q o, q < 14 → ¬ X q o) : LD w' := by
  refine ⟨?_, ?_, ?_, ?_⟩
  · obtain ⟨m, hm⟩ := h.m
    refine ⟨m, ?_⟩
    have hlt : 0 < w.heap.size := World.block_lt_of_cell? w _ hm
    rw [World.cell?_of_block (w := w) (by rw [k.block 0 _ (Array.getElem?_eq_getElem hlt) (hX 0 _ (by omega)), Array.getElem?_eq_getElem hlt])]
    exact hm
  · obtain ⟨tp, p, hv⟩ := h.s
    exact ⟨tp, p, var_kept (show Tryz.prog.globalNamed "strconv.ErrSyntax" = some 3 by kernel_rfl) (fun o => hX 3 o (by decide)) k hv⟩
  · obtain ⟨tp, p, hv⟩ := h.r
    exact ⟨tp, p, var_kept (show Tryz.prog.globalNamed "strconv.ErrRange" = some 4 by kernel_rfl) (fun o => hX 4 o (by decide)) k hv⟩
  · exact var_kept (show Tryz.prog.globalNamed "internal/strconv.uint64pow10" = some 2 by kernel_rfl) (fun o => hX 2 o (by decide)) k h.t
theorem LW.keptX {X : Nat → Obj → Prop} {w w' : World} (h : LW w) (k : Kept X w w') (hX : ∀ q o, q < 14 → ¬ X q o) : LW w' := by
  refine ⟨h.l.keptE k hX, ?_, ?_, ?_⟩
  · exact cell_kept k (fun o => hX 1 o (by decide)) h.c0
  · exact cell_kept k (fun o => hX 1 o (by decide)) h.c1
  · exact cell_kept k (fun o => hX 1 o (by decide)) h.c2
theorem LW.kept {w w' : World} (h : LW w) (k : Kept Nil w w') : LW w' := h.keptX k (fun _ _ _ x => x.elim)
def sayR (l : List UInt8) : Nat := (sayOf l).getD 0
def sayB (l : List UInt8) : Bool := (sayOf l).isSome
theorem lit_eq (l m : List UInt8) : (m == (bs l).toList) = decide (l = m) := by
  rw [bs_toList]
  by_cases h : l = m
  · rw [decide_eq_true h, h]; simp
  · rw [decide_eq_false h]; simp only [beq_eq_false_iff_ne]; exact fun e => h e.symm
set_option maxRecDepth 100000 in
set_option maxHeartbeats 1000000 in
theorem saysOf_any (l : List UInt8) (w : World) (hL : LW w) :
    Calls Tryz.prog 178 #[.string (bs l)] w fun e w' => e = .returned (.tuple #[.int .i64 (sayR l), .bool (sayB l)]) ∧ w' = w := by
  have q0 := hL.c0
  have q1 := hL.c1
  have q2 := hL.c2
  have i0 : ∀ X, (Instr.index 203 (.agg #[.string ⟨#[104, 101, 114, 101]⟩, .string ⟨#[109, 111, 118, 105, 110, 103]⟩, .string ⟨#[103, 111, 110, 101]⟩]) (.int .i64 0)).run Tryz.prog X = .ok (.string ⟨#[104, 101, 114, 101]⟩) X := fun _ => by kernel_rfl
  have i1 : ∀ X, (Instr.index 203 (.agg #[.string ⟨#[104, 101, 114, 101]⟩, .string ⟨#[109, 111, 118, 105, 110, 103]⟩, .string ⟨#[103, 111, 110, 101]⟩]) (.int .i64 1)).run Tryz.prog X = .ok (.string ⟨#[109, 111, 118, 105, 110, 103]⟩) X := fun _ => by kernel_rfl
  have i2 : ∀ X, (Instr.index 203 (.agg #[.string ⟨#[104, 101, 114, 101]⟩, .string ⟨#[109, 111, 118, 105, 110, 103]⟩, .string ⟨#[103, 111, 110, 101]⟩]) (.int .i64 2)).run Tryz.prog X = .ok (.string ⟨#[103, 111, 110, 101]⟩) X := fun _ => by kernel_rfl
  have e0 := lit_eq l [104, 101, 114, 101]
  have e1 := lit_eq l [109, 111, 118, 105, 110, 103]
  have e2 := lit_eq l [103, 111, 110, 101]
  clear hL
  by_cases c0 : l = wHere
  · have h1 : sayR l = 0 := by unfold sayR; rw [c0]; rfl
    have h2 : sayB l = true := by unfold sayB; rw [c0]; rfl
    rw [decide_eq_true (show l = [104, 101, 114, 101] from c0)] at e0
    rw [h1, h2]
    clear c0 h1 h2 e1 e2
    go_enter Tryz.func178, Tryz.ntmps178
    go_wp2
    refine wp_loop_rounds 4 ?_
    rw [rounds_succ]
    go_wp2
    go_ret2
    exact ⟨rfl, rfl⟩
  · rw [decide_eq_false (show ¬ l = [104, 101, 114, 101] from c0)] at e0
    by_cases c1 : l = wMov
    · have h1 : sayR l = 1 := by unfold sayR; rw [c1]; rfl
      have h2 : sayB l = true := by unfold sayB; rw [c1]; rfl
      rw [decide_eq_true (show l = [109, 111, 118, 105, 110, 103] from c1)] at e1
      rw [h1, h2]
      clear c0 c1 h1 h2 e2
      go_enter Tryz.func178, Tryz.ntmps178
      go_wp2
      refine wp_loop_rounds 4 ?_
      rw [rounds_succ]
      go_wp2
      rw [rounds_succ]
      go_wp2
      go_ret2
      exact ⟨rfl, rfl⟩
    · rw [decide_eq_false (show ¬ l = [109, 111, 118, 105, 110, 103] from c1)] at e1
      by_cases c2 : l = wGon
      · have h1 : sayR l = 2 := by unfold sayR; rw [c2]; rfl
        have h2 : sayB l = true := by unfold sayB; rw [c2]; rfl
        rw [decide_eq_true (show l = [103, 111, 110, 101] from c2)] at e2
        rw [h1, h2]
        clear c0 c1 c2 h1 h2
        go_enter Tryz.func178, Tryz.ntmps178
        go_wp2
        refine wp_loop_rounds 4 ?_
        rw [rounds_succ]
        go_wp2
        rw [rounds_succ]
        go_wp2
        rw [rounds_succ]
        go_wp2
        go_ret2
        exact ⟨rfl, rfl⟩
      · have h1 : sayR l = 0 := by unfold sayR sayOf; rw [if_neg c0, if_neg c1, if_neg c2]; rfl
        have h2 : sayB l = false := by unfold sayB sayOf; rw [if_neg c0, if_neg c1, if_neg c2]; rfl
        rw [decide_eq_false (show ¬ l = [103, 111, 110, 101] from c2)] at e2
        rw [h1, h2]
        clear c0 c1 c2 h1 h2
        go_enter Tryz.func178, Tryz.ntmps178
        go_wp2
        refine wp_loop_rounds 4 ?_
        rw [rounds_succ]
        go_wp2
        rw [rounds_succ]
        go_wp2
        rw [rounds_succ]
        go_wp2
        rw [rounds_succ]
        go_wp2
        go_ret2
        exact ⟨rfl, rfl⟩
end Go.Proofs.YtflnjlbafchnaaaGreatDoor
