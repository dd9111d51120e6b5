/-
  Joined: WTxM, WTx0, WTx1.
-/
import Derived.Lib.AtoiTie
import Derived.Lib.AtoiAllCases
import Derived.Lib.SplitLaws
import Derived.Lib.ItoaNum
import Derived.Test.YtflnjlbafchnaaaGreatDoorR00
import Derived.Test.YtflnjlbafchnaaaGreatDoorR02
/-
  Transactions, plainly: numbers in decimal digits, texts cut at blanks, what a key says.
-/
namespace Go.Proofs.YtflnjlbafchnaaaGreatDoor
open Go.Lib

/-! ### digits -/
theorem decFrom_app (acc : Nat) : ∀ (l : List UInt8) (n : Nat) (b : UInt8) (d : Nat), decFrom acc l = some n → digitVal b = some d → decFrom acc (l ++ [b]) = some (n * 10 + d) := fun l n b d h hb => by
  have := decFrom_take (l ++ [b]) l.length acc n b d (by rw [List.take_left' rfl]; exact h) (by simp) hb
  rwa [List.take_of_length_le (by simp)] at this
theorem digitVal_of {d : Nat} (h : d < 10) : digitVal (UInt8.ofNat (48 + d)) = some d := by
  rcases (show d = 0 ∨ d = 1 ∨ d = 2 ∨ d = 3 ∨ d = 4 ∨ d = 5 ∨ d = 6 ∨ d = 7 ∨ d = 8 ∨ d = 9 by omega) with h | h | h | h | h | h | h | h | h | h <;> subst h <;> rfl
theorem of_digitVal {b : UInt8} {d : Nat} (h : digitVal b = some d) : d < 10 ∧ b = UInt8.ofNat (48 + d) := by
  obtain ⟨h1, h2, rfl⟩ := digitVal_eq h
  refine ⟨by omega, ?_⟩
  rw [show 48 + (b.toNat - 48) = b.toNat by omega]
  exact (UInt8.ofNat_toNat (x := b)).symm
theorem decFrom_digits : ∀ (n : Nat), decFrom 0 (decDigits n) = some n := fun n => by
  induction n using Nat.strongRecOn with
  | ind n ih =>
    by_cases h : n < 10
    · rw [decDigits_one h]
      have := digitVal_of h
      simp only [decFrom, this]
      simp
    · rw [decDigits, dif_neg h, decFrom_app 0 _ _ _ _ (ih (n / 10) (by omega)) (digitVal_of (Nat.mod_lt n (by omega)))]
      congr 1
      omega
theorem digits_ne (n : Nat) : decDigits n ≠ [] := by
  intro h
  have := decDigits_length n
  rw [h] at this
  have := nDigits_pos n
  simp at *
  omega
theorem decNat_digits (n : Nat) : decNat (decDigits n) = some n := by
  unfold decNat
  rw [if_neg (by simpa using digits_ne n)]
  exact decFrom_digits n
theorem nDigits_le9 {n : Nat} (h : n ≤ 999999999) : nDigits n ≤ 9 := by
  have h10 : ∀ (k u : Nat), u < 10 ^ (k + 1) → nDigits u ≤ k + 1 := by
    intro k
    induction k with
    | zero => intro u hu; rw [nDigits_small (by simpa using hu)]; omega
    | succ k ih =>
      intro u hu
      by_cases h : u < 10
      · rw [nDigits_small h]; omega
      · rw [nDigits_big h]
        have := ih (u / 10) (by rw [Nat.div_lt_iff_lt_mul (by omega)]; rw [Nat.pow_succ] at hu; omega)
        omega
  exact h10 8 n (by omega)
theorem digits_len9 {n : Nat} (h : n ≤ 999999999) : (decDigits n).length ≤ 9 := by rw [decDigits_length]; exact nDigits_le9 h
theorem decDigits_small {n : Nat} (h : n < 10) : decDigits n = [UInt8.ofNat (48 + n)] := decDigits_one h
theorem nDig_le (n : Nat) (h : n ≤ 9223372036854775807 := by omega) : nDigits n ≤ 9223372036854775800 := by
  have h10 : ∀ (k u : Nat), u < 10 ^ (k + 1) → nDigits u ≤ k + 1 := by
    intro k
    induction k with
    | zero => intro u hu; rw [nDigits_small (by simpa using hu)]; omega
    | succ k ih =>
      intro u hu
      by_cases h : u < 10
      · rw [nDigits_small h]; omega
      · rw [nDigits_big h]
        have := ih (u / 10) (by rw [Nat.div_lt_iff_lt_mul (by omega)]; rw [Nat.pow_succ] at hu; omega)
        omega
  have := h10 19 n (by have : (10 : Nat) ^ 20 = 100000000000000000000 := by decide
                       omega)
  omega
/-- Whatever is written without noughts ahead is what its number writes. -/
theorem digits_of : ∀ (l : List UInt8) (n : Nat), decFrom 0 l = some n → l ≠ [] → (l[0]? = some 48 → l.length = 1) → decDigits n = l ∧ (l[0]? ≠ some 48 → 1 ≤ n) := fun l => by
  have key : ∀ (k : Nat) (l : List UInt8), l.length = k → ∀ (n : Nat), decFrom 0 l = some n → l ≠ [] → (l[0]? = some 48 → l.length = 1) → decDigits n = l ∧ (l[0]? ≠ some 48 → 1 ≤ n) := by
    intro k
    induction k with
    | zero => intro l hl n _ hne; exact absurd (List.length_eq_zero_iff.1 hl) hne
    | succ k ih =>
      intro l hl n h hne hz
      obtain ⟨l', b, rfl⟩ : ∃ l' b, l = l' ++ [b] := ⟨l.dropLast, l.getLast hne, (List.dropLast_concat_getLast hne).symm⟩
      have hl' : l'.length = k := by simpa using hl
      obtain ⟨d, hd⟩ := digit_of_decFrom _ _ _ h k b (by rw [← hl']; simp)
      obtain ⟨m, hm⟩ := decFrom_prefix _ _ _ h k
      rw [List.take_left' hl'] at hm
      have hn : n = m * 10 + d := by
        have := decFrom_app 0 l' m b d hm hd
        rw [h] at this
        exact Option.some.inj this
      obtain ⟨hd10, hb⟩ := of_digitVal hd
      by_cases he : l' = []
      · subst he
        simp only [decFrom, Option.some.injEq] at hm
        subst hm
        simp only [Nat.zero_mul, Nat.zero_add] at hn
        subst hn
        refine ⟨by rw [decDigits_one hd10, hb]; rfl, ?_⟩
        intro h0
        rcases Nat.eq_zero_or_pos n with rfl | hp
        · exact absurd (by simp [hb]) h0
        · exact hp
      · have h0 : (l' ++ [b])[0]? = l'[0]? := by
          rw [List.getElem?_append_left (List.length_pos_iff.2 he)]
        have hlen2 : (l' ++ [b]).length ≠ 1 := by
          have := List.length_pos_iff.2 he
          simp
          omega
        have hnz : l'[0]? ≠ some 48 := fun e => hlen2 (hz (h0.trans e))
        obtain ⟨e1, e2⟩ := ih l' hl' m hm he (fun e => absurd e hnz)
        have hm1 := e2 hnz
        refine ⟨?_, fun _ => by omega⟩
        have hbig : ¬ n < 10 := by omega
        rw [decDigits, dif_neg hbig]
        have e3 : n / 10 = m := by omega
        have e4 : n % 10 = d := by omega
        rw [e3, e4, e1, ← hb]
  exact key _ l rfl

/-- A number from 0 to `most`, written as it would be here. -/
def amt (most : Nat) (l : List UInt8) : Option Nat :=
  match decNat l with
  | some v => if v ≤ most ∧ decDigits v = l then some v else none
  | none => none
theorem amt_digits {most v : Nat} (h : v ≤ most) : amt most (decDigits v) = some v := by
  unfold amt
  rw [decNat_digits]
  simp [h]
theorem amt_some {most v : Nat} {l : List UInt8} (h : amt most l = some v) : v ≤ most ∧ l = decDigits v := by
  unfold amt at h
  split at h
  · split at h
    · rename_i hc
      cases h
      exact ⟨hc.1, hc.2.symm⟩
    · cases h
  · cases h
theorem amt_iff {most v : Nat} {l : List UInt8} : amt most l = some v ↔ v ≤ most ∧ l = decDigits v :=
  ⟨amt_some, fun ⟨h, e⟩ => by rw [e]; exact amt_digits h⟩
/-- strconv's answer at such a text. -/
theorem atoi_digits {v : Nat} (h : v ≤ 999999999) : atoiAll (decDigits v) = .ok (v : Int) := by
  have hl := digits_len9 h
  rw [atoiAll_short _ (by omega)]
  have ha : atoi (decDigits v) = some (v : Int) := by
    have hd := decNat_digits v
    have hne := digits_ne v
    cases hc : decDigits v with
    | nil => exact absurd hc hne
    | cons c r =>
      obtain ⟨d, hdv⟩ := digit_of_decFrom _ _ _ (decFrom_digits v) 0 c (by rw [hc]; rfl)
      obtain ⟨h1, h2, _⟩ := digitVal_eq hdv
      rw [hc] at hd
      unfold atoi
      have n43 : ¬ (c == 43) = true := fun e => by
        have := beq_iff_eq.1 e
        subst this
        simp at h1
      have n45 : ¬ (c == 45) = true := fun e => by
        have := beq_iff_eq.1 e
        subst this
        simp at h1
      simp only [hd, Option.map_some]
      rw [if_neg n45, if_neg n43]
  rw [ha]
  rfl
/-- What readNumber answers: whether the text is a number from `least` to `most` as it would be written here. -/
def isNumB (least most : Int) (l : List UInt8) : NumEnd Int → Bool
  | .ok v => decide (least ≤ v) && decide (v ≤ most) && decide (itoa v = l)
  | _ => false
theorem isNumB_yes {least most v : Nat} {l : List UInt8} (hm : most ≤ 999999999) (h : amt most l = some v) (hl : least ≤ v) : atoiAll l = .ok (v : Int) ∧ isNumB least most l (atoiAll l) = true := by
  obtain ⟨h1, rfl⟩ := amt_some h
  have := atoi_digits (v := v) (by omega)
  refine ⟨this, ?_⟩
  rw [this]
  have e : itoa (v : Int) = decDigits v := by
    unfold itoa
    rw [if_neg (by omega)]
    rfl
  simp only [isNumB, Bool.and_eq_true, decide_eq_true_eq]
  exact ⟨⟨by omega, by omega⟩, e⟩
theorem isNumB_of {least most : Nat} {l : List UInt8} (h : isNumB least most l (atoiAll l) = true) : ∃ v : Nat, atoiAll l = .ok (v : Int) ∧ amt most l = some v ∧ least ≤ v := by
  cases ha : atoiAll l with
  | «syntax» => rw [ha] at h; cases h
  | range => rw [ha] at h; cases h
  | ok v =>
    rw [ha] at h
    simp only [isNumB, Bool.and_eq_true, decide_eq_true_eq] at h
    obtain ⟨⟨h1, h2⟩, h3⟩ := h
    obtain ⟨n, rfl⟩ : ∃ n : Nat, v = n := ⟨v.toNat, by omega⟩
    have e : itoa (n : Int) = decDigits n := by
      unfold itoa
      rw [if_neg (by omega)]
      rfl
    refine ⟨n, rfl, amt_iff.2 ⟨by omega, by rw [← h3, e]⟩, by omega⟩
/-- The document's way: byte by byte. -/
def amtGo (most : Nat) : Nat → List UInt8 → Option Nat
  | acc, [] => some acc
  | acc, c :: r => if 48 ≤ c.toNat ∧ c.toNat ≤ 57 ∧ acc ≤ most then amtGo most (10 * acc + (c.toNat - 48)) r else none
theorem amtGo_decFrom (most : Nat) : ∀ (l : List UInt8) (acc v : Nat), amtGo most acc l = some v → decFrom acc l = some v
  | [], acc, v, h => h
  | c :: r, acc, v, h => by
    unfold amtGo at h
    split at h
    · rename_i hc
      have := amtGo_decFrom most r _ _ h
      unfold decFrom
      have hd : digitVal c = some (c.toNat - 48) := by unfold digitVal; rw [if_pos ⟨hc.1, hc.2.1⟩]
      rw [hd]
      simp only
      rw [Nat.mul_comm acc 10]
      exact this
    · cases h
theorem decFrom_mono : ∀ (l : List UInt8) (acc v : Nat), decFrom acc l = some v → acc ≤ v
  | [], acc, v, h => by simp only [decFrom, Option.some.injEq] at h; omega
  | c :: r, acc, v, h => by
    unfold decFrom at h
    split at h
    · rename_i d hd
      have := decFrom_mono r _ _ h
      omega
    · cases h
theorem amtGo_of (most : Nat) : ∀ (l : List UInt8) (acc v : Nat), decFrom acc l = some v → v ≤ most → amtGo most acc l = some v
  | [], acc, v, h, _ => h
  | c :: r, acc, v, h, hv => by
    have hm := decFrom_mono _ _ _ h
    unfold decFrom at h
    split at h
    · rename_i d hd
      obtain ⟨h1, h2, rfl⟩ := digitVal_eq hd
      unfold amtGo
      rw [if_pos ⟨h1, h2, by omega⟩, Nat.mul_comm 10 acc]
      exact amtGo_of most r _ _ h hv
    · cases h
/-- What the document's reading comes to, as an int. -/
def amtZ (most : Nat) (l : List UInt8) : Int := match amt most l with | some v => v | none => -1
theorem amtZ_some {most : Nat} {l : List UInt8} {v : Nat} (h : amt most l = some v) : amtZ most l = v := by unfold amtZ; rw [h]
theorem amtZ_none {most : Nat} {l : List UInt8} (h : amt most l = none) : amtZ most l = -1 := by unfold amtZ; rw [h]
theorem amtGo_none {most : Nat} {l : List UInt8} (h : amtGo most 0 l = none) : amtZ most l = -1 := by
  refine amtZ_none ?_
  cases ha : amt most l with
  | none => rfl
  | some v =>
    obtain ⟨h1, rfl⟩ := amt_some ha
    rw [amtGo_of most _ 0 v (decFrom_digits v) h1] at h
    cases h
theorem amtGo_some {most n : Nat} {l : List UInt8} (h : amtGo most 0 l = some n) : amtZ most l = if l = [] ∨ most < n ∨ (l[0]? = some 48 ∧ 1 < l.length) then -1 else (n : Int) := by
  have hd := amtGo_decFrom most _ _ _ h
  split
  · rename_i hc
    refine amtZ_none ?_
    cases ha : amt most l with
    | none => rfl
    | some v =>
      obtain ⟨h1, rfl⟩ := amt_some ha
      rw [decFrom_digits v] at hd
      have hvn := Option.some.inj hd
      subst hvn
      rcases hc with hc | hc | ⟨hc, hc2⟩
      · exact absurd hc (digits_ne _)
      · omega
      · exfalso
        by_cases h10 : v < 10
        · rw [decDigits_one h10] at hc2
          simp at hc2
        · have hh : ∀ n : Nat, 1 ≤ n → (decDigits n)[0]? ≠ some 48 := by
            intro n
            induction n using Nat.strongRecOn with
            | ind n ih =>
              intro hn
              by_cases h : n < 10
              · rw [decDigits_one h]
                simp only [List.getElem?_cons_zero, ne_eq, Option.some.injEq]
                rcases (show n = 1 ∨ n = 2 ∨ n = 3 ∨ n = 4 ∨ n = 5 ∨ n = 6 ∨ n = 7 ∨ n = 8 ∨ n = 9 by omega) with h | h | h | h | h | h | h | h | h <;> subst h <;> decide
              · rw [decDigits, dif_neg h, List.getElem?_append_left (List.length_pos_iff.2 (digits_ne _))]
                exact ih (n / 10) (by omega) (by omega)
          exact hh v (by omega) hc
  · rename_i hc
    simp only [not_or, not_and] at hc
    obtain ⟨c1, c2, c3⟩ := hc
    have hlen := List.length_pos_iff.2 c1
    obtain ⟨e, _⟩ := digits_of l n hd c1 (fun e => by have := c3 e; omega)
    exact amtZ_some (amt_iff.2 ⟨by omega, e.symm⟩)

/-! ### cut at blanks -/
def pcs : List UInt8 → List (List UInt8)
  | [] => [[]]
  | c :: r => if c = 32 then [] :: pcs r else match pcs r with
    | h :: t => (c :: h) :: t
    | [] => [[c]]
theorem pcs_ne (l : List UInt8) : pcs l ≠ [] := by
  cases l with
  | nil => simp [pcs]
  | cons c r =>
    unfold pcs
    split
    · simp
    · split <;> simp
theorem pcs_app {a : List UInt8} (h : ∀ c ∈ a, c ≠ 32) (r : List UInt8) : pcs (a ++ 32 :: r) = a :: pcs r := by
  induction a with
  | nil => simp [pcs]
  | cons c a ih =>
    have hc := h c (by simp)
    rw [List.cons_append, pcs, if_neg hc, ih (fun x hx => h x (by simp [hx]))]
theorem pcs_one {a : List UInt8} (h : ∀ c ∈ a, c ≠ 32) : pcs a = [a] := by
  induction a with
  | nil => simp [pcs]
  | cons c a ih =>
    have hc := h c (by simp)
    rw [pcs, if_neg hc, ih (fun x hx => h x (by simp [hx]))]
/-- Every text is a first piece without blanks, and more behind a blank, if there is one. -/
theorem pcs_cases (l : List UInt8) : (∀ c ∈ l, c ≠ 32) ∨ ∃ a r, l = a ++ 32 :: r ∧ ∀ c ∈ a, c ≠ 32 := by
  induction l with
  | nil => exact .inl (by simp)
  | cons c l ih =>
    by_cases hc : c = 32
    · exact .inr ⟨[], l, by rw [hc]; rfl, by simp⟩
    · rcases ih with h | ⟨a, r, rfl, h⟩
      · exact .inl (by intro x hx; rcases List.mem_cons.1 hx with e | hx'; exact (e ▸ hc); exact h x hx')
      · exact .inr ⟨c :: a, r, rfl, by intro x hx; rcases List.mem_cons.1 hx with e | hx'; exact (e ▸ hc); exact h x hx'⟩
theorem index_miss {l : List UInt8} (h : ∀ c ∈ l, c ≠ 32) : index l [32] = -1 := by
  induction l with
  | nil => rfl
  | cons c l ih =>
    have hc := h c (by simp)
    have := ih (fun x hx => h x (by simp [hx]))
    unfold index
    rw [if_neg (by simp [List.isPrefixOf]; exact fun e => hc e.symm), if_pos (by rw [this]; rfl)]
theorem index_at {a r : List UInt8} (h : ∀ c ∈ a, c ≠ 32) : index (a ++ 32 :: r) [32] = a.length := by
  induction a with
  | nil => simp [index, List.isPrefixOf]
  | cons c a ih =>
    have hc := h c (by simp)
    have := ih (fun x hx => h x (by simp [hx]))
    rw [List.cons_append]
    unfold index
    rw [if_neg (by simp [List.isPrefixOf]; exact fun e => hc e.symm), this, if_neg (by simp)]
    simp
theorem split_pcs (l : List UInt8) : splitK [32] 0 (count l [32]) l = pcs l := by
  induction hk : l.length using Nat.strongRecOn generalizing l with
  | ind k ih =>
    rcases pcs_cases l with h | ⟨a, r, rfl, h⟩
    · rw [pcs_one h, count_miss (index_miss h)]
      rfl
    · have hi := index_at (r := r) h
      rw [count_hit (by simp) hi, pcs_app h]
      have hd : (a ++ 32 :: r).drop (a.length + [(32 : UInt8)].length) = r := by
        rw [List.drop_append]
        simp
      rw [hd, Nat.add_comm 1, splitK, if_neg (by rw [hi]; simp), hi]
      simp only [Int.toNat_natCast, Nat.add_zero]
      rw [hd, List.take_left' rfl, ih r.length (by rw [← hk]; simp; omega) r rfl]
theorem count_pcs (l : List UInt8) : count l [32] + 1 = (pcs l).length := by
  induction hk : l.length using Nat.strongRecOn generalizing l with
  | ind k ih =>
    rcases pcs_cases l with h | ⟨a, r, rfl, h⟩
    · rw [pcs_one h, count_miss (index_miss h)]
      rfl
    · have hi := index_at (r := r) h
      rw [count_hit (by simp) hi, pcs_app h]
      have hd : (a ++ 32 :: r).drop (a.length + [(32 : UInt8)].length) = r := by
        rw [List.drop_append]
        simp
      rw [hd, List.length_cons, ← ih r.length (by rw [← hk]; simp; omega) r rfl]
      omega

/-! ### what a key says -/
structure Hd where
  n : Nat
  b : Nat
  t : Nat
def Hd.no : Hd := ⟨0, 0, 0⟩
def MA : Nat := 999999999
def MT : Nat := 999
def hd3 (x y z : List UInt8) : Hd :=
  match amt MA x, amt MT y, amt MA z with
  | some n, some b, some t => if 1 ≤ b then ⟨n, b, t⟩ else Hd.no
  | _, _, _ => Hd.no
def hdOf (l : List UInt8) : Hd :=
  match pcs l with
  | [x] => ⟨(amt MA x).getD 0, 0, 0⟩
  | [x, y, z] => hd3 x y z
  | _ => Hd.no
structure Hd.Ok (h : Hd) : Prop where
  n : h.n ≤ 999999999
  b : h.b ≤ 999
  t : h.t ≤ 999999999
  z : h.b = 0 → h.t = 0
theorem Hd.no_ok : Hd.no.Ok := ⟨by decide, by decide, by decide, fun _ => rfl⟩
theorem hdOf_ok (l : List UInt8) : (hdOf l).Ok := by
  unfold hdOf
  split
  · rename_i x _
    cases h : amt MA x with
    | none => exact Hd.no_ok
    | some v => exact ⟨(amt_some h).1, Nat.zero_le _, Nat.zero_le _, fun _ => rfl⟩
  · rename_i x y z _
    unfold hd3
    split
    · rename_i n b t h1 h2 h3
      split
      · exact ⟨(amt_some h1).1, (amt_some h2).1, (amt_some h3).1, fun e => by simp at e; omega⟩
      · exact Hd.no_ok
    · exact Hd.no_ok
  · exact Hd.no_ok
end Go.Proofs.YtflnjlbafchnaaaGreatDoor

/-
  Transactions: what the library's package-level variables hold; strconv's and strings' answers over lists of bytes.
-/
namespace Go.Proofs.YtflnjlbafchnaaaGreatDoor
open Go.RowKit Go.Sort

/-- What a world holds in the library's variables. -/
structure LD (w : World) : Prop where
  m : ∃ m, w.cell? ⟨0, 0, none⟩ = some (.int .i64 m)
  s : ∃ tp p, w.var? Tryz.prog "strconv.ErrSyntax" = some #[.iface tp p]
  r : ∃ tp p, w.var? Tryz.prog "strconv.ErrRange" = some #[.iface tp p]
  t : Lib.TabIs Tryz.prog w "internal/strconv.uint64pow10" .u64 Lib.pow10Tab
theorem var_kept {X : Nat → Obj → Prop} {w w' : World} {n : String} {g : Nat} {cs : Array Value} (hg : Tryz.prog.globalNamed n = some g) (hX : ∀ o, ¬ X g o) (k : Kept X w w') (h : w.var? Tryz.prog n = some cs) : w'.var? Tryz.prog n = some cs := by
  unfold World.var? at h ⊢
  rw [hg] at h ⊢
  simp only [Option.bind_some] at h ⊢
  cases hb : w.heap[g]? with
  | none => rw [hb] at h; cases h
  | some o => rw [k.block _ _ hb (hX o), ← hb]; exact h
theorem LD.keptX {X : Nat → Obj → Prop} {w w' : World} (h : LD w) (k : Kept X w w') (hX : ∀ q o, q < 20 → ¬ X q o) : LD w' := by
  refine ⟨?_, ?_, ?_, ?_⟩
  · obtain ⟨m, hm⟩ := h.m
    refine ⟨m, ?_⟩
    have hlt : 0 < w.heap.size := World.block_lt_of_cell? w _ hm
    rw [World.cell?_of_block (w := w) (by rw [k.block 0 _ (Array.getElem?_eq_getElem hlt) (hX 0 _ (by omega)), Array.getElem?_eq_getElem hlt])]
    exact hm
  · obtain ⟨tp, p, hv⟩ := h.s
    exact ⟨tp, p, var_kept (show Tryz.prog.globalNamed "strconv.ErrSyntax" = some 3 by kernel_rfl) (fun o => hX 3 o (by decide)) k hv⟩
  · obtain ⟨tp, p, hv⟩ := h.r
    exact ⟨tp, p, var_kept (show Tryz.prog.globalNamed "strconv.ErrRange" = some 4 by kernel_rfl) (fun o => hX 4 o (by decide)) k hv⟩
  · exact var_kept (show Tryz.prog.globalNamed "internal/strconv.uint64pow10" = some 2 by kernel_rfl) (fun o => hX 2 o (by decide)) k h.t
theorem LD.kept {w w' : World} (h : LD w) (k : Kept Nil w w') : LD w' := h.keptX k (fun _ _ _ x => x.elim)

theorem kept_grow (w : World) (k : Nat) (os : Array Obj) : Kept Nil w (grow (w.drewN k) os) := by
  refine ⟨rfl, by simp [grow], rfl, by simp [grow], fun q o hq _ => ?_⟩
  have hlt : q < w.heap.size := by
    rcases Nat.lt_or_ge q w.heap.size with h | h
    · exact h
    · rw [Array.getElem?_eq_none h] at hq; cases hq
  show ((w.drewN k).heap ++ os)[q]? = some o
  have : (w.drewN k).heap = w.heap := by simp
  rw [this, Array.getElem?_append_left hlt]
  exact hq
/-- strconv.Itoa. -/
theorem itoa_any (n : Int) (h0 : -9223372036854775808 ≤ n) (h1 : n ≤ 9223372036854775807) (w : World) (hL : LD w) :
    Calls Tryz.prog 105 #[.int .i64 n] w fun e w' => e = .returned (.string (bs (Lib.itoa n))) ∧ Kept Nil w w' :=
  (Tryz.strconv_Itoa n h0 h1 w hL.t).mono (by
    rintro e w' ⟨rfl, k, os, rfl⟩
    exact ⟨rfl, kept_grow w k os⟩)
theorem itoa_nat (n : Nat) : Lib.itoa (n : Int) = Lib.decDigits n := by
  unfold Lib.itoa
  rw [if_neg (by omega)]
  rfl
/-- strconv.Atoi. -/
theorem atoi_any (l : List UInt8) (hl : l.length ≤ 281474976710656) (w : World) (hL : LD w) :
    Calls Tryz.prog 155 #[.string (bs l)] w fun e w' => ∃ v x, e = .returned (.tuple #[.int .i64 v, x]) ∧ Kept Nil w w' ∧ -9223372036854775808 ≤ v ∧ v ≤ 9223372036854775807 ∧ ((x = .nilIface ∧ Lib.atoiAll l = .ok v) ∨ ((∃ t a, x = .iface t (.pointer (some a))) ∧ ∀ u, Lib.atoiAll l ≠ .ok u)) := by
  have hsz : (bs l).size = l.length := bs_size l
  have hd : (bs l).data.toList = l := bs_data l
  cases ha : Lib.atoiAll l with
  | ok v =>
    have hb := Lib.atoiAll_bounds ha
    refine (Tryz.strconv_Atoi_ok (bs l) (by omega) v (by rw [hd]; exact ha) w).mono ?_
    rintro e w' ⟨rfl, hw⟩
    refine ⟨v, _, rfl, ?_, hb.1, hb.2, .inl ⟨rfl, rfl⟩⟩
    rcases hw with rfl | ⟨t, rfl⟩
    · exact Kept.refl _ _
    · exact Kept.ofBelow (Lib.bytesWorld_below _ _ _) _
  | «syntax» =>
    obtain ⟨tp, p, hv⟩ := hL.s
    refine (Tryz.strconv_Atoi_syntax_var (bs l) (by omega) (by rw [hd]; exact ha) tp p w hv).mono ?_
    rintro e w' ⟨N, rfl, _, _, hb⟩
    exact ⟨0, _, rfl, Kept.ofBelow hb _, by decide, by decide, .inr ⟨⟨_, _, rfl⟩, fun u h => by cases h⟩⟩
  | range =>
    obtain ⟨tp, p, hv⟩ := hL.r
    refine (Tryz.strconv_Atoi_range_var (bs l) (by omega) (by rw [hd]; exact ha) tp p w hv).mono ?_
    rintro e w' ⟨N, rfl, _, _, hb⟩
    have hs := Lib.atoiSat_bounds (bs l).data.toList
    exact ⟨_, _, rfl, Kept.ofBelow hb _, hs.1, hs.2, .inr ⟨⟨_, _, rfl⟩, fun u h => by cases h⟩⟩
/-- strings.Split at a blank. -/
theorem split_any (l : List UInt8) (hl : l.length < 4294967281) (w : World) (hL : LD w) :
    Calls Tryz.prog 120 #[.string (bs l), .string ⟨#[32]⟩] w fun e w' => e = .returned (.slice (some ⟨w.heap.size, 0, none⟩) (pcs l).length (pcs l).length) ∧ w' = w.alloc (.cells ((pcs l).map fun x => Value.string (bs x)).toArray 9) := by
  obtain ⟨m, hm⟩ := hL.m
  have hsz : (bs l).size = l.length := bs_size l
  have hd : (bs l).data.toList = l := bs_data l
  refine (Tryz.strings_Split (bs l) ⟨#[32]⟩ m w (by omega) hm (by decide)).mono ?_
  rintro e w' ⟨rfl, rfl⟩
  have hc : Lib.countB (bs l) ⟨#[32]⟩ = Lib.count l [32] := by
    unfold Lib.countB
    rw [hd]
  have hp : (Lib.splitB ⟨#[32]⟩ 0 (Lib.count l [32]) (bs l)).map Value.string = (pcs l).map fun x => Value.string (bs x) := by
    have := Lib.splitB_data ⟨#[32]⟩ 0 (Lib.count l [32]) (bs l)
    rw [hd] at this
    have h2 : (Lib.splitB ⟨#[32]⟩ 0 (Lib.count l [32]) (bs l)).map (fun s => s.data.toList) = pcs l := this.trans (split_pcs l)
    rw [← h2, List.map_map]
    refine List.map_congr_left fun s _ => ?_
    show Value.string s = Value.string (bs s.data.toList)
    rw [bs_self]
  rw [hc, count_pcs, hp]
  exact ⟨rfl, rfl⟩
end Go.Proofs.YtflnjlbafchnaaaGreatDoor

/-
  Transactions: bound.Decimal, read (the program).
-/
namespace Go.Proofs.YtflnjlbafchnaaaGreatDoor
open Go.RowKit

def RnPost (w : World) (l : List UInt8) (b : Bool) (e : Ending) (w' : World) : Prop := ∃ v : Int, e = .returned (.tuple #[.int .i64 v, .bool b]) ∧ (Lib.atoiAll l = .ok v ∨ b = false) ∧ Kept Nil w w'
set_option maxRecDepth 100000 in
set_option maxHeartbeats 1000000 in
theorem readNumber_any (l : List UInt8) (least most : Int) (hl : l.length ≤ 281474976710656) (w : World) (hL : LD w) :
    Calls Tryz.prog 121 #[.string (bs l), .int .i64 least, .int .i64 most] w (RnPost w l (isNumB least most l (Lib.atoiAll l))) := by
  obtain ⟨b, HB⟩ : ∃ b : Bool, Hid (b = isNumB least most l (Lib.atoiAll l)) := ⟨_, rfl⟩
  rw [← HB.out]
  have HL : Hid (LD w) := hL
  have AT := atoi_any l hl w hL
  clear hL
  go_enter Tryz.func121, Tryz.ntmps121
  go_wp2_with fail
  go_fit AT
  clear AT
  rintro _ w1 ⟨v, x, rfl, k1, hv0, hv1, hx⟩
  have K1 : Hid (Kept Nil w w1) := k1
  have HL1 : Hid (LD w1) := HL.out.kept k1
  clear k1
  rcases hx with ⟨rfl, ha⟩ | ⟨⟨t, a, rfl⟩, ha⟩
  · have HA : Hid (Lib.atoiAll l = .ok v) := ha
    clear ha
    by_cases c1 : v < least
    · have HE : Hid (false = b) := by
        show _ = _
        rw [HB.out, HA.out]
        have : ¬ least ≤ v := by omega
        simp [isNumB, this]
      obtain rfl : b = false := HE.out.symm
      go_wp2
      go_ret2
      exact ⟨0, rfl, .inr rfl, K1.out⟩
    · by_cases c2 : most < v
      · have HE : Hid (false = b) := by
          show _ = _
          rw [HB.out, HA.out]
          have : ¬ v ≤ most := by omega
          simp [isNumB, this]
        obtain rfl : b = false := HE.out.symm
        go_wp2
        go_ret2
        exact ⟨0, rfl, .inr rfl, K1.out⟩
      · have IT := itoa_any v hv0 hv1 w1 HL1.out
        go_wp2_with fail
        go_fit IT
        rintro _ w2 ⟨rfl, k2⟩
        have HE : Hid (((bs (Lib.itoa v)).toList == (bs l).toList) = b) := by
          have d1 : least ≤ v := by omega
          have d2 : v ≤ most := by omega
          show _ = _
          rw [HB.out, HA.out, bs_toList, bs_toList]
          simp only [isNumB, d1, d2, decide_true, Bool.true_and]
          rw [Bool.eq_iff_iff]
          simp
        have K2 : Hid (Kept Nil w w2) := K1.out.trans k2
        clear k2 IT
        cases b with
        | true =>
          have he := HE.out
          have he2 : ((bs (Lib.itoa v)).toList != (bs l).toList) = false := by rw [bne, he]; rfl
          go_wp2
          go_ret2
          exact ⟨v, rfl, .inl HA.out, K2.out⟩
        | false =>
          have he := HE.out
          have he2 : ((bs (Lib.itoa v)).toList != (bs l).toList) = true := by rw [bne, he]; rfl
          go_wp2
          go_ret2
          exact ⟨0, rfl, .inr rfl, K2.out⟩
  · have HE : Hid (false = b) := by
      show _ = _
      rw [HB.out]
      cases h : Lib.atoiAll l with
      | ok u => exact absurd h (ha u)
      | «syntax» => rfl
      | range => rfl
    obtain rfl : b = false := HE.out.symm
    clear ha
    go_wp2
    go_ret2
    exact ⟨0, rfl, .inr rfl, K1.out⟩

/-! ### read, plainly -/
theorem pcs_len (l : List UInt8) : ∀ x ∈ pcs l, x.length ≤ l.length := by
  induction l with
  | nil => intro x hx; simp [pcs] at hx; simp [hx]
  | cons c r ih =>
    intro x hx
    unfold pcs at hx
    split at hx
    · rcases List.mem_cons.1 hx with rfl | hx
      · simp
      · have := ih x hx; simp; omega
    · split at hx
      · rename_i h t e
        rcases List.mem_cons.1 hx with rfl | hx
        · have := ih h (by rw [e]; simp); simp; omega
        · have := ih x (by rw [e]; simp [hx]); simp; omega
      · simp at hx; rw [hx]; simp
theorem amt_of_false {least most : Nat} {x : List UInt8} (hm : most ≤ 999999999) (h : isNumB least most x (Lib.atoiAll x) = false) : ∀ v, amt most x = some v → v < least := fun v hv => by
  rcases Nat.lt_or_ge v least with h1 | h1
  · exact h1
  · have := (isNumB_yes hm hv h1).2
    rw [h] at this
    cases this
theorem amt_zero {x : List UInt8} (h : isNumB 0 999999999 x (Lib.atoiAll x) = false) : amt MA x = none := by
  cases ha : amt MA x with
  | none => rfl
  | some v => have := amt_of_false (least := 0) (most := 999999999) (by decide) h v ha; omega
theorem amt_true {x : List UInt8} {v : Int} (h : isNumB 0 999999999 x (Lib.atoiAll x) = true) (hv : Lib.atoiAll x = .ok v) : ∃ n : Nat, v = n ∧ amt MA x = some n := by
  obtain ⟨n, h1, h2, _⟩ := isNumB_of (least := 0) (most := 999999999) h
  rw [hv] at h1
  cases h1
  exact ⟨n, rfl, h2⟩
theorem hdOf_bad0 {l x : List UInt8} {r : List (List UInt8)} (hp : pcs l = x :: r) (h : amt MA x = none) : hdOf l = Hd.no := by
  unfold hdOf
  rw [hp]
  match r with
  | [] => simp only [h]; rfl
  | [_] => rfl
  | [y, z] => show hd3 x y z = _; unfold hd3; rw [h]
  | _ :: _ :: _ :: _ => rfl
theorem hdOf_one {l x : List UInt8} {n : Nat} (hp : pcs l = [x]) (h : amt MA x = some n) : hdOf l = ⟨n, 0, 0⟩ := by
  unfold hdOf
  rw [hp]
  simp only [h]
  rfl
theorem hdOf_len {l x : List UInt8} {r : List (List UInt8)} (hp : pcs l = x :: r) (h1 : (pcs l).length ≠ 1) (h3 : (pcs l).length ≠ 3) : hdOf l = Hd.no := by
  unfold hdOf
  rw [hp] at h1 h3 ⊢
  match r with
  | [] => simp at h1
  | [_] => rfl
  | [y, z] => simp at h3
  | _ :: _ :: _ :: _ => rfl
theorem hdOf_bad1 {l x y z : List UInt8} (hp : pcs l = [x, y, z]) (h : isNumB 1 999 y (Lib.atoiAll y) = false) : hdOf l = Hd.no := by
  unfold hdOf
  rw [hp]
  show hd3 x y z = _
  unfold hd3
  split
  · rename_i h1 h2 h3
    rw [if_neg]
    have := amt_of_false (least := 1) (most := 999) (by decide) h _ h2
    omega
  · rfl
theorem hdOf_bad2 {l x y z : List UInt8} (hp : pcs l = [x, y, z]) (h : amt MA z = none) : hdOf l = Hd.no := by
  unfold hdOf
  rw [hp]
  show hd3 x y z = _
  unfold hd3
  rw [h]
  split
  · rename_i h3
    cases h3
  · rfl
theorem hdOf_three {l x y z : List UInt8} {n t : Nat} {v : Int} (hp : pcs l = [x, y, z]) (h1 : amt MA x = some n) (h2 : isNumB 1 999 y (Lib.atoiAll y) = true) (hv : Lib.atoiAll y = .ok v) (h3 : amt MA z = some t) : ∃ b : Nat, v = b ∧ hdOf l = ⟨n, b, t⟩ := by
  obtain ⟨b, g1, g2, g3⟩ := isNumB_of (least := 1) (most := 999) h2
  rw [hv] at g1
  cases g1
  refine ⟨b, rfl, ?_⟩
  unfold hdOf
  rw [hp]
  show hd3 x y z = _
  unfold hd3
  rw [h1, show amt MT y = some b from g2, h3]
  simp only
  rw [if_pos g3]
end Go.Proofs.YtflnjlbafchnaaaGreatDoor
