/-
  What comes of the sum and of numbers written: no two texts that part in up to four bytes standing together have one sum; what is written of a number is read again; what is cut off is short.
-/
import Derived.Test.YtmlncfnnldplgaaWFrame3
namespace Go.Proofs.Ytmlncfnnldplgaa

theorem crcStep_inj {a b : Nat} (ha : a < 4294967296) (hb : b < 4294967296) (h : crcStep a = crcStep b) : a = b := by
  have key : ∀ x y : Nat, x < 2147483648 → y < 2147483648 → x ^^^ 2197175160 ≠ y := by
    intro x y hx hy e
    have h1 : (x ^^^ 2197175160).testBit 31 = y.testBit 31 := by rw [e]
    rw [Nat.testBit_xor, Nat.testBit_lt_two_pow (x := x) (i := 31) (by omega), Nat.testBit_lt_two_pow (x := y) (i := 31) (by omega)] at h1
    exact absurd h1 (by decide)
  unfold crcStep at h
  split at h <;> split at h
  · have h2 : a / 2 = b / 2 := by
      have := congrArg (· ^^^ 2197175160) h
      simpa [Nat.xor_assoc] using this
    omega
  · exact absurd h (key _ _ (by omega) (by omega))
  · exact absurd h.symm (key _ _ (by omega) (by omega))
  · omega

theorem crcSteps_inj : ∀ (k : Nat) {a b : Nat}, a < 4294967296 → b < 4294967296 → crcSteps k a = crcSteps k b → a = b
  | 0, _, _, _, _, h => h
  | k + 1, _, _, ha, hb, h => crcStep_inj ha hb (crcSteps_inj k (crcStep_lt ha) (crcStep_lt hb) h)

theorem crcStep_high (x y k : Nat) : crcStep (x ^^^ y * 2 ^ (k + 1)) = crcStep x ^^^ y * 2 ^ k := by
  have e1 : y * 2 ^ (k + 1) = y * 2 ^ k * 2 := by rw [Nat.pow_succ, Nat.mul_assoc]
  have e2 : (x ^^^ y * 2 ^ (k + 1)) % 2 = x % 2 := by
    have := Nat.xor_mod_two_pow (a := x) (b := y * 2 ^ (k + 1)) (n := 1)
    rw [show (2 : Nat) ^ 1 = 2 from rfl] at this
    rw [this, e1, Nat.mul_mod_left, Nat.xor_zero]
  have e3 : (x ^^^ y * 2 ^ (k + 1)) / 2 = x / 2 ^^^ y * 2 ^ k := by
    rw [xor_half, e1, Nat.mul_div_cancel _ (by omega)]
  unfold crcStep
  rw [e2, e3]
  split
  · rw [Nat.xor_assoc, Nat.xor_assoc, Nat.xor_comm (y * 2 ^ k)]
  · rfl

theorem crcSteps_high : ∀ (k x y : Nat), crcSteps k (x ^^^ y * 2 ^ k) = crcSteps k x ^^^ y
  | 0, x, y => by simp [crcSteps]
  | k + 1, x, y => by
    show crcSteps k (crcStep (x ^^^ y * 2 ^ (k + 1))) = crcSteps k (crcStep x) ^^^ y
    rw [crcStep_high, crcSteps_high k]

theorem crcSteps_add : ∀ (j k x : Nat), crcSteps k (crcSteps j x) = crcSteps (j + k) x
  | 0, k, x => by rw [Nat.zero_add]; rfl
  | j + 1, k, x => by
    rw [Nat.succ_add]
    show crcSteps k (crcSteps j (crcStep x)) = crcSteps (j + k) (crcStep x)
    exact crcSteps_add j k _

/-- Bytes as one number, the first one lowest. -/
def word : List UInt8 → Nat
  | [] => 0
  | b :: l => b.toNat ^^^ word l * 2 ^ 8

theorem fold_word : ∀ (l : List UInt8) (c : Nat), l.foldl crcByte c = crcSteps (8 * l.length) (c ^^^ word l)
  | [], c => by simp [word, crcSteps]
  | b :: l, c => by
    rw [List.foldl_cons, fold_word l]
    unfold crcByte
    rw [← crcSteps_high, crcSteps_add, List.length_cons, show 8 + 8 * l.length = 8 * (l.length + 1) by omega, Nat.xor_assoc]
    rfl

theorem word_mod (b : UInt8) (l : List UInt8) : word (b :: l) % 256 = b.toNat := by
  have h := b.toNat_lt
  have := Nat.xor_mod_two_pow (a := b.toNat) (b := word l * 2 ^ 8) (n := 8)
  show (b.toNat ^^^ word l * 2 ^ 8) % 2 ^ 8 = _
  rw [this, Nat.mul_mod_left, Nat.xor_zero]
  omega
theorem word_div (b : UInt8) (l : List UInt8) : word (b :: l) / 256 = word l := by
  have h := b.toNat_lt
  have := Nat.shiftRight_xor_distrib (a := b.toNat) (b := word l * 2 ^ 8) (i := 8)
  rw [Nat.shiftRight_eq_div_pow, Nat.shiftRight_eq_div_pow, Nat.shiftRight_eq_div_pow] at this
  show (b.toNat ^^^ word l * 2 ^ 8) / 2 ^ 8 = _
  rw [this, Nat.mul_div_cancel _ (by omega), show b.toNat / 2 ^ 8 = 0 by omega, Nat.zero_xor]
theorem word_lt : ∀ (l : List UInt8), word l < 256 ^ l.length
  | [] => by simp [word]
  | b :: l => by
    have h1 := word_lt l
    have h2 := word_div b l
    rw [List.length_cons, Nat.pow_succ]
    exact (Nat.div_lt_iff_lt_mul (by omega)).mp (by rw [h2]; exact h1)
theorem word_inj : ∀ {a b : List UInt8}, a.length = b.length → word a = word b → a = b
  | [], [], _, _ => rfl
  | [], _ :: _, h, _ => by simp at h
  | _ :: _, [], h, _ => by simp at h
  | x :: a, y :: b, h, e => by
    have h1 : x.toNat = y.toNat := by rw [← word_mod x a, ← word_mod y b, e]
    have h2 : word a = word b := by rw [← word_div x a, ← word_div y b, e]
    rw [word_inj (by simpa using h) h2, UInt8.toNat.inj h1]

theorem fold_inj : ∀ (l : List UInt8) {a b : Nat}, a < 4294967296 → b < 4294967296 → l.foldl crcByte a = l.foldl crcByte b → a = b
  | [], _, _, _, _, h => h
  | x :: l, a, b, ha, hb, h => by
    have h1 : crcByte a x = crcByte b x := fold_inj l (crcByte_lt ha) (crcByte_lt hb) h
    have hx : x.toNat < 4294967296 := by have := x.toNat_lt; omega
    have h2 : a ^^^ x.toNat = b ^^^ x.toNat := crcSteps_inj 8 (xor_lt ha hx) (xor_lt hb hx) h1
    have := congrArg (· ^^^ x.toNat) h2
    simpa [Nat.xor_assoc] using this

/-- Texts that part in four bytes standing together have two sums. -/
theorem crc_parts {p m m' s : List UInt8} (hl : m.length = m'.length) (h4 : m.length ≤ 4) (h : crc (p ++ m ++ s) = crc (p ++ m' ++ s)) : m = m' := by
  have h1 : crcReg (p ++ m ++ s) = crcReg (p ++ m' ++ s) := by
    have a := crcReg_lt (p ++ m ++ s)
    have b := crcReg_lt (p ++ m' ++ s)
    unfold crc at h
    omega
  have hp := crcReg_lt p
  unfold crcReg at h1
  rw [List.foldl_append, List.foldl_append, List.foldl_append, List.foldl_append] at h1
  have h2 := fold_inj s (fold_lt m hp) (fold_lt m' hp) h1
  rw [fold_word m, fold_word m', hl] at h2
  have hb : ∀ n : List UInt8, n.length ≤ 4 → word n < 4294967296 := fun n hn => by
    have h3 := word_lt n
    have h4 : 256 ^ n.length ≤ 256 ^ 4 := Nat.pow_le_pow_right (by omega) hn
    omega
  have h3 := crcSteps_inj _ (xor_lt hp (hb m h4)) (xor_lt hp (hb m' (by omega))) h2
  have h5 := congrArg (crcReg p ^^^ ·) h3
  simp only [← Nat.xor_assoc, Nat.xor_self, Nat.zero_xor] at h5
  exact word_inj hl h5

/-- Texts that are alike but for the four bytes from one place on. -/
theorem crc_window {a b : List UInt8} {f : Nat} (hl : a.length = b.length) (hs : ∀ i, i < f ∨ f + 4 ≤ i → a[i]? = b[i]?) (hne : a ≠ b) : crc a ≠ crc b := by
  intro h
  have e1 : a.take f = b.take f := by
    apply List.ext_getElem?
    intro i
    by_cases hi : i < f
    · rw [List.getElem?_take_of_lt hi, List.getElem?_take_of_lt hi, hs i (.inl hi)]
    · rw [List.getElem?_eq_none (by simp; omega), List.getElem?_eq_none (by simp; omega)]
  have e2 : a.drop (f + 4) = b.drop (f + 4) := by
    apply List.ext_getElem?
    intro i
    rw [List.getElem?_drop, List.getElem?_drop, hs _ (.inr (by omega))]
  have d : ∀ l : List UInt8, l = l.take f ++ (l.drop f).take 4 ++ l.drop (f + 4) := fun l => by
    rw [List.append_assoc, ← List.drop_drop, List.take_append_drop, List.take_append_drop]
  have e3 : (a.drop f).take 4 = (b.drop f).take 4 := by
    refine crc_parts (p := a.take f) (s := a.drop (f + 4)) (by simp [hl]) (by simp; omega) ?_
    rw [← d a, e1, e2, ← d b]
    exact h
  exact hne (by rw [d a, d b, e1, e2, e3])

/-! ### what is written is read -/

theorem numGo_enc : ∀ (n k x : Nat) (t : List UInt8), x + n * 2 ^ (7 * k) ≤ maxNum → (n ≠ 0 ∨ k = 0) → numGo k x (enc n ++ t) = .ok (x + n * 2 ^ (7 * k), t) := by
  intro n
  induction n using Nat.strongRecOn with
  | ind n ih =>
  intro k x t hm hz
  have hk : k ≤ 5 := by
    rcases hz with hz | hz
    · by_cases hk : k ≤ 5
      · exact hk
      · have h1 : 2 ^ (7 * 6) ≤ 2 ^ (7 * k) := Nat.pow_le_pow_right (by omega) (by omega)
        have h2 : 1 * 2 ^ (7 * k) ≤ n * 2 ^ (7 * k) := Nat.mul_le_mul_right _ (by omega)
        unfold maxNum at hm
        omega
    · omega
  by_cases h : n < 128
  · obtain ⟨d, e, hd⟩ := enc_small_byte h
    rw [e]
    show numGo k x (d :: t) = _
    have hmod : d.toNat % 128 = n := by omega
    rw [numGo_end (by rw [hmod, hd]; exact ⟨hk, hm, hz⟩) (by omega), hmod]
  · obtain ⟨d, e, hd⟩ := enc_big_byte h
    rw [e]
    show numGo k x (d :: (enc (n / 128) ++ t)) = _
    have hmod : d.toNat % 128 = n % 128 := by omega
    have hs : x + n % 128 * 2 ^ (7 * k) + n / 128 * 2 ^ (7 * (k + 1)) = x + n * 2 ^ (7 * k) := by
      have h1 : 2 ^ (7 * (k + 1)) = 128 * 2 ^ (7 * k) := by rw [Nat.mul_add, Nat.pow_add]; omega
      rw [h1, ← Nat.mul_assoc, Nat.add_assoc, ← Nat.add_mul]
      congr 2
      omega
    rw [numGo_more (by rw [hmod]; exact ⟨hk, by omega, .inl (by omega)⟩) (by omega), hmod, ih (n / 128) (by omega) (k + 1) _ t (by omega) (.inl (by omega)), hs]

theorem rdNum_enc {n : Nat} (h : n ≤ maxNum) (t : List UInt8) : rdNum (enc n ++ t) = .ok (n, t) := by
  have := numGo_enc n 0 0 t (by simpa using h) (.inr rfl)
  unfold rdNum
  simpa using this

theorem numGo_cut : ∀ (n k x j : Nat), x + n * 2 ^ (7 * k) ≤ maxNum → (n ≠ 0 ∨ k = 0) → j < (enc n).length → numGo k x ((enc n).take j) = .error 3 := by
  intro n
  induction n using Nat.strongRecOn with
  | ind n ih =>
  intro k x j hm hz hj
  have hk : k ≤ 5 := by
    rcases hz with hz | hz
    · by_cases hk : k ≤ 5
      · exact hk
      · have h1 : 2 ^ (7 * 6) ≤ 2 ^ (7 * k) := Nat.pow_le_pow_right (by omega) (by omega)
        have h2 : 1 * 2 ^ (7 * k) ≤ n * 2 ^ (7 * k) := Nat.mul_le_mul_right _ (by omega)
        unfold maxNum at hm
        omega
    · omega
  by_cases h : n < 128
  · obtain ⟨d, e, hd⟩ := enc_small_byte h
    rw [e] at hj ⊢
    obtain rfl : j = 0 := by simpa using hj
    rfl
  · obtain ⟨d, e, hd⟩ := enc_big_byte h
    rw [e] at hj ⊢
    cases j with
    | zero => rfl
    | succ j =>
      rw [List.take_succ_cons]
      have hmod : d.toNat % 128 = n % 128 := by omega
      have hs : x + n % 128 * 2 ^ (7 * k) + n / 128 * 2 ^ (7 * (k + 1)) = x + n * 2 ^ (7 * k) := by
        have h1 : 2 ^ (7 * (k + 1)) = 128 * 2 ^ (7 * k) := by rw [Nat.mul_add, Nat.pow_add]; omega
        rw [h1, ← Nat.mul_assoc, Nat.add_assoc, ← Nat.add_mul]
        congr 2
        omega
      rw [numGo_more (by rw [hmod]; exact ⟨hk, by omega, .inl (by omega)⟩) (by omega), hmod]
      exact ih (n / 128) (by omega) (k + 1) _ j (by omega) (.inl (by omega)) (by simpa using hj)

theorem rdUpTo_enc {n most : Nat} (h : n ≤ maxNum) (hm : n ≤ most) (t : List UInt8) : rdUpTo most (enc n ++ t) = .ok (n, t) := by
  unfold rdUpTo
  rw [rdNum_enc h]
  exact if_pos hm
theorem rdText_enc {s : List UInt8} {most : Nat} (h : s.length ≤ maxNum) (hm : s.length ≤ most) (t : List UInt8) : rdText most (encText s ++ t) = .ok (s, t) := by
  unfold rdText encText
  rw [List.append_assoc, rdUpTo_enc h hm]
  show rdTake s.length (s ++ t) = _
  unfold rdTake
  rw [if_pos (by simp)]
  simp

/-- A frame, whatever its sum: read by its length. -/
theorem unF_frame {s q t : List UInt8} (hs : s.length ≤ 65536) (hq : q.length = 4) : unF (encText s ++ q ++ t) = if q = le4 (crc s) then (s, t, 0) else ([], [], 2) := by
  have h1 : rdText 65536 (encText s ++ q ++ t) = .ok (s, q ++ t) := by rw [List.append_assoc]; exact rdText_enc (by unfold maxNum; omega) hs _
  have h4 : 4 ≤ (q ++ t).length := by simp; omega
  have hq4 : (q ++ t).take 4 = q := by rw [← hq, List.take_left]
  by_cases he : q = le4 (crc s)
  · rw [if_pos he, unF_yes h1 h4 (by rw [hq4]; exact he), ← hq, List.drop_left]
  · rw [if_neg he, unF_sum h1 h4 (by rw [hq4]; exact he)]

theorem le4_inj {a b : Nat} (ha : a < 4294967296) (hb : b < 4294967296) (h : le4 a = le4 b) : a = b := by
  unfold le4 at h
  simp only [List.cons.injEq, and_true] at h
  obtain ⟨h0, h1, h2, h3⟩ := h
  have e : ∀ x y : Nat, x < 256 → y < 256 → UInt8.ofNat x = UInt8.ofNat y → x = y := fun x y hx hy h => by
    have := congrArg UInt8.toNat h
    rwa [ofNat_toNat hx, ofNat_toNat hy] at this
  have := e _ _ (by omega) (by omega) h0
  have := e _ _ (by omega) (by omega) h1
  have := e _ _ (by omega) (by omega) h2
  have := e _ _ (by omega) (by omega) h3
  omega

theorem unF_whole {s : List UInt8} (hs : s.length ≤ 65536) (t : List UInt8) : unF (encFrame s ++ t) = (s, t, 0) := by
  unfold encFrame
  rw [unF_frame hs rfl, if_pos rfl]
theorem unF_turned {s s' : List UInt8} (hs : s.length ≤ 65536) (hl : s'.length = s.length) (hc : crc s' ≠ crc s) (t : List UInt8) : unF (encText s' ++ le4 (crc s) ++ t) = ([], [], 2) := by
  rw [unF_frame (by omega) rfl, if_neg]
  intro h
  exact hc (le4_inj (crc_lt _) (crc_lt _) h).symm

theorem encFrame_len (s : List UInt8) : (encFrame s).length = (enc s.length).length + s.length + 4 := by
  simp only [encFrame, encText, le4, List.length_append, List.length_cons, List.length_nil]

/-- What is cut off a frame is short. -/
theorem unF_cut {s : List UInt8} (hs : s.length ≤ 65536) {j : Nat} (hj : j < (encFrame s).length) : unF ((encFrame s).take j) = ([], [], 3) := by
  have hm : s.length ≤ maxNum := by unfold maxNum; omega
  rw [encFrame_len] at hj
  by_cases h1 : j < (enc s.length).length
  · refine unF_err ?_
    unfold encFrame encText
    rw [List.append_assoc, List.take_append_of_le_length (by omega)]
    have := numGo_cut s.length 0 0 j (by simpa using hm) (.inr rfl) h1
    unfold rdText rdUpTo rdNum
    rw [this]
  · have e1 : (encFrame s).take j = enc s.length ++ (s ++ le4 (crc s)).take (j - (enc s.length).length) := by
      unfold encFrame encText
      rw [List.append_assoc, List.take_append, List.take_of_length_le (by omega)]
    rw [e1]
    generalize hd : j - (enc s.length).length = d
    by_cases h2 : d < s.length
    · refine unF_err ?_
      unfold rdText
      rw [rdUpTo_enc hm hs]
      show rdTake s.length _ = _
      unfold rdTake
      rw [if_neg (by simp; omega)]
    · have e2 : (s ++ le4 (crc s)).take d = s ++ (le4 (crc s)).take (d - s.length) := by
        rw [List.take_append, List.take_of_length_le (by omega)]
      rw [e2, ← List.append_assoc]
      refine unF_no (body := s) (t := (le4 (crc s)).take (d - s.length)) (rdText_enc hm hs _) ?_
      simp [le4]
      omega

/-! ### the turned bytes -/
theorem turned_step {a b : List UInt8} {i : Nat} {m : UInt8} (hi : i < a.length) (hs : b[i]? = a[i]?) : (b.set i (a[i] ^^^ m) = b ↔ m = 0) := by
  have hib : i < b.length := by
    by_cases h : i < b.length
    · exact h
    · rw [List.getElem?_eq_none (by omega), List.getElem?_eq_getElem hi] at hs; cases hs
  have hv : b[i] = a[i] := by
    rw [List.getElem?_eq_getElem hib, List.getElem?_eq_getElem hi] at hs
    simpa using hs
  constructor
  · intro h
    have h2 : (b.set i (a[i] ^^^ m))[i]? = b[i]? := by rw [h]
    rw [List.getElem?_set_self hib, List.getElem?_eq_getElem hib, hv] at h2
    have h3 : a[i] ^^^ m = a[i] := by simpa using h2
    have h4 := congrArg (a[i] ^^^ ·) h3
    simpa [← UInt8.xor_assoc] using h4
  · rintro rfl
    rw [UInt8.xor_zero, ← hv]
    exact List.set_getElem_self hib

end Go.Proofs.Ytmlncfnnldplgaa
