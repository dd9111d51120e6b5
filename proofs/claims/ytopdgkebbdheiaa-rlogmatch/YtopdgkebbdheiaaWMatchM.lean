/-
  A follower's log that shares a beginning with a leader's: what Extend comes to, where the hints lead. No program.
-/
import Derived.Test.YtopdgkebbdheiaaWOld
namespace Go.Proofs.Ytopdgkebbdheiaa
open Go.RowKit

/-- The two logs: the leader's terms are small, the follower's own are great. -/
structure Two (L O : List En) (k : Nat) : Prop where
  hk : k ≤ L.length
  lo : ∀ e ∈ L, e.tm ≤ 81
  hi : ∀ e ∈ O, 100 ≤ e.tm

theorem cnt_two : ∀ (A O : List En) (j n : Nat), (∀ e ∈ A, e.tm ≤ 81) → (∀ e ∈ O, 100 ≤ e.tm) → j ≤ A.length → n ≤ A.length → cnt (A.take j ++ O) (A.take n) = min n j
  | [], O, j, n, _, _, hj, hn => by
    obtain rfl : n = 0 := by simpa using hn
    simp [cnt_nil_r]
  | a :: A, O, 0, 0, _, _, _, _ => by simp [cnt_nil_r]
  | a :: A, O, 0, n + 1, ha, ho, _, _ => by
    cases O with
    | nil => simp [cnt_nil_l]
    | cons b O =>
      have h1 := ha a (by simp)
      have h2 := ho b (by simp)
      simp only [List.take_zero, List.nil_append, List.take_succ_cons]
      rw [cnt, if_neg (by omega)]
      simp
  | a :: A, O, j + 1, 0, _, _, _, _ => by simp [cnt_nil_r]
  | a :: A, O, j + 1, n + 1, ha, ho, hj, hn => by
    simp only [List.take_succ_cons, List.cons_append]
    rw [cnt, if_pos rfl, cnt_two A O j n (fun e he => ha e (by simp [he])) ho (by simpa using hj) (by simpa using hn)]
    omega

theorem Two.len {L O : List En} {k : Nat} (h : Two L O k) : (L.take k ++ O).length = k + O.length := by
  have := h.hk
  simp; omega
theorem Two.drop {L O : List En} {k p : Nat} (h : Two L O k) (hp : p ≤ k) : (L.take k ++ O).drop p = (L.drop p).take (k - p) ++ O := by
  have := h.hk
  rw [List.drop_append_of_le_length (by simp; omega), List.drop_take]
theorem Two.tm_lo {L O : List En} {k p : Nat} (h : Two L O k) (hp : p ≤ k) : tmAt 0 (L.take k ++ O) p = tmAt 0 L p := by
  have hk := h.hk
  by_cases h0 : p = 0
  · subst h0; rfl
  · rw [tmAt_pos (by omega) (by rw [h.len]; omega), tmAt_pos (by omega) (by omega)]
    rw [List.getElem_append_left (by simp; omega), List.getElem_take]
theorem Two.tm_hi {L O : List En} {k p : Nat} (h : Two L O k) (hp : k < p) (hl : p ≤ (L.take k ++ O).length) : 100 ≤ tmAt 0 (L.take k ++ O) p := by
  have hk := h.hk
  have := h.len
  rw [tmAt_pos (by omega) (by omega), List.getElem_append_right (by simp; omega)]
  exact h.hi _ (List.getElem_mem _)
theorem Two.lead {L O : List En} {k p : Nat} (h : Two L O k) (hl : p ≤ L.length) : tmAt 0 L p ≤ 81 := by
  by_cases h0 : p = 0
  · subst h0; simp [tmAt_zero]
  · rw [tmAt_pos (by omega) (by omega)]
    exact h.lo _ (List.getElem_mem _)
theorem Two.fits {L O : List En} {k p : Nat} (h : Two L O k) (hl : p ≤ L.length) : tAt 0 0 (L.take k ++ O) (p : Int) = (tmAt 0 L p, 0) ↔ p ≤ k := by
  have hlen := h.len
  constructor
  · intro e
    by_cases hp : p ≤ k
    · exact hp
    · exfalso
      unfold tAt at e
      rw [if_neg (by omega)] at e
      by_cases hb : (0 : Int) + ((L.take k ++ O).length : Int) < (p : Int)
      · rw [if_pos hb] at e
        have := congrArg Prod.snd e
        simp at this
      · rw [if_neg hb] at e
        have h1 := congrArg Prod.fst e
        simp only [Int.sub_zero, Int.toNat_natCast] at h1
        have h2 := h.tm_hi (p := p) (by omega) (by omega)
        have h3 := h.lead hl
        omega
  · intro hp
    unfold tAt
    rw [if_neg (by omega), if_neg (by omega)]
    simp only [Int.sub_zero, Int.toNat_natCast]
    rw [h.tm_lo hp]

theorem ext_zero (es ns : List En) (p : Nat) (t : Int) : ext 0 0 es p t ns = extAt 0 0 es p t ns := by
  unfold ext
  rw [skip_end (by omega)]
/-- A part that fits, and ends within what both share. -/
theorem Two.ext_within {L O : List En} {k p n : Nat} (h : Two L O k) (hn : p + n ≤ k) : ext 0 0 (L.take k ++ O) p (tmAt 0 L p) ((L.drop p).take n) = (L.take k ++ O, ((p + n : Nat) : Int), 0, 0) := by
  have hk := h.hk
  rw [ext_zero]
  unfold extAt
  rw [if_neg (by omega), if_pos ((h.fits (by omega)).mpr (by omega))]
  simp only [Int.sub_zero, Int.toNat_natCast]
  rw [h.drop (by omega), cnt_two _ _ _ _ (fun e he => h.lo e (List.mem_of_mem_drop he)) h.hi (by simp; omega) (by simp; omega)]
  have hl : ((L.drop p).take n).length = n := by simp; omega
  rw [hl, if_neg (by omega)]
  simp
/-- A part that fits, and goes past what both share. -/
theorem Two.ext_past {L O : List En} {k p n : Nat} (h : Two L O k) (hp : p ≤ k) (hn : k < p + n) (hl : p + n ≤ L.length) : ext 0 0 (L.take k ++ O) p (tmAt 0 L p) ((L.drop p).take n) = (L.take (p + n), ((p + n : Nat) : Int), (k : Int) + 1, 0) := by
  have hk := h.hk
  rw [ext_zero]
  unfold extAt
  rw [if_neg (by omega), if_pos ((h.fits (by omega)).mpr (by omega))]
  simp only [Int.sub_zero, Int.toNat_natCast]
  rw [h.drop (by omega), cnt_two _ _ _ _ (fun e he => h.lo e (List.mem_of_mem_drop he)) h.hi (by simp; omega) (by simp; omega)]
  have hl2 : ((L.drop p).take n).length = n := by simp; omega
  rw [hl2, if_pos (by omega), show min n (k - p) = k - p by omega, show p + (k - p) = k by omega]
  have e1 : (L.take k ++ O).take k = L.take k := by
    rw [List.take_append_of_le_length (by simp; omega), List.take_take, Nat.min_self]
  have e2 : ((L.drop p).take n).drop (k - p) = (L.drop k).take (p + n - k) := by
    rw [List.drop_take, List.drop_drop, show p + (k - p) = k by omega, show n - (k - p) = p + n - k by omega]
  have e3 : L.take k ++ (L.drop k).take (p + n - k) = L.take (p + n) := by
    rw [show p + n = k + (p + n - k) by omega, List.take_add, show k + (p + n - k) - k = p + n - k by omega]
  rw [e1, e2, e3]
  simp only [Prod.mk.injEq, true_and, and_true]
  constructor
  · simp
  · omega
/-- A part that doesn't fit. -/
theorem Two.ext_not {L O : List En} {k p : Nat} (h : Two L O k) (hp : k < p) (hl : p ≤ L.length) (ns : List En) : ext 0 0 (L.take k ++ O) p (tmAt 0 L p) ns = (L.take k ++ O, 0, 0, look 0 0 (L.take k ++ O) p) := by
  rw [ext_zero]
  unfold extAt
  rw [if_neg (by omega), if_neg (fun e => by have := (h.fits hl).mp e; omega)]

/-- How many terms begin within the first p. -/
def runs (M : List En) : Nat → Nat
  | 0 => 0
  | p + 1 => runs M p + (if p = 0 ∨ tmAt 0 M (p + 1) ≠ tmAt 0 M p then 1 else 0)
theorem runs_mono (M : List En) {a b : Nat} (h : a ≤ b) : runs M a ≤ runs M b := by
  induction h with
  | refl => exact Nat.le_refl _
  | step _ ih => simp only [runs]; omega
theorem runs_le (M : List En) : ∀ p, runs M p ≤ p
  | 0 => Nat.le_refl _
  | p + 1 => by
    have := runs_le M p
    simp only [runs]
    split <;> omega
theorem runs_pos (M : List En) {p : Nat} (h : 0 < p) : 0 < runs M p := by
  have := runs_mono M (show 1 ≤ p by omega)
  simp only [runs] at this
  simp at this
  omega
theorem down_pos {bt t : Int} {es : List En} : ∀ {p}, 0 < p → 0 < down bt es t p
  | 1, _ => by simp [down]
  | p + 2, _ => by
    rw [down]
    split
    · exact down_pos (by omega)
    · omega
/-- Where it stops a term begins. -/
theorem down_start {bt t : Int} {es : List En} : ∀ {p}, tmAt bt es p = t → 0 < p → down bt es t p = 1 ∨ (1 < down bt es t p ∧ tmAt bt es (down bt es t p) = t ∧ tmAt bt es (down bt es t p - 1) ≠ t)
  | 1, _, _ => by left; rfl
  | p + 2, ht, _ => by
    rw [down]
    by_cases h : tmAt bt es (p + 1) = t
    · rw [if_pos h]
      exact down_start h (by omega)
    · rw [if_neg h]
      right
      exact ⟨by omega, ht, by simpa using h⟩
theorem runs_down (M : List En) {p : Nat} (h : 0 < p) : runs M (down 0 M (tmAt 0 M p) p - 1) < runs M p := by
  have h1 := down_pos (bt := 0) (es := M) (t := tmAt 0 M p) h
  have h2 := down_le (bt := 0) (es := M) (t := tmAt 0 M p) p
  have h3 := down_start (bt := 0) (es := M) (t := tmAt 0 M p) rfl h
  generalize down 0 M (tmAt 0 M p) p = d at *
  have h4 := runs_mono M h2
  obtain ⟨q, rfl⟩ : ∃ q, d = q + 1 := ⟨d - 1, by omega⟩
  simp only [Nat.add_sub_cancel] at *
  rw [runs, if_pos] at h4
  · omega
  · rcases h3 with h3 | ⟨h3, h5, h6⟩
    · left; omega
    · right; rw [h5]; exact fun e => h6 e.symm

/-- What is left to go. -/
def left (M : List En) (p : Nat) : Nat := if M.length < p then runs M M.length + 1 else runs M p
theorem left_le (M : List En) (p : Nat) : left M p ≤ runs M M.length + 1 := by
  unfold left
  split
  · omega
  · have := runs_mono M (show p ≤ M.length by omega); omega
theorem left_pos (M : List En) {p : Nat} (h : 0 < p) : 0 < left M p := by
  unfold left
  split
  · omega
  · exact runs_pos M h
theorem look_left (M : List En) {p : Nat} (h : 0 < p) : ∃ q : Nat, look 0 0 M p = ((q + 1 : Nat) : Int) ∧ q < p ∧ left M q < left M p := by
  unfold look
  by_cases hb : (0 : Int) + M.length < p
  · rw [if_pos hb]
    refine ⟨M.length, by omega, by omega, ?_⟩
    unfold left
    rw [if_neg (by omega), if_pos (by omega)]
    omega
  · rw [if_neg hb]
    simp only [Int.sub_zero, Int.toNat_natCast]
    have h1 := down_pos (bt := 0) (es := M) (t := tmAt 0 M p) h
    have h2 := down_le (bt := 0) (es := M) (t := tmAt 0 M p) p
    have h3 := runs_down M h
    refine ⟨down 0 M (tmAt 0 M p) p - 1, by omega, by omega, ?_⟩
    unfold left
    rw [if_neg (by omega), if_neg (by omega)]
    exact h3

end Go.Proofs.Ytopdgkebbdheiaa
