/-
  Keys in order, plainly.
-/
import Derived.Test.YtmlncfnnldplgaaWKv1
namespace Go.Proofs.Ytmlncfnnldplgaa
open Go.RowKit

theorem less_nil_right (x : List UInt8) : lessB x [] = false := by cases x <;> rfl
theorem less_cons (a b : UInt8) (x y : List UInt8) : lessB (a :: x) (b :: y) = (decide (a < b) || (a == b && lessB x y)) := rfl
theorem cmp_cons (a b : UInt8) (x y : List UInt8) : cmpB (a :: x) (b :: y) = if a < b then -1 else if b < a then 1 else cmpB x y := rfl
theorem u8_eq {a b : UInt8} (h1 : ¬ a < b) (h2 : ¬ b < a) : a = b := by
  apply UInt8.toNat_inj.1
  rw [UInt8.lt_iff_toNat_lt] at h1 h2
  omega
theorem cmp_less : ∀ (x y : List UInt8), (cmpB x y < 0 ↔ lessB x y = true) ∧ (cmpB x y = 0 ↔ x = y)
  | [], [] => by simp [cmpB, Lib.compareBytes, less_nil_right]
  | [], b :: y => by simp [cmpB, Lib.compareBytes]; rfl
  | a :: x, [] => by simp [cmpB, Lib.compareBytes, less_nil_right]
  | a :: x, b :: y => by
    obtain ⟨h1, h2⟩ := cmp_less x y
    rw [cmp_cons, less_cons]
    by_cases hab : a < b
    · have hne : a ≠ b := fun e => by subst e; rw [UInt8.lt_iff_toNat_lt] at hab; omega
      simp [hab, hne]
    · by_cases hba : b < a
      · have hne : a ≠ b := fun e => by subst e; rw [UInt8.lt_iff_toNat_lt] at hba; omega
        simp [hab, hba, hne]
      · obtain rfl := u8_eq hab hba
        simp [hab, h1, h2]
theorem less_irrefl (x : List UInt8) : lessB x x = false := by
  have h := cmp_less x x
  cases hx : lessB x x
  · rfl
  · have a := h.1.2 hx
    have b := h.2.2 rfl
    omega
theorem less_trans : ∀ {x y z : List UInt8}, lessB x y = true → lessB y z = true → lessB x z = true
  | _, [], _, h, _ => by rw [less_nil_right] at h; cases h
  | _, _ :: _, [], _, h => by rw [less_nil_right] at h; cases h
  | [], _ :: _, _ :: _, _, _ => rfl
  | a :: x, b :: y, c :: z, h1, h2 => by
    rw [less_cons] at h1 h2 ⊢
    simp only [Bool.or_eq_true, decide_eq_true_eq, Bool.and_eq_true, beq_iff_eq] at h1 h2 ⊢
    rcases h1 with h1 | ⟨rfl, h1⟩
    · rcases h2 with h2 | ⟨rfl, h2⟩
      · left; rw [UInt8.lt_iff_toNat_lt] at *; omega
      · left; exact h1
    · rcases h2 with h2 | ⟨rfl, h2⟩
      · left; exact h2
      · right; exact ⟨rfl, less_trans h1 h2⟩
theorem less_total {x y : List UInt8} (h : lessB x y = false) (hne : x ≠ y) : lessB y x = true := by
  have a := cmp_less x y
  have b := cmp_less y x
  cases hy : lessB y x
  · exfalso
    have h1 : ¬ cmpB x y < 0 := fun hh => by rw [a.1.1 hh] at h; cases h
    have h2 : ¬ cmpB y x < 0 := fun hh => by rw [b.1.1 hh] at hy; cases hy
    exact hne (less_eq h hy)
  · rfl
where
  less_eq : ∀ {x y : List UInt8}, lessB x y = false → lessB y x = false → x = y
  | [], [], _, _ => rfl
  | [], _ :: _, h, _ => by cases h
  | _ :: _, [], _, h => by cases h
  | a :: x, b :: y, h1, h2 => by
    rw [less_cons] at h1 h2
    simp only [Bool.or_eq_false_iff, decide_eq_false_iff_not, Bool.and_eq_false_iff] at h1 h2
    obtain rfl := u8_eq h1.1 h2.1
    simp only [beq_self_eq_true, Bool.true_eq_false, false_or] at h1 h2
    rw [less_eq h1.2 h2.2]
/-- Keys rise. -/
def Srt (ps : List Pr) : Prop := ps.Pairwise fun a b => lessB a.k b.k = true
theorem rise_srt : ∀ {ps : List Pr} {q : Option (List UInt8)}, pRise q ps = true → Srt ps ∧ (∀ p ∈ ps, prOk p = true) ∧ (∀ x, q = some x → ∀ p ∈ ps, lessB x p.k = true)
  | [], _, _ => ⟨List.Pairwise.nil, (fun p hp => by cases hp), (fun x _ p hp => by cases hp)⟩
  | p :: t, q, h => by
    unfold pRise at h
    simp only [Bool.and_eq_true] at h
    obtain ⟨⟨h1, h2⟩, h3⟩ := h
    obtain ⟨i1, i2, i3⟩ := rise_srt h3
    refine ⟨List.pairwise_cons.2 ⟨fun b hb => i3 p.k rfl b hb, i1⟩, fun x hx => ?_, fun x hx y hy => ?_⟩
    · rcases List.mem_cons.1 hx with rfl | hx
      · exact h1
      · exact i2 x hx
    · subst hx
      rcases List.mem_cons.1 hy with rfl | hy
      · exact h2
      · exact less_trans h2 (i3 p.k rfl y hy)
theorem srt_rise : ∀ {ps : List Pr} {q : Option (List UInt8)}, Srt ps → (∀ p ∈ ps, prOk p = true) → (∀ x, q = some x → ∀ p ∈ ps, lessB x p.k = true) → pRise q ps = true
  | [], _, _, _, _ => by unfold pRise; rfl
  | p :: t, q, h1, h2, h3 => by
    obtain ⟨g1, g2⟩ := List.pairwise_cons.1 h1
    unfold pRise
    simp only [Bool.and_eq_true]
    refine ⟨⟨h2 p (by simp), ?_⟩, srt_rise g2 (fun x hx => h2 x (by simp [hx])) (fun x hx y hy => by cases hx; exact g1 y hy)⟩
    cases q with
    | none => rfl
    | some x => exact h3 x rfl p (by simp)
/-- Where a key stands, or would stand. -/
def lowP (key : List UInt8) (ps : List Pr) : Nat := ps.findIdx fun p => !lessB p.k key
theorem lowP_le (key : List UInt8) (ps : List Pr) : lowP key ps ≤ ps.length := List.findIdx_le_length
theorem lowP_lt {key : List UInt8} {ps : List Pr} {j : Nat} (hj : j < ps.length) (h : j < lowP key ps) : lessB ps[j].k key = true := by
  have := List.not_of_lt_findIdx h
  simpa using this
theorem lowP_ge {key : List UInt8} {ps : List Pr} (hs : Srt ps) {j : Nat} (hj : j < ps.length) (h : lowP key ps ≤ j) : lessB ps[j].k key = false := by
  have hl : lowP key ps < ps.length := by omega
  have h0 : lessB ps[lowP key ps].k key = false := by
    have := List.findIdx_getElem (p := fun p : Pr => !lessB p.k key) (xs := ps) (w := hl)
    simp only [Bool.not_eq_true'] at this
    exact this
  by_cases e : lowP key ps = j
  · subst e; exact h0
  · cases hx : lessB ps[j].k key
    · rfl
    · have := List.pairwise_iff_getElem.1 hs (lowP key ps) j hl hj (by omega)
      rw [less_trans this hx] at h0
      cases h0
theorem lowP_eq {key : List UInt8} {ps : List Pr} (hs : Srt ps) {i : Nat} (hi : i ≤ ps.length) (h1 : ∀ j, (hj : j < ps.length) → j < i → lessB ps[j].k key = true) (h2 : ∀ j, (hj : j < ps.length) → i ≤ j → lessB ps[j].k key = false) : lowP key ps = i := by
  have hl := lowP_le key ps
  by_cases ha : lowP key ps < i
  · have := h1 _ (by omega) ha
    rw [lowP_ge hs (by omega) (Nat.le_refl _)] at this
    cases this
  · by_cases hb : i < lowP key ps
    · have := h2 i (by omega) (Nat.le_refl _)
      rw [lowP_lt (by omega) hb] at this
      cases this
    · omega
/-- Is the key there? -/
def isThere (key : List UInt8) (ps : List Pr) : Bool := match ps[lowP key ps]? with | none => false | some p => decide (p.k = key)

end Go.Proofs.Ytmlncfnnldplgaa
