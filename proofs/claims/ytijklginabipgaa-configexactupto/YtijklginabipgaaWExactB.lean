/-
  ConfigExact: plain: what Members holds, and that Lost asks no more than that.
-/
import Derived.Test.YtijklginabipgaaWExactA
namespace Go.Proofs.Ytijklginabipgaa

theorem compact_ok (d : Array Int) (hs : ∀ i j, i ≤ j → j < d.size → d[i]! ≤ d[j]!) : ∀ m, m ≤ d.size → (Lib.compactUpTo d m).Pairwise (· < ·) ∧ ∀ x, x ∈ Lib.compactUpTo d m ↔ ∃ i, i < m ∧ d[i]! = x
  | 0, _ => ⟨by simp [Lib.compactUpTo], fun x => by simp [Lib.compactUpTo]⟩
  | m + 1, hm => by
    obtain ⟨h1, h2⟩ := compact_ok d hs m (by omega)
    rw [Lib.compactUpTo_succ]
    by_cases hk : Lib.keeps d m = true
    · rw [if_pos hk]
      refine ⟨?_, fun x => ?_⟩
      · rw [List.pairwise_append]
        refine ⟨h1, by simp, fun a ha b hb => ?_⟩
        simp only [List.mem_singleton] at hb
        subst hb
        obtain ⟨i, hi, rfl⟩ := (h2 a).1 ha
        have a1 := hs i (m - 1) (by omega) (by omega)
        have a2 := hs (m - 1) m (by omega) (by omega)
        have a3 : d[m]! ≠ d[m - 1]! := by
          unfold Lib.keeps at hk
          intro e
          have : m ≠ 0 := by omega
          simp [this, e] at hk
        show d[i]! < d[m]!
        omega
      · rw [List.mem_append, h2, List.mem_singleton]
        constructor
        · rintro (⟨i, hi, e⟩ | rfl)
          · exact ⟨i, by omega, e⟩
          · exact ⟨m, by omega, rfl⟩
        · rintro ⟨i, hi, e⟩
          by_cases him : i = m
          · subst him; exact .inr e.symm
          · exact .inl ⟨i, by omega, e⟩
    · rw [if_neg hk, List.append_nil]
      refine ⟨h1, fun x => ?_⟩
      rw [h2]
      have hm0 : m ≠ 0 ∧ d[m]! = d[m - 1]! := by
        unfold Lib.keeps at hk
        simp at hk
        exact hk
      constructor
      · rintro ⟨i, hi, e⟩
        exact ⟨i, by omega, e⟩
      · rintro ⟨i, hi, e⟩
        by_cases him : i = m
        · subst him; exact ⟨i - 1, by omega, hm0.2.symm.trans e⟩
        · exact ⟨i, by omega, e⟩
theorem mem_ok (v n l : List Int) : (mem v n l).Pairwise (· < ·) ∧ ∀ x, x ∈ mem v n l ↔ x ∈ v ∨ x ∈ n ∨ x ∈ l := by
  have hp : ((v ++ n ++ l).mergeSort fun x y => decide (x ≤ y)).Pairwise (fun x y => decide (x ≤ y) = true) := List.pairwise_mergeSort (fun a b c => by simp only [decide_eq_true_eq]; omega) (fun a b => by simp only [Bool.or_eq_true, decide_eq_true_eq]; omega) _
  have hm : ∀ x, x ∈ ((v ++ n ++ l).mergeSort fun x y => decide (x ≤ y)) ↔ x ∈ v ∨ x ∈ n ∨ x ∈ l := fun x => by rw [List.mem_mergeSort]; simp
  unfold mem
  generalize (v ++ n ++ l).mergeSort (fun x y => decide (x ≤ y)) = ts at *
  have hget : ∀ i, i < ts.length → ts.toArray[i]! = ts[i]! := fun i _ => by simp
  obtain ⟨h1, h2⟩ := compact_ok ts.toArray (fun i j hij hj => by
    simp only [List.size_toArray] at hj
    rcases Nat.lt_or_ge i j with h | h
    · have := List.pairwise_iff_getElem.1 hp i j (by omega) hj h
      simp only [decide_eq_true_eq] at this
      simpa [hj, show i < ts.length by omega] using this
    · obtain rfl : i = j := by omega
      exact Int.le_refl _) ts.toArray.size (Nat.le_refl _)
  refine ⟨h1, fun x => ?_⟩
  rw [← hm]
  refine (h2 x).trans ?_
  simp only [List.size_toArray]
  constructor
  · rintro ⟨i, hi, e⟩
    rw [← e]
    simp [hi]
  · intro h
    obtain ⟨i, hi, e⟩ := List.getElem_of_mem h
    exact ⟨i, hi, by simp [hi, e]⟩
theorem mem_nine {v n l : List Int} (h : isCfg v n l = true) : mem v n l = nineF (memF v n l) 9 := by
  obtain ⟨_, u1, u2, u3, _⟩ := (isCfg_iff v n l).1 h
  refine up_ext (mem_ok v n l).1 nineF_up (fun x => ?_)
  rw [(mem_ok v n l).2, mem_nineF]
  unfold memF
  simp only [Bool.or_eq_true, hasZ_mem, or_assoc]
  refine ⟨fun hx => ⟨?_, hx⟩, fun hx => hx.2⟩
  rcases hx with hx | hx | hx
  · exact u1.le x hx
  · exact u2.le x hx
  · exact u3.le x hx
theorem maj_congr {vs a b : List Int} (h : ∀ x ∈ vs, hasZ a x = hasZ b x) : maj vs a = maj vs b := by
  unfold maj cntIn
  rw [List.filter_congr h]
theorem quo_congr {v n a b : List Int} (h1 : ∀ x ∈ v, hasZ a x = hasZ b x) (h2 : ∀ x ∈ n, hasZ a x = hasZ b x) : quo v n a = quo v n b := by
  unfold quo
  rw [maj_congr h1, maj_congr h2]
theorem lost_nine {v n l : List Int} (hs : List Int) (h : isCfg v n l = true) : quo v n (outZ hs (mem v n l)) = quo v n (nineF (fun k => !hasZ hs k) 9) := by
  obtain ⟨_, u1, u2, _, _⟩ := (isCfg_iff v n l).1 h
  have hb : ∀ x, (x ∈ v ∨ x ∈ n) → 1 ≤ x ∧ x ≤ 9 → hasZ (outZ hs (mem v n l)) x = hasZ (nineF (fun k => !hasZ hs k) 9) x := fun x hx h9 => by
    rw [Bool.eq_iff_iff, hasZ_mem, hasZ_mem, mem_nineF]
    unfold outZ
    rw [List.mem_filter, (mem_ok v n l).2]
    constructor
    · exact fun h => ⟨h9, h.2⟩
    · exact fun h => ⟨by rcases hx with hx | hx; exact .inl hx; exact .inr (.inl hx), h.2⟩
  exact quo_congr (fun x hx => hb x (.inl hx) (u1.le x hx)) (fun x hx => hb x (.inr hx) (u2.le x hx))

end Go.Proofs.Ytijklginabipgaa
