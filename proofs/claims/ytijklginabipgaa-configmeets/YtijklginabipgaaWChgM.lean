/-
  Plain: nodes, rising; one more, one less; a change's operations, and what they keep; quorums meet.
-/
import Derived.Test.YtijklginabipgaaWOlz
namespace Go.Proofs.Ytijklginabipgaa
open Go.RowKit

theorem hasZ_mem {zs : List Int} {z : Int} : hasZ zs z = true ↔ z ∈ zs := by rw [hasZ_eq]; simp
theorem hasZ_not {zs : List Int} {z : Int} : hasZ zs z = false ↔ z ∉ zs := by rw [← Bool.not_eq_true, hasZ_mem]

/-! ### nodes, rising -/
structure Up (l : List Int) : Prop where
  up : l.Pairwise (· < ·)
  le : ∀ x ∈ l, 1 ≤ x ∧ x ≤ 9
theorem isNd_iff (z : Int) : isNd z = true ↔ 1 ≤ z ∧ z ≤ 9 := by simp [isNd]
theorem rise_iff : ∀ (l : List Int) (p : Int), rise p l = true ↔ (l.Pairwise (· < ·) ∧ ∀ x ∈ l, (1 ≤ x ∧ x ≤ 9) ∧ p < x)
  | [], p => by simp [rise]
  | z :: t, p => by
    unfold rise
    rw [Bool.and_eq_true, Bool.and_eq_true, rise_iff t z, isNd_iff, decide_eq_true_eq, List.pairwise_cons]
    constructor
    · rintro ⟨⟨h1, h2⟩, h3, h4⟩
      refine ⟨⟨fun x hx => (h4 x hx).2, h3⟩, fun x hx => ?_⟩
      rcases List.mem_cons.1 hx with rfl | hx
      · exact ⟨h1, h2⟩
      · have := h4 x hx
        exact ⟨this.1, by omega⟩
    · rintro ⟨⟨h1, h2⟩, h3⟩
      have hz := h3 z (List.mem_cons_self)
      exact ⟨⟨hz.1, hz.2⟩, h2, fun x hx => ⟨(h3 x (List.mem_cons_of_mem _ hx)).1, h1 x hx⟩⟩
theorem up_iff {l : List Int} : rise 0 l = true ↔ Up l := by
  rw [rise_iff]
  exact ⟨fun h => ⟨h.1, fun x hx => (h.2 x hx).1⟩, fun h => ⟨h.up, fun x hx => ⟨h.le x hx, by have := h.le x hx; omega⟩⟩⟩
theorem up_len {l : List Int} (h : Up l) : l.length ≤ 9 := by
  have hh : ∀ (l : List Int) (p : Int), 0 ≤ p → p ≤ 9 → l.Pairwise (· < ·) → (∀ x ∈ l, p < x ∧ x ≤ 9) → (l.length : Int) ≤ 9 - p := by
    intro l
    induction l with
    | nil => intro p _ _ _ _; simp; omega
    | cons a t ih =>
      intro p h0 h9 hp hx
      have ha := hx a List.mem_cons_self
      have := ih a (by omega) ha.2 (List.pairwise_cons.1 hp).2 (fun x hx' => ⟨(List.pairwise_cons.1 hp).1 x hx', (hx x (List.mem_cons_of_mem _ hx')).2⟩)
      simp only [List.length_cons]
      omega
  have := hh l 0 (by omega) (by omega) h.up (fun x hx => by have := h.le x hx; omega)
  omega

/-! ### one more, one less -/
def lowZ (z : Int) (l : List Int) : Nat := l.countP (· < z)
def insZ (z : Int) (l : List Int) : List Int := l.take (lowZ z l) ++ z :: l.drop (lowZ z l)
def delZ (z : Int) (l : List Int) : List Int := l.filter fun m => !(m == z)
theorem lowZ_le (z : Int) (l : List Int) : lowZ z l ≤ l.length := List.countP_le_length
theorem insZ_len (z : Int) (l : List Int) : (insZ z l).length = l.length + 1 := by
  have := lowZ_le z l
  simp [insZ]; omega
theorem insZ_cons (z y : Int) (t : List Int) (hp : (y :: t).Pairwise (· < ·)) : insZ z (y :: t) = if y < z then y :: insZ z t else z :: y :: t := by
  have h1 := (List.pairwise_cons.1 hp).1
  by_cases h : y < z
  · simp [insZ, lowZ, h]
  · have h0 : t.countP (· < z) = 0 := by
      rw [List.countP_eq_zero]
      intro x hx
      have := h1 x hx
      simp; omega
    simp [insZ, lowZ, h, h0]
theorem mem_insZ {z x : Int} {l : List Int} : x ∈ insZ z l ↔ x = z ∨ x ∈ l := by
  unfold insZ
  conv => rhs; rw [← List.take_append_drop (lowZ z l) l]
  simp only [List.mem_append, List.mem_cons]
  constructor
  · rintro (h | h | h) <;> simp [h]
  · rintro (h | h | h) <;> simp [h]
theorem mem_delZ {z x : Int} {l : List Int} : x ∈ delZ z l ↔ x ∈ l ∧ x ≠ z := by simp [delZ]
theorem Up.tail {y : Int} {t : List Int} (h : Up (y :: t)) : Up t := ⟨(List.pairwise_cons.1 h.up).2, fun x hx => h.le x (List.mem_cons_of_mem _ hx)⟩
theorem insZ_up : ∀ {l : List Int} {z : Int}, l.Pairwise (· < ·) → z ∉ l → (insZ z l).Pairwise (· < ·)
  | [], z, _, _ => by simp [insZ, lowZ]
  | y :: t, z, hp, hz => by
    rw [insZ_cons z y t hp]
    have h1 := List.pairwise_cons.1 hp
    have hne : z ≠ y := fun e => hz (by simp [e])
    have hzt : z ∉ t := fun e => hz (by simp [e])
    split
    · rename_i h
      rw [List.pairwise_cons]
      refine ⟨fun x hx => ?_, insZ_up h1.2 hzt⟩
      rcases mem_insZ.1 hx with rfl | hx
      · exact h
      · exact h1.1 x hx
    · rename_i h
      rw [List.pairwise_cons]
      refine ⟨fun x hx => ?_, hp⟩
      rcases List.mem_cons.1 hx with rfl | hx
      · omega
      · have := h1.1 x hx; omega
theorem Up.ins {l : List Int} {z : Int} (h : Up l) (hz : z ∉ l) (h1 : 1 ≤ z ∧ z ≤ 9) : Up (insZ z l) := ⟨insZ_up h.up hz, fun x hx => by
  rcases mem_insZ.1 hx with rfl | hx
  · exact h1
  · exact h.le x hx⟩
theorem Up.del {l : List Int} (h : Up l) (z : Int) : Up (delZ z l) := ⟨h.up.filter _, fun x hx => h.le x (mem_delZ.1 hx).1⟩

/-! ### one operation, all of them -/
/-- Who is to vote, who is to learn, behind one operation. -/
def doZ (v nx le : List Int) (kd nd : Int) : Option (List Int × List Int) :=
  if isNd nd = false then none
  else if kd = 1 ∧ hasZ nx nd = false then some (insZ nd nx, delZ nd le)
  else if kd = 2 ∧ hasZ nx nd = false ∧ hasZ le nd = false ∧ hasZ v nd = false then some (nx, insZ nd le)
  else if kd = 3 ∧ (hasZ nx nd = true ∨ hasZ le nd = true) then some (delZ nd nx, delZ nd le)
  else none
def doAll (v : List Int) : List (Int × Int) → List Int → List Int → Option (List Int × List Int)
  | [], nx, le => some (nx, le)
  | o :: os, nx, le => match doZ v nx le o.1 o.2 with
    | none => none
    | some r => doAll v os r.1 r.2
/-- What a draft must keep. -/
structure Dr (v nx le : List Int) : Prop where
  vv : Up v
  nn : Up nx
  ll : Up le
  ln : ∀ x ∈ le, x ∉ nx
  lv : ∀ x ∈ le, x ∉ v
theorem doZ_keeps {v nx le a b : List Int} {kd nd : Int} (h : Dr v nx le) (e : doZ v nx le kd nd = some (a, b)) : Dr v a b := by
  unfold doZ at e
  split at e
  · cases e
  rename_i hn
  have hn' : 1 ≤ nd ∧ nd ≤ 9 := (isNd_iff nd).1 (by simpa using hn)
  split at e
  · rename_i hk
    simp only [Option.some.injEq, Prod.mk.injEq] at e
    obtain ⟨rfl, rfl⟩ := e
    refine ⟨h.vv, h.nn.ins (hasZ_not.1 hk.2) hn', h.ll.del _, fun x hx => ?_, fun x hx => h.lv x (mem_delZ.1 hx).1⟩
    have := mem_delZ.1 hx
    intro hm
    rcases mem_insZ.1 hm with rfl | hm
    · exact this.2 rfl
    · exact h.ln x this.1 hm
  split at e
  · rename_i hk
    simp only [Option.some.injEq, Prod.mk.injEq] at e
    obtain ⟨rfl, rfl⟩ := e
    refine ⟨h.vv, h.nn, h.ll.ins (hasZ_not.1 hk.2.2.1) hn', fun x hx => ?_, fun x hx => ?_⟩
    · rcases mem_insZ.1 hx with rfl | hx
      · exact hasZ_not.1 hk.2.1
      · exact h.ln x hx
    · rcases mem_insZ.1 hx with rfl | hx
      · exact hasZ_not.1 hk.2.2.2
      · exact h.lv x hx
  split at e
  · rename_i hk
    simp only [Option.some.injEq, Prod.mk.injEq] at e
    obtain ⟨rfl, rfl⟩ := e
    exact ⟨h.vv, h.nn.del _, h.ll.del _, fun x hx hm => h.ln x (mem_delZ.1 hx).1 (mem_delZ.1 hm).1, fun x hx => h.lv x (mem_delZ.1 hx).1⟩
  · cases e
theorem doAll_keeps {v : List Int} : ∀ {os : List (Int × Int)} {nx le a b : List Int}, Dr v nx le → doAll v os nx le = some (a, b) → Dr v a b
  | [], nx, le, a, b, h, e => by
    simp only [doAll, Option.some.injEq, Prod.mk.injEq] at e
    obtain ⟨rfl, rfl⟩ := e
    exact h
  | o :: os, nx, le, a, b, h, e => by
    unfold doAll at e
    split at e
    · cases e
    · rename_i r hr
      exact doAll_keeps (doZ_keeps h hr) e
/-- What an operation wants of its node is so. -/
def wants (kd nd : Int) (nx le : List Int) : Prop := (kd = 1 ∧ nd ∈ nx ∧ nd ∉ le) ∨ (kd = 2 ∧ nd ∈ le ∧ nd ∉ nx) ∨ (kd = 3 ∧ nd ∉ nx ∧ nd ∉ le)
theorem doZ_wants {v nx le a b : List Int} {kd nd : Int} (e : doZ v nx le kd nd = some (a, b)) : wants kd nd a b := by
  unfold doZ at e
  split at e
  · cases e
  split at e
  · rename_i hk
    simp only [Option.some.injEq, Prod.mk.injEq] at e
    obtain ⟨rfl, rfl⟩ := e
    exact .inl ⟨hk.1, mem_insZ.2 (.inl rfl), fun h => (mem_delZ.1 h).2 rfl⟩
  split at e
  · rename_i hk
    simp only [Option.some.injEq, Prod.mk.injEq] at e
    obtain ⟨rfl, rfl⟩ := e
    exact .inr (.inl ⟨hk.1, mem_insZ.2 (.inl rfl), hasZ_not.1 hk.2.1⟩)
  split at e
  · rename_i hk
    simp only [Option.some.injEq, Prod.mk.injEq] at e
    obtain ⟨rfl, rfl⟩ := e
    exact .inr (.inr ⟨hk.1, fun h => (mem_delZ.1 h).2 rfl, fun h => (mem_delZ.1 h).2 rfl⟩)
  · cases e
theorem doZ_other {v nx le a b : List Int} {kd nd x : Int} (e : doZ v nx le kd nd = some (a, b)) (hx : x ≠ nd) : (x ∈ a ↔ x ∈ nx) ∧ (x ∈ b ↔ x ∈ le) := by
  unfold doZ at e
  split at e
  · cases e
  split at e
  · simp only [Option.some.injEq, Prod.mk.injEq] at e
    obtain ⟨rfl, rfl⟩ := e
    simp [mem_insZ, mem_delZ, hx]
  split at e
  · simp only [Option.some.injEq, Prod.mk.injEq] at e
    obtain ⟨rfl, rfl⟩ := e
    simp [mem_insZ, hx]
  split at e
  · simp only [Option.some.injEq, Prod.mk.injEq] at e
    obtain ⟨rfl, rfl⟩ := e
    simp [mem_delZ, hx]
  · cases e
theorem doAll_other {v : List Int} {x : Int} : ∀ {os : List (Int × Int)} {nx le a b : List Int}, doAll v os nx le = some (a, b) → (∀ o ∈ os, o.2 ≠ x) → (x ∈ a ↔ x ∈ nx) ∧ (x ∈ b ↔ x ∈ le)
  | [], nx, le, a, b, e, _ => by
    simp only [doAll, Option.some.injEq, Prod.mk.injEq] at e
    obtain ⟨rfl, rfl⟩ := e
    exact ⟨Iff.rfl, Iff.rfl⟩
  | o :: os, nx, le, a, b, e, h => by
    unfold doAll at e
    split at e
    · cases e
    · rename_i r hr
      have h1 := doZ_other hr (fun e' => h o List.mem_cons_self e'.symm)
      have h2 := doAll_other e (fun o' ho' => h o' (List.mem_cons_of_mem _ ho'))
      exact ⟨h2.1.trans h1.1, h2.2.trans h1.2⟩
theorem doAll_wants {v : List Int} : ∀ {os : List (Int × Int)} {nx le a b : List Int}, doAll v os nx le = some (a, b) → ∀ i (hi : i < os.length), (∀ k (hk : k < os.length), i < k → os[k].2 ≠ os[i].2) → wants os[i].1 os[i].2 a b
  | [], nx, le, a, b, e, i, hi, _ => by simp at hi
  | o :: os, nx, le, a, b, e, i, hi, h => by
    unfold doAll at e
    split at e
    · cases e
    · rename_i r hr
      cases i with
      | zero =>
        have hw := doZ_wants hr
        have ho := doAll_other (x := o.2) e (fun o' ho' => by
          obtain ⟨k, hk, rfl⟩ := List.getElem_of_mem ho'
          exact h (k + 1) (by simpa using hk) (by omega))
        unfold wants at hw ⊢
        simp only [List.getElem_cons_zero]
        rw [ho.1, ho.2]
        exact hw
      | succ i =>
        simp only [List.getElem_cons_succ]
        exact doAll_wants e i (by simpa using hi) (fun k hk hik => h (k + 1) (by simpa using hk) (by omega))

/-! ### quorums meet -/
theorem two_meet (p q : Int → Bool) : ∀ (l : List Int), l.length < (l.filter p).length + (l.filter q).length → ∃ x ∈ l, p x = true ∧ q x = true
  | [], h => by simp at h
  | y :: t, h => by
    by_cases hy : p y = true ∧ q y = true
    · exact ⟨y, List.mem_cons_self, hy⟩
    · have : t.length < (t.filter p).length + (t.filter q).length := by
        simp only [List.filter_cons, List.length_cons] at h
        cases hp : p y <;> cases hq : q y <;> simp [hp, hq] at h hy ⊢ <;> omega
      obtain ⟨x, hx, h1⟩ := two_meet p q t this
      exact ⟨x, List.mem_cons_of_mem _ hx, h1⟩
theorem maj_meet {v a b : List Int} (h1 : maj v a = true) (h2 : maj v b = true) : ∃ x ∈ v, x ∈ a ∧ x ∈ b := by
  have g1 := of_decide_eq_true h1
  have g2 := of_decide_eq_true h2
  unfold cntIn at g1 g2
  obtain ⟨x, hx, ha, hb⟩ := two_meet (hasZ a) (hasZ b) v (by omega)
  exact ⟨x, hx, hasZ_mem.1 ha, hasZ_mem.1 hb⟩
theorem maj_all {v : List Int} (h : v ≠ []) : maj v v = true := by
  have : v.filter (hasZ v) = v := List.filter_eq_self.2 fun x hx => hasZ_mem.2 hx
  have hp := List.length_pos_iff.2 h
  unfold maj cntIn
  rw [this, decide_eq_true_eq]
  omega
theorem maj_none (v : List Int) : maj v [] = false := by
  have : v.filter (hasZ []) = [] := List.filter_eq_nil_iff.2 fun x hx => by rw [hasZ_mem]; simp
  simp only [maj, cntIn, this]
  simp
/-- Do two lists share a node of a third? -/
def meetZ (a b m : List Int) : Bool := a.any fun x => hasZ b x && hasZ m x
theorem meetZ_of {a b m : List Int} {x : Int} (h1 : x ∈ a) (h2 : x ∈ b) (h3 : x ∈ m) : meetZ a b m = true := by
  unfold meetZ
  rw [List.any_eq_true]
  exact ⟨x, h1, by rw [hasZ_mem.2 h2, hasZ_mem.2 h3]; rfl⟩
theorem isCfg_iff (v n l : List Int) : isCfg v n l = true ↔ v ≠ [] ∧ Up v ∧ Up n ∧ Up l ∧ (∀ x ∈ l, x ∉ v ∧ x ∉ n) := by
  unfold isCfg
  simp only [Bool.and_eq_true, up_iff, Bool.not_eq_true', List.any_eq_false, vot, Bool.or_eq_true, hasZ_mem]
  constructor
  · rintro ⟨⟨⟨⟨h1, h2⟩, h3⟩, h4⟩, h5⟩
    exact ⟨by simpa using h1, h2, h3, h4, fun x hx => by have := h5 x hx; simp only [not_or] at this; exact this⟩
  · rintro ⟨h1, h2, h3, h4, h5⟩
    exact ⟨⟨⟨⟨by simpa using h1, h2⟩, h3⟩, h4⟩, fun x hx => by have := h5 x hx; simp only [not_or]; exact this⟩
theorem dr_start {v l : List Int} (h : isCfg v [] l = true) : Dr v v l := by
  obtain ⟨_, h1, _, h3, h4⟩ := (isCfg_iff _ _ _).1 h
  exact ⟨h1, h1, h3, fun x hx => (h4 x hx).1, fun x hx => (h4 x hx).1⟩
theorem up_nil : Up [] := ⟨List.Pairwise.nil, fun x hx => by simp at hx⟩
theorem dr_joint {v nx le : List Int} (h : Dr v nx le) (hv : v ≠ []) : isCfg v nx le = true := (isCfg_iff _ _ _).2 ⟨hv, h.vv, h.nn, h.ll, fun x hx => ⟨h.lv x hx, h.ln x hx⟩⟩
theorem dr_same {v nx le : List Int} (h : Dr v nx le) (hv : v ≠ []) : isCfg v [] le = true := (isCfg_iff _ _ _).2 ⟨hv, h.vv, up_nil, h.ll, fun x hx => ⟨h.lv x hx, by simp⟩⟩
theorem dr_after {v nx le : List Int} (h : Dr v nx le) (hn : nx ≠ []) : isCfg nx [] le = true := (isCfg_iff _ _ _).2 ⟨hn, h.nn, up_nil, h.ll, fun x hx => ⟨h.ln x hx, by simp⟩⟩

end Go.Proofs.Ytijklginabipgaa
