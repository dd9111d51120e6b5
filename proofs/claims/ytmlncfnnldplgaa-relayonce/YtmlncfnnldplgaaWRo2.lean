/-
  RelayOnce, plainly: once packets come, all that was sent has come, and nothing waits.
-/
import Derived.Test.YtmlncfnnldplgaaWRo1
namespace Go.Proofs.Ytmlncfnnldplgaa
open Go.RowKit

/-- Is it the next body from host i to host j? -/
def isNx (i j c : Nat) (p : Pk) : Bool := !p.ak && decide (p.fr = (i : Int) + 1) && decide (p.ds = (j : Int) + 1) && decide (p.nu = (c : Int) + 1)
/-- How far host j comes with what is on its way from host i. -/
def reach (i j : Nat) : Nat → List Pk → Nat
  | c, [] => c
  | c, p :: l => reach i j (if isNx i j c p = true then c + 1 else c) l
theorem reach_app (i j : Nat) : ∀ (l m : List Pk) (c : Nat), reach i j c (l ++ m) = reach i j (reach i j c l) m
  | [], _, _ => rfl
  | p :: l, m, c => by rw [List.cons_append, reach, reach, reach_app i j l m]
theorem reach_ge (i j : Nat) : ∀ (l : List Pk) (c : Nat), c ≤ reach i j c l
  | [], c => Nat.le_refl c
  | p :: l, c => by
    rw [reach]
    have := reach_ge i j l (if isNx i j c p = true then c + 1 else c)
    split at this <;> simp_all <;> omega
theorem reach_le (i j s : Nat) : ∀ (l : List Pk) (c : Nat), c ≤ s → (∀ p ∈ l, p.ak = false → p.fr = (i : Int) + 1 → p.ds = (j : Int) + 1 → p.nu ≤ s) → reach i j c l ≤ s
  | [], c, h, _ => h
  | p :: l, c, h, hl => by
    rw [reach]
    refine reach_le i j s l _ ?_ (fun q hq => hl q (List.mem_cons_of_mem _ hq))
    by_cases hn : isNx i j c p = true
    · rw [if_pos hn]
      unfold isNx at hn
      simp only [Bool.and_eq_true, Bool.not_eq_true', decide_eq_true_eq] at hn
      have := hl p List.mem_cons_self hn.1.1.1 hn.1.1.2 hn.1.2
      omega
    · rw [if_neg hn]; exact h
theorem reach_none (i j : Nat) : ∀ (l : List Pk) (c : Nat), (∀ p ∈ l, p.ak = true ∨ p.ds ≠ (j : Int) + 1) → reach i j c l = c
  | [], c, _ => rfl
  | p :: l, c, h => by
    have hp := h p List.mem_cons_self
    have hn : isNx i j c p = false := by
      unfold isNx
      rcases hp with hp | hp
      · rw [hp]; rfl
      · rw [decide_eq_false hp]; simp
    rw [reach, hn, if_neg (by decide)]
    exact reach_none i j l c (fun q hq => h q (List.mem_cons_of_mem _ hq))
theorem pksO_cons (id : Int) (k ak cm : Nat) (x : List UInt8) (t : List (List UInt8)) : pksO id k ⟨ak, x :: t, cm⟩ = ⟨id, k, (ak : Int) + 1, false, x⟩ :: pksO id k ⟨ak + 1, t, cm⟩ := by
  unfold pksO
  rw [List.mapIdx_cons]
  have e : (fun (n : Nat) (y : List UInt8) => pkO id k ⟨ak, x :: t, cm⟩ (n + 1) y) = pkO id k ⟨ak + 1, t, cm⟩ := by
    funext n y
    unfold pkO
    have : (ak : Int) + 1 + ((n + 1 : Nat) : Int) = ((ak + 1 : Nat) : Int) + 1 + (n : Int) := by omega
    dsimp only
    rw [this]
  rw [e]
  congr 1
theorem reach_waits (i j cm : Nat) : ∀ (wt : List (List UInt8)) (a c : Nat), a ≤ c → c ≤ a + wt.length → reach i j c (pksO ((i + 1 : Nat) : Int) (j + 1) ⟨a, wt, cm⟩) = a + wt.length
  | [], a, c, h1, h2 => by
    have : pksO ((i + 1 : Nat) : Int) (j + 1) ⟨a, [], cm⟩ = [] := rfl
    rw [this, reach]
    simp at h2 ⊢
    omega
  | x :: t, a, c, h1, h2 => by
    rw [pksO_cons, reach]
    simp only [List.length_cons] at h2 ⊢
    by_cases e : c = a
    · have hn : isNx i j c ⟨((i + 1 : Nat) : Int), ((j + 1 : Nat) : Int), (a : Int) + 1, false, x⟩ = true := by
        unfold isNx
        simp only [Bool.and_eq_true, Bool.not_eq_true', decide_eq_true_eq]
        refine ⟨⟨⟨trivial, by omega⟩, by omega⟩, by omega⟩
      rw [hn, if_pos rfl, reach_waits i j cm t (a + 1) (c + 1) (by omega) (by omega)]
      omega
    · have hn : isNx i j c ⟨((i + 1 : Nat) : Int), ((j + 1 : Nat) : Int), (a : Int) + 1, false, x⟩ = false := by
        unfold isNx
        rw [decide_eq_false (show ¬ (a : Int) + 1 = (c : Int) + 1 by omega), Bool.and_false]
      rw [hn, if_neg (by decide), reach_waits i j cm t (a + 1) c (by omega) (by omega)]
      omega
theorem pksO_ds {id : Int} {k : Nat} {o : Oh} {p : Pk} (h : p ∈ pksO id k o) : p.ds = (k : Int) := by
  obtain ⟨n, hn, e⟩ := List.getElem_of_mem h
  rw [pksO_len] at hn
  rw [pksO_get hn] at e
  subst e
  rfl
theorem pksTo_split (id : Int) (os : Nat → Oh) (k : Nat) : ∀ n, k < n → ∃ A B, pksTo id os n = A ++ pksO id k (os k) ++ B ∧ (∀ p ∈ A, p.ds ≠ (k : Int)) ∧ (∀ p ∈ B, p.ds ≠ (k : Int))
  | 0, h => by omega
  | n + 1, h => by
    rw [pksTo_next]
    by_cases e : k = n
    · subst e
      refine ⟨_, [], (List.append_nil _).symm, fun p hp => ?_, fun p hp => by cases hp⟩
      unfold pksTo at hp
      obtain ⟨q, hq, hp⟩ := List.mem_flatMap.1 hp
      have hq : q < k := by simpa using hq
      rw [pksO_ds hp]
      omega
    · obtain ⟨A, B, e1, h1, h2⟩ := pksTo_split id os k n (by omega)
      refine ⟨A, B ++ pksO id n (os n), by rw [e1]; simp [List.append_assoc], h1, fun p hp => ?_⟩
      rcases List.mem_append.1 hp with hp | hp
      · exact h2 p hp
      · rw [pksO_ds hp]; omega
/-- While host i's packets come: for each other host j. -/
def RI (i j : Nat) (T : Tk) : Prop := reach i j (T.cm (4 * i + j)).length T.way = (T.sn (4 * i + j)).length ∧ (T.kn (4 * i + j) = (T.cm (4 * i + j)).length ∨ (∃ p ∈ T.way, p.ak = true ∧ p.fr = (j : Int) + 1 ∧ p.ds = (i : Int) + 1 ∧ p.nu = (T.cm (4 * i + j)).length) ∨ (∃ p ∈ T.way, p.ak = false ∧ p.fr = (i : Int) + 1 ∧ p.ds = (j : Int) + 1))
theorem TkI.round {T : Tk} (h : TkI T) {i j : Nat} (hi : i < 3) (hj : j < 3) (hij : i ≠ j) : RI i j { T with way := T.way ++ pksTo (((i + 1 : Nat) : Int)) (T.os i) 10 } := by
  have hpr := h.pr i j hi hj hij
  have hle := h.le (4 * i + j) (by omega)
  have hwl := h.wtlen hi hj hij
  obtain ⟨A, B, e1, h1, h2⟩ := pksTo_split (((i + 1 : Nat) : Int)) (T.os i) (j + 1) 10 (by omega)
  have hA : ∀ p ∈ A, p.ak = true ∨ p.ds ≠ (j : Int) + 1 := fun p hp => .inr (by have := h1 p hp; omega)
  have hB : ∀ p ∈ B, p.ak = true ∨ p.ds ≠ (j : Int) + 1 := fun p hp => .inr (by have := h2 p hp; omega)
  have hc := reach_ge i j T.way (T.cm (4 * i + j)).length
  have hc2 := reach_le i j (T.sn (4 * i + j)).length T.way (T.cm (4 * i + j)).length hle.2.1 (fun p hp f1 f2 f3 => by
    obtain ⟨a, b, ha, hb, hab, g1, g2, g3, g4, g5⟩ := h.wy p hp
    have e1 : a = i := by omega
    have e2 : b = j := by omega
    subst e1 e2
    exact (g5 f1).1)
  unfold RI
  dsimp only
  rw [reach_app, e1, reach_app, reach_app, reach_none i j A _ hA, reach_none i j B _ hB]
  have ho : T.os i (j + 1) = ⟨T.kn (4 * i + j), (T.os i (j + 1)).wt, (T.os i (j + 1)).cm⟩ := by rw [← hpr.1]
  refine ⟨?_, ?_⟩
  · rw [ho, reach_waits i j _ _ _ _ (by omega) (by omega)]
    omega
  · by_cases e : T.kn (4 * i + j) = (T.cm (4 * i + j)).length
    · exact .inl e
    · refine .inr (.inr ?_)
      have hpos : 0 < (T.os i (j + 1)).wt.length := by omega
      have hm : pkO (((i + 1 : Nat) : Int)) (j + 1) (T.os i (j + 1)) 0 ((T.os i (j + 1)).wt[0]) ∈ pksO (((i + 1 : Nat) : Int)) (j + 1) (T.os i (j + 1)) := by
        rw [← pksO_get hpos]; exact List.getElem_mem _
      exact ⟨_, List.mem_append_right _ (List.mem_append_left _ (List.mem_append_right _ hm)), rfl, by unfold pkO; simp, by unfold pkO; simp⟩
theorem rcvA_ak {id : Int} {o : Oh} {p q : Pk} (h : q ∈ rcvA id o p) : q.ak = true ∧ p.ak = false ∧ q.fr = id ∧ q.ds = p.fr ∧ q.nu = (rcvO o p).cm := by
  unfold rcvA at h
  cases hp : p.ak with
  | true => rw [hp, if_pos rfl] at h; cases h
  | false =>
    rw [hp, if_neg (by decide)] at h
    by_cases hx : 0 < (rcvO o p).cm
    · rw [if_pos hx, List.mem_singleton] at h; subst h; exact ⟨rfl, rfl, rfl, rfl, rfl⟩
    · rw [if_neg hx] at h; cases h
/-- One packet comes: what was so of hosts i and j stays so. -/
theorem RI.step {T : Tk} (h : TkI T) {i j : Nat} (hi : i < 3) (hj : j < 3) (hij : i ≠ j) {p : Pk} {l : List Pk} (hw : T.way = p :: l) (hR : RI i j T) {a b : Nat} (ha : a < 3) (hb : b < 3) (h1 : p.fr = (a : Int) + 1) (h2 : p.ds = (b : Int) + 1) (h3 : 1 ≤ p.nu) (h4 : p.ak = true → p.nu ≤ (T.cm (4 * b + a)).length) : RI i j (({ T with way := l } : Tk).come a b p) := by
  obtain ⟨hr, hk⟩ := hR
  rw [hw, reach] at hr
  have hpr := h.pr i j hi hj hij
  have hle := h.le (4 * i + j) (by omega)
  have hacks : ∀ q ∈ rcvA ((b + 1 : Nat) : Int) (T.os b (a + 1)) p, q.ak = true ∨ q.ds ≠ (j : Int) + 1 := fun q hq => .inl (rcvA_ak hq).1
  unfold RI Tk.come
  dsimp only
  rw [reach_app, reach_none i j (rcvA ((b + 1 : Nat) : Int) (T.os b (a + 1)) p) _ hacks]
  by_cases eij : a = i ∧ b = j
  · obtain ⟨rfl, rfl⟩ := eij
    rw [upd_self]
    have hne : 4 * a + b ≠ 4 * b + a := fun e => hij (pair_inj hj hi e).1
    rw [upd_ne _ _ hne]
    cases hak : p.ak with
    | true =>
      have e1 : rcvC (T.os b (a + 1)) p = [] := by unfold rcvC; rw [hak, if_pos rfl]
      have hn : isNx a b (T.cm (4 * a + b)).length p = false := by unfold isNx; rw [hak]; rfl
      rw [hn, if_neg (by decide)] at hr
      rw [e1, List.map_nil, List.append_nil]
      refine ⟨hr, ?_⟩
      rcases hk with hk | ⟨q, hq, g1, g2, g3, g4⟩ | ⟨q, hq, g1, g2, g3⟩
      · exact .inl hk
      · rw [hw] at hq
        rcases List.mem_cons.1 hq with e | hq
        · subst e; omega
        · exact .inr (.inl ⟨q, List.mem_append_left _ hq, g1, g2, g3, g4⟩)
      · rw [hw] at hq
        rcases List.mem_cons.1 hq with e | hq
        · subst e; rw [hak] at g1; cases g1
        · exact .inr (.inr ⟨q, List.mem_append_left _ hq, g1, g2, g3⟩)
    | false =>
      have hcm : (T.cm (4 * a + b) ++ (rcvC (T.os b (a + 1)) p).map Pc.bd).length = (rcvO (T.os b (a + 1)) p).cm ∧ (T.cm (4 * a + b) ++ (rcvC (T.os b (a + 1)) p).map Pc.bd).length = if isNx a b (T.cm (4 * a + b)).length p = true then (T.cm (4 * a + b)).length + 1 else (T.cm (4 * a + b)).length := by
        have hx : isNx a b (T.cm (4 * a + b)).length p = decide (p.nu = ((T.cm (4 * a + b)).length : Int) + 1) := by unfold isNx; rw [hak, decide_eq_true h1, decide_eq_true h2]; simp
        rw [hx]
        unfold rcvC rcvO
        simp only [hak, Bool.false_eq_true, if_false, hpr.2.2.1, decide_eq_true_eq]
        by_cases hx : p.nu = ((T.cm (4 * a + b)).length : Int) + 1
        · rw [if_pos hx, if_pos hx, if_pos hx]; simp
        · rw [if_neg hx, if_neg hx, if_neg hx]; simp [hpr.2.2.1]
      refine ⟨by rw [hcm.2]; exact hr, ?_⟩
      by_cases hz : 0 < (rcvO (T.os b (a + 1)) p).cm
      · refine .inr (.inl ⟨⟨((b + 1 : Nat) : Int), p.fr, (rcvO (T.os b (a + 1)) p).cm, true, []⟩, List.mem_append_right _ ?_, rfl, by simp, h1, by rw [hcm.1]⟩)
        unfold rcvA
        rw [hak, if_neg (by decide), if_pos hz]
        exact List.mem_singleton.2 rfl
      · refine .inl ?_
        have := hcm.1
        have h0 : (T.cm (4 * a + b) ++ (rcvC (T.os b (a + 1)) p).map Pc.bd).length = 0 := by omega
        rw [h0]
        rw [List.length_append] at h0
        omega
  · have hn : isNx i j (T.cm (4 * i + j)).length p = false := by
      unfold isNx
      by_cases e : a = i
      · rw [decide_eq_false (show ¬ p.ds = (j : Int) + 1 by omega)]; simp
      · rw [decide_eq_false (show ¬ p.fr = (i : Int) + 1 by omega)]; simp
    rw [hn, if_neg (by decide)] at hr
    rw [upd_ne _ _ (show 4 * i + j ≠ 4 * a + b from fun e => eij (by have := pair_inj hj hb e; exact ⟨this.1.symm, this.2.symm⟩))]
    refine ⟨hr, ?_⟩
    by_cases eji : b = i ∧ a = j
    · obtain ⟨rfl, rfl⟩ := eji
      rw [upd_self]
      rcases hk with hk | ⟨q, hq, g1, g2, g3, g4⟩ | ⟨q, hq, g1, g2, g3⟩
      · refine .inl ?_
        rw [if_neg (fun x => by have := h4 x.1; omega)]
        exact hk
      · rw [hw] at hq
        rcases List.mem_cons.1 hq with e | hq
        · subst e
          refine .inl ?_
          by_cases hx : (T.kn (4 * b + a) : Int) < q.nu
          · rw [if_pos ⟨g1, hx⟩]; omega
          · rw [if_neg (fun x => hx x.2)]; omega
        · exact .inr (.inl ⟨q, List.mem_append_left _ hq, g1, g2, g3, g4⟩)
      · rw [hw] at hq
        rcases List.mem_cons.1 hq with e | hq
        · subst e; omega
        · exact .inr (.inr ⟨q, List.mem_append_left _ hq, g1, g2, g3⟩)
    · rw [upd_ne _ _ (show 4 * i + j ≠ 4 * b + a from fun e => eji (by have := pair_inj hj ha e; exact ⟨this.1.symm, this.2.symm⟩))]
      rcases hk with hk | ⟨q, hq, g1, g2, g3, g4⟩ | ⟨q, hq, g1, g2, g3⟩
      · exact .inl hk
      · rw [hw] at hq
        rcases List.mem_cons.1 hq with e | hq
        · subst e; exact absurd ⟨by omega, by omega⟩ eji
        · exact .inr (.inl ⟨q, List.mem_append_left _ hq, g1, g2, g3, g4⟩)
      · rw [hw] at hq
        rcases List.mem_cons.1 hq with e | hq
        · subst e; exact absurd ⟨by omega, by omega⟩ eij
        · exact .inr (.inr ⟨q, List.mem_append_left _ hq, g1, g2, g3⟩)
/-- All of host i's has come and is known to have. -/
def Dn (i : Nat) (T : Tk) : Prop := ∀ j, j < 3 → i ≠ j → T.kn (4 * i + j) = (T.sn (4 * i + j)).length
theorem RI.done {T : Tk} {i : Nat} (h : ∀ j, j < 3 → i ≠ j → RI i j T) (hw : T.way = []) : Dn i T := fun j hj hij => by
  obtain ⟨h1, h2⟩ := h j hj hij
  rw [hw] at h1 h2
  rw [reach] at h1
  rcases h2 with h2 | ⟨_, hp, _⟩ | ⟨_, hp, _⟩
  · omega
  · cases hp
  · cases hp
theorem Dn.step {T : Tk} {i a b : Nat} {p : Pk} (hi : i < 3) (h : Dn i T) (h' : TkI (T.come a b p)) : Dn i (T.come a b p) := fun j hj hij => by
  have h1 := h j hj hij
  have h2 := come_kn (T := T) (i := a) (j := b) (p := p) (4 * i + j)
  have h3 := h'.le (4 * i + j) (by omega)
  have e : (T.come a b p).sn (4 * i + j) = T.sn (4 * i + j) := rfl
  rw [e] at h3 ⊢
  omega
/-- How many steps what is on its way makes at most. -/
def ms (l : List Pk) : Nat := (l.map fun p => if p.ak = true then 1 else 2).sum
theorem ms_le (l : List Pk) : ms l ≤ 2 * l.length := by
  induction l with
  | nil => simp [ms]
  | cons p l ih =>
    unfold ms at ih ⊢
    simp only [List.map_cons, List.sum_cons, List.length_cons]
    split <;> omega
theorem ms_app (l m : List Pk) : ms (l ++ m) = ms l + ms m := by simp [ms]
theorem ms_step (p : Pk) (l : List Pk) (id : Int) (o : Oh) : ms (l ++ rcvA id o p) + 1 ≤ ms (p :: l) := by
  rw [ms_app]
  have : ms (p :: l) = (if p.ak = true then 1 else 2) + ms l := by simp [ms]
  rw [this]
  unfold rcvA
  cases hp : p.ak with
  | true => simp [ms]; omega
  | false =>
    simp only [Bool.false_eq_true, if_false]
    split <;> simp [ms] <;> omega
theorem come_len (T : Tk) (i j : Nat) (p : Pk) : (T.come i j p).way.length ≤ T.way.length + 1 := by
  unfold Tk.come
  dsimp only
  rw [List.length_append]
  have : (rcvA ((j + 1 : Nat) : Int) (T.os j (i + 1)) p).length ≤ 1 := by
    unfold rcvA; split
    · simp
    · split <;> simp
  omega
/-- At the end nothing waits, and all has come. -/
theorem TkI.end {T : Tk} (h : TkI T) (hd : ∀ i, i < 3 → Dn i T) : (∀ k, k < 16 → (T.cm k).length = (T.sn k).length) ∧ (∀ i, i < 3 → pksTo (((i + 1 : Nat) : Int)) (T.os i) 10 = []) := by
  refine ⟨fun k hk => ?_, fun i hi => ?_⟩
  · have hle := h.le k hk
    by_cases hx : ∃ i j, i < 3 ∧ j < 3 ∧ i ≠ j ∧ k = 4 * i + j
    · obtain ⟨i, j, hi, hj, hij, rfl⟩ := hx
      have := hd i hi j hj hij
      omega
    · have := h.off k hk hx
      rw [this] at hle ⊢
      simp at hle ⊢
      simp [hle]
  · apply List.eq_nil_iff_forall_not_mem.2
    intro p hp
    unfold pksTo at hp
    obtain ⟨k, hk, hp⟩ := List.mem_flatMap.1 hp
    have hk : k < 10 := by simpa using hk
    by_cases hx : k = 0 ∨ 3 < k ∨ k = i + 1
    · rw [h.ot i k hi hk hx] at hp; unfold pksO oh0 at hp; simp at hp
    · obtain ⟨j, rfl⟩ : ∃ j, k = j + 1 := ⟨k - 1, by omega⟩
      have := hd i hi j (by omega) (by omega)
      have h2 := h.wtlen hi (show j < 3 by omega) (show i ≠ j by omega)
      obtain ⟨n, hn, _⟩ := List.getElem_of_mem hp
      rw [pksO_len] at hn
      omega
end Go.Proofs.Ytmlncfnnldplgaa
