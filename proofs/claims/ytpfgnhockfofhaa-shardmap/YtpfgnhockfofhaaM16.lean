/-
  Joined: WSm1, WSm2.
-/
import Derived.Test.YtpfgnhockfofhaaM15
/-
  Shared by many, plainly: what was sent, and what has come.
-/
namespace Go.Proofs.Ytpfgnhockfofhaa
open Go.RowKit

/-- What host i knows that host j has; what waits there; what host j has of host i's. -/
def AK (S : Sd) (i j : Nat) : Nat := ((S.ho i).os (j + 1)).ak
def WT (S : Sd) (i j : Nat) : List (List UInt8) := ((S.ho i).os (j + 1)).wt
def CM (S : Sd) (i j : Nat) : Nat := ((S.ho j).os (i + 1)).cm
abbrev Snt := Nat → Nat → List (List UInt8)
/-- A packet that may be on its way. -/
def OkW (S : Sd) (sn : Snt) (p : Pk) : Prop := ∃ i j : Nat, i < S.n ∧ j < S.n ∧ i ≠ j ∧ p.fr = (i : Int) + 1 ∧ p.ds = (j : Int) + 1 ∧ 1 ≤ p.nu ∧ (p.ak = true → p.nu ≤ CM S j i) ∧ (p.ak = false → p.nu ≤ (sn i j).length ∧ (sn i j)[p.nu.toNat - 1]? = some p.bd)
structure RS (S : Sd) (sn : Snt) : Prop where
  wt : ∀ i j, i < S.n → j < S.n → i ≠ j → WT S i j = (sn i j).drop (AK S i j)
  le : ∀ i j, i < S.n → j < S.n → i ≠ j → AK S i j ≤ CM S i j ∧ CM S i j ≤ (sn i j).length
  wy : ∀ p ∈ S.wy, OkW S sn p
  ot : ∀ i k, i < S.n → k < 10 → (k = 0 ∨ S.n < k ∨ k = i + 1) → (S.ho i).os k = oh0
theorem RS.start (n : Nat) : RS (sd0 n) (fun _ _ => []) := ⟨fun _ _ _ _ _ => rfl, fun _ _ _ _ _ => ⟨Nat.le_refl _, Nat.le_refl _⟩, fun p hp => (by cases hp), fun _ _ _ _ _ => rfl⟩
theorem OkW.up {S S' : Sd} {sn sn' : Snt} {p : Pk} (h : OkW S sn p) (hn : S'.n = S.n) (hc : ∀ i j, i < S.n → j < S.n → i ≠ j → CM S i j ≤ CM S' i j) (hs : ∀ i j, ∃ l, sn' i j = sn i j ++ l) : OkW S' sn' p := by
  obtain ⟨i, j, hi, hj, hij, h1, h2, h3, h4, h5⟩ := h
  refine ⟨i, j, by omega, by omega, hij, h1, h2, h3, fun e => ?_, fun e => ?_⟩
  · have := h4 e
    have := hc j i hj hi (Ne.symm hij)
    omega
  · obtain ⟨l, hl⟩ := hs i j
    obtain ⟨a, b⟩ := h5 e
    rw [hl, List.length_append]
    refine ⟨by omega, ?_⟩
    rw [List.getElem?_append_left (by omega)]
    exact b
/-- Neither relays nor what was sent changes. -/
theorem RS.same {S S' : Sd} {sn : Snt} (h : RS S sn) (hn : S'.n = S.n) (ho : ∀ i, (S'.ho i).os = (S.ho i).os) (hw : ∀ p ∈ S'.wy, p ∈ S.wy) : RS S' sn := by
  have e1 : ∀ i j, AK S' i j = AK S i j := fun i j => by unfold AK; rw [ho]
  have e2 : ∀ i j, WT S' i j = WT S i j := fun i j => by unfold WT; rw [ho]
  have e3 : ∀ i j, CM S' i j = CM S i j := fun i j => by unfold CM; rw [ho]
  refine ⟨fun i j hi hj hij => ?_, fun i j hi hj hij => ?_, fun p hp => (h.wy p (hw p hp)).up hn (fun i j _ _ _ => by rw [e3]; exact Nat.le_refl _) (fun i j => ⟨[], by simp⟩), fun i k hi hk hx => by rw [ho]; exact h.ot i k (by omega) hk (by omega)⟩
  · rw [e1, e2]; exact h.wt i j (by omega) (by omega) hij
  · rw [e1, e3]; exact h.le i j (by omega) (by omega) hij
theorem RS.ways {S S' : Sd} {sn : Snt} (h : RS S sn) (hn : S'.n = S.n) (ho : ∀ i, (S'.ho i).os = (S.ho i).os) (hw : ∀ p ∈ S'.wy, OkW S sn p) : RS S' sn := by
  have e1 : ∀ i j, AK S' i j = AK S i j := fun i j => by unfold AK; rw [ho]
  have e2 : ∀ i j, WT S' i j = WT S i j := fun i j => by unfold WT; rw [ho]
  have e3 : ∀ i j, CM S' i j = CM S i j := fun i j => by unfold CM; rw [ho]
  refine ⟨fun i j hi hj hij => ?_, fun i j hi hj hij => ?_, fun p hp => (hw p hp).up hn (fun i j _ _ _ => by rw [e3]; exact Nat.le_refl _) (fun i j => ⟨[], by simp⟩), fun i k hi hk hx => by rw [ho]; exact h.ot i k (by omega) hk (by omega)⟩
  · rw [e1, e2]; exact h.wt i j (by omega) (by omega) hij
  · rw [e1, e3]; exact h.le i j (by omega) (by omega) hij
def put2 (sn : Snt) (i j : Nat) (b : List UInt8) : Snt := fun a c => if a = i ∧ c = j then sn i j ++ [b] else sn a c
theorem put2_self (sn : Snt) (i j : Nat) (b : List UInt8) : put2 sn i j b i j = sn i j ++ [b] := if_pos ⟨rfl, rfl⟩
theorem put2_ne (sn : Snt) {i j a c : Nat} (b : List UInt8) (h : ¬ (a = i ∧ c = j)) : put2 sn i j b a c = sn a c := if_neg h
theorem put2_app (sn : Snt) (i j : Nat) (b : List UInt8) (a c : Nat) : ∃ l, put2 sn i j b a c = sn a c ++ l := by
  by_cases h : a = i ∧ c = j
  · obtain ⟨rfl, rfl⟩ := h; exact ⟨[b], put2_self ..⟩
  · exact ⟨[], by rw [put2_ne _ _ h]; simp⟩
/-- Host i sends host j a body. -/
theorem RS.send {S : Sd} {sn : Snt} (h : RS S sn) {i j : Nat} (hi : i < S.n) (hj : j < S.n) (hij : i ≠ j) (b : List UInt8) {hd : Hd} (ho : hd.os = upd (S.ho i).os (j + 1) (sendO ((S.ho i).os (j + 1)) b)) : RS (putH S i hd) (put2 sn i j b) := by
  have a0 : ∀ a k, ((putH S i hd).ho a).os k = if a = i ∧ k = j + 1 then sendO ((S.ho i).os (j + 1)) b else (S.ho a).os k := fun a k => by
    show (upd S.ho i hd a).os k = _
    by_cases e : a = i
    · subst e
      rw [upd_self, ho]
      by_cases e2 : k = j + 1
      · subst e2; rw [upd_self, if_pos ⟨rfl, rfl⟩]
      · rw [upd_ne _ _ e2, if_neg (fun x => e2 x.2)]
    · rw [upd_ne _ _ e, if_neg (fun x => e x.1)]
  have e1 : ∀ a c, AK (putH S i hd) a c = AK S a c := fun a c => by
    unfold AK; rw [a0]; split
    · rename_i e; rw [e.1, e.2]; rfl
    · rfl
  have e3 : ∀ a c, CM (putH S i hd) a c = CM S a c := fun a c => by
    unfold CM; rw [a0]; split
    · rename_i e; rw [e.1, show a + 1 = j + 1 from e.2]; rfl
    · rfl
  refine ⟨fun a c ha hc hac => ?_, fun a c ha hc hac => ?_, fun p hp => (h.wy p hp).up rfl (fun x y _ _ _ => by rw [e3]; exact Nat.le_refl _) (put2_app sn i j b), fun a k ha hk hx => by rw [a0, if_neg (fun z => by have : (putH S i hd).n = S.n := rfl; omega)]; exact h.ot a k ha hk hx⟩
  · rw [e1]
    by_cases e : a = i ∧ c = j
    · obtain ⟨rfl, rfl⟩ := e
      rw [put2_self]
      have hl := h.le a c ha hc hac
      rw [List.drop_append_of_le_length (by omega), ← h.wt a c ha hc hac]
      unfold WT; rw [a0, if_pos ⟨rfl, rfl⟩]; rfl
    · rw [put2_ne _ _ e, ← h.wt a c ha hc hac]
      unfold WT; rw [a0, if_neg (fun x => e ⟨x.1, by omega⟩)]
  · rw [e1, e3]
    obtain ⟨l, hl⟩ := put2_app sn i j b a c
    have := h.le a c ha hc hac
    rw [hl, List.length_append]
    omega
theorem pksO_get {id : Int} {k : Nat} {o : Oh} {i : Nat} (hi : i < o.wt.length) : (pksO id k o)[i]'(by rw [pksO_len]; exact hi) = pkO id k o i o.wt[i] := by simp [pksO]
/-- What a relay has waiting may be on its way. -/
theorem RS.waits {S : Sd} {sn : Snt} (h : RS S sn) {i : Nat} (hi : i < S.n) (ht : Tos S.n (i + 1 : Nat) (S.ho i)) : ∀ p ∈ pksTo (i + 1 : Nat) (S.ho i).os 10, OkW S sn p := fun p hp => by
  unfold pksTo at hp
  obtain ⟨k, hk, hp⟩ := List.mem_flatMap.1 hp
  have hk : k < 10 := by simpa using hk
  obtain ⟨m, hm, e⟩ := List.getElem_of_mem hp
  have hm' : m < ((S.ho i).os k).wt.length := by rw [pksO_len] at hm; exact hm
  rw [pksO_get hm'] at e
  obtain ⟨k1, k2, k3⟩ := ht k hk (fun e => by rw [e] at hm'; simp at hm')
  obtain ⟨j, rfl⟩ : ∃ j, k = j + 1 := ⟨k - 1, by omega⟩
  have hj : j < S.n := by omega
  have hij : i ≠ j := by omega
  have hwt := h.wt i j hi hj hij
  have hle := h.le i j hi hj hij
  have hl : (WT S i j).length = (sn i j).length - AK S i j := by rw [hwt, List.length_drop]
  have hm2 : m < (WT S i j).length := hm'
  subst e
  refine ⟨i, j, hi, hj, hij, by unfold pkO; simp, by unfold pkO; simp, by unfold pkO; simp; omega, fun x => by unfold pkO at x; simp at x, fun _ => ⟨?_, ?_⟩⟩
  · unfold pkO; dsimp only
    show (AK S i j : Int) + 1 + (m : Int) ≤ _
    omega
  · unfold pkO
    dsimp only
    rw [show ((((S.ho i).os (j + 1)).ak : Int) + 1 + (m : Int)).toNat - 1 = AK S i j + m by unfold AK; omega, ← List.getElem?_drop, ← hwt]
    exact List.getElem?_eq_getElem hm'
theorem RS.sendAll {S : Sd} {sn : Snt} (h : RS S sn) {i : Nat} (hi : i < S.n) (ht : Tos S.n (i + 1 : Nat) (S.ho i)) : RS (sendS i S) sn :=
  h.ways rfl (fun _ => rfl) (fun p hp => by
    rcases List.mem_append.1 hp with hp | hp
    · exact h.wy p hp
    · exact h.waits hi ht p hp)
theorem RS.drop {S : Sd} {sn : Snt} (h : RS S sn) (k : Nat) : RS (dropW k S) sn := h.same rfl (fun _ => rfl) (fun p hp => by
  rcases List.mem_append.1 hp with hp | hp
  · exact List.mem_of_mem_take hp
  · exact List.mem_of_mem_drop hp)
/-- Host j's relay when a packet from host i has come. -/
theorem comes_os {S : Sd} {p : Pk} {i j : Nat} (hij : i ≠ j) (hi : i < S.n) (h9 : S.n ≤ 9) (h1 : p.fr = (i : Int) + 1) (h2 : p.ds = (j : Int) + 1) (h3 : 1 ≤ p.nu) (a k : Nat) : ((comesS p S).ho a).os k = if a = j ∧ k = i + 1 then rcvO ((S.ho j).os (i + 1)) p else (S.ho a).os k := by
  have hg : goodP p.ds p = true := by
    unfold goodP isOth isNd
    rw [h1, h2]
    simp
    omega
  show (upd S.ho (p.ds.toNat - 1) (comeH p.ds p (S.ho (p.ds.toNat - 1))) a).os k = _
  rw [show p.ds.toNat - 1 = j by omega]
  by_cases e : a = j
  · subst e
    rw [upd_self, come_os]
    unfold rcvH
    dsimp only
    rw [hg, if_pos rfl, show p.fr.toNat = i + 1 by omega]
    by_cases e2 : k = i + 1
    · subst e2; rw [upd_self, if_pos ⟨rfl, rfl⟩]
    · rw [upd_ne _ _ e2, if_neg (fun x => e2 x.2)]
  · rw [upd_ne _ _ e, if_neg (fun x => e x.1)]
theorem ack_end {o : Oh} {m : Int} {l : List (List UInt8)} {c : Nat} (hw : o.wt = l.drop o.ak) (hl : o.ak ≤ c ∧ c ≤ l.length) (hm : m ≤ c) : (ackO o m).wt = l.drop (ackO o m).ak ∧ (ackO o m).ak ≤ c ∧ (ackO o m).cm = o.cm := by
  unfold ackO
  split
  · exact ⟨hw, hl.1, rfl⟩
  · rename_i h
    refine ⟨?_, by show m.toNat ≤ c; omega, rfl⟩
    dsimp only
    rw [hw, List.drop_drop]
    congr 1
    omega
/-- A packet comes: what has come of what was sent. -/
structure Cms (S : Sd) (p : Pk) (i j : Nat) : Prop where
  cm : ∀ a c, CM (comesS p S) a c = if a = i ∧ c = j ∧ p.ak = false ∧ p.nu = (CM S i j : Int) + 1 then CM S i j + 1 else CM S a c
theorem RS.comes {S : Sd} {sn : Snt} (h : RS S sn) {p : Pk} {i j : Nat} (h9 : S.n ≤ 9) (hi : i < S.n) (hj : j < S.n) (hij : i ≠ j) (h1 : p.fr = (i : Int) + 1) (h2 : p.ds = (j : Int) + 1) (h3 : 1 ≤ p.nu) (h4 : p.ak = true → p.nu ≤ CM S j i) (h5 : p.ak = false → p.nu ≤ (sn i j).length ∧ (sn i j)[p.nu.toNat - 1]? = some p.bd) : RS (comesS p S) sn ∧ Cms S p i j := by
  have a0 := comes_os (S := S) (p := p) hij hi h9 h1 h2 h3
  have hcm : Cms S p i j := ⟨fun a c => by
    unfold CM
    rw [a0]
    by_cases e : c = j ∧ a + 1 = i + 1
    · obtain ⟨rfl, e2⟩ := e
      obtain rfl : a = i := by omega
      rw [if_pos ⟨rfl, rfl⟩]
      unfold rcvO
      cases hak : p.ak with
      | true =>
        have := (ack_end (o := (S.ho c).os (a + 1)) (m := p.nu) (l := sn c a) (c := CM S c a) (h.wt c a hj hi (Ne.symm hij)) (h.le c a hj hi (Ne.symm hij)) (h4 hak)).2.2
        rw [if_pos rfl, this, if_neg (fun x => by cases x.2.2.1)]
      | false =>
        rw [if_neg (by decide)]
        by_cases hx : p.nu = ((((S.ho c).os (a + 1)).cm : Nat) : Int) + 1
        · rw [if_pos hx, if_pos ⟨rfl, rfl, rfl, hx⟩]
        · rw [if_neg hx, if_neg (fun x => hx x.2.2.2)]
    · rw [if_neg e, if_neg (fun x => e ⟨x.2.1, by omega⟩)]⟩
  have hge : ∀ a c, CM S a c ≤ CM (comesS p S) a c := fun a c => by
    rw [hcm.cm]; split
    · rename_i e; rw [e.1, e.2.1]; omega
    · exact Nat.le_refl _
  have hle : ∀ a c, a < S.n → c < S.n → a ≠ c → CM (comesS p S) a c ≤ (sn a c).length := fun a c ha hc hac => by
    rw [hcm.cm]
    split
    · rename_i e
      obtain ⟨rfl, rfl, e3, e4⟩ := e
      have := (h5 e3).1
      omega
    · exact (h.le a c ha hc hac).2
  have hak : ∀ a c, a < S.n → c < S.n → a ≠ c → WT (comesS p S) a c = (sn a c).drop (AK (comesS p S) a c) ∧ AK (comesS p S) a c ≤ CM S a c := fun a c ha hc hac => by
    unfold WT AK
    rw [a0]
    by_cases e : a = j ∧ c + 1 = i + 1
    · obtain ⟨rfl, e2⟩ := e
      obtain rfl : c = i := by omega
      rw [if_pos ⟨rfl, rfl⟩]
      unfold rcvO
      cases hk : p.ak with
      | true =>
        have := ack_end (o := (S.ho a).os (c + 1)) (m := p.nu) (l := sn a c) (c := CM S a c) (h.wt a c ha hc hac) (h.le a c ha hc hac) (h4 hk)
        rw [if_pos rfl]
        exact ⟨this.1, this.2.1⟩
      | false =>
        rw [if_neg (by decide)]
        have hw := h.wt a c ha hc hac
        have hl := (h.le a c ha hc hac).1
        split
        · exact ⟨hw, hl⟩
        · exact ⟨hw, hl⟩
    · rw [if_neg e]
      exact ⟨h.wt a c ha hc hac, (h.le a c ha hc hac).1⟩
  refine ⟨⟨fun a c ha hc hac => (hak a c ha hc hac).1, fun a c ha hc hac => ⟨Nat.le_trans (hak a c ha hc hac).2 (hge a c), hle a c ha hc hac⟩, fun q hq => ?_, fun a k ha hk hx => by rw [a0, if_neg (fun z => by have : (comesS p S).n = S.n := rfl; omega)]; exact h.ot a k ha hk hx⟩, hcm⟩
  rcases List.mem_append.1 hq with hq | hq
  · exact (h.wy q hq).up rfl (fun a c _ _ _ => hge a c) (fun _ _ => ⟨[], by simp⟩)
  · unfold aksH at hq
    split at hq
    · unfold rcvA at hq
      split at hq
      · cases hq
      · split at hq
        · rename_i hk hpos
          rw [List.mem_singleton.1 hq]
          refine ⟨j, i, hj, hi, Ne.symm hij, h2, h1, by show (1 : Int) ≤ ((rcvO ((S.ho (p.ds.toNat - 1)).os p.fr.toNat) p).cm : Int); omega, fun _ => ?_, fun e => by cases e⟩
          show (((rcvO ((S.ho (p.ds.toNat - 1)).os p.fr.toNat) p).cm : Nat) : Int) ≤ ((CM (comesS p S) i j : Nat) : Int)
          unfold CM
          rw [a0, if_pos ⟨rfl, rfl⟩, show p.ds.toNat - 1 = j by omega, show p.fr.toNat = i + 1 by omega]
          exact Int.le_refl _
        · cases hq
    · cases hq
end Go.Proofs.Ytpfgnhockfofhaa

/-
  Shared by many, plainly: once packets come, all that was sent has come.
-/
namespace Go.Proofs.Ytpfgnhockfofhaa
open Go.RowKit

/-- Is it the next body from host i to host j? -/
def isNx (i j c : Nat) (p : Pk) : Bool := !p.ak && decide (p.fr = (i : Int) + 1) && decide (p.ds = (j : Int) + 1) && decide (p.nu = (c : Int) + 1)
/-- How far host j comes with what is on its way from host i. -/
def reach (i j : Nat) : Nat → List Pk → Nat
  | c, [] => c
  | c, p :: l => reach i j (if isNx i j c p = true then c + 1 else c) l
theorem reach_app (i j : Nat) : ∀ (l m : List Pk) (c : Nat), reach i j c (l ++ m) = reach i j (reach i j c l) m
  | [], _, _ => rfl
  | p :: l, m, c => by rw [List.cons_append, reach, reach, reach_app i j l m]
theorem reach_ge (i j : Nat) : ∀ (l : List Pk) (c : Nat), c ≤ reach i j c l
  | [], c => Nat.le_refl c
  | p :: l, c => by
    rw [reach]
    have := reach_ge i j l (if isNx i j c p = true then c + 1 else c)
    split at this <;> simp_all <;> omega
theorem reach_le (i j s : Nat) : ∀ (l : List Pk) (c : Nat), c ≤ s → (∀ p ∈ l, p.ak = false → p.fr = (i : Int) + 1 → p.ds = (j : Int) + 1 → p.nu ≤ s) → reach i j c l ≤ s
  | [], c, h, _ => h
  | p :: l, c, h, hl => by
    rw [reach]
    refine reach_le i j s l _ ?_ (fun q hq => hl q (List.mem_cons_of_mem _ hq))
    by_cases hn : isNx i j c p = true
    · rw [if_pos hn]
      unfold isNx at hn
      simp only [Bool.and_eq_true, Bool.not_eq_true', decide_eq_true_eq] at hn
      have := hl p List.mem_cons_self hn.1.1.1 hn.1.1.2 hn.1.2
      omega
    · rw [if_neg hn]; exact h
theorem reach_none (i j : Nat) : ∀ (l : List Pk) (c : Nat), (∀ p ∈ l, p.ak = true ∨ p.ds ≠ (j : Int) + 1) → reach i j c l = c
  | [], c, _ => rfl
  | p :: l, c, h => by
    have hp := h p List.mem_cons_self
    have hn : isNx i j c p = false := by
      unfold isNx
      rcases hp with hp | hp
      · rw [hp]; rfl
      · rw [decide_eq_false hp]; simp
    rw [reach, hn, if_neg (by decide)]
    exact reach_none i j l c (fun q hq => h q (List.mem_cons_of_mem _ hq))
theorem pksO_cons (id : Int) (k ak cm : Nat) (x : List UInt8) (t : List (List UInt8)) : pksO id k ⟨ak, x :: t, cm⟩ = ⟨id, k, (ak : Int) + 1, false, x⟩ :: pksO id k ⟨ak + 1, t, cm⟩ := by
  unfold pksO
  rw [List.mapIdx_cons]
  have e : (fun (n : Nat) (y : List UInt8) => pkO id k ⟨ak, x :: t, cm⟩ (n + 1) y) = pkO id k ⟨ak + 1, t, cm⟩ := by
    funext n y
    unfold pkO
    have : (ak : Int) + 1 + ((n + 1 : Nat) : Int) = ((ak + 1 : Nat) : Int) + 1 + (n : Int) := by omega
    dsimp only
    rw [this]
  rw [e]
  congr 1
theorem reach_waits (i j cm : Nat) : ∀ (wt : List (List UInt8)) (a c : Nat), a ≤ c → c ≤ a + wt.length → reach i j c (pksO ((i + 1 : Nat) : Int) (j + 1) ⟨a, wt, cm⟩) = a + wt.length
  | [], a, c, h1, h2 => by
    have : pksO ((i + 1 : Nat) : Int) (j + 1) ⟨a, [], cm⟩ = [] := rfl
    rw [this, reach]
    simp at h2 ⊢
    omega
  | x :: t, a, c, h1, h2 => by
    rw [pksO_cons, reach]
    simp only [List.length_cons] at h2 ⊢
    by_cases e : c = a
    · have hn : isNx i j c ⟨((i + 1 : Nat) : Int), ((j + 1 : Nat) : Int), (a : Int) + 1, false, x⟩ = true := by
        unfold isNx
        simp only [Bool.and_eq_true, Bool.not_eq_true', decide_eq_true_eq]
        refine ⟨⟨⟨trivial, by omega⟩, by omega⟩, by omega⟩
      rw [hn, if_pos rfl, reach_waits i j cm t (a + 1) (c + 1) (by omega) (by omega)]
      omega
    · have hn : isNx i j c ⟨((i + 1 : Nat) : Int), ((j + 1 : Nat) : Int), (a : Int) + 1, false, x⟩ = false := by
        unfold isNx
        rw [decide_eq_false (show ¬ (a : Int) + 1 = (c : Int) + 1 by omega), Bool.and_false]
      rw [hn, if_neg (by decide), reach_waits i j cm t (a + 1) c (by omega) (by omega)]
      omega
theorem pksO_ds {id : Int} {k : Nat} {o : Oh} {p : Pk} (h : p ∈ pksO id k o) : p.ds = (k : Int) := by
  obtain ⟨n, hn, e⟩ := List.getElem_of_mem h
  rw [pksO_len] at hn
  rw [pksO_get hn] at e
  subst e
  rfl
theorem pksTo_split (id : Int) (os : Nat → Oh) (k : Nat) : ∀ n, k < n → ∃ A B, pksTo id os n = A ++ pksO id k (os k) ++ B ∧ (∀ p ∈ A, p.ds ≠ (k : Int)) ∧ (∀ p ∈ B, p.ds ≠ (k : Int))
  | 0, h => by omega
  | n + 1, h => by
    rw [pksTo_next]
    by_cases e : k = n
    · subst e
      refine ⟨_, [], (List.append_nil _).symm, fun p hp => ?_, fun p hp => by cases hp⟩
      unfold pksTo at hp
      obtain ⟨q, hq, hp⟩ := List.mem_flatMap.1 hp
      have hq : q < k := by simpa using hq
      rw [pksO_ds hp]
      omega
    · obtain ⟨A, B, e1, h1, h2⟩ := pksTo_split id os k n (by omega)
      refine ⟨A, B ++ pksO id n (os n), by rw [e1]; simp [List.append_assoc], h1, fun p hp => ?_⟩
      rcases List.mem_append.1 hp with hp | hp
      · exact h2 p hp
      · rw [pksO_ds hp]; omega
theorem rcvA_ak {id : Int} {o : Oh} {p q : Pk} (h : q ∈ rcvA id o p) : q.ak = true ∧ p.ak = false ∧ q.fr = id ∧ q.ds = p.fr ∧ q.nu = (rcvO o p).cm := by
  unfold rcvA at h
  cases hp : p.ak with
  | true => rw [hp, if_pos rfl] at h; cases h
  | false =>
    rw [hp, if_neg (by decide)] at h
    by_cases hx : 0 < (rcvO o p).cm
    · rw [if_pos hx, List.mem_singleton] at h; subst h; exact ⟨rfl, rfl, rfl, rfl, rfl⟩
    · rw [if_neg hx] at h; cases h
/-- How many steps what is on its way makes at most. -/
def ms (l : List Pk) : Nat := (l.map fun p => if p.ak = true then 1 else 2).sum
theorem ms_le (l : List Pk) : ms l ≤ 2 * l.length := by
  induction l with
  | nil => simp [ms]
  | cons p l ih =>
    unfold ms at ih ⊢
    simp only [List.map_cons, List.sum_cons, List.length_cons]
    split <;> omega
theorem ms_app (l m : List Pk) : ms (l ++ m) = ms l + ms m := by simp [ms]
theorem ms_step (p : Pk) (l : List Pk) (id : Int) (o : Oh) : ms (l ++ rcvA id o p) + 1 ≤ ms (p :: l) := by
  rw [ms_app]
  have : ms (p :: l) = (if p.ak = true then 1 else 2) + ms l := by simp [ms]
  rw [this]
  unfold rcvA
  cases hp : p.ak with
  | true => simp [ms]; omega
  | false =>
    simp only [Bool.false_eq_true, if_false]
    split <;> simp [ms] <;> omega
/-- All that was sent has come. -/
def Dlv (S : Sd) (sn : Snt) : Prop := ∀ i j, i < S.n → j < S.n → i ≠ j → CM S i j = (sn i j).length
/-- With what is on its way all that host i sent will have come. -/
def Rch (S : Sd) (sn : Snt) (i : Nat) : Prop := ∀ j, j < S.n → i ≠ j → reach i j (CM S i j) S.wy = (sn i j).length
theorem OkW.nu {S : Sd} {sn : Snt} {p : Pk} (h : OkW S sn p) {i j : Nat} (h1 : p.ak = false) (h2 : p.fr = (i : Int) + 1) (h3 : p.ds = (j : Int) + 1) : p.nu ≤ (sn i j).length := by
  obtain ⟨a, b, ha, hb, hab, g1, g2, g3, g4, g5⟩ := h
  obtain rfl : a = i := by omega
  obtain rfl : b = j := by omega
  exact (g5 h1).1
/-- More on its way: it is still so. -/
theorem Rch.more {S S' : Sd} {sn : Snt} {i : Nat} (h : Rch S sn i) (x : RS S' sn) (hn : S'.n = S.n) (hc : ∀ j, CM S' i j = CM S i j) {l : List Pk} (hw : S'.wy = S.wy ++ l) : Rch S' sn i := fun j hj hij => by
  rw [hn] at hj
  have h0 := h j hj hij
  rw [hc, hw, reach_app, h0]
  have h1 := reach_ge i j l (sn i j).length
  have h2 := reach_le i j (sn i j).length l (sn i j).length (Nat.le_refl _) (fun p hp f1 f2 f3 => (x.wy p (by rw [hw]; exact List.mem_append_right _ hp)).nu f1 f2 f3)
  omega
/-- Host i sends all that waits: it will come. -/
theorem RS.rchAll {S : Sd} {sn : Snt} (h : RS S sn) {i : Nat} (h9 : S.n ≤ 9) (hi : i < S.n) : Rch (sendS i S) sn i := fun j hj hij => by
  have hj : j < S.n := hj
  have hwt := h.wt i j hi hj hij
  have hle := h.le i j hi hj hij
  have hl : (WT S i j).length = (sn i j).length - AK S i j := by rw [hwt, List.length_drop]
  obtain ⟨A, B, e1, h1, h2⟩ := pksTo_split (((i + 1 : Nat) : Int)) (S.ho i).os (j + 1) 10 (by omega)
  have hA : ∀ p ∈ A, p.ak = true ∨ p.ds ≠ (j : Int) + 1 := fun p hp => .inr (by have := h1 p hp; omega)
  have hB : ∀ p ∈ B, p.ak = true ∨ p.ds ≠ (j : Int) + 1 := fun p hp => .inr (by have := h2 p hp; omega)
  have hc := reach_ge i j S.wy (CM S i j)
  have hc2 := reach_le i j (sn i j).length S.wy (CM S i j) hle.2 (fun p hp f1 f2 f3 => (h.wy p hp).nu f1 f2 f3)
  show reach i j (CM S i j) (S.wy ++ pksTo (i + 1 : Nat) (S.ho i).os 10) = _
  rw [reach_app, e1, reach_app, reach_app, reach_none i j A _ hA, reach_none i j B _ hB]
  have ho : (S.ho i).os (j + 1) = ⟨AK S i j, WT S i j, ((S.ho i).os (j + 1)).cm⟩ := rfl
  rw [ho, reach_waits i j _ _ _ _ (by omega) (by omega)]
  omega
/-- The first packet comes. -/
theorem carry_nil {S : Sd} (h : S.wy = []) (kd n : Int) : carryS kd n S = S := by
  unfold carryS
  rw [h]
  rfl
theorem carry_one {S : Sd} {p : Pk} {l : List Pk} (h : S.wy = p :: l) : carryS 6 0 S = comesS p (dropW 0 S) ∧ (dropW 0 S).wy = l := by
  have e : atW 0 S.wy.length = 0 := by unfold atW; simp
  refine ⟨?_, ?_⟩
  · unfold carryS
    rw [e, h]
    rfl
  · show S.wy.take 0 ++ S.wy.drop (0 + 1) = l
    rw [h]
    rfl
theorem aks_sub (id : Int) (p : Pk) (h : Hd) : ∀ q ∈ aksH id p h, q.ak = true := fun q hq => by
  unfold aksH at hq
  split at hq
  · exact (rcvA_ak hq).1
  · cases hq
theorem ms_aks (p : Pk) (l : List Pk) (id : Int) (h : Hd) : ms (l ++ aksH id p h) + 1 ≤ ms (p :: l) := by
  unfold aksH
  split
  · exact ms_step p l id _
  · rw [List.append_nil]
    unfold ms
    simp only [List.map_cons, List.sum_cons]
    split <;> omega
theorem RS.one {S : Sd} {sn : Snt} (h : RS S sn) (h9 : S.n ≤ 9) {p : Pk} {l : List Pk} (hw : S.wy = p :: l) : RS (carryS 6 0 S) sn ∧ ms (carryS 6 0 S).wy + 1 ≤ ms S.wy ∧ ∀ i, i < S.n → Rch S sn i → Rch (carryS 6 0 S) sn i := by
  obtain ⟨e1, e2⟩ := carry_one hw
  obtain ⟨a, b, ha, hb, hab, g1, g2, g3, g4, g5⟩ := h.wy p (by rw [hw]; exact List.mem_cons_self ..)
  obtain ⟨r, c⟩ := (h.drop 0).comes (p := p) (i := a) (j := b) h9 ha hb hab g1 g2 g3 g4 g5
  rw [e1]
  refine ⟨r, ?_, fun i hi hr j hj hij => ?_⟩
  · show ms ((dropW 0 S).wy ++ aksH p.ds p ((dropW 0 S).ho (p.ds.toNat - 1))) + 1 ≤ _
    rw [e2, hw]
    exact ms_aks _ _ _ _
  · have hj : j < S.n := hj
    have h0 := hr j hj hij
    rw [hw, reach] at h0
    show reach i j (CM (comesS p (dropW 0 S)) i j) ((dropW 0 S).wy ++ aksH p.ds p ((dropW 0 S).ho (p.ds.toNat - 1))) = _
    rw [reach_app, reach_none i j (aksH _ _ _) _ (fun q hq => .inl (aks_sub _ _ _ q hq)), e2, ← h0]
    congr 1
    rw [c.cm]
    have e3 : ∀ x y, CM (dropW 0 S) x y = CM S x y := fun _ _ => rfl
    rw [e3, e3]
    by_cases e : isNx i j (CM S i j) p = true
    · rw [if_pos e]
      unfold isNx at e
      simp only [Bool.and_eq_true, Bool.not_eq_true', decide_eq_true_eq] at e
      obtain rfl : i = a := by omega
      obtain rfl : j = b := by omega
      rw [if_pos ⟨rfl, rfl, e.1.1.1, e.2⟩]
    · rw [if_neg e, if_neg]
      rintro ⟨rfl, rfl, x3, x4⟩
      apply e
      unfold isNx
      rw [x3, decide_eq_true g1, decide_eq_true g2, decide_eq_true x4]
      rfl
theorem RS.many {S : Sd} {sn : Snt} (h : RS S sn) (h9 : S.n ≤ 9) : ∀ k, RS (carriesS k S) sn ∧ ((carriesS k S).wy = [] ∨ ms (carriesS k S).wy + k ≤ ms S.wy) ∧ ∀ i, i < S.n → Rch S sn i → Rch (carriesS k S) sn i
  | 0 => ⟨h, .inr (Nat.le_refl _), fun _ _ x => x⟩
  | k + 1 => by
    obtain ⟨r, m, c⟩ := RS.many h h9 k
    have hn := carries_n k S
    show RS (carryS 6 0 (carriesS k S)) sn ∧ ((carryS 6 0 (carriesS k S)).wy = [] ∨ ms (carryS 6 0 (carriesS k S)).wy + (k + 1) ≤ _) ∧ ∀ i, i < S.n → Rch S sn i → Rch (carryS 6 0 (carriesS k S)) sn i
    cases hw : (carriesS k S).wy with
    | nil => rw [carry_nil hw]; exact ⟨r, .inl hw, c⟩
    | cons p l =>
      obtain ⟨r2, m2, c2⟩ := r.one (by omega) hw
      refine ⟨r2, .inr ?_, fun i hi x => c2 i (by omega) (c i hi x)⟩
      rcases m with m | m
      · rw [m] at hw; cases hw
      · omega
theorem pks_few {n : Nat} {id : Int} {h : Hd} (ht : Tos n id h) (hl : ∀ k, k < 10 → (h.os k).wt.length ≤ 16) : ∀ m, m ≤ 10 → (pksTo id h.os m).length ≤ 16 * min (m - 1) n
  | 0, _ => Nat.zero_le _
  | m + 1, hm => by
    have ih := pks_few ht hl m (by omega)
    rw [pksTo_next, List.length_append, pksO_len]
    have h1 := hl m (by omega)
    by_cases e : (h.os m).wt = []
    · rw [e, List.length_nil]; omega
    · obtain ⟨t1, t2, _⟩ := ht m (by omega) e
      omega
theorem Inv.sends_ms {K : List (List UInt8)} {M : Nat} {S : Sd} {sn : Snt} (x : Inv K M S) (r : RS S sn) : ∀ m, m ≤ S.n → RS (sendsS m S) sn ∧ (∀ i, (sendsS m S).ho i = S.ho i) ∧ ms (sendsS m S).wy ≤ ms S.wy + 32 * S.n * m ∧ ∀ i, i < m → Rch (sendsS m S) sn i
  | 0, _ => ⟨r, fun _ => rfl, Nat.le_refl _, fun i hi => absurd hi (Nat.not_lt_zero _)⟩
  | m + 1, hm => by
    obtain ⟨r1, e1, m1, c1⟩ := Inv.sends_ms x r m (by omega)
    have hn : (sendsS m S).n = S.n := sends_n m S
    have ht : Tos (sendsS m S).n (m + 1 : Nat) ((sendsS m S).ho m) := by rw [hn, e1]; exact x.tos m (by omega)
    have h9 := x.n1.2
    have r2 := r1.sendAll (i := m) (by omega) ht
    refine ⟨r2, e1, ?_, fun i hi => ?_⟩
    · show ms ((sendsS m S).wy ++ pksTo (m + 1 : Nat) ((sendsS m S).ho m).os 10) ≤ _
      rw [ms_app]
      have h1 := ms_le (pksTo (m + 1 : Nat) ((sendsS m S).ho m).os 10)
      rw [e1] at h1 ⊢
      have h2 := pks_few (x.tos m (by omega)) (fun k hk => ((x.ho m (by omega)).nu k hk).2.1) 10 (Nat.le_refl _)
      have h3 : min (10 - 1) S.n ≤ S.n := Nat.min_le_right _ _
      have h4 : 32 * S.n * (m + 1) = 32 * S.n * m + 32 * S.n := by rw [Nat.mul_add, Nat.mul_one]
      omega
    · by_cases e : i = m
      · subst e
        exact r1.rchAll (by omega) (by omega)
      · exact (c1 i (by omega)).more r2 rfl (fun _ => rfl) rfl
/-- A Heal: what is on its way becomes less, or all has come. -/
theorem Inv.heal_ms {K : List (List UInt8)} {M : Nat} {S : Sd} {sn : Snt} (x : Inv K M S) (r : RS S sn) (h5 : S.n ≤ 5) : RS (healS 1 S) sn ∧ (((healS 1 S).wy = [] ∧ Dlv (healS 1 S) sn) ∨ ms (healS 1 S).wy + 1200 ≤ ms S.wy) := by
  obtain ⟨r1, e1, m1, c1⟩ := x.sends_ms r S.n (Nat.le_refl _)
  have hn : (sendsS S.n S).n = S.n := sends_n S.n S
  obtain ⟨r2, m2, c2⟩ := r1.many (by omega) 2000
  have hn2 := carries_n 2000 (sendsS S.n S)
  have hq : 32 * S.n * S.n ≤ 800 := by
    have h1 : S.n * S.n ≤ 5 * 5 := Nat.mul_le_mul h5 h5
    rw [Nat.mul_assoc]
    omega
  show RS (carriesS 2000 (sendsS S.n S)) sn ∧ (((carriesS 2000 (sendsS S.n S)).wy = [] ∧ Dlv (carriesS 2000 (sendsS S.n S)) sn) ∨ ms (carriesS 2000 (sendsS S.n S)).wy + 1200 ≤ _)
  refine ⟨r2, ?_⟩
  rcases m2 with m2 | m2
  · refine .inl ⟨m2, fun i j hi hj hij => ?_⟩
    rw [hn2] at hi hj
    have := c2 i hi (c1 i (by omega)) j (by omega) hij
    rw [m2, reach] at this
    exact this
  · right
    omega
end Go.Proofs.Ytpfgnhockfofhaa
