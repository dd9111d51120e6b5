/-
  RelayOnce, plainly: three hosts, what is on its way, what was sent, what has come, what is known.
-/
import Derived.Test.YtmlncfnnldplgaaWRm3
import Derived.Test.YtmlncfnnldplgaaWRm4
namespace Go.Proofs.Ytmlncfnnldplgaa
open Go.RowKit

theorem pksO_get {id : Int} {k : Nat} {o : Oh} {i : Nat} (hi : i < o.wt.length) : (pksO id k o)[i]'(by rw [pksO_len]; exact hi) = pkO id k o i o.wt[i] := by simp [pksO]
structure Tk where
  os : Nat → Nat → Oh
  way : List Pk
  sn : Nat → List (List UInt8)
  cm : Nat → List (List UInt8)
  kn : Nat → Nat
def tk0 : Tk := ⟨fun _ _ => oh0, [], fun _ => [], fun _ => [], fun _ => 0⟩
/-- A packet that may be on its way. -/
def OkPk (T : Tk) (p : Pk) : Prop := ∃ i j : Nat, i < 3 ∧ j < 3 ∧ i ≠ j ∧ p.fr = (i : Int) + 1 ∧ p.ds = (j : Int) + 1 ∧ 1 ≤ p.nu ∧ (p.ak = true → p.nu ≤ (T.cm (4 * j + i)).length) ∧ (p.ak = false → p.nu ≤ (T.sn (4 * i + j)).length ∧ (T.sn (4 * i + j))[p.nu.toNat - 1]? = some p.bd)
structure TkI (T : Tk) : Prop where
  pr : ∀ i j, i < 3 → j < 3 → i ≠ j → (T.os i (j + 1)).ak = T.kn (4 * i + j) ∧ (T.os i (j + 1)).wt = (T.sn (4 * i + j)).drop (T.kn (4 * i + j)) ∧ (T.os j (i + 1)).cm = (T.cm (4 * i + j)).length ∧ (T.os i (j + 1)).wt.length ≤ 16
  le : ∀ k, k < 16 → T.kn k ≤ (T.cm k).length ∧ (T.cm k).length ≤ (T.sn k).length ∧ T.cm k = (T.sn k).take (T.cm k).length
  wy : ∀ p ∈ T.way, OkPk T p
  ot : ∀ i k, i < 3 → k < 10 → (k = 0 ∨ 3 < k ∨ k = i + 1) → T.os i k = oh0
  off : ∀ k, k < 16 → (¬ ∃ i j, i < 3 ∧ j < 3 ∧ i ≠ j ∧ k = 4 * i + j) → T.sn k = []
theorem tk0_inv : TkI tk0 := ⟨fun i j _ _ _ => ⟨rfl, rfl, rfl, Nat.zero_le _⟩, fun k _ => ⟨Nat.le_refl _, Nat.le_refl _, rfl⟩, (fun p hp => by unfold tk0 at hp; simp at hp), fun _ _ _ _ _ => rfl, fun _ _ _ => rfl⟩
def updO (f : Nat → Nat → Oh) (i k : Nat) (o : Oh) : Nat → Nat → Oh := upd f i (upd (f i) k o)
theorem updO_self (f : Nat → Nat → Oh) (i k : Nat) (o : Oh) : updO f i k o i k = o := by unfold updO; rw [upd_self, upd_self]
theorem updO_ne (f : Nat → Nat → Oh) {i k i' k' : Nat} (o : Oh) (h : ¬ (i' = i ∧ k' = k)) : updO f i k o i' k' = f i' k' := by
  unfold updO
  by_cases e : i' = i
  · subst e; rw [upd_self, upd_ne _ _ (fun x => h ⟨rfl, x⟩)]
  · rw [upd_ne _ _ e]
/-- Host i sends host j a body. -/
def Tk.send (T : Tk) (i j : Nat) (body : List UInt8) : Tk := if 16 ≤ (T.sn (4 * i + j)).length - T.kn (4 * i + j) then T else { T with os := updO T.os i (j + 1) (sendO (T.os i (j + 1)) body), sn := upd T.sn (4 * i + j) (T.sn (4 * i + j) ++ [body]) }
theorem pair_inj {i j i' j' : Nat} (hj : j < 3) (hj' : j' < 3) (h : 4 * i + j = 4 * i' + j') : i = i' ∧ j = j' := by omega
theorem TkI.wtlen {T : Tk} (h : TkI T) {i j : Nat} (hi : i < 3) (hj : j < 3) (hij : i ≠ j) : (T.os i (j + 1)).wt.length = (T.sn (4 * i + j)).length - T.kn (4 * i + j) := by
  rw [(h.pr i j hi hj hij).2.1, List.length_drop]
theorem TkI.send {T : Tk} (h : TkI T) {i j : Nat} (hi : i < 3) (hj : j < 3) (hij : i ≠ j) (body : List UInt8) : TkI (T.send i j body) := by
  unfold Tk.send
  by_cases hf : 16 ≤ (T.sn (4 * i + j)).length - T.kn (4 * i + j)
  · rw [if_pos hf]; exact h
  · rw [if_neg hf]
    have hl := h.wtlen hi hj hij
    have hle := h.le (4 * i + j) (by omega)
    refine ⟨fun a b ha hb hab => ?_, fun k hk => ?_, fun p hp => ?_, fun a k ha hk hx => ?_, fun k hk hx => ?_⟩
    · have hp := h.pr a b ha hb hab
      by_cases e : a = i ∧ b = j
      · obtain ⟨rfl, rfl⟩ := e
        dsimp only
        rw [updO_self, upd_self]
        refine ⟨hp.1, ?_, ?_, ?_⟩
        · unfold sendO; dsimp only; rw [hp.2.1, List.drop_append_of_le_length (by omega)]
        · rw [updO_ne _ _ (by omega)]; exact hp.2.2.1
        · unfold sendO; dsimp only; rw [List.length_append]; simp; omega
      · dsimp only
        rw [updO_ne _ _ (by omega), upd_ne _ _ (fun x => e (pair_inj hb hj x))]
        refine ⟨hp.1, hp.2.1, ?_, hp.2.2.2⟩
        by_cases e2 : b = i ∧ a + 1 = j + 1
        · obtain ⟨rfl, e3⟩ := e2
          rw [e3, updO_self]
          have : (T.os b (j + 1)).cm = (T.cm (4 * a + b)).length := by rw [← e3]; exact hp.2.2.1
          exact this
        · rw [updO_ne _ _ e2]; exact hp.2.2.1
    · dsimp only
      by_cases e : k = 4 * i + j
      · subst e
        rw [upd_self]
        have hk := h.le _ hk
        refine ⟨hk.1, by rw [List.length_append]; omega, ?_⟩
        rw [List.take_append_of_le_length hk.2.1]; exact hk.2.2
      · rw [upd_ne _ _ e]; exact h.le k hk
    · obtain ⟨a, b, ha, hb, hab, h1, h2, h3, h4, h5⟩ := h.wy p hp
      refine ⟨a, b, ha, hb, hab, h1, h2, h3, h4, fun hk => ?_⟩
      dsimp only
      by_cases e : 4 * a + b = 4 * i + j
      · rw [e, upd_self]
        rw [e] at h5
        have := h5 hk
        refine ⟨by rw [List.length_append]; omega, ?_⟩
        rw [List.getElem?_append_left (by omega)]; exact this.2
      · rw [upd_ne _ _ e]; exact h5 hk
    · dsimp only
      rw [updO_ne _ _ (by omega)]; exact h.ot a k ha hk hx
    · dsimp only
      rw [upd_ne _ _ (fun e => hx ⟨i, j, hi, hj, hij, e⟩)]; exact h.off k hk hx
/-- What is on its way is a part of what was, or more that may be there. -/
theorem TkI.way {T : Tk} (h : TkI T) {l : List Pk} (hl : ∀ p ∈ l, OkPk T p) : TkI { T with way := l } := ⟨h.pr, h.le, hl, h.ot, h.off⟩
theorem TkI.waits {T : Tk} (h : TkI T) {i : Nat} (hi : i < 3) : ∀ p ∈ pksTo (((i + 1 : Nat) : Int)) (T.os i) 10, OkPk T p ∧ p.ak = false := fun p hp => by
  unfold pksTo at hp
  obtain ⟨k, hk, hp⟩ := List.mem_flatMap.1 hp
  have hk : k < 10 := by simpa using hk
  by_cases hx : k = 0 ∨ 3 < k ∨ k = i + 1
  · rw [h.ot i k hi hk hx] at hp; unfold pksO oh0 at hp; simp at hp
  · obtain ⟨j, rfl⟩ : ∃ j, k = j + 1 := ⟨k - 1, by omega⟩
    have hj : j < 3 := by omega
    have hij : i ≠ j := by omega
    have hpr := h.pr i j hi hj hij
    have hle := h.le (4 * i + j) (by omega)
    obtain ⟨n, hn, e⟩ := List.getElem_of_mem hp
    have hn' : n < (T.os i (j + 1)).wt.length := by rw [pksO_len] at hn; exact hn
    rw [pksO_get hn'] at e
    have hwl := h.wtlen hi hj hij
    subst e
    refine ⟨⟨i, j, hi, hj, hij, by unfold pkO; simp, by unfold pkO; simp, by unfold pkO; simp; omega, fun x => by unfold pkO at x; simp at x, fun _ => ⟨?_, ?_⟩⟩, rfl⟩
    · unfold pkO; dsimp only; rw [hpr.1]; omega
    · unfold pkO
      dsimp only
      rw [hpr.1, show ((T.kn (4 * i + j) : Int) + 1 + (n : Int)).toNat - 1 = T.kn (4 * i + j) + n by omega, ← List.getElem?_drop, ← hpr.2.1]
      exact List.getElem?_eq_getElem hn'
/-- A packet from host i comes to host j. -/
def Tk.come (T : Tk) (i j : Nat) (p : Pk) : Tk :=
  { os := updO T.os j (i + 1) (rcvO (T.os j (i + 1)) p)
    way := T.way ++ rcvA ((j + 1 : Nat) : Int) (T.os j (i + 1)) p
    sn := T.sn
    cm := upd T.cm (4 * i + j) (T.cm (4 * i + j) ++ (rcvC (T.os j (i + 1)) p).map Pc.bd)
    kn := upd T.kn (4 * j + i) (if p.ak = true ∧ (T.kn (4 * j + i) : Int) < p.nu then p.nu.toNat else T.kn (4 * j + i)) }
theorem OkPk.grow {T T' : Tk} (hs : ∀ k, T'.sn k = T.sn k) (hc : ∀ k, (T.cm k).length ≤ (T'.cm k).length) {p : Pk} (h : OkPk T p) : OkPk T' p := by
  obtain ⟨a, b, ha, hb, hab, h1, h2, h3, h4, h5⟩ := h
  exact ⟨a, b, ha, hb, hab, h1, h2, h3, fun x => by have := h4 x; have := hc (4 * b + a); omega, fun x => by rw [hs]; exact h5 x⟩
theorem TkI.come {T : Tk} (h : TkI T) {i j : Nat} {p : Pk} (hi : i < 3) (hj : j < 3) (hij : i ≠ j) (hfr : p.fr = (i : Int) + 1) (h3 : 1 ≤ p.nu) (h4 : p.ak = true → p.nu ≤ (T.cm (4 * j + i)).length) (h5 : p.ak = false → p.nu ≤ (T.sn (4 * i + j)).length ∧ (T.sn (4 * i + j))[p.nu.toNat - 1]? = some p.bd) : TkI (T.come i j p) := by
  have hpr := h.pr i j hi hj hij
  have hrp := h.pr j i hj hi (Ne.symm hij)
  have hle := h.le (4 * i + j) (by omega)
  have hel := h.le (4 * j + i) (by omega)
  have hne : 4 * i + j ≠ 4 * j + i := fun e => hij (pair_inj hj hi e).1
  cases hak : p.ak with
  | true =>
    have hnu := h4 hak
    have e1 : rcvC (T.os j (i + 1)) p = [] := by unfold rcvC; rw [hak, if_pos rfl]
    have e2 : rcvA ((j + 1 : Nat) : Int) (T.os j (i + 1)) p = [] := by unfold rcvA; rw [hak, if_pos rfl]
    have e3 : rcvO (T.os j (i + 1)) p = ackO (T.os j (i + 1)) p.nu := by unfold rcvO; rw [hak, if_pos rfl]
    have hwl := h.wtlen hj hi (Ne.symm hij)
    obtain ⟨kn', hkn⟩ : ∃ n, n = (if p.ak = true ∧ (T.kn (4 * j + i) : Int) < p.nu then p.nu.toNat else T.kn (4 * j + i)) := ⟨_, rfl⟩
    have hkl : kn' ≤ (T.cm (4 * j + i)).length := by rw [hkn]; split <;> omega
    have hkg : T.kn (4 * j + i) ≤ kn' := by rw [hkn]; split <;> omega
    have key : (ackO (T.os j (i + 1)) p.nu).ak = kn' ∧ (ackO (T.os j (i + 1)) p.nu).wt = (T.sn (4 * j + i)).drop kn' ∧ (ackO (T.os j (i + 1)) p.nu).cm = (T.os j (i + 1)).cm := by
      unfold ackO
      by_cases hx : (T.kn (4 * j + i) : Int) < p.nu
      · have : kn' = p.nu.toNat := by rw [hkn, if_pos ⟨hak, hx⟩]
        rw [this, if_neg (by rw [hrp.1, hwl]; omega)]
        refine ⟨rfl, ?_, rfl⟩
        dsimp only
        rw [hrp.2.1, hrp.1, List.drop_drop]
        congr 1
        omega
      · have : kn' = T.kn (4 * j + i) := by rw [hkn, if_neg (fun x => hx x.2)]
        rw [this, if_pos (.inl (by rw [hrp.1]; omega))]
        exact ⟨hrp.1, hrp.2.1, rfl⟩
    unfold Tk.come
    rw [e1, e2, e3, ← hkn, List.map_nil, List.append_nil, List.append_nil, upd_id]
    refine ⟨fun a b ha hb hab => ?_, fun k hk => ?_, fun q hq => ?_, fun a k ha hk hx => ?_, h.off⟩
    · have hp := h.pr a b ha hb hab
      dsimp only
      by_cases e : a = j ∧ b = i
      · obtain ⟨rfl, rfl⟩ := e
        rw [updO_self, upd_self, updO_ne _ _ (by omega)]
        exact ⟨key.1, key.2.1, hp.2.2.1, by rw [key.2.1, List.length_drop]; have := hp.2.2.2; rw [hwl] at this; omega⟩
      · rw [updO_ne _ _ (by omega), upd_ne _ _ (fun x => e (pair_inj hb hi x))]
        refine ⟨hp.1, hp.2.1, ?_, hp.2.2.2⟩
        by_cases e2 : b = j ∧ a + 1 = i + 1
        · obtain ⟨rfl, e4⟩ := e2
          have e5 : a = i := by omega
          subst e5
          rw [updO_self, key.2.2]; exact hp.2.2.1
        · rw [updO_ne _ _ e2]; exact hp.2.2.1
    · dsimp only
      by_cases e : k = 4 * j + i
      · subst e; rw [upd_self]; exact ⟨hkl, hel.2⟩
      · rw [upd_ne _ _ e]; exact h.le k hk
    · exact (h.wy q hq).grow (fun _ => rfl) (fun _ => Nat.le_refl _)
    · dsimp only
      rw [updO_ne _ _ (by omega)]; exact h.ot a k ha hk hx
  | false =>
    obtain ⟨hnu, hbd⟩ := h5 hak
    have e0 : (if p.ak = true ∧ (T.kn (4 * j + i) : Int) < p.nu then p.nu.toNat else T.kn (4 * j + i)) = T.kn (4 * j + i) := if_neg (fun x => by rw [hak] at x; simp at x)
    obtain ⟨cm', hcm⟩ : ∃ l, l = T.cm (4 * i + j) ++ (rcvC (T.os j (i + 1)) p).map Pc.bd := ⟨_, rfl⟩
    have key : (rcvO (T.os j (i + 1)) p).cm = cm'.length ∧ cm' = (T.sn (4 * i + j)).take cm'.length ∧ cm'.length ≤ (T.sn (4 * i + j)).length ∧ (T.cm (4 * i + j)).length ≤ cm'.length ∧ (rcvO (T.os j (i + 1)) p).ak = (T.os j (i + 1)).ak ∧ (rcvO (T.os j (i + 1)) p).wt = (T.os j (i + 1)).wt := by
      rw [hcm]
      unfold rcvO rcvC
      simp only [hak, Bool.false_eq_true, if_false, hpr.2.2.1]
      by_cases hx : p.nu = ((T.cm (4 * i + j)).length : Int) + 1
      · rw [if_pos hx, if_pos hx]
        simp only [List.map_cons, List.map_nil, List.length_append, List.length_cons, List.length_nil]
        refine ⟨by trivial, ?_, by omega, by omega, by trivial, by trivial⟩
        have hb2 : (T.sn (4 * i + j))[(T.cm (4 * i + j)).length]? = some p.bd := by rw [← hbd]; congr 1; omega
        rw [List.take_add_one, hb2, ← hle.2.2]
        rfl
      · rw [if_neg hx, if_neg hx]
        simp only [List.map_nil, List.append_nil]
        exact ⟨hpr.2.2.1, hle.2.2, hle.2.1, Nat.le_refl _, by trivial, by trivial⟩
    unfold Tk.come
    rw [e0, ← hcm, upd_id]
    have hgrow : ∀ k, (T.cm k).length ≤ (upd T.cm (4 * i + j) cm' k).length := fun k => by
      by_cases e : k = 4 * i + j
      · subst e; rw [upd_self]; exact key.2.2.2.1
      · rw [upd_ne _ _ e]; exact Nat.le_refl _
    refine ⟨fun a b ha hb hab => ?_, fun k hk => ?_, fun q hq => ?_, fun a k ha hk hx => ?_, h.off⟩
    · have hp := h.pr a b ha hb hab
      dsimp only
      by_cases e : a = i ∧ b = j
      · obtain ⟨rfl, rfl⟩ := e
        rw [updO_ne _ _ (by omega), upd_self, updO_self]
        exact ⟨hp.1, hp.2.1, key.1, hp.2.2.2⟩
      · rw [upd_ne _ _ (fun x => e (pair_inj hb hj x))]
        by_cases e2 : a = j ∧ b + 1 = i + 1
        · obtain ⟨rfl, e4⟩ := e2
          have e5 : b = i := by omega
          subst e5
          rw [updO_self, updO_ne _ _ (by omega), key.2.2.2.2.1, key.2.2.2.2.2]
          exact hp
        · rw [updO_ne _ _ e2, updO_ne _ _ (fun x => e ⟨by omega, x.1⟩)]
          exact hp
    · dsimp only
      by_cases e : k = 4 * i + j
      · subst e; rw [upd_self]; exact ⟨Nat.le_trans hle.1 key.2.2.2.1, key.2.2.1, key.2.1⟩
      · rw [upd_ne _ _ e]; exact h.le k hk
    · rcases List.mem_append.1 hq with hq | hq
      · refine OkPk.grow (T := T) ?_ ?_ (h.wy q hq)
        · exact fun _ => rfl
        · exact hgrow
      · unfold rcvA at hq
        rw [hak, if_neg (by decide)] at hq
        by_cases hx : 0 < (rcvO (T.os j (i + 1)) p).cm
        · rw [if_pos hx, List.mem_singleton] at hq
          subst hq
          refine ⟨j, i, hj, hi, Ne.symm hij, by simp, hfr, by simp; omega, fun _ => ?_, fun x => by simp at x⟩
          dsimp only
          rw [upd_self, key.1]
          omega
        · rw [if_neg hx] at hq; cases hq
    · dsimp only
      rw [updO_ne _ _ (by omega)]; exact h.ot a k ha hk hx
theorem come_kn {T : Tk} {i j : Nat} {p : Pk} (k : Nat) : T.kn k ≤ (T.come i j p).kn k := by
  unfold Tk.come
  dsimp only
  by_cases e : k = 4 * j + i
  · subst e; rw [upd_self]; split <;> omega
  · rw [upd_ne _ _ e]; exact Nat.le_refl _
end Go.Proofs.Ytmlncfnnldplgaa
