/-
  Cells: a word, a number (the document's).
-/
import Derived.Test.YtflnjlbafchnaaaGreatDoorWCd1
import Derived.Test.YtflnjlbafchnaaaGreatDoorWTxS
import Derived.Deep.DeepCutAuto
import Derived.Deep.DeepFit
namespace Go.Proofs.YtflnjlbafchnaaaGreatDoor
open Go.RowKit

theorem tw_step {l : List UInt8} {a k : Nat} (ha : a ≤ k) (hk : k < l.length) (hc : l[k] ≠ 32) : (l.drop a).take (k - a) ++ tw (l.drop k) = (l.drop a).take (k + 1 - a) ++ tw (l.drop (k + 1)) := by
  have e1 : tw (l.drop k) = l[k] :: tw (l.drop (k + 1)) := by
    rw [List.drop_eq_getElem_cons hk]
    unfold tw
    rw [List.takeWhile_cons, if_pos (by simp [hc])]
  have e2 : (l.drop a).take (k + 1 - a) = (l.drop a).take (k - a) ++ [l[k]] := by
    rw [show k + 1 - a = (k - a) + 1 by omega, List.take_add_one, List.getElem?_drop, show a + (k - a) = k by omega, List.getElem?_eq_getElem hk]
    rfl
  rw [e1, e2, List.append_assoc]
  rfl
theorem tw_stop {l : List UInt8} {k : Nat} (h : l.length ≤ k ∨ ∃ hk : k < l.length, l[k] = 32) : tw (l.drop k) = [] := by
  rcases h with h | ⟨hk, hc⟩
  · rw [List.drop_of_length_le h]; rfl
  · rw [List.drop_eq_getElem_cons hk, hc]
    simp [tw]
set_option maxRecDepth 100000 in
set_option maxHeartbeats 2000000 in
theorem refWordAt_any (l : List UInt8) (a : Nat) (ha : a ≤ l.length) (hl : (l.length : Int) ≤ 4611686018427387904) (w : World) :
    Calls Tryz.prog 161 #[.string (bs l), .int .i64 a] w fun e w' => ∃ k : Nat, e = .returned (.tuple #[.string (bs (tw (l.drop a))), .int .i64 k]) ∧ k = a + (tw (l.drop a)).length ∧ k ≤ l.length ∧ w' = w := by
  have hsz := bs_size l
  obtain ⟨T, HT⟩ : ∃ T, Hid (T = tw (l.drop a)) := ⟨_, rfl⟩
  rw [← HT.out]
  have ha0 : (0 : Int) ≤ a := by omega
  go_enter Tryz.func161, Tryz.ntmps161
  go_wp2
  go_loop [6] (fun u => ∃ k : Nat, a ≤ k ∧ k ≤ l.length ∧ u = .int .i64 k ∧ Hid (T = (l.drop a).take (k - a) ++ tw (l.drop k))) (fun u => l.length - (intOf u).toNat)
  case atStart => exact ⟨a, Nat.le_refl _, ha, rfl, by rw [HT.out, Nat.sub_self]; rfl⟩
  case round =>
    obtain ⟨k, hak, hk, rfl, HA⟩ := hrel
    have HE : Hid ((l.length ≤ k ∨ ∃ hk : k < l.length, l[k] = 32) → (bs l).extract a k = bs T ∧ k = a + T.length) := fun h => by
      have e := HA.out
      rw [tw_stop h, List.append_nil] at e
      refine ⟨by rw [bs_sub, ← e], ?_⟩
      rw [e, List.length_take, List.length_drop]
      omega
    have haki : (a : Int) ≤ k := by omega
    have hk0 : (0 : Int) ≤ k := by omega
    have hkl : (k : Int) ≤ l.length := by omega
    by_cases hlt : k < l.length
    · have hd : decide ((k : Int) < (l.length : Int)) = true := decide_eq_true (by omega)
      obtain ⟨c, hcl⟩ : ∃ c, l[k] = c := ⟨_, rfl⟩
      have hat : ∀ h, (bs l)[k]'h = c := fun h => (bs_at l k h).trans hcl
      by_cases hc : c = 32
      · obtain ⟨hext, hlen⟩ := HE.out (.inr ⟨hlt, by rw [hcl, hc]⟩)
        have HLN : Hid (k = a + T.length) := hlen
        subst hc
        clear hlen HE hcl
        go_wp2
        go_ret2
        exact ⟨k, rfl, HLN.out, hk, rfl⟩
      · have HB : Hid (T = (l.drop a).take (k + 1 - a) ++ tw (l.drop (k + 1))) := HA.out.trans (tw_step hak hlt (by rw [hcl]; exact hc))
        have hn : ¬ c.toNat = 32 := fun e => hc (by rw [← UInt8.toNat_inj]; exact e)
        have hb : ((c.toNat : Int) == 32) = false := by simp; omega
        have hb2 : ((c.toNat : Int) != 32) = true := by simp; omega
        clear HE hcl HA
        go_wp2
        go_round
        case rel => exact ⟨k + 1, by omega, by omega, by go_num, HB.out⟩
        case measure => simp [intOf]; omega
    · obtain rfl : k = l.length := by omega
      obtain ⟨hext, hlen⟩ := HE.out (.inl (Nat.le_refl _))
      have HLN : Hid (l.length = a + T.length) := hlen
      have hd : decide ((l.length : Int) < (l.length : Int)) = false := decide_eq_false (by omega)
      clear hlen HE
      go_wp2
      go_ret2
      exact ⟨l.length, rfl, HLN.out, Nat.le_refl _, rfl⟩
/-- A blank, and a number, at a place. -/
def NmPost (l : List UInt8) (a most : Nat) (w : World) (e : Ending) (w' : World) : Prop := ∃ (z : Int) (k : Nat), e = .returned (.tuple #[.int .i64 z, .int .i64 k]) ∧ ((∃ v : Nat, (nmD most (l.drop a)).1 = some v ∧ z = v ∧ k ≤ l.length ∧ l.drop k = (nmD most (l.drop a)).2) ∨ ((nmD most (l.drop a)).1 = none ∧ z = -1)) ∧ w' = w
theorem dw_drop {l : List UInt8} {a k : Nat} (hk : k = a + (tw (l.drop a)).length) : l.drop k = dw (l.drop a) := by
  have h1 : ∀ x y : List UInt8, (x ++ y).drop x.length = y := fun x y => by simp
  have h2 := h1 (tw (l.drop a)) (dw (l.drop a))
  rw [tw_dw, List.drop_drop] at h2
  rw [hk]
  exact h2
set_option maxRecDepth 100000 in
set_option maxHeartbeats 2000000 in
theorem refNumeral_any (l : List UInt8) (a most : Nat) (ha : a ≤ l.length) (hl : (l.length : Int) ≤ 4611686018427387904) (hm : most ≤ 999999999) (w : World) :
    Calls Tryz.prog 162 #[.string (bs l), .int .i64 a, .int .i64 most] w (NmPost l a most w) := by
  have hsz := bs_size l
  have ha0 : (0 : Int) ≤ a := by omega
  by_cases hlt : a < l.length
  · have hd : decide ((l.length : Int) ≤ (a : Int)) = false := decide_eq_false (by omega)
    have hai : (a : Int) < l.length := by omega
    obtain ⟨c, hcl⟩ : ∃ c, l[a] = c := ⟨_, rfl⟩
    have hat : ∀ h, (bs l)[a]'h = c := fun h => (bs_at l a h).trans hcl
    have hdr : l.drop a = c :: l.drop (a + 1) := by rw [List.drop_eq_getElem_cons hlt, hcl]
    by_cases hc : c = 32
    · subst hc
      have RW := refWordAt_any l (a + 1) (by omega) hl w
      have e1 : ((a + 1 : Nat) : Int) = (a : Int) + 1 := by omega
      rw [e1] at RW
      obtain ⟨T, HT⟩ : ∃ T, Hid (T = tw (l.drop (a + 1))) := ⟨_, rfl⟩
      rw [← HT.out] at RW
      have hTl : T.length ≤ l.length := by
        rw [HT.out]
        have := congrArg List.length (tw_dw (l.drop (a + 1)))
        rw [List.length_append, List.length_drop] at this
        omega
      have AM := refAmount_any T most (by unfold maxLen; omega) hm w
      have HF : Hid (∀ k : Nat, k = a + 1 + T.length → k ≤ l.length → NmPost l a most w (.returned (.tuple #[.int .i64 (amtZ most T), .int .i64 k])) w) := fun k hk hkl => by
        have hn : nmD most (l.drop a) = (amt most T, dw (l.drop (a + 1))) := by rw [hdr, HT.out]; show (if (32 : UInt8) = 32 then (amt most (tw (l.drop (a + 1))), dw (l.drop (a + 1))) else (none, 32 :: l.drop (a + 1))) = _; rw [if_pos rfl]
        refine ⟨amtZ most T, k, rfl, ?_, rfl⟩
        rw [hn]
        cases h : amt most T with
        | some v => exact .inl ⟨v, rfl, amtZ_some h, hkl, dw_drop (by rw [← HT.out]; exact hk)⟩
        | none => exact .inr ⟨rfl, amtZ_none h⟩
      clear hcl hdr e1 hTl
      go_enter Tryz.func162, Tryz.ntmps162
      go_wp2_with fail
      go_fit RW
      rintro ee w1 ⟨k, rfl, hk, hkl, hw1⟩
      rw [hw1]
      have HFK := HF.out k hk hkl
      have HFK2 : Hid (NmPost l a most w (.returned (.tuple #[.int .i64 (amtZ most T), .int .i64 k])) w) := HFK
      clear hw1 RW HF HFK hk hkl
      go_wp2_with fail
      go_fit AM
      rintro ee w2 ⟨rfl, hw2⟩
      rw [hw2]
      clear hw2 AM
      go_wp2
      go_ret2
      exact HFK2.out
    · have HF : Hid (NmPost l a most w (.returned (.tuple #[.int .i64 (-1), .int .i64 a])) w) := by
        have hn : nmD most (l.drop a) = (none, l.drop a) := by
          rw [hdr]
          exact if_neg hc
        refine ⟨-1, a, rfl, .inr ⟨by rw [hn], rfl⟩, rfl⟩
      have hn : ¬ c.toNat = 32 := fun e => hc (by rw [← UInt8.toNat_inj]; exact e)
      have hb : ((c.toNat : Int) == 32) = false := by simp; omega
      have hb2 : ((c.toNat : Int) != 32) = true := by simp; omega
      clear hcl hdr hc
      go_enter Tryz.func162, Tryz.ntmps162
      go_wp2
      go_ret2
      exact HF.out
  · have hd : decide ((l.length : Int) ≤ (a : Int)) = true := decide_eq_true (by omega)
    have hai : (l.length : Int) ≤ a := by omega
    have HF : Hid (NmPost l a most w (.returned (.tuple #[.int .i64 (-1), .int .i64 a])) w) := by
      have hn : l.drop a = [] := List.drop_of_length_le (by omega)
      refine ⟨-1, a, rfl, .inr ⟨by rw [hn]; rfl, rfl⟩, rfl⟩
    go_enter Tryz.func162, Tryz.ntmps162
    go_wp2
    go_ret2
    exact HF.out
end Go.Proofs.YtflnjlbafchnaaaGreatDoor
