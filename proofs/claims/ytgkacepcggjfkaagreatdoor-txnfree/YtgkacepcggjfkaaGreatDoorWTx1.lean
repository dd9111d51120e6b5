/-
  Transactions: bound.Decimal, read (the program).
-/
import Derived.Test.YtgkacepcggjfkaaGreatDoorWTx0
import Derived.Test.YtgkacepcggjfkaaGreatDoorWOld
namespace Go.Proofs.YtgkacepcggjfkaaGreatDoor
open Go.RowKit

def RnPost (w : World) (l : List UInt8) (b : Bool) (e : Ending) (w' : World) : Prop := ∃ v : Int, e = .returned (.tuple #[.int .i64 v, .bool b]) ∧ (Lib.atoiAll l = .ok v ∨ b = false) ∧ Kept Nil w w'
set_option maxRecDepth 100000 in
set_option maxHeartbeats 1000000 in
theorem readNumber_any (l : List UInt8) (least most : Int) (hl : l.length ≤ 281474976710656) (w : World) (hL : LD w) :
    Calls Tryz.prog 121 #[.string (bs l), .int .i64 least, .int .i64 most] w (RnPost w l (isNumB least most l (Lib.atoiAll l))) := by
  obtain ⟨b, HB⟩ : ∃ b : Bool, Hid (b = isNumB least most l (Lib.atoiAll l)) := ⟨_, rfl⟩
  rw [← HB.out]
  have HL : Hid (LD w) := hL
  have AT := atoi_any l hl w hL
  clear hL
  go_enter Tryz.func121, Tryz.ntmps121
  go_wp2_with fail
  go_fit AT
  clear AT
  rintro _ w1 ⟨v, x, rfl, k1, hv0, hv1, hx⟩
  have K1 : Hid (Kept Nil w w1) := k1
  have HL1 : Hid (LD w1) := HL.out.kept k1
  clear k1
  rcases hx with ⟨rfl, ha⟩ | ⟨⟨t, a, rfl⟩, ha⟩
  · have HA : Hid (Lib.atoiAll l = .ok v) := ha
    clear ha
    by_cases c1 : v < least
    · have HE : Hid (false = b) := by
        show _ = _
        rw [HB.out, HA.out]
        have : ¬ least ≤ v := by omega
        simp [isNumB, this]
      obtain rfl : b = false := HE.out.symm
      go_wp2
      go_ret2
      exact ⟨0, rfl, .inr rfl, K1.out⟩
    · by_cases c2 : most < v
      · have HE : Hid (false = b) := by
          show _ = _
          rw [HB.out, HA.out]
          have : ¬ v ≤ most := by omega
          simp [isNumB, this]
        obtain rfl : b = false := HE.out.symm
        go_wp2
        go_ret2
        exact ⟨0, rfl, .inr rfl, K1.out⟩
      · have IT := itoa_any v hv0 hv1 w1 HL1.out
        go_wp2_with fail
        go_fit IT
        rintro _ w2 ⟨rfl, k2⟩
        have HE : Hid (((bs (Lib.itoa v)).toList == (bs l).toList) = b) := by
          have d1 : least ≤ v := by omega
          have d2 : v ≤ most := by omega
          show _ = _
          rw [HB.out, HA.out, bs_toList, bs_toList]
          simp only [isNumB, d1, d2, decide_true, Bool.true_and]
          rw [Bool.eq_iff_iff]
          simp
        have K2 : Hid (Kept Nil w w2) := K1.out.trans k2
        clear k2 IT
        cases b with
        | true =>
          have he := HE.out
          have he2 : ((bs (Lib.itoa v)).toList != (bs l).toList) = false := by rw [bne, he]; rfl
          go_wp2
          go_ret2
          exact ⟨v, rfl, .inl HA.out, K2.out⟩
        | false =>
          have he := HE.out
          have he2 : ((bs (Lib.itoa v)).toList != (bs l).toList) = true := by rw [bne, he]; rfl
          go_wp2
          go_ret2
          exact ⟨0, rfl, .inr rfl, K2.out⟩
  · have HE : Hid (false = b) := by
      show _ = _
      rw [HB.out]
      cases h : Lib.atoiAll l with
      | ok u => exact absurd h (ha u)
      | «syntax» => rfl
      | range => rfl
    obtain rfl : b = false := HE.out.symm
    clear ha
    go_wp2
    go_ret2
    exact ⟨0, rfl, .inr rfl, K1.out⟩

/-! ### read, plainly -/
theorem pcs_len (l : List UInt8) : ∀ x ∈ pcs l, x.length ≤ l.length := by
  induction l with
  | nil => intro x hx; simp [pcs] at hx; simp [hx]
  | cons c r ih =>
    intro x hx
    unfold pcs at hx
    split at hx
    · rcases List.mem_cons.1 hx with rfl | hx
      · simp
      · have := ih x hx; simp; omega
    · split at hx
      · rename_i h t e
        rcases List.mem_cons.1 hx with rfl | hx
        · have := ih h (by rw [e]; simp); simp; omega
        · have := ih x (by rw [e]; simp [hx]); simp; omega
      · simp at hx; rw [hx]; simp
theorem amt_of_false {least most : Nat} {x : List UInt8} (hm : most ≤ 999999999) (h : isNumB least most x (Lib.atoiAll x) = false) : ∀ v, amt most x = some v → v < least := fun v hv => by
  rcases Nat.lt_or_ge v least with h1 | h1
  · exact h1
  · have := (isNumB_yes hm hv h1).2
    rw [h] at this
    cases this
theorem amt_zero {x : List UInt8} (h : isNumB 0 999999999 x (Lib.atoiAll x) = false) : amt MA x = none := by
  cases ha : amt MA x with
  | none => rfl
  | some v => have := amt_of_false (least := 0) (most := 999999999) (by decide) h v ha; omega
theorem amt_true {x : List UInt8} {v : Int} (h : isNumB 0 999999999 x (Lib.atoiAll x) = true) (hv : Lib.atoiAll x = .ok v) : ∃ n : Nat, v = n ∧ amt MA x = some n := by
  obtain ⟨n, h1, h2, _⟩ := isNumB_of (least := 0) (most := 999999999) h
  rw [hv] at h1
  cases h1
  exact ⟨n, rfl, h2⟩
theorem hdOf_bad0 {l x : List UInt8} {r : List (List UInt8)} (hp : pcs l = x :: r) (h : amt MA x = none) : hdOf l = Hd.no := by
  unfold hdOf
  rw [hp]
  match r with
  | [] => simp only [h]; rfl
  | [_] => rfl
  | [y, z] => show hd3 x y z = _; unfold hd3; rw [h]
  | _ :: _ :: _ :: _ => rfl
theorem hdOf_one {l x : List UInt8} {n : Nat} (hp : pcs l = [x]) (h : amt MA x = some n) : hdOf l = ⟨n, 0, 0⟩ := by
  unfold hdOf
  rw [hp]
  simp only [h]
  rfl
theorem hdOf_len {l x : List UInt8} {r : List (List UInt8)} (hp : pcs l = x :: r) (h1 : (pcs l).length ≠ 1) (h3 : (pcs l).length ≠ 3) : hdOf l = Hd.no := by
  unfold hdOf
  rw [hp] at h1 h3 ⊢
  match r with
  | [] => simp at h1
  | [_] => rfl
  | [y, z] => simp at h3
  | _ :: _ :: _ :: _ => rfl
theorem hdOf_bad1 {l x y z : List UInt8} (hp : pcs l = [x, y, z]) (h : isNumB 1 999 y (Lib.atoiAll y) = false) : hdOf l = Hd.no := by
  unfold hdOf
  rw [hp]
  show hd3 x y z = _
  unfold hd3
  split
  · rename_i h1 h2 h3
    rw [if_neg]
    have := amt_of_false (least := 1) (most := 999) (by decide) h _ h2
    omega
  · rfl
theorem hdOf_bad2 {l x y z : List UInt8} (hp : pcs l = [x, y, z]) (h : amt MA z = none) : hdOf l = Hd.no := by
  unfold hdOf
  rw [hp]
  show hd3 x y z = _
  unfold hd3
  rw [h]
  split
  · rename_i h3
    cases h3
  · rfl
theorem hdOf_three {l x y z : List UInt8} {n t : Nat} {v : Int} (hp : pcs l = [x, y, z]) (h1 : amt MA x = some n) (h2 : isNumB 1 999 y (Lib.atoiAll y) = true) (hv : Lib.atoiAll y = .ok v) (h3 : amt MA z = some t) : ∃ b : Nat, v = b ∧ hdOf l = ⟨n, b, t⟩ := by
  obtain ⟨b, g1, g2, g3⟩ := isNumB_of (least := 1) (most := 999) h2
  rw [hv] at g1
  cases g1
  refine ⟨b, rfl, ?_⟩
  unfold hdOf
  rw [hp]
  show hd3 x y z = _
  unfold hd3
  rw [h1, show amt MT y = some b from g2, h3]
  simp only
  rw [if_pos g3]
end Go.Proofs.YtgkacepcggjfkaaGreatDoor
