/-
  Files are searched: slices.Index and Contains over names, the closures, slices.IndexFunc.
-/
import Derived.Test.YtnmkccdcgmajgaaWAct1
import Derived.Deep.DeepFit
namespace Go.Proofs.Ytnmkccdcgmajgaa
open Go.RowKit

/-- The first place at which it holds; -1: none. -/
def plc (p : Fi → Bool) (fs : List Fi) : Int := if fs.findIdx p < fs.length then (fs.findIdx p : Int) else -1
theorem plc_hit {p : Fi → Bool} {fs : List Fi} {k : Nat} (hk : k < fs.length) (hp : p fs[k] = true) (hn : ∀ j, (hj : j < fs.length) → j < k → p fs[j] = false) : plc p fs = k := by
  have : fs.findIdx p = k := (List.findIdx_eq hk).2 ⟨hp, fun j hj => hn j (by omega) hj⟩
  unfold plc
  rw [this, if_pos hk]
theorem plc_miss {p : Fi → Bool} {fs : List Fi} (hn : ∀ j, (hj : j < fs.length) → p fs[j] = false) : plc p fs = -1 := by
  have : fs.findIdx p = fs.length := List.findIdx_eq_length.2 (fun x hx => by
    obtain ⟨j, hj, rfl⟩ := List.getElem_of_mem hx
    exact hn j hj)
  unfold plc
  rw [this, if_neg (by omega)]
theorem plc_cases (p : Fi → Bool) (fs : List Fi) : (plc p fs = -1 ∧ ∀ f ∈ fs, p f = false) ∨ ∃ k, ∃ hk : k < fs.length, plc p fs = (k : Int) ∧ p fs[k] = true ∧ ∀ j, (hj : j < fs.length) → j < k → p fs[j] = false := by
  by_cases h : fs.findIdx p < fs.length
  · refine .inr ⟨fs.findIdx p, h, by unfold plc; rw [if_pos h], List.findIdx_getElem (w := h), fun j hj hlt => ?_⟩
    have := List.not_of_lt_findIdx hlt
    simpa using this
  · refine .inl ⟨by unfold plc; rw [if_neg h], fun f hf => ?_⟩
    have e : fs.findIdx p = fs.length := by have := List.findIdx_le_length (p := p) (xs := fs); omega
    have := List.findIdx_eq_length.1 e f hf
    simpa using this

set_option maxRecDepth 100000 in
set_option maxHeartbeats 2000000 in
theorem indexS_any (B c : Nat) (ao : Option Addr) (ks : List (List UInt8)) (x : List UInt8) (w : World) (h : StrRow B w ao ks) (hl : (ks.length : Int) ≤ 9223372036854775807) :
    Calls Try.prog 164 #[.slice ao ks.length c, .string (bs x)] w fun e w' => (∃ i : Int, e = .returned (.int .i64 i) ∧ (0 ≤ i ↔ x ∈ ks)) ∧ Kept Nil w w' := by
  have HR : Hid (StrRow B w ao ks) := h
  clear h
  go_enter Try.func164, Try.ntmps164
  go_wp2
  go_loopw [8] (fun i wr => ∃ k : Nat, k ≤ ks.length ∧ i = .int .i64 k ∧ Hid (∀ j, (hj : j < ks.length) → j < k → ks[j] ≠ x) ∧ Hid (Kept Nil w wr)) (fun i _ => ks.length - (intOf i).toNat)
  case atStart => exact ⟨0, Nat.zero_le _, rfl, fun j _ h => by omega, Kept.refl _ _⟩
  case round =>
    obtain ⟨k, hk, rfl, HN, HK⟩ := hrel
    by_cases hlt : k < ks.length
    · obtain ⟨a, rfl, hb, hcell, hm⟩ := HR.out.nil HK.out k hlt
      have hki : (k : Int) < ks.length := by omega
      obtain ⟨y, HY⟩ : ∃ y : List UInt8, Hid (y = ks[k]) := ⟨ks[k], (rfl : ks[k] = ks[k])⟩
      rw [← HY.out] at hcell
      by_cases hx : x = y
      · have hq : ((bs x).toList == (bs y).toList) = true := by rw [bs_beq]; exact decide_eq_true hx
        have HX : Hid (x = y) := hx
        clear hx
        go_wp2
        go_ret
        exact ⟨⟨k, rfl, ⟨fun _ => by rw [HX.out, HY.out]; exact List.getElem_mem _, fun _ => by omega⟩⟩, HK.out⟩
      · have hq : ((bs x).toList == (bs y).toList) = false := by rw [bs_beq]; exact decide_eq_false hx
        have HX : Hid (¬ x = y) := hx
        clear hx
        go_wp2
        go_roundw
        case rel => exact ⟨k + 1, by omega, by go_num, fun j hj hjk => (by
          by_cases e : j = k
          · subst e; intro e2; exact HX.out (by rw [HY.out]; exact e2.symm)
          · exact HN.out j hj (by omega)), HK.out⟩
        case measure => simp [intOf]; omega
    · go_wp2
      go_ret
      exact ⟨⟨-1, rfl, ⟨fun h => by omega, fun h => by
        obtain ⟨j, hj, e⟩ := List.getElem_of_mem h
        exact absurd e (HN.out j hj (by omega))⟩⟩, HK.out⟩

/-- Is a file of one of these names? -/
def inF (ks : List (List UInt8)) (f : Fi) : Bool := decide (f.1 ∈ ks)
set_option maxRecDepth 100000 in
set_option maxHeartbeats 2000000 in
theorem containsS_any (B c : Nat) (ao : Option Addr) (ks : List (List UInt8)) (x : List UInt8) (w : World) (h : StrRow B w ao ks) (hl : (ks.length : Int) ≤ 9223372036854775807) :
    Calls Try.prog 133 #[.slice ao ks.length c, .string (bs x)] w fun e w' => e = .returned (.bool (decide (x ∈ ks))) ∧ Kept Nil w w' := by
  have I := indexS_any B c ao ks x w h hl
  clear h
  go_enter Try.func133, Try.ntmps133
  go_wp2_with fail
  go_fit I
  rintro e w1 ⟨⟨i, rfl, hi⟩, k1⟩
  have HI : Hid (0 ≤ i ↔ x ∈ ks) := hi
  have K1 : Hid (Kept Nil w w1) := k1
  clear hi k1 I
  go_wp2
  go_ret
  exact ⟨by show Ending.returned (.bool (decide (0 ≤ i))) = _; rw [decide_eq_decide.2 HI.out], K1.out⟩

set_option maxRecDepth 100000 in
set_option maxHeartbeats 1000000 in
theorem wofF_any (f : Fi) (B c C : Nat) (so : Option Addr) (ks : List (List UInt8)) (w : World) (hs : StrRow B w so ks) (hl : (ks.length : Int) ≤ 9223372036854775807) (hc : w.cell? ⟨C, 0, none⟩ = some (.slice so ks.length c)) :
    Calls Try.prog 132 #[.agg #[.string (bs f.1), .string (bs f.2)], .pointer (some ⟨C, 0, none⟩)] w fun e w' => e = .returned (.bool (inF ks f)) ∧ Kept Nil w w' := by
  have hb := World.block_lt_of_cell? w _ hc
  have CO := containsS_any B c so ks f.1 (w.alloc (.cells #[.string (bs f.1), .string (bs f.2)] 88)) (hs.nil ((Kept.refl _ _).alloc _)) hl
  clear hs
  obtain ⟨b, HB⟩ : ∃ b : Bool, Hid (b = decide (f.1 ∈ ks)) := ⟨_, rfl⟩
  rw [← HB.out] at CO
  go_enter Try.func132, Try.ntmps132
  go_wp2_with fail
  go_fit CO
  rintro e w1 ⟨rfl, k1⟩
  have K1 : Hid (Kept Nil w w1) := ((Kept.refl _ _).alloc _).trans k1
  clear k1 CO
  go_wp2
  go_ret
  exact ⟨by unfold inF; rw [← HB.out]; rfl, K1.out⟩

set_option maxRecDepth 100000 in
set_option maxHeartbeats 2000000 in
theorem indexP_any (B c C : Nat) (ao : Option Addr) (fs : List Fi) (nm : List UInt8) (w : World) (h : FiRow B w ao fs) (hl : (fs.length : Int) ≤ 9223372036854775807) (hc : w.cell? ⟨C, 0, none⟩ = some (.string (bs nm))) :
    Calls Try.prog 129 #[.slice ao fs.length c, .func (.func 130) #[] #[.pointer (some ⟨C, 0, none⟩)]] w fun e w' => e = .returned (.int .i64 (plc (isF nm) fs)) ∧ Kept Nil w w' := by
  have HR : Hid (FiRow B w ao fs) := h
  have PF := fun (X : World) (hX : Kept Nil w X) (f : Fi) => placeF_any f nm C X (cell_kept hX (fun _ x => x) hc)
  obtain ⟨p, HP⟩ : ∃ p : Fi → Bool, Hid (p = isF nm) := ⟨_, rfl⟩
  rw [← HP.out] at PF ⊢
  clear h hc
  go_enter Try.func129, Try.ntmps129
  go_wp2
  go_loopw [8] (fun i wr => ∃ k : Nat, k ≤ fs.length ∧ i = .int .i64 k ∧ Hid (∀ j, (hj : j < fs.length) → j < k → p fs[j] = false) ∧ Hid (Kept Nil w wr)) (fun i _ => fs.length - (intOf i).toNat)
  case atStart => exact ⟨0, Nat.zero_le _, rfl, fun j _ h => by omega, Kept.refl _ _⟩
  case round =>
    obtain ⟨k, hk, rfl, HN, HK⟩ := hrel
    by_cases hlt : k < fs.length
    · obtain ⟨a, rfl, hb, hc0, hc1⟩ := HR.out.nil HK.out k hlt
      have hki : (k : Int) < fs.length := by omega
      obtain ⟨y, HY⟩ : ∃ y : Fi, Hid (y = fs[k]) := ⟨fs[k], (rfl : fs[k] = fs[k])⟩
      rw [← HY.out] at hc0 hc1
      have PY := PF wr HK.out y
      cases hp : p y with
      | true =>
        rw [hp] at PY
        have HPY : Hid (p y = true) := hp
        clear hp
        go_wp2_with fail
        go_fit PY
        rintro e w1 ⟨rfl, k1⟩
        have K1 : Hid (Kept Nil w w1) := HK.out.trans k1
        clear k1 PY
        go_wp2
        go_ret
        exact ⟨by rw [plc_hit hlt (by rw [← HY.out]; exact HPY.out) HN.out]; rfl, K1.out⟩
      | false =>
        rw [hp] at PY
        have HPY : Hid (p y = false) := hp
        clear hp
        go_wp2_with fail
        go_fit PY
        rintro e w1 ⟨rfl, k1⟩
        have K1 : Hid (Kept Nil w w1) := HK.out.trans k1
        clear k1 PY
        go_wp2
        go_roundw
        case rel => exact ⟨k + 1, by omega, by go_num, fun j hj hjk => (by
          by_cases e : j = k
          · subst e; rw [← HY.out]; exact HPY.out
          · exact HN.out j hj (by omega)), K1.out⟩
        case measure => simp [intOf]; omega
    · go_wp2
      go_ret
      exact ⟨by rw [plc_miss (fun j hj => HN.out j hj (by omega))]; rfl, HK.out⟩

set_option maxRecDepth 100000 in
set_option maxHeartbeats 2000000 in
theorem indexW_any (B c C : Nat) (ao : Option Addr) (fs : List Fi) (B2 d : Nat) (so : Option Addr) (ks : List (List UInt8)) (w : World) (h : FiRow B w ao fs) (hl : (fs.length : Int) ≤ 9223372036854775807) (hs : StrRow B2 w so ks) (hkl : (ks.length : Int) ≤ 9223372036854775807) (hc : w.cell? ⟨C, 0, none⟩ = some (.slice so ks.length d)) :
    Calls Try.prog 129 #[.slice ao fs.length c, .func (.func 132) #[] #[.pointer (some ⟨C, 0, none⟩)]] w fun e w' => e = .returned (.int .i64 (plc (inF ks) fs)) ∧ Kept Nil w w' := by
  have HR : Hid (FiRow B w ao fs) := h
  have PF := fun (X : World) (hX : Kept Nil w X) (f : Fi) => wofF_any f B2 d C so ks X (hs.nil hX) hkl (cell_kept hX (fun _ x => x) hc)
  obtain ⟨p, HP⟩ : ∃ p : Fi → Bool, Hid (p = inF ks) := ⟨_, rfl⟩
  rw [← HP.out] at PF ⊢
  clear h hc hs
  go_enter Try.func129, Try.ntmps129
  go_wp2
  go_loopw [8] (fun i wr => ∃ k : Nat, k ≤ fs.length ∧ i = .int .i64 k ∧ Hid (∀ j, (hj : j < fs.length) → j < k → p fs[j] = false) ∧ Hid (Kept Nil w wr)) (fun i _ => fs.length - (intOf i).toNat)
  case atStart => exact ⟨0, Nat.zero_le _, rfl, fun j _ h => by omega, Kept.refl _ _⟩
  case round =>
    obtain ⟨k, hk, rfl, HN, HK⟩ := hrel
    by_cases hlt : k < fs.length
    · obtain ⟨a, rfl, hb, hc0, hc1⟩ := HR.out.nil HK.out k hlt
      have hki : (k : Int) < fs.length := by omega
      obtain ⟨y, HY⟩ : ∃ y : Fi, Hid (y = fs[k]) := ⟨fs[k], (rfl : fs[k] = fs[k])⟩
      rw [← HY.out] at hc0 hc1
      have PY := PF wr HK.out y
      cases hp : p y with
      | true =>
        rw [hp] at PY
        have HPY : Hid (p y = true) := hp
        clear hp
        go_wp2_with fail
        go_fit PY
        rintro e w1 ⟨rfl, k1⟩
        have K1 : Hid (Kept Nil w w1) := HK.out.trans k1
        clear k1 PY
        go_wp2
        go_ret
        exact ⟨by rw [plc_hit hlt (by rw [← HY.out]; exact HPY.out) HN.out]; rfl, K1.out⟩
      | false =>
        rw [hp] at PY
        have HPY : Hid (p y = false) := hp
        clear hp
        go_wp2_with fail
        go_fit PY
        rintro e w1 ⟨rfl, k1⟩
        have K1 : Hid (Kept Nil w w1) := HK.out.trans k1
        clear k1 PY
        go_wp2
        go_roundw
        case rel => exact ⟨k + 1, by omega, by go_num, fun j hj hjk => (by
          by_cases e : j = k
          · subst e; rw [← HY.out]; exact HPY.out
          · exact HN.out j hj (by omega)), K1.out⟩
        case measure => simp [intOf]; omega
    · go_wp2
      go_ret
      exact ⟨by rw [plc_miss (fun j hj => HN.out j hj (by omega))]; rfl, HK.out⟩

end Go.Proofs.Ytnmkccdcgmajgaa
