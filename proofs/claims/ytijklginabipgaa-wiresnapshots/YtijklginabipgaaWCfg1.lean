/-
  Rows of numbers, read where they lie: are they nodes, rising; is a number among them: by the program (slices.Contains, slices.Index) and by the document's answer.
-/
import Derived.Test.YtijklginabipgaaWOld
import Derived.Test.YtijklginabipgaaProg
import Derived.Outline
import Derived.Deep.DeepMust
import Derived.Deep.QuietTactic
import Derived.BigQuiet
namespace Go.Proofs.Ytijklginabipgaa
open Go.RowKit

theorem Kept.drewN {X : Nat → Obj → Prop} {a w : World} (h : Kept X a w) (n : Nat) : Kept X a (w.drewN n) := ⟨h.os, h.tape, h.output, h.size, h.block⟩

/-- A row of numbers that lies below block B. -/
def IntRow (B : Nat) (w : World) (ao : Option Addr) (zs : List Int) : Prop := ∀ j, (hj : j < zs.length) → ∃ a, ao = some a ∧ a.block < B ∧ w.cell? (a.add j) = some (.int .i64 zs[j])
theorem IntRow.kept {X : Nat → Obj → Prop} {B : Nat} {w w' : World} {ao : Option Addr} {zs : List Int} (h : IntRow B w ao zs) (hk : Kept X w w') (hX : ∀ k o, k < B → ¬ X k o) : IntRow B w' ao zs := by
  intro j hj
  obtain ⟨a, ha, hb, hc⟩ := h j hj
  refine ⟨a, ha, hb, ?_⟩
  have e : (a.add j).block = a.block := by unfold Addr.add; split <;> rfl
  have hlt : a.block < w.heap.size := by
    have : (a.add j).block < w.heap.size := World.block_lt_of_cell? w _ hc
    omega
  rw [World.cell?_of_block (w := w) (by rw [e, hk.block a.block _ (Array.getElem?_eq_getElem hlt) (hX _ _ hb), Array.getElem?_eq_getElem hlt])]
  exact hc
theorem IntRow.nil {B : Nat} {w w' : World} {ao : Option Addr} {zs : List Int} (h : IntRow B w ao zs) (hk : Kept Nil w w') : IntRow B w' ao zs := h.kept hk (fun _ _ _ x => x)
theorem IntRow.alloc {B : Nat} {w : World} {ao : Option Addr} {zs : List Int} (h : IntRow B w ao zs) (o : Obj) : IntRow B (w.alloc o) ao zs := h.nil ((Kept.refl _ _).alloc o)
theorem IntRow.mono {B B' : Nat} {w : World} {ao : Option Addr} {zs : List Int} (h : IntRow B w ao zs) (hB : B ≤ B') : IntRow B' w ao zs := fun j hj => by
  obtain ⟨a, ha, hb, hc⟩ := h j hj
  exact ⟨a, ha, by omega, hc⟩
theorem IntRow.full {B : Nat} {w : World} {ao : Option Addr} {zs : List Int} (h : IntRow B w ao zs) : IntRow w.heap.size w ao zs := fun j hj => by
  obtain ⟨a, ha, hb, hc⟩ := h j hj
  have e : (a.add j).block = a.block := by unfold Addr.add; split <;> rfl
  have := World.block_lt_of_cell? w _ hc
  exact ⟨a, ha, by omega, hc⟩
theorem intRow_nil (B : Nat) (w : World) (ao : Option Addr) : IntRow B w ao [] := fun j hj => by simp at hj

/-! ### rising -/
def isNd (z : Int) : Bool := decide (1 ≤ z) && decide (z ≤ 9)
def rise : Int → List Int → Bool
  | _, [] => true
  | p, z :: t => isNd z && decide (p < z) && rise z t
def pv (zs : List Int) (k : Nat) : Int := if k = 0 then 0 else zs.getD (k - 1) 0
theorem rise_at {zs : List Int} {k : Nat} (h : k < zs.length) : rise (pv zs k) (zs.drop k) = (isNd zs[k] && decide (pv zs k < zs[k]) && rise (pv zs (k + 1)) (zs.drop (k + 1))) := by
  have e : pv zs (k + 1) = zs[k] := by simp [pv, List.getD_eq_getElem?_getD, h]
  rw [List.drop_eq_getElem_cons h, e]
  rfl
theorem rise_end {zs : List Int} {k : Nat} (h : ¬ k < zs.length) : rise (pv zs k) (zs.drop k) = true := by
  rw [List.drop_of_length_le (by omega)]
  rfl

set_option maxRecDepth 100000 in
theorem isNode_any (z : Int) (w : World) : Calls Try.prog 132 #[.int .i64 z] w fun e w' => e = .returned (.bool (isNd z)) ∧ w' = w := by
  unfold isNd
  by_cases h1 : 1 ≤ z
  · by_cases h2 : z ≤ 9
    · rw [decide_eq_true h1, decide_eq_true h2]
      go_enter Try.func132, Try.ntmps132
      go_wp2
      go_ret
      exact ⟨rfl, rfl⟩
    · rw [decide_eq_true h1, decide_eq_false h2]
      go_enter Try.func132, Try.ntmps132
      go_wp2
      go_ret
      exact ⟨rfl, rfl⟩
  · rw [decide_eq_false h1]
    go_enter Try.func132, Try.ntmps132
    go_wp2
    go_ret
    exact ⟨rfl, rfl⟩

set_option maxRecDepth 100000 in
set_option maxHeartbeats 2000000 in
theorem areNodes_any (B cap : Nat) (ao : Option Addr) (zs : List Int) (w : World) (h : IntRow B w ao zs) (hl : (zs.length : Int) ≤ 9223372036854775807) :
    Calls Try.prog 72 #[.slice ao zs.length cap] w fun e w' => e = .returned (.bool (rise 0 zs)) ∧ w' = w := by
  have HR : Hid (IntRow B w ao zs) := h
  clear h
  go_enter Try.func72, Try.ntmps72
  go_wp2
  go_loop [7] (fun i => ∃ k : Nat, k ≤ zs.length ∧ i = .int .i64 k ∧ Hid (rise 0 zs = rise (pv zs k) (zs.drop k))) (fun i => zs.length - (intOf i).toNat)
  case atStart => exact ⟨0, Nat.zero_le _, rfl, rfl⟩
  case round =>
    obtain ⟨k, hk, rfl, HI⟩ := hrel
    by_cases hlt : k < zs.length
    · obtain ⟨a, rfl, _, hcell⟩ := HR.out k hlt
      have HA : Hid (rise 0 zs = (isNd zs[k] && decide (pv zs k < zs[k]) && rise (pv zs (k + 1)) (zs.drop (k + 1)))) := HI.out.trans (rise_at hlt)
      have HND := isNode_any zs[k] w
      by_cases k0 : k = 0
      · have hk0 : (k : Int) ≤ 0 := by omega
        have hpv : pv zs k = 0 := by simp [pv, k0]
        rw [hpv] at HA
        cases hnd : isNd zs[k] with
        | false =>
          rw [hnd] at HND
          have HF : Hid (rise 0 zs = false) := by show rise 0 zs = false; rw [HA.out, hnd]; rfl
          generalize zs[k] = z at *
          clear hnd HA HI k0 hpv
          go_wp2_with (first | (go_at_call 132; go_must (refine HND.mono ?_); rintro e w1 ⟨rfl, rfl⟩))
          go_ret
          rw [HF.out]
          exact ⟨rfl, rfl⟩
        | true =>
          rw [hnd] at HND
          have HF : Hid (rise 0 zs = rise (pv zs (k + 1)) (zs.drop (k + 1))) := by
            show rise 0 zs = _
            rw [HA.out, hnd]
            have : (0 : Int) < zs[k] := by
              simp only [isNd, Bool.and_eq_true, decide_eq_true_eq] at hnd
              omega
            rw [decide_eq_true this]; rfl
          generalize zs[k] = z at *
          clear hnd HA HI k0 hpv
          go_wp2_with (first | (go_at_call 132; go_must (refine HND.mono ?_); rintro e w1 ⟨rfl, rfl⟩))
          go_round
          case rel => exact ⟨k + 1, by omega, by go_num, HF⟩
          case measure => simp [intOf]; omega
      · obtain ⟨a', ha', _, hprev⟩ := HR.out (k - 1) (by omega)
        simp only [Option.some.injEq] at ha'
        subst ha'
        have hpv : pv zs k = zs[k - 1] := by simp [pv, k0, List.getD_eq_getElem?_getD, show k - 1 < zs.length by omega]
        rw [hpv] at HA
        have hkp : 0 < k := by omega
        cases hnd : isNd zs[k] with
        | false =>
          rw [hnd] at HND
          have HF : Hid (rise 0 zs = false) := by show rise 0 zs = false; rw [HA.out, hnd]; rfl
          generalize zs[k] = z at *
          clear hnd HA HI hpv
          go_wp2_with (first | (go_at_call 132; go_must (refine HND.mono ?_); rintro e w1 ⟨rfl, rfl⟩))
          go_ret
          rw [HF.out]
          exact ⟨rfl, rfl⟩
        | true =>
          rw [hnd] at HND
          by_cases hp : zs[k - 1] < zs[k]
          · have HF : Hid (rise 0 zs = rise (pv zs (k + 1)) (zs.drop (k + 1))) := by show rise 0 zs = _; rw [HA.out, hnd, decide_eq_true hp]; rfl
            generalize zs[k] = z at *
            generalize zs[k - 1] = y at *
            clear hnd HA HI hpv k0
            go_wp2_with (first | (go_at_call 132; go_must (refine HND.mono ?_); rintro e w1 ⟨rfl, rfl⟩))
            go_round
            case rel => exact ⟨k + 1, by omega, by go_num, HF⟩
            case measure => simp [intOf]; omega
          · have HF : Hid (rise 0 zs = false) := by show rise 0 zs = false; rw [HA.out, hnd, decide_eq_false hp]; rfl
            generalize zs[k] = z at *
            generalize zs[k - 1] = y at *
            clear hnd HA HI hpv k0
            go_wp2_with (first | (go_at_call 132; go_must (refine HND.mono ?_); rintro e w1 ⟨rfl, rfl⟩))
            go_ret
            rw [HF.out]
            exact ⟨rfl, rfl⟩
    · have HF : Hid (rise 0 zs = true) := HI.out.trans (rise_end hlt)
      go_wp2
      go_ret
      rw [HF.out]
      exact ⟨rfl, rfl⟩

/-! ### among them -/
def pos (z : Int) : Nat → List Int → Int
  | _, [] => -1
  | k, y :: t => if y = z then k else pos z (k + 1) t
theorem pos_at {zs : List Int} {z : Int} {k : Nat} (h : k < zs.length) : pos z k (zs.drop k) = if zs[k] = z then (k : Int) else pos z (k + 1) (zs.drop (k + 1)) := by
  rw [List.drop_eq_getElem_cons h]
  rfl
/-- Is a number among them? -/
def hasZ (zs : List Int) (z : Int) : Bool := decide (0 ≤ pos z 0 zs)
theorem pos_has (z : Int) : ∀ (zs : List Int) (k : Nat), decide (0 ≤ pos z k zs) = zs.contains z
  | [], k => rfl
  | y :: t, k => by
    unfold pos
    by_cases h : y = z
    · rw [if_pos h, List.contains_cons, h]
      simp
    · rw [if_neg h, pos_has z t (k + 1), List.contains_cons]
      have : (z == y) = false := by simp; exact fun e => h e.symm
      rw [this, Bool.false_or]

theorem hasZ_eq (zs : List Int) (z : Int) : hasZ zs z = zs.contains z := pos_has z zs 0

set_option maxRecDepth 100000 in
set_option maxHeartbeats 1000000 in
theorem index_any (B cap : Nat) (ao : Option Addr) (zs : List Int) (z : Int) (w : World) (h : IntRow B w ao zs) (hl : (zs.length : Int) ≤ 9223372036854775807) :
    Calls Try.prog 139 #[.slice ao zs.length cap, .int .i64 z] w fun e w' => e = .returned (.int .i64 (pos z 0 zs)) ∧ w' = w := by
  have HR : Hid (IntRow B w ao zs) := h
  clear h
  go_enter Try.func139, Try.ntmps139
  go_wp2
  go_loop [8] (fun i => ∃ k : Nat, k ≤ zs.length ∧ i = .int .i64 k ∧ Hid (pos z 0 zs = pos z k (zs.drop k))) (fun i => zs.length - (intOf i).toNat)
  case atStart => exact ⟨0, Nat.zero_le _, rfl, rfl⟩
  case round =>
    obtain ⟨k, hk, rfl, HI⟩ := hrel
    by_cases hlt : k < zs.length
    · obtain ⟨a, rfl, _, hcell⟩ := HR.out k hlt
      by_cases hz : zs[k] = z
      · have HF : Hid (pos z 0 zs = k) := HI.out.trans ((pos_at hlt).trans (if_pos hz))
        rw [hz] at hcell
        clear hz HI
        go_wp2
        go_ret
        rw [HF.out]
        exact ⟨rfl, rfl⟩
      · have HF : Hid (pos z 0 zs = pos z (k + 1) (zs.drop (k + 1))) := HI.out.trans ((pos_at hlt).trans (if_neg hz))
        have hz1 : (z == zs[k]) = false := by simp; exact fun e => hz e.symm
        have hz2 : (zs[k] == z) = false := by simp; exact hz
        generalize zs[k] = y at *
        clear hz HI
        go_wp2
        go_round
        case rel => exact ⟨k + 1, by omega, by go_num, HF⟩
        case measure => simp [intOf]; omega
    · have HF : Hid (pos z 0 zs = -1) := by show pos z 0 zs = -1; rw [HI.out, List.drop_of_length_le (by omega)]; rfl
      go_wp2
      go_ret
      rw [HF.out]
      exact ⟨rfl, rfl⟩

set_option maxRecDepth 100000 in
theorem contains_any (B cap : Nat) (ao : Option Addr) (zs : List Int) (z : Int) (w : World) (h : IntRow B w ao zs) (hl : (zs.length : Int) ≤ 9223372036854775807) :
    Calls Try.prog 79 #[.slice ao zs.length cap, .int .i64 z] w fun e w' => e = .returned (.bool (hasZ zs z)) ∧ w' = w := by
  have H := index_any B cap ao zs z w h hl
  have HP : Hid (decide (0 ≤ pos z 0 zs) = hasZ zs z) := rfl
  generalize pos z 0 zs = p at *
  clear h hl
  rw [← HP.out]
  go_enter Try.func79, Try.ntmps79
  go_wp2_with fail
  refine H.mono ?_
  rintro e w1 ⟨rfl, rfl⟩
  go_wp2
  go_ret
  exact ⟨rfl, rfl⟩

/-! ### the document's -/
set_option maxRecDepth 100000 in
set_option maxHeartbeats 1000000 in
theorem refHas_any (B cap : Nat) (ao : Option Addr) (zs : List Int) (z : Int) (w : World) (h : IntRow B w ao zs) (hl : (zs.length : Int) ≤ 9223372036854775807) :
    Calls Try.prog 67 #[.slice ao zs.length cap, .int .i64 z] w fun e w' => e = .returned (.bool (hasZ zs z)) ∧ w' = w := by
  have HR : Hid (IntRow B w ao zs) := h
  have HP : Hid (decide (0 ≤ pos z 0 zs) = hasZ zs z) := rfl
  clear h
  go_enter Try.func67, Try.ntmps67
  go_wp2
  go_loop [5] (fun i => ∃ k : Nat, k ≤ zs.length ∧ i = .int .i64 k ∧ Hid (pos z 0 zs = pos z k (zs.drop k))) (fun i => zs.length - (intOf i).toNat)
  case atStart => exact ⟨0, Nat.zero_le _, rfl, rfl⟩
  case round =>
    obtain ⟨k, hk, rfl, HI⟩ := hrel
    by_cases hlt : k < zs.length
    · obtain ⟨a, rfl, _, hcell⟩ := HR.out k hlt
      by_cases hz : zs[k] = z
      · have HF : Hid (hasZ zs z = true) := by show hasZ zs z = true; rw [← HP.out, HI.out, (pos_at hlt).trans (if_pos hz)]; simp
        rw [hz] at hcell
        clear hz HI HP
        go_wp2
        go_ret
        rw [HF.out]
        exact ⟨rfl, rfl⟩
      · have HF : Hid (pos z 0 zs = pos z (k + 1) (zs.drop (k + 1))) := HI.out.trans ((pos_at hlt).trans (if_neg hz))
        have hz2 : (zs[k] == z) = false := by simp; exact hz
        generalize zs[k] = y at *
        clear hz HI
        go_wp2
        go_round
        case rel => exact ⟨k + 1, by omega, by go_num, HF⟩
        case measure => simp [intOf]; omega
    · have HF : Hid (hasZ zs z = false) := by show hasZ zs z = false; rw [← HP.out, HI.out, List.drop_of_length_le (by omega)]; rfl
      go_wp2
      go_ret
      rw [HF.out]
      exact ⟨rfl, rfl⟩

set_option maxRecDepth 100000 in
set_option maxHeartbeats 4000000 in
theorem refRising_any (B cap : Nat) (ao : Option Addr) (zs : List Int) (w : World) (h : IntRow B w ao zs) (hl : (zs.length : Int) ≤ 9223372036854775807) :
    Calls Try.prog 75 #[.slice ao zs.length cap] w fun e w' => e = .returned (.bool (rise 0 zs)) ∧ Kept Nil w w' := by
  have HR : Hid (IntRow B w ao zs) := h
  clear h
  go_enter Try.func75, Try.ntmps75
  go_wp2
  go_loopw [3] (fun i wr => ∃ k : Nat, k ≤ zs.length ∧ i = .int .i64 k ∧ Hid (rise 0 zs = rise (pv zs k) (zs.drop k)) ∧ Hid (IntRow B wr ao zs) ∧ Hid (Kept Nil w wr)) (fun i _ => zs.length - (intOf i).toNat)
  case atStart => exact ⟨0, Nat.zero_le _, rfl, rfl, HR.out, Kept.refl _ _⟩
  case round =>
    obtain ⟨k, hk, rfl, HI, HRr, HKr⟩ := hrel
    clear HR
    by_cases hlt : k < zs.length
    · obtain ⟨a, rfl, _, hcell⟩ := HRr.out k hlt
      have HA : Hid (rise 0 zs = (isNd zs[k] && decide (pv zs k < zs[k]) && rise (pv zs (k + 1)) (zs.drop (k + 1)))) := HI.out.trans (rise_at hlt)
      have hki : (k : Int) < zs.length := by omega
      by_cases z1 : zs[k] < 1
      · have HF : Hid (rise 0 zs = false) := by show rise 0 zs = false; rw [HA.out]; unfold isNd; rw [decide_eq_false (by omega)]; rfl
        generalize zs[k] = z at *
        have b1 : decide (z < 1) = true := decide_eq_true z1
        clear HA HI
        go_wp2
        go_quiet (fail)
        go_wp2
        go_ret
        rw [HF.out]
        exact ⟨rfl, HKr.out.drewN _⟩
      · by_cases z9 : 9 < zs[k]
        · have HF : Hid (rise 0 zs = false) := by show rise 0 zs = false; rw [HA.out]; unfold isNd; rw [decide_eq_false (show ¬ zs[k] ≤ 9 by omega)]; simp
          generalize zs[k] = z at *
          have b1 : decide (z < 1) = false := decide_eq_false z1
          have b2 : decide (9 < z) = true := decide_eq_true z9
          clear HA HI
          go_wp2
          go_quiet (fail)
          go_wp2
          go_ret
          rw [HF.out]
          exact ⟨rfl, HKr.out.drewN _⟩
        · have hnd : isNd zs[k] = true := by unfold isNd; rw [decide_eq_true (by omega), decide_eq_true (by omega)]; rfl
          by_cases k0 : k = 0
          · have hk0 : (k : Int) ≤ 0 := by omega
            have hpv : pv zs k = 0 := by simp [pv, k0]
            rw [hpv] at HA
            have HF : Hid (rise 0 zs = rise (pv zs (k + 1)) (zs.drop (k + 1))) := by
              show rise 0 zs = _
              rw [HA.out, hnd]
              have : (0 : Int) < zs[k] := by omega
              rw [decide_eq_true this]; rfl
            generalize zs[k] = z at *
            have b1 : decide (z < 1) = false := decide_eq_false z1
            have b2 : decide (9 < z) = false := decide_eq_false z9
            have b3 : decide (0 < k) = false := decide_eq_false (by omega)
            clear HA HI hnd k0 hpv
            go_wp2
            go_quiet (fail)
            go_wp2
            go_roundw
            case rel => exact ⟨k + 1, by omega, by go_num, HF, HRr.out.nil ((Kept.refl _ _).drewN _), HKr.out.drewN _⟩
            case measure => simp [intOf]; omega
          · obtain ⟨a', ha', _, hprev⟩ := HRr.out (k - 1) (by omega)
            simp only [Option.some.injEq] at ha'
            subst ha'
            have hpv : pv zs k = zs[k - 1] := by simp [pv, k0, List.getD_eq_getElem?_getD, show k - 1 < zs.length by omega]
            rw [hpv] at HA
            have hkp : (0 : Int) < (k : Int) := by omega
            have b3 : decide (0 < k) = true := decide_eq_true (by omega)
            have hprev2 : wr.cell? (a.add ((k : Int) - 1).toNat) = some (.int .i64 zs[k - 1]) := by rw [show ((k : Int) - 1).toNat = k - 1 by omega]; exact hprev
            by_cases hp : zs[k - 1] < zs[k]
            · have HF : Hid (rise 0 zs = rise (pv zs (k + 1)) (zs.drop (k + 1))) := by show rise 0 zs = _; rw [HA.out, hnd, decide_eq_true hp]; rfl
              generalize zs[k] = z at *
              generalize zs[k - 1] = y at *
              have b1 : decide (z < 1) = false := decide_eq_false z1
              have b2 : decide (9 < z) = false := decide_eq_false z9
              have b4 : decide (z ≤ y) = false := decide_eq_false (by omega)
              clear HA HI hnd hpv k0
              go_wp2
              go_quiet (fail)
              go_wp2
              go_roundw
              case rel => exact ⟨k + 1, by omega, by go_num, HF, HRr.out.nil ((Kept.refl _ _).drewN _), HKr.out.drewN _⟩
              case measure => simp [intOf]; omega
            · have HF : Hid (rise 0 zs = false) := by show rise 0 zs = false; rw [HA.out, hnd, decide_eq_false hp]; rfl
              generalize zs[k] = z at *
              generalize zs[k - 1] = y at *
              have b1 : decide (z < 1) = false := decide_eq_false z1
              have b2 : decide (9 < z) = false := decide_eq_false z9
              have b4 : decide (z ≤ y) = true := decide_eq_true (by omega)
              clear HA HI hnd hpv k0
              go_wp2
              go_quiet (fail)
              go_wp2
              go_ret
              rw [HF.out]
              exact ⟨rfl, HKr.out.drewN _⟩
    · have HF : Hid (rise 0 zs = true) := HI.out.trans (rise_end hlt)
      go_wp2
      go_ret
      rw [HF.out]
      exact ⟨rfl, HKr.out⟩

end Go.Proofs.Ytijklginabipgaa
