/-
  kv: the keys that begin with a key.
-/
import Derived.Test.YtgkacepcggjfkaaGreatDoorWOld
namespace Go.Proofs.YtgkacepcggjfkaaGreatDoor
open Go.RowKit

def prefB (s p : List UInt8) : Bool := decide (s.take p.length = p)
set_option maxRecDepth 100000 in
set_option maxHeartbeats 1000000 in
theorem prefixL_any (s p : List UInt8) (w : World) :
    Calls Tryz.prog 171 #[.string (bs s), .string (bs p)] w fun e w' => e = .returned (.bool (prefB s p)) ∧ w' = w := by
  have hds : (bs s).size = s.length := bs_size _
  have hdp : (bs p).size = p.length := bs_size _
  obtain ⟨r, HR⟩ : ∃ r : Bool, Hid (r = prefB s p) := ⟨_, rfl⟩
  rw [← HR.out]
  by_cases hl : p.length ≤ s.length
  · have hli : (p.length : Int) ≤ (s.length : Int) := by omega
    go_enter Tryz.func171, Tryz.ntmps171
    go_wp2
    go_ret
    refine ⟨?_, rfl⟩
    rw [HR.out]
    unfold prefB
    rw [← bs_beqK, ← bs_take]
    rfl
  · have hli : ¬ (p.length : Int) ≤ (s.length : Int) := by omega
    have HF : Hid (r = false) := by
      show _ = _
      rw [HR.out]
      unfold prefB
      rw [decide_eq_false_iff_not]
      intro e
      have := congrArg List.length e
      rw [List.length_take] at this
      omega
    go_enter Tryz.func171, Tryz.ntmps171
    go_wp2
    go_ret
    exact ⟨by rw [HF.out]; rfl, rfl⟩

set_option maxRecDepth 100000 in
set_option maxHeartbeats 1000000 in
theorem prefix_any (s p : List UInt8) (w : World) :
    Calls Tryz.prog 153 #[.string (bs s), .string (bs p)] w fun e w' => e = .returned (.bool (prefB s p)) ∧ w' = w := by
  go_enter Tryz.func153, Tryz.ntmps153
  go_wp2_with fail
  go_fit (prefixL_any s p w)
  rintro e w1 ⟨rfl, rfl⟩
  go_wp2
  go_ret
  exact ⟨rfl, rfl⟩
def plcP (p : Pr → Bool) (fs : List Pr) : Int := if fs.findIdx p < fs.length then (fs.findIdx p : Int) else -1
theorem plcP_hit {p : Pr → Bool} {fs : List Pr} {k : Nat} (hk : k < fs.length) (hp : p fs[k] = true) (hn : ∀ j, (hj : j < fs.length) → j < k → p fs[j] = false) : plcP p fs = k := by
  have : fs.findIdx p = k := (List.findIdx_eq hk).2 ⟨hp, fun j hj => hn j (by omega) hj⟩
  unfold plcP
  rw [this, if_pos hk]
theorem plcP_miss {p : Pr → Bool} {fs : List Pr} (hn : ∀ j, (hj : j < fs.length) → p fs[j] = false) : plcP p fs = -1 := by
  have : fs.findIdx p = fs.length := List.findIdx_eq_length.2 (fun x hx => by
    obtain ⟨j, hj, rfl⟩ := List.getElem_of_mem hx
    exact hn j hj)
  unfold plcP
  rw [this, if_neg (by omega)]
/-- What the closure asks: is the key no longer ahead? -/
def offK (key : List UInt8) (p : Pr) : Bool := !prefB p.k key
set_option maxRecDepth 100000 in
set_option maxHeartbeats 1000000 in
theorem offK_any (f : Pr) (key : List UInt8) (C b : Nat) (w : World) (hc : w.cell? ⟨C, 0, none⟩ = some (.pointer (some ⟨b, 0, none⟩))) (hk : w.cell? ⟨b, 0, none⟩ = some (.string (bs key))) :
    Calls Tryz.prog 152 #[.agg #[.string (bs f.k), .string (bs f.v), .int .i64 f.n], .pointer (some ⟨C, 0, none⟩)] w fun e w' => e = .returned (.bool (offK key f)) ∧ Kept Nil w w' := by
  have PF := fun X => prefix_any f.k key X
  obtain ⟨r, HR⟩ : ∃ r : Bool, Hid (r = prefB f.k key) := ⟨_, rfl⟩
  have HK : Hid (offK key f = !r) := by show _ = _; rw [HR.out]; rfl
  rw [HK.out]
  rw [← HR.out] at PF
  have hl1 := World.block_lt_of_cell? w _ hc
  have hl2 := World.block_lt_of_cell? w _ hk
  simp only at hl1 hl2
  go_enter Tryz.func152, Tryz.ntmps152
  go_wp2_with fail
  go_region_with (go_at_call 153; go_must (go_fit (PF _)); rintro e w1 ⟨rfl, rfl⟩)
  all_goals
    go_wp2
    go_ret
    exact ⟨rfl, ((Kept.refl _ _).alloc _).drew⟩

set_option maxRecDepth 100000 in
set_option maxHeartbeats 2000000 in
theorem indexP_any (B c C b : Nat) (ao : Option Addr) (fs : List Pr) (key : List UInt8) (w : World) (h : PairRow B w ao fs) (hl : (fs.length : Int) ≤ 9223372036854775807) (hc : w.cell? ⟨C, 0, none⟩ = some (.pointer (some ⟨b, 0, none⟩))) (hkk : w.cell? ⟨b, 0, none⟩ = some (.string (bs key))) :
    Calls Tryz.prog 151 #[.slice ao fs.length c, .func (.func 152) #[] #[.pointer (some ⟨C, 0, none⟩)]] w fun e w' => e = .returned (.int .i64 (plcP (offK key) fs)) ∧ Kept Nil w w' := by
  have HR : Hid (PairRow B w ao fs) := h
  have PF := fun (X : World) (hX : Kept Nil w X) (f : Pr) => offK_any f key C b X (cell_kept hX (fun _ x => x) hc) (cell_kept hX (fun _ x => x) hkk)
  obtain ⟨p, HP⟩ : ∃ p : Pr → Bool, Hid (p = offK key) := ⟨_, rfl⟩
  rw [← HP.out] at PF ⊢
  clear h hc hkk
  go_enter Tryz.func151, Tryz.ntmps151
  go_wp2
  go_loopw [8] (fun i wr => ∃ k : Nat, k ≤ fs.length ∧ i = .int .i64 k ∧ Hid (∀ j, (hj : j < fs.length) → j < k → p fs[j] = false) ∧ Hid (Kept Nil w wr)) (fun i _ => fs.length - (intOf i).toNat)
  case atStart => exact ⟨0, Nat.zero_le _, rfl, fun j _ h => by omega, Kept.refl _ _⟩
  case round =>
    obtain ⟨k, hk, rfl, HN, HK⟩ := hrel
    by_cases hlt : k < fs.length
    · obtain ⟨a, rfl, hb, hc0, hc1, hc2, _, _⟩ := HR.out.nil HK.out k hlt
      have hki : (k : Int) < fs.length := by omega
      obtain ⟨y, HY⟩ : ∃ y : Pr, Hid (y = fs[k]) := ⟨fs[k], (rfl : fs[k] = fs[k])⟩
      rw [← HY.out] at hc0 hc1 hc2
      have PY := PF wr HK.out y
      cases hp : p y with
      | true =>
        rw [hp] at PY
        have HPY : Hid (p y = true) := hp
        clear hp
        go_wp2_with fail
        go_fit PY
        rintro e w1 ⟨rfl, k1⟩
        have K1 : Hid (Kept Nil w w1) := HK.out.trans k1
        clear k1 PY
        go_wp2
        go_ret
        exact ⟨by rw [plcP_hit hlt (by rw [← HY.out]; exact HPY.out) HN.out]; rfl, K1.out⟩
      | false =>
        rw [hp] at PY
        have HPY : Hid (p y = false) := hp
        clear hp
        go_wp2_with fail
        go_fit PY
        rintro e w1 ⟨rfl, k1⟩
        have K1 : Hid (Kept Nil w w1) := HK.out.trans k1
        clear k1 PY
        go_wp2
        go_roundw
        case rel => exact ⟨k + 1, by omega, by go_num, fun j hj hjk => (by
          by_cases e : j = k
          · subst e; rw [← HY.out]; exact HPY.out
          · exact HN.out j hj (by omega)), K1.out⟩
        case measure => simp [intOf]; omega
    · obtain rfl : k = fs.length := by omega
      go_wp2
      go_ret
      exact ⟨by rw [plcP_miss (fun j hj => HN.out j hj hj)]; rfl, HK.out⟩

end Go.Proofs.YtgkacepcggjfkaaGreatDoor
