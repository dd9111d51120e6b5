/-
  Sessions: a client's place; who was seen least lately; the closures.
-/
import Derived.Test.YtblmmbghnkplkaaWSe3
import Derived.BigQuiet
namespace Go.Proofs.Ytblmmbghnkplkaa
open Go.RowKit

def cmpI (x y : Int) : Int := if x < y then -1 else if y < x then 1 else 0
theorem cmpI_lt (x y : Int) : cmpI x y < 0 ↔ x < y := by
  unfold cmpI
  split
  · omega
  · split <;> omega
theorem cmpI_eq (x y : Int) : cmpI x y = 0 ↔ x = y := by
  unfold cmpI
  split
  · omega
  · split <;> omega
set_option maxRecDepth 100000 in
set_option maxHeartbeats 1000000 in
theorem isNaN_any (x : Int) (w : World) : Calls Try.prog 173 #[.int .i64 x] w fun e w' => e = .returned (.bool false) ∧ w' = w := by
  go_enter Try.func173, Try.ntmps173
  go_wp2
  go_ret
  exact ⟨by simp, rfl⟩
set_option maxRecDepth 100000 in
set_option maxHeartbeats 1000000 in
theorem cmpC_any (x y : Int) (w : World) : Calls Try.prog 182 #[.int .i64 x, .int .i64 y] w fun e w' => e = .returned (.int .i64 (cmpI x y)) ∧ w' = w := by
  have N1 := isNaN_any x w
  have N2 := isNaN_any y w
  obtain ⟨z, HZ⟩ : ∃ z, Hid (z = cmpI x y) := ⟨_, rfl⟩
  rw [← HZ.out]
  go_enter Try.func182, Try.ntmps182
  go_wp2_with fail
  go_fit N1
  rintro _ _ ⟨rfl, rfl⟩
  go_wp2_with fail
  go_fit N2
  rintro _ _ ⟨rfl, rfl⟩
  by_cases h : x < y
  · have HE : Hid (z = -1) := by show _ = _; rw [HZ.out]; exact if_pos h
    go_wp2
    go_ret
    exact ⟨by rw [HE.out]; rfl, rfl⟩
  · by_cases h2 : y < x
    · have HE : Hid (z = 1) := by show _ = _; rw [HZ.out]; unfold cmpI; rw [if_neg h, if_pos h2]
      have h3 : x > y := h2
      go_wp2
      go_ret
      exact ⟨by rw [HE.out]; rfl, rfl⟩
    · have HE : Hid (z = 0) := by show _ = _; rw [HZ.out]; unfold cmpI; rw [if_neg h, if_neg h2]
      have h3 : ¬ x > y := h2
      go_wp2
      go_ret
      exact ⟨by rw [HE.out]; rfl, rfl⟩
set_option maxRecDepth 100000 in
set_option maxHeartbeats 1000000 in
theorem findC_any (e : Se) (cl : Int) (w : World) : Calls Try.prog 181 #[seV e, .int .i64 cl] w fun r w' => r = .returned (.int .i64 (cmpI e.s.cl cl)) ∧ Kept Nil w w' := by
  have CM := fun X => cmpC_any e.s.cl cl X
  unfold seV
  go_enter Try.func181, Try.ntmps181
  go_wp2_with fail
  go_fit (CM _)
  rintro _ _ ⟨rfl, rfl⟩
  go_wp2
  go_ret
  exact ⟨rfl, (Kept.refl _ _).alloc _⟩
set_option maxRecDepth 100000 in
set_option maxHeartbeats 1000000 in
theorem oldC_any (a b : Se) (w : World) : Calls Try.prog 184 #[seV a, seV b] w fun r w' => r = .returned (.int .i64 (cmpI a.s.sn b.s.sn)) ∧ Kept Nil w w' := by
  have CM := fun X => cmpC_any a.s.sn b.s.sn X
  unfold seV
  go_enter Try.func184, Try.ntmps184
  go_wp2_with fail
  go_fit (CM _)
  rintro _ _ ⟨rfl, rfl⟩
  go_wp2
  go_ret
  exact ⟨rfl, ((Kept.refl _ _).alloc _).alloc _⟩
set_option maxRecDepth 100000 in
set_option maxHeartbeats 1000000 in
theorem goneC_any (e : Se) (b : Nat) (cl : Int) (w : World) (hb : w.cell? ⟨b, 0, none⟩ = some (.int .i64 cl)) : Calls Try.prog 185 #[seV e, .pointer (some ⟨b, 0, none⟩)] w fun r w' => r = .returned (.bool (decide (e.s.cl = cl))) ∧ Kept Nil w w' := by
  have hl := World.block_lt_of_cell? w _ hb
  simp only at hl
  unfold seV
  go_enter Try.func185, Try.ntmps185
  go_wp2
  go_ret
  exact ⟨by first | rfl | simp, (Kept.refl _ _).alloc _⟩
/-- Was it seen too long ago? -/
def lateP (tm : Int) (e : Se) : Bool := decide (wrap64 (e.s.sn + 400) < tm)
set_option maxRecDepth 100000 in
set_option maxHeartbeats 1000000 in
theorem lateC_any (e : Se) (C b : Nat) (tm : Int) (w : World) (hc : w.cell? ⟨C, 0, none⟩ = some (.pointer (some ⟨b, 0, none⟩))) (hb : w.cell? ⟨b, 2, none⟩ = some (.int .i64 tm)) : Calls Try.prog 125 #[seV e, .pointer (some ⟨C, 0, none⟩)] w fun r w' => r = .returned (.bool (lateP tm e)) ∧ Kept Nil w w' := by
  have hl := World.block_lt_of_cell? w _ hb
  have hl2 := World.block_lt_of_cell? w _ hc
  simp only at hl hl2
  unfold seV
  go_enter Try.func125, Try.ntmps125
  go_wp2_with fail
  go_quiet (fail)
  go_wp2
  go_ret
  exact ⟨by unfold lateP; first | rfl | simp, ((Kept.refl _ _).alloc _).drewN _⟩

/-! ### a client's place -/
def SrtE (es : List Se) : Prop := es.Pairwise fun a b => a.s.cl < b.s.cl
def lowE (cl : Int) (es : List Se) : Nat := es.findIdx fun e => decide (cl ≤ e.s.cl)
def isE (cl : Int) (es : List Se) : Bool := match es[lowE cl es]? with | none => false | some e => decide (e.s.cl = cl)
theorem lowE_eq {cl : Int} {es : List Se} {i : Nat} (hi : i ≤ es.length) (h1 : ∀ j, (hj : j < es.length) → j < i → es[j].s.cl < cl) (h2 : ∀ j, (hj : j < es.length) → i ≤ j → cl ≤ es[j].s.cl) : lowE cl es = i := by
  unfold lowE
  by_cases h : i < es.length
  · exact (List.findIdx_eq h).2 ⟨decide_eq_true (h2 i h (Nat.le_refl _)), fun j hj => decide_eq_false (by have := h1 j (by omega) hj; omega)⟩
  · have e : i = es.length := by omega
    subst e
    exact List.findIdx_eq_length.2 (fun x hx => by
      obtain ⟨j, hj, rfl⟩ := List.getElem_of_mem hx
      have := h1 j hj hj
      exact decide_eq_false (by omega))
set_option maxRecDepth 100000 in
set_option maxHeartbeats 2000000 in
theorem bsE_any (B c : Nat) (ao : Option Addr) (ps : List Se) (cl : Int) (w : World) (h : OwnE B w ao c ps) (hs : SrtE ps) (hl : ps.length ≤ 32) :
    Calls Try.prog 180 #[.slice ao ps.length c, .int .i64 cl, .func (.func 181) #[] #[]] w fun e w' => e = .returned (.tuple #[.int .i64 (lowE cl ps), .bool (isE cl ps)]) ∧ Kept Nil w w' := by
  have HR : Hid (OwnE B w ao c ps) := h
  have HS : Hid (SrtE ps) := hs
  have FC := fun (y : Se) X => findC_any y cl X
  unfold seV at FC
  clear h hs
  go_enter Try.func180, Try.ntmps180
  go_wp2
  go_loopw [9, 10] (fun u v wr => ∃ i j : Nat, i ≤ j ∧ j ≤ ps.length ∧ u = .int .i64 i ∧ v = .int .i64 j ∧ Hid (∀ q, (hq : q < ps.length) → q < i → ps[q].s.cl < cl) ∧ Hid (∀ q, (hq : q < ps.length) → j ≤ q → cl ≤ ps[q].s.cl) ∧ Hid (Kept Nil w wr)) (fun u v _ => (intOf v).toNat - (intOf u).toNat)
  case atStart => exact ⟨0, ps.length, Nat.zero_le _, Nat.le_refl _, rfl, rfl, fun q hq h0 => by omega, fun q hq h0 => by omega, Kept.refl _ _⟩
  case round =>
    obtain ⟨i, j, hij, hjn, rfl, rfl, H1, H2, HK⟩ := hrel
    by_cases hlt : i < j
    · have hli : (i : Int) < (j : Int) := by omega
      have hm : (i + j) / 2 < ps.length := by omega
      have hne : ao ≠ none := fun e => by
        have h := HR.out
        rw [e] at h
        have h9 := h.noneE.1
        rw [h9] at hm
        simp at hm
      obtain ⟨g, _, rfl, _⟩ := HR.out.block hne
      obtain ⟨c0, c1, c2, c3, c4, c5, c6⟩ := (HR.out.kept HK.out).at7 hm
      obtain ⟨y, HY⟩ : ∃ y : Se, Hid (y = ps[(i + j) / 2]) := ⟨ps[(i + j) / 2], (rfl : ps[(i + j) / 2] = ps[(i + j) / 2])⟩
      rw [← HY.out] at c0 c1 c2 c3 c4 c5 c6
      clear hne
      have CM := FC y wr
      have HC : Hid (cmpI y.s.cl cl < 0 ↔ y.s.cl < cl) := cmpI_lt y.s.cl cl
      generalize cmpI y.s.cl cl = z at *
      by_cases hz : z < 0
      · have HL : Hid (y.s.cl < cl) := HC.out.1 hz
        go_wp2_with fail
        go_fit CM
        rintro e w1 ⟨rfl, k1⟩
        have K1 : Hid (Kept Nil w w1) := HK.out.trans k1
        clear k1 CM
        go_wp2
        go_roundw
        case rel => exact ⟨(i + j) / 2 + 1, j, by omega, hjn, by congr 1, rfl, fun q hq hqi => (by
          by_cases e : q = (i + j) / 2
          · subst e; rw [← HY.out]; exact HL.out
          · have h1 := List.pairwise_iff_getElem.1 HS.out q ((i + j) / 2) hq hm (by omega)
            rw [← HY.out] at h1
            exact Int.lt_trans h1 HL.out), H2.out, K1.out⟩
        case measure => simp [intOf]; omega
      · have HL : Hid (cl ≤ y.s.cl) := by
          show cl ≤ y.s.cl
          by_cases hx : y.s.cl < cl
          · exact absurd (HC.out.2 hx) hz
          · omega
        go_wp2_with fail
        go_fit CM
        rintro e w1 ⟨rfl, k1⟩
        have K1 : Hid (Kept Nil w w1) := HK.out.trans k1
        clear k1 CM
        go_wp2
        go_roundw
        case rel => exact ⟨i, (i + j) / 2, by omega, by omega, rfl, by congr 1, H1.out, fun q hq hqi => (by
          by_cases e : q = (i + j) / 2
          · subst e; rw [← HY.out]; exact HL.out
          · have h1 := List.pairwise_iff_getElem.1 HS.out ((i + j) / 2) q hm hq (by omega)
            rw [← HY.out] at h1
            have h2 := HL.out
            omega), K1.out⟩
        case measure => simp [intOf]; omega
    · obtain rfl : i = j := by omega
      have HLow : Hid (lowE cl ps = i) := lowE_eq hjn H1.out H2.out
      by_cases hin : i < ps.length
      · have hii : (i : Int) < ps.length := by omega
        have hne : ao ≠ none := fun e => by
          have h := HR.out
          rw [e] at h
          have h9 := h.noneE.1
          rw [h9] at hin
          simp at hin
        obtain ⟨g, _, rfl, _⟩ := HR.out.block hne
        obtain ⟨c0, c1, c2, c3, c4, c5, c6⟩ := (HR.out.kept HK.out).at7 hin
        obtain ⟨y, HY⟩ : ∃ y : Se, Hid (y = ps[i]) := ⟨ps[i], (rfl : ps[i] = ps[i])⟩
        rw [← HY.out] at c0 c1 c2 c3 c4 c5 c6
        clear hne
        have HTH : Hid (isE cl ps = decide (y.s.cl = cl)) := by
          show isE cl ps = _
          unfold isE
          rw [HLow.out, List.getElem?_eq_getElem hin, ← HY.out]
        have CM := FC y wr
        have HC : Hid (cmpI y.s.cl cl = 0 ↔ y.s.cl = cl) := cmpI_eq y.s.cl cl
        generalize cmpI y.s.cl cl = z at *
        go_wp2_with fail
        go_fit CM
        rintro e w1 ⟨rfl, k1⟩
        have K1 : Hid (Kept Nil w w1) := HK.out.trans k1
        clear k1 CM
        go_wp2
        go_ret2
        exact ⟨by rw [HLow.out, HTH.out, ← decide_eq_decide.2 HC.out]; first | rfl | (cases hd : decide (z = 0) <;> simp_all), K1.out⟩
      · have hii : ¬ (i : Int) < ps.length := by omega
        have HTH : Hid (isE cl ps = false) := by
          show isE cl ps = _
          unfold isE
          rw [HLow.out, List.getElem?_eq_none (by omega)]
        go_wp2
        go_ret2
        exact ⟨by rw [HLow.out, HTH.out]; rfl, HK.out⟩

end Go.Proofs.Ytblmmbghnkplkaa
