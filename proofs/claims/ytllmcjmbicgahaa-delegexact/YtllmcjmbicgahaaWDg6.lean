/-
  Delegations: New, Valid.
-/
import Derived.Test.YtllmcjmbicgahaaWDg3
import Derived.Deep.DeepCutAuto
namespace Go.Proofs.Ytllmcjmbicgahaa
open Go.RowKit

set_option maxRecDepth 100000 in
set_option maxHeartbeats 1000000 in
theorem new_any (ho : Int) (w : World) : Calls Try.prog 8 #[.int .i64 ho] w fun e w' => e = .returned (.slice (some ⟨w.heap.size, 0, none⟩) 1 1) ∧ OwnB w.heap.size w' (some ⟨w.heap.size, 0, none⟩) 1 [⟨[], ho⟩] ∧ Kept Nil w w' := by
  go_enter Try.func8, Try.ntmps8
  go_wp2
  go_ret
  exact ⟨rfl, World.ownsRow_lit w #[.string (bs []), .int .i64 ho] 1 (Nat.le_refl _) (by decide) rfl, (Kept.refl _ _).alloc _⟩

def bdOk (x : Bd) : Bool := isNd x.h && decide (x.f.length ≤ 16)
def vRise : Option Bd → List Bd → Bool
  | _, [] => true
  | p, x :: t => bdOk x && (match p with | none => true | some q => followB q x) && vRise (some x) t
def vpv (ps : List Bd) (k : Nat) : Option Bd := if k = 0 then none else ps[k - 1]?
theorem vRise_at {ps : List Bd} {k : Nat} (h : k < ps.length) : vRise (vpv ps k) (ps.drop k) = (bdOk ps[k] && (match vpv ps k with | none => true | some q => followB q ps[k]) && vRise (vpv ps (k + 1)) (ps.drop (k + 1))) := by
  have e : vpv ps (k + 1) = some ps[k] := by simp [vpv, h]
  rw [List.drop_eq_getElem_cons h, e]
  rfl
theorem vRise_end {ps : List Bd} {k : Nat} (h : ¬ k < ps.length) : vRise (vpv ps k) (ps.drop k) = true := by
  rw [List.drop_of_length_le (by omega)]
  unfold vRise
  cases vpv ps k <;> rfl
def firstE : List Bd → Bool
  | [] => false
  | x :: _ => x.f.isEmpty
def validB (ps : List Bd) : Bool := firstE ps && vRise none ps

set_option maxRecDepth 100000 in
set_option maxHeartbeats 4000000 in
theorem valid_any (B c : Nat) (ao : Option Addr) (ps : List Bd) (w : World) (h : BdRow B w ao ps) (hl : (ps.length : Int) ≤ 4611686018427387903) :
    Calls Try.prog 10 #[.slice ao ps.length c] w fun e w' => e = .returned (.bool (validB ps)) ∧ Kept Nil w w' := by
  obtain ⟨z, HZ⟩ : ∃ z, Hid (z = validB ps) := ⟨_, rfl⟩
  rw [← HZ.out]
  by_cases h0 : ps = []
  · have HF : Hid (z = false) := by show _ = _; rw [HZ.out, h0]; rfl
    clear HZ
    subst h0
    go_enter Try.func10, Try.ntmps10
    go_wp2
    go_ret
    exact ⟨by rw [HF.out]; rfl, Kept.refl _ _⟩
  · have hlen : 0 < ps.length := List.length_pos_iff.2 h0
    obtain ⟨a, rfl, _, c0, c1, _⟩ := h 0 hlen
    rw [Nat.zero_mul, show a.add 0 = a from by simp [Addr.add]] at c0
    clear c1
    have hl0 : ¬ (ps.length : Int) = 0 := by omega
    have hl1 : ((ps.length : Int) == 0) = false := beq_eq_false_iff_ne.2 hl0
    have hl2 : (0 : Int) < ps.length := by omega
    have HR : Hid (BdRow B w (some a) ps) := h
    obtain ⟨x0, HX0⟩ : ∃ y : Bd, Hid (y = ps[0]) := ⟨ps[0], (rfl : ps[0] = ps[0])⟩
    rw [← HX0.out] at c0
    have HFE : Hid (firstE ps = x0.f.isEmpty) := by
      show _ = _
      rw [HX0.out]
      cases ps with
      | nil => exact absurd rfl h0
      | cons x t => rfl
    have t1 := bs_toList x0.f
    clear h h0
    by_cases he : x0.f = []
    · have HV : Hid (z = vRise none ps) := by show _ = _; rw [HZ.out]; unfold validB; rw [HFE.out, he]; rfl
      go_enter Try.func10, Try.ntmps10
      have t3 : x0.f.isEmpty = true := by rw [he]; rfl
      clear he
      have IN := fun (y : Int) X => isNode_any y X
      have FO := fun (x y : Bd) X => follow_any x y X
      unfold bdV at FO
      go_wp2
      go_loopw [17] (fun i wr => ∃ k : Nat, k ≤ ps.length ∧ i = .int .i64 k ∧ Hid (z = vRise (vpv ps k) (ps.drop k)) ∧ Hid (Kept Nil w wr)) (fun i _ => ps.length - (intOf i).toNat)
      case atStart => exact ⟨0, Nat.zero_le _, rfl, HV.out, Kept.refl _ _⟩
      case round =>
        obtain ⟨k, hk, rfl, HI, HK⟩ := hrel
        by_cases hlt : k < ps.length
        · have hki : (k : Int) < ps.length := by omega
          have HRr : Hid (BdRow B wr (some a) ps) := HR.out.nil HK.out
          obtain ⟨d0, d1, dl⟩ := HRr.out.at2 hlt
          obtain ⟨y, HY⟩ : ∃ y : Bd, Hid (y = ps[k]) := ⟨ps[k], (rfl : ps[k] = ps[k])⟩
          rw [← HY.out] at d0 d1 dl
          have HA : Hid (z = (bdOk y && (match vpv ps k with | none => true | some q => followB q y) && vRise (vpv ps (k + 1)) (ps.drop (k + 1)))) := by show _ = _; rw [HY.out]; exact HI.out.trans (vRise_at hlt)
          have hsz : (bs y.f).size = y.f.length := bs_size _
          obtain ⟨V, hV⟩ : ∃ V, V = wr.alloc (.cells #[.string (bs y.f), .int .i64 y.h] 26) := ⟨_, rfl⟩
          have KV : Hid (Kept Nil wr V) := by rw [hV]; exact (Kept.refl _ _).alloc _
          have HBV : Hid (V.heap[wr.heap.size]? = some (.cells #[.string (bs y.f), .int .i64 y.h] 26 (0, 0))) := by rw [hV]; exact blk_new _ _
          obtain ⟨A, HAe⟩ : ∃ A, Hid (A = wr.heap.size) := ⟨_, rfl⟩
          rw [← HAe.out] at HBV
          have v0 : V.cell? ⟨A, 0, none⟩ = some (.string (bs y.f)) := blk_at HBV.out 0 rfl
          have v1 : V.cell? ⟨A, 1, none⟩ = some (.int .i64 y.h) := blk_at HBV.out 1 rfl
          obtain ⟨t, HTt⟩ : ∃ t : Bool, Hid (t = (bdOk y && (match vpv ps k with | none => true | some q => followB q y))) := ⟨_, rfl⟩
          rw [← HTt.out] at HA
          have INV := IN y.h
          go_upto_region 6 with fail
          rw [← hV, ← HAe.out]
          clear hV d0 d1
          go_cut [45] (fun x wc => x = .bool (!t) ∧ Hid (Kept Nil V wc))
          case first =>
            cases hn : isNd y.h with
            | false =>
              simp only [hn] at INV
              have HF : Hid (t = false) := by show _ = _; rw [HTt.out]; unfold bdOk; rw [hn]; rfl
              clear hn
              go_quiet (first | (go_at_call 42; exact Calls.quiet_of_same (INV _)))
              go_wp2
              go_meet
              exact ⟨by rw [HF.out]; rfl, (Kept.refl _ _).drewN _⟩
            | true =>
              simp only [hn] at INV
              by_cases h16 : y.f.length ≤ 16
              · have h16b : decide ((y.f.length : Int) > 16) = false := decide_eq_false (by omega)
                have h16c : decide (16 < (y.f.length : Int)) = false := decide_eq_false (by omega)
                by_cases hk0 : k = 0
                · have HF : Hid (t = true) := by show _ = _; rw [HTt.out]; unfold bdOk; rw [hn, decide_eq_true h16, hk0]; rfl
                  have h0b : decide (0 < k) = false := decide_eq_false (by omega)
                  clear hn
                  go_quiet (first | (go_at_call 42; exact Calls.quiet_of_same (INV _)))
                  go_wp2
                  go_meet
                  exact ⟨by rw [HF.out]; rfl, (Kept.refl _ _).drewN _⟩
                · have hl1 : k - 1 < ps.length := by omega
                  have HRV : Hid (BdRow B V (some a) ps) := HRr.out.nil KV.out
                  obtain ⟨x0', x1', _⟩ := HRV.out.at2 hl1
                  obtain ⟨x, HX⟩ : ∃ x : Bd, Hid (x = ps[k - 1]) := ⟨ps[k - 1], (rfl : ps[k - 1] = ps[k - 1])⟩
                  rw [← HX.out] at x0' x1'
                  have HF : Hid (t = followB x y) := by
                    show _ = _
                    rw [HTt.out, HX.out]
                    unfold bdOk vpv
                    rw [hn, decide_eq_true h16, if_neg hk0, List.getElem?_eq_getElem hl1]
                    rfl
                  have hw1 : IntKind.i64.wrap ((k : Int) - 1) = ((k - 1 : Nat) : Int) := by rw [IntWalk.i64_in _ (by omega)]; omega
                  have hi2 : ((k - 1 : Nat) : Int) < ps.length := by omega
                  have h0b : decide (0 < k) = true := decide_eq_true (by omega)
                  have h0c : decide ((0 : Int) < (k : Int)) = true := decide_eq_true (by omega)
                  have h0d : 0 < k := by omega
                  have FOV := FO x y V.drew
                  have INV2 := IN y.h V.drew
                  rw [hn] at INV2
                  clear hn INV
                  obtain ⟨fb, HFB⟩ : ∃ b, Hid (b = followB x y) := ⟨_, rfl⟩
                  rw [← HFB.out] at FOV HF
                  go_region_held3 (fun w' => w'.cell? ⟨A, 0, none⟩ = some (.string (bs y.f)) ∧ w'.cell? ⟨A, 1, none⟩ = some (.int .i64 y.h) ∧ w'.cell? (a.add ((k - 1) * 2)) = some (.string (bs x.f)) ∧ w'.cell? ⟨(a.add ((k - 1) * 2)).block, (a.add ((k - 1) * 2)).off + 1, none⟩ = some (.int .i64 x.h)) (first | assumption | go_keep) (first | (go_at_call 42; go_fit INV2; rintro e wa ⟨rfl, rfl⟩) | (go_at_call 43; go_fit FOV; rintro e wb ⟨rfl, kb⟩; have Kb : Hid (Kept Nil V wb) := (Kept.refl _ _).drew.trans kb; have q0 := cell_kept Kb.out (fun _ x => x) v0; have q1 := cell_kept Kb.out (fun _ x => x) v1; have q2 := cell_kept Kb.out (fun _ x => x) x0'; have q3 := cell_kept Kb.out (fun _ x => x) x1'))
                  all_goals go_wp2
                  all_goals go_meet
                  all_goals exact ⟨by rw [HF.out], Kb.out⟩
              · have h16b : decide ((y.f.length : Int) > 16) = true := decide_eq_true (by omega)
                have h16c : decide (16 < (y.f.length : Int)) = true := decide_eq_true (by omega)
                have HF : Hid (t = false) := by show _ = _; rw [HTt.out]; unfold bdOk; rw [hn, decide_eq_false h16]; rfl
                clear hn
                go_quiet (first | (go_at_call 42; exact Calls.quiet_of_same (INV _)))
                go_wp2
                go_meet
                exact ⟨by rw [HF.out]; rfl, (Kept.refl _ _).drewN _⟩
          case rest =>
            obtain ⟨rfl, KC⟩ := hcut
            rename World => wc
            have K2 : Hid (Kept Nil w wc) := (HK.out.trans KV.out).trans KC.out
            cases t with
            | true =>
              have HI2 : Hid (z = vRise (vpv ps (k + 1)) (ps.drop (k + 1))) := HA.out
              go_wp2
              go_roundw
              case rel => exact ⟨k + 1, by omega, by go_num, HI2.out, K2.out⟩
              case measure => simp [intOf]; omega
            | false =>
              have HI2 : Hid (z = false) := HA.out
              go_wp2
              go_ret
              exact ⟨by rw [HI2.out]; rfl, K2.out⟩
        · have HE : Hid (z = true) := HI.out.trans (vRise_end hlt)
          obtain rfl : k = ps.length := by omega
          have hirr : ¬ (ps.length : Int) < ps.length := by omega
          go_wp2
          go_ret
          exact ⟨by rw [HE.out]; rfl, HK.out⟩
    · have HF : Hid (z = false) := by
        show _ = _
        rw [HZ.out]
        unfold validB
        rw [HFE.out]
        cases hx : x0.f with
        | nil => exact absurd hx he
        | cons x t => rfl
      go_enter Try.func10, Try.ntmps10
      have t3 : x0.f.isEmpty = false := by cases hx : x0.f with | nil => exact absurd hx he | cons x t => rfl
      clear he
      go_wp2
      go_ret
      exact ⟨by rw [HF.out]; rfl, Kept.refl _ _⟩
end Go.Proofs.Ytllmcjmbicgahaa
