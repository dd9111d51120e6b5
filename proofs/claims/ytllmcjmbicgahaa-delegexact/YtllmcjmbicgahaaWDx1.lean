/-
  DelegExact: the document's within, HostOf, SameBounds, IsDelegation.
-/
import Derived.Test.YtllmcjmbicgahaaWDf0
import Derived.Deep.DeepCutAuto
namespace Go.Proofs.Ytllmcjmbicgahaa
open Go.RowKit

set_option maxRecDepth 100000 in
set_option maxHeartbeats 1000000 in
theorem within_any (key fr up : List UInt8) (w : World) : Calls Try.prog 45 #[.string (bs key), .string (bs fr), .string (bs up)] w fun e w' => e = .returned (.bool (inR key fr up)) ∧ w' = w := by
  obtain ⟨z, HZ⟩ : ∃ z, Hid (z = inR key fr up) := ⟨_, rfl⟩
  rw [← HZ.out]
  have t1 := bs_toList key
  have t2 := bs_toList fr
  have t3 := bs_toList up
  go_enter Try.func45, Try.ntmps45
  cases h1 : lessB key fr with
  | true =>
    have a1 : Op.bytesLess key fr = true := h1
    have HF : Hid (z = false) := by show _ = _; rw [HZ.out]; unfold inR; rw [h1]; rfl
    clear h1
    go_wp2
    go_ret
    exact ⟨by rw [HF.out]; first | rfl | simp, rfl⟩
  | false =>
    have a1 : Op.bytesLess key fr = false := h1
    have HF : Hid (z = (up.isEmpty || lessB key up)) := by show _ = _; rw [HZ.out]; unfold inR; rw [h1]; rfl
    clear h1
    cases up with
    | nil =>
      go_wp2
      go_ret
      exact ⟨by rw [HF.out]; first | rfl | simp, rfl⟩
    | cons u t =>
      go_wp2
      go_ret
      exact ⟨by rw [HF.out]; first | rfl | (simp; rfl), rfl⟩

/-- The last bound that is not behind a key. -/
def hoF (key : List UInt8) (ps : List Bd) : Int := ps.foldl (fun h b => if lessB key b.f = true then h else b.h) 0
theorem hoF_next {key : List UInt8} {ps : List Bd} {k : Nat} (h : k < ps.length) : hoF key (ps.take (k + 1)) = if lessB key ps[k].f = true then hoF key (ps.take k) else ps[k].h := by
  unfold hoF
  rw [List.take_succ_eq_append_getElem h, List.foldl_append]
  rfl
theorem foldl_all {key : List UInt8} : ∀ {ps : List Bd} {d : Int}, (∀ x ∈ ps, lessB key x.f = true) → ps.foldl (fun h b => if lessB key b.f = true then h else b.h) d = d
  | [], _, _ => rfl
  | x :: t, d, h => by
    rw [List.foldl_cons, if_pos (h x (by simp)), foldl_all (fun y hy => h y (by simp [hy]))]
theorem hoF_go {key : List UInt8} : ∀ {ps : List Bd} {d : Int}, SrtB ps → ps.foldl (fun h b => if lessB key b.f = true then h else b.h) d = hoR d ps key
  | [], _, _ => rfl
  | x :: t, d, h => by
    obtain ⟨p, s⟩ := List.pairwise_cons.1 h
    rw [List.foldl_cons]
    show _ = if lessB key x.f = true then d else hoR x.h t key
    cases hk : lessB key x.f with
    | true => rw [if_pos rfl, if_pos rfl, foldl_all (fun y hy => less_trans hk (p y hy))]
    | false => rw [if_neg (by decide), if_neg (by decide), hoF_go s]
theorem hoF_is {key : List UInt8} {ps : List Bd} (h : SrtB ps) : hoF key ps = hoR 0 ps key := hoF_go h
set_option maxRecDepth 100000 in
set_option maxHeartbeats 2000000 in
theorem hostOf_any (B c : Nat) (a : Addr) (ps : List Bd) (key : List UInt8) (w : World) (h : BdRow B w (some a) ps) (hl : (ps.length : Int) ≤ 4611686018427387903) :
    Calls Try.prog 14 #[.slice (some a) ps.length c, .string (bs key)] w fun e w' => e = .returned (.int .i64 (hoF key ps)) ∧ w' = w := by
  have HR : Hid (BdRow B w (some a) ps) := h
  have t1 := bs_toList key
  clear h
  go_enter Try.func14, Try.ntmps14
  go_wp2
  go_loopw [5, 6] (fun v u wr => ∃ k : Nat, k ≤ ps.length ∧ u = .int .i64 k ∧ v = .int .i64 (hoF key (ps.take k)) ∧ Hid (wr = w)) (fun _ u _ => ps.length - (intOf u).toNat)
  case atStart => exact ⟨0, Nat.zero_le _, rfl, rfl, rfl⟩
  case round =>
    obtain ⟨k, hk, rfl, rfl, hwr⟩ := hrel
    rw [hwr.out]
    clear hwr
    by_cases hlt : k < ps.length
    · have hki : (k : Int) < ps.length := by omega
      obtain ⟨c0, c1, _⟩ := HR.out.at2 hlt
      have HN : Hid (hoF key (ps.take (k + 1)) = if lessB key ps[k].f = true then hoF key (ps.take k) else ps[k].h) := hoF_next hlt
      obtain ⟨y, HY⟩ : ∃ y : Bd, Hid (y = ps[k]) := ⟨ps[k], (rfl : ps[k] = ps[k])⟩
      rw [← HY.out] at c0 c1 HN
      obtain ⟨v, HV⟩ : ∃ v, Hid (v = hoF key (ps.take k)) := ⟨_, rfl⟩
      rw [← HV.out] at HN ⊢
      have t2 := bs_toList y.f
      cases h1 : lessB key y.f with
      | true =>
        have a1 : (Op.bytesLess y.f key || y.f == key) = false := by have := @less_le y.f key; rw [h1] at this; exact this
        rw [h1] at HN
        clear h1
        go_upto_if 19 with fail
        go_wp2
        go_roundw
        case rel => exact ⟨k + 1, by omega, by go_num, by rw [HN.out]; rfl, trivial⟩
        case measure => simp [intOf]; omega
      | false =>
        have a1 : (Op.bytesLess y.f key || y.f == key) = true := by have := @less_le y.f key; rw [h1] at this; exact this
        rw [h1] at HN
        clear h1
        go_upto_if 19 with fail
        go_wp2
        go_roundw
        case rel => exact ⟨k + 1, by omega, by go_num, by rw [HN.out]; rfl, trivial⟩
        case measure => simp [intOf]; omega
    · obtain rfl : k = ps.length := by omega
      have hirr : ¬ (ps.length : Int) < ps.length := by omega
      have HE : Hid (ps.take ps.length = ps) := List.take_length
      go_wp2
      go_ret
      exact ⟨by first | rfl | (rw [HE.out]; rfl), rfl⟩
set_option maxRecDepth 100000 in
set_option maxHeartbeats 2000000 in
theorem sameB_yes (B B' c c' : Nat) (ao ao' : Option Addr) (ps : List Bd) (w : World) (h : BdRow B w ao ps) (h' : BdRow B' w ao' ps) (hl : (ps.length : Int) ≤ 4611686018427387903) :
    Calls Try.prog 12 #[.slice ao ps.length c, .slice ao' ps.length c'] w fun e w' => e = .returned (.bool true) ∧ Kept Nil w w' := by
  have HR : Hid (BdRow B w ao ps) := h
  have HR' : Hid (BdRow B' w ao' ps) := h'
  clear h h'
  go_enter Try.func12, Try.ntmps12
  go_wp2
  go_loopw [5] (fun u wr => ∃ k : Nat, k ≤ ps.length ∧ u = .int .i64 k ∧ Hid (Kept Nil w wr)) (fun u _ => ps.length - (intOf u).toNat)
  case atStart => exact ⟨0, Nat.zero_le _, rfl, Kept.refl _ _⟩
  case round =>
    obtain ⟨k, hk, rfl, HK⟩ := hrel
    by_cases hlt : k < ps.length
    · have hki : (k : Int) < ps.length := by omega
      obtain ⟨a, e, _, c0, c1, _⟩ := (HR.out.nil HK.out) k hlt
      cases e
      obtain ⟨a', e, _, d0, d1, _⟩ := (HR'.out.nil HK.out) k hlt
      cases e
      obtain ⟨y, HY⟩ : ∃ y : Bd, Hid (y = ps[k]) := ⟨ps[k], (rfl : ps[k] = ps[k])⟩
      rw [← HY.out] at c0 c1 d0 d1
      go_upto_region 6 with fail
      go_quiet (fail)
      go_wp2
      go_roundw
      case rel => exact ⟨k + 1, by omega, by go_num, HK.out.drewN _⟩
      case measure => simp [intOf]; omega
    · obtain rfl : k = ps.length := by omega
      have hirr : ¬ (ps.length : Int) < ps.length := by omega
      go_wp2
      go_ret
      exact ⟨rfl, HK.out⟩

set_option maxRecDepth 100000 in
set_option maxHeartbeats 4000000 in
theorem isDeleg_any (B c : Nat) (ao : Option Addr) (ps : List Bd) (w : World) (h : BdRow B w ao ps) (hl : (ps.length : Int) ≤ 4611686018427387903) :
    Calls Try.prog 9 #[.slice ao ps.length c] w fun e w' => e = .returned (.bool (validB ps)) ∧ Kept Nil w w' := by
  obtain ⟨z, HZ⟩ : ∃ z, Hid (z = validB ps) := ⟨_, rfl⟩
  rw [← HZ.out]
  by_cases h0 : ps = []
  · have HF : Hid (z = false) := by show _ = _; rw [HZ.out, h0]; rfl
    clear HZ
    subst h0
    go_enter Try.func9, Try.ntmps9
    go_wp2
    go_loopw [3] (fun u wr => u = .int .i64 0 ∧ wr = w) (fun _ _ => 0)
    case atStart => exact ⟨rfl, rfl⟩
    case round =>
      obtain ⟨rfl, rfl⟩ := hrel
      go_wp2
      go_ret
      exact ⟨by rw [HF.out]; rfl, Kept.refl _ _⟩
  · have hlen : 0 < ps.length := List.length_pos_iff.2 h0
    obtain ⟨a, rfl, _⟩ := h 0 hlen
    have hl2 : (0 : Int) < ps.length := by omega
    have HR : Hid (BdRow B w (some a) ps) := h
    have HFE : Hid (firstE ps = (ps[0].f.isEmpty)) := by
      show _ = _
      cases ps with
      | nil => exact absurd rfl h0
      | cons x t => rfl
    have HV : Hid (z = (firstE ps && vRise (vpv ps 0) (ps.drop 0))) := HZ.out
    clear h h0
    go_enter Try.func9, Try.ntmps9
    go_wp2
    go_loopw [3] (fun i wr => ∃ k : Nat, k ≤ ps.length ∧ i = .int .i64 k ∧ Hid (z = ((if k = 0 then firstE ps else true) && vRise (vpv ps k) (ps.drop k))) ∧ Hid (Kept Nil w wr)) (fun i _ => ps.length - (intOf i).toNat)
    case atStart => exact ⟨0, Nat.zero_le _, rfl, HV.out, Kept.refl _ _⟩
    case round =>
      obtain ⟨k, hk, rfl, HI, HK⟩ := hrel
      by_cases hlt : k < ps.length
      · have hki : (k : Int) < ps.length := by omega
        have HRr : Hid (BdRow B wr (some a) ps) := HR.out.nil HK.out
        obtain ⟨d0, d1, dl⟩ := HRr.out.at2 hlt
        obtain ⟨y, HY⟩ : ∃ y : Bd, Hid (y = ps[k]) := ⟨ps[k], (rfl : ps[k] = ps[k])⟩
        rw [← HY.out] at d0 d1 dl
        have HA : Hid (z = ((if k = 0 then firstE ps else true) && (bdOk y && (match vpv ps k with | none => true | some q => followB q y) && vRise (vpv ps (k + 1)) (ps.drop (k + 1))))) := by have e := HI.out; rw [vRise_at hlt] at e; rw [HY.out]; exact e
        have hsz : (bs y.f).size = y.f.length := bs_size _
        have t1 := bs_toList y.f
        obtain ⟨t, HTt⟩ : ∃ t : Bool, Hid (t = (bdOk y && (decide (k ≠ 0) || y.f.isEmpty))) := ⟨_, rfl⟩
        go_upto_region 4 with fail
        go_cut [44] from 4 to 74 (fun x wc => x = .bool (!t) ∧ Hid (wc = wr))
        case first =>
          by_cases h1 : y.h < 1
          · have HF : Hid (t = false) := by show _ = _; rw [HTt.out]; unfold bdOk isNd; rw [decide_eq_false (by omega : ¬ 1 ≤ y.h)]; rfl
            go_wp2
            go_meet
            exact ⟨by rw [HF.out]; rfl, rfl⟩
          · by_cases h2 : y.h > 9
            · have HF : Hid (t = false) := by show _ = _; rw [HTt.out]; unfold bdOk isNd; rw [decide_eq_false (by omega : ¬ y.h ≤ 9), Bool.and_false]; rfl
              go_wp2
              go_meet
              exact ⟨by rw [HF.out]; rfl, rfl⟩
            · have HN : Hid (isNd y.h = true) := by show _ = _; unfold isNd; rw [decide_eq_true (by omega), decide_eq_true (by omega)]; rfl
              by_cases h3 : y.f.length ≤ 16
              · have h3i : ¬ (y.f.length : Int) > 16 := by omega
                by_cases h4 : k = 0
                · have HF : Hid (t = y.f.isEmpty) := by show _ = _; rw [HTt.out]; unfold bdOk; rw [HN.out, decide_eq_true h3, decide_eq_false (fun x => x h4)]; rfl
                  subst h4
                  rw [Nat.zero_mul, show a.add 0 = a from by simp [Addr.add]] at d0 d1
                  go_wp2
                  all_goals go_meet
                  all_goals exact ⟨by rw [HF.out], rfl⟩
                · have HF : Hid (t = true) := by show _ = _; rw [HTt.out]; unfold bdOk; rw [HN.out, decide_eq_true h3, decide_eq_true h4]; rfl
                  have h4i : ¬ (k : Int) = 0 := by omega
                  have h4b : ((k : Int) == 0) = false := beq_eq_false_iff_ne.2 h4i
                  go_wp2
                  go_meet
                  exact ⟨by rw [HF.out]; rfl, rfl⟩
              · have h3i : (y.f.length : Int) > 16 := by omega
                have HF : Hid (t = false) := by show _ = _; rw [HTt.out]; unfold bdOk; rw [decide_eq_false h3, Bool.and_false]; rfl
                go_wp2
                go_meet
                exact ⟨by rw [HF.out]; rfl, rfl⟩
        case rest =>
          obtain ⟨rfl, hwc⟩ := hcut
          rw [hwc.out]
          clear hwc
          cases t with
          | false =>
            have HI2 : Hid (z = false) := by
              show _ = _
              rw [HA.out]
              have e := HTt.out
              by_cases h4 : k = 0
              · subst h4
                have e2 : (bdOk y && y.f.isEmpty) = false := by rw [e]; rfl
                rw [if_pos rfl, HFE.out, ← HY.out]
                cases hb : bdOk y with
                | false => rw [Bool.false_and, Bool.false_and, Bool.and_false]
                | true => rw [hb, Bool.true_and] at e2; rw [e2]; rfl
              · have e2 : bdOk y = false := by rw [decide_eq_true h4, Bool.true_or, Bool.and_true] at e; exact e.symm
                rw [if_neg h4, e2]
                rfl
            go_wp2
            go_ret
            exact ⟨by rw [HI2.out]; rfl, HK.out⟩
          | true =>
            have HB : Hid (bdOk y = true) := by have e := HTt.out; show _ = _; cases hb : bdOk y with | true => rfl | false => rw [hb] at e; cases e
            have HA2 : Hid (z = ((match vpv ps k with | none => true | some q => followB q y) && vRise (vpv ps (k + 1)) (ps.drop (k + 1)))) := by
              show _ = _
              rw [HA.out, HB.out, Bool.true_and]
              by_cases h4 : k = 0
              · subst h4
                have e := HTt.out
                rw [HB.out] at e
                have e2 : y.f.isEmpty = true := e.symm
                rw [if_pos rfl, HFE.out, ← HY.out, e2, Bool.true_and]
              · rw [if_neg h4, Bool.true_and]
            clear HA HTt HI
            obtain ⟨t, HTt⟩ : ∃ t : Bool, Hid (t = (match vpv ps k with | none => true | some q => followB q y)) := ⟨_, rfl⟩
            rw [← HTt.out] at HA2
            go_upto_region 6 with fail
            go_cut [74] from 4 to 74 (fun x wc => x = .bool (!t) ∧ Hid (Kept Nil wr wc))
            case first =>
              by_cases h4 : k = 0
              · have HF : Hid (t = true) := by show _ = _; rw [HTt.out, h4]; rfl
                have h0b : decide (0 < k) = false := decide_eq_false (by omega)
                go_quiet (fail)
                go_wp2
                go_meet
                exact ⟨by rw [HF.out]; rfl, (Kept.refl _ _).drewN _⟩
              · have hl1 : k - 1 < ps.length := by omega
                obtain ⟨x0', x1', _⟩ := HRr.out.at2 hl1
                obtain ⟨x, HX⟩ : ∃ x : Bd, Hid (x = ps[k - 1]) := ⟨ps[k - 1], (rfl : ps[k - 1] = ps[k - 1])⟩
                rw [← HX.out] at x0' x1'
                have HF : Hid (t = followB x y) := by show _ = _; rw [HTt.out, HX.out]; unfold vpv; rw [if_neg h4, List.getElem?_eq_getElem hl1]
                have h0b : decide (0 < k) = true := decide_eq_true (by omega)
                have h0d : 0 < k := by omega
                have t2 := bs_toList x.f
                cases h1 : lessB x.f y.f with
                | false =>
                  have HF2 : Hid (t = false) := by show _ = _; rw [HF.out]; unfold followB; rw [h1]; rfl
                  have a1 : (Op.bytesLess y.f x.f || y.f == x.f) = true := by have := @less_le y.f x.f; rw [h1] at this; exact this
                  clear h1
                  go_quiet (fail)
                  go_wp2
                  go_meet
                  exact ⟨by rw [HF2.out]; rfl, (Kept.refl _ _).drewN _⟩
                | true =>
                  have HF2 : Hid (t = !decide (y.h = x.h)) := by show _ = _; rw [HF.out]; unfold followB; rw [h1, decide_eq_decide.2 (show x.h = y.h ↔ y.h = x.h from ⟨Eq.symm, Eq.symm⟩)]; rfl
                  have a1 : (Op.bytesLess y.f x.f || y.f == x.f) = false := by have := @less_le y.f x.f; rw [h1] at this; exact this
                  clear h1
                  go_quiet (fail)
                  go_wp2
                  go_meet
                  exact ⟨by rw [HF2.out]; first | rfl | (simp; rfl), (Kept.refl _ _).drewN _⟩
            case rest =>
              obtain ⟨rfl, KC⟩ := hcut
              rename World => wc
              have K2 : Hid (Kept Nil w wc) := HK.out.trans KC.out
              cases t with
              | true =>
                have HI2 : Hid (z = ((if k + 1 = 0 then firstE ps else true) && vRise (vpv ps (k + 1)) (ps.drop (k + 1)))) := by show _ = _; rw [if_neg (by omega)]; exact HA2.out
                go_wp2
                go_roundw
                case rel => exact ⟨k + 1, by omega, by go_num, HI2.out, K2.out⟩
                case measure => simp [intOf]; omega
              | false =>
                have HI2 : Hid (z = false) := HA2.out
                go_wp2
                go_ret
                exact ⟨by rw [HI2.out]; rfl, K2.out⟩
      · have HE : Hid (z = true) := by show _ = _; rw [HI.out, vRise_end hlt, if_neg (by omega)]; rfl
        obtain rfl : k = ps.length := by omega
        have hirr : ¬ (ps.length : Int) < ps.length := by omega
        go_wp2
        go_ret
        exact ⟨by rw [HE.out]; first | rfl | simp, HK.out⟩
end Go.Proofs.Ytllmcjmbicgahaa
