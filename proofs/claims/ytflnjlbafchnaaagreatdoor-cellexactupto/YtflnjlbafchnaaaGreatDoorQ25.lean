/-
  Joined: WTab3.
-/
import Derived.Test.YtflnjlbafchnaaaGreatDoorQ01
/-
  Pairs: may they be: by the document's answer.
-/
namespace Go.Proofs.YtflnjlbafchnaaaGreatDoor
open Go.RowKit

set_option maxRecDepth 100000 in
set_option maxHeartbeats 4000000 in
theorem refIsPairs_any (B cap : Nat) (ao : Option Addr) (ps : List Pr) (w : World) (h : PairRow B w ao ps) (hl : (ps.length : Int) ≤ 9223372036854775807) :
    Calls Tryz.prog 35 #[.slice ao ps.length cap] w fun e w' => e = .returned (.bool (pairsOk ps)) ∧ Kept Nil w w' := by
  have HR : Hid (PairRow B w ao ps) := h
  have ht := bs_toList
  have hsz := bs_size
  have HO : Hid (pairsOk ps = (decide (ps.length ≤ 32) && pRise none ps)) := rfl
  rw [HO.out]
  clear h HO
  go_enter Tryz.func35, Tryz.ntmps35
  go_wp2
  go_loopw [3] (fun i wr => ∃ k : Nat, k ≤ ps.length ∧ i = .int .i64 k ∧ Hid (pRise none ps = pRise (ppv ps k) (ps.drop k)) ∧ Hid (Kept Nil w wr)) (fun i _ => ps.length - (intOf i).toNat)
  case atStart => exact ⟨0, Nat.zero_le _, rfl, rfl, Kept.refl _ _⟩
  case round =>
    obtain ⟨k, hk, rfl, HI, HK⟩ := hrel
    by_cases hlt : k < ps.length
    · obtain ⟨a, rfl, _, hc0, hc1, hc2, hm1, hm2⟩ := (HR.out.nil HK.out) k hlt
      have HA : Hid (pRise none ps = (prOk ps[k] && (match ppv ps k with | none => true | some q => lessB q ps[k].k) && pRise (ppv ps (k + 1)) (ps.drop (k + 1)))) := HI.out.trans (pRise_at hlt)
      have hm1' : (ps[k].k.length : Int) ≤ 9223372036854775807 := by unfold maxLen at hm1; omega
      have hm2' : (ps[k].v.length : Int) ≤ 9223372036854775807 := by unfold maxLen at hm2; omega
      have HKK : Hid (Kept Nil w (wr.alloc (.cells #[.string (bs ps[k].k), .string (bs ps[k].v), .int .i64 ps[k].n] 63))) := HK.out.alloc _
      have q0 : (wr.alloc (.cells #[.string (bs ps[k].k), .string (bs ps[k].v), .int .i64 ps[k].n] 63)).cell? ⟨wr.heap.size, 0, none⟩ = some (.string (bs ps[k].k)) := blk_at (blk_new wr _) 0 rfl
      have q1 : (wr.alloc (.cells #[.string (bs ps[k].k), .string (bs ps[k].v), .int .i64 ps[k].n] 63)).cell? ⟨wr.heap.size, 1, none⟩ = some (.string (bs ps[k].v)) := blk_at (blk_new wr _) 1 rfl
      have q2 : (wr.alloc (.cells #[.string (bs ps[k].k), .string (bs ps[k].v), .int .i64 ps[k].n] 63)).cell? ⟨wr.heap.size, 2, none⟩ = some (.int .i64 ps[k].n) := blk_at (blk_new wr _) 2 rfl
      have hki : (k : Int) < ps.length := by omega
      clear hm1 hm2 HI
      by_cases e0 : ps[k].k = []
      · have HF : Hid (pRise none ps = false) := by show pRise none ps = _; rw [HA.out]; unfold prOk; rw [e0]; rfl
        rw [e0] at hc0 q0 HKK q1 q2
        have z0 : (0 : Int) ≤ 9223372036854775807 := by omega
        generalize ps[k].v = val at *
        generalize ps[k].n = ver at *
        clear HA
        go_wp2
        go_quiet (fail)
        go_wp2
        go_ret
        rw [HF.out, Bool.and_false]
        exact ⟨rfl, HKK.out.drewN _⟩
      · have e1 : ps[k].k.isEmpty = false := by simpa using e0
        by_cases h16 : ps[k].k.length ≤ 16
        · skip
          by_cases h64 : ps[k].v.length ≤ 64
          · skip
            by_cases g1 : 1 ≤ ps[k].n
            · skip
              by_cases g2 : ps[k].n ≤ 1099511627775
              · skip
                have hok : prOk ps[k] = true := by unfold prOk isCnt; rw [e1, decide_eq_true h16, decide_eq_true h64, decide_eq_true g1, decide_eq_true g2]; rfl
                by_cases k0 : k = 0
                · have b5 : decide (0 < k) = false := decide_eq_false (by omega)
                  have hpv : ppv ps k = none := by simp [ppv, k0]
                  have HF : Hid (pRise none ps = pRise (ppv ps (k + 1)) (ps.drop (k + 1))) := by show pRise none ps = _; rw [HA.out, hpv, hok]; rfl
                  generalize ps[k].k = key at *
                  generalize ps[k].v = val at *
                  generalize ps[k].n = ver at *
                  have b0i : key.isEmpty = false := e1
                  have b1 : decide (16 < (key.length : Int)) = false := decide_eq_false (by omega)
                  have b2 : decide (64 < (val.length : Int)) = false := decide_eq_false (by omega)
                  have b3 : decide (ver < 1) = false := decide_eq_false (by omega)
                  have b4 : decide (1099511627775 < ver) = false := decide_eq_false (by omega)
                  clear HA e0 hok k0 hpv
                  go_wp2
                  go_quiet (fail)
                  go_wp2
                  go_roundw
                  case rel => exact ⟨k + 1, by omega, by go_num, HF, HKK.out.drewN _⟩
                  case measure => simp [intOf]; omega
                · obtain ⟨a', ha', _, hprev, _⟩ := (HR.out.nil HKK.out) (k - 1) (by omega)
                  simp only [Option.some.injEq] at ha'
                  subst ha'
                  have hpv : ppv ps k = some ps[k - 1].k := by simp [ppv, k0, show k - 1 < ps.length by omega]
                  rw [hpv] at HA
                  simp only at HA
                  have hkp : (0 : Int) < (k : Int) := by omega
                  have b5 : decide (0 < k) = true := decide_eq_true (by omega)
                  have hprev2 : (wr.alloc (.cells #[.string (bs ps[k].k), .string (bs ps[k].v), .int .i64 ps[k].n] 63)).cell? (a.add (((k : Int) - 1).toNat * 3)) = some (.string (bs ps[k - 1].k)) := by rw [show ((k : Int) - 1).toNat = k - 1 by omega]; exact hprev
                  cases hls : lessB ps[k - 1].k ps[k].k with
                  | true =>
                    have HF : Hid (pRise none ps = pRise (ppv ps (k + 1)) (ps.drop (k + 1))) := by show pRise none ps = _; rw [HA.out, hls, hok]; rfl
                    have hls' : Op.bytesLess ps[k - 1].k ps[k].k = true := hls
                    generalize ps[k].k = key at *
                    generalize ps[k].v = val at *
                    generalize ps[k].n = ver at *
                    generalize ps[k - 1].k = y at *
                    have b0i : key.isEmpty = false := e1
                    have b1 : decide (16 < (key.length : Int)) = false := decide_eq_false (by omega)
                    have b2 : decide (64 < (val.length : Int)) = false := decide_eq_false (by omega)
                    have b3 : decide (ver < 1) = false := decide_eq_false (by omega)
                    have b4 : decide (1099511627775 < ver) = false := decide_eq_false (by omega)
                    clear HA e0 hok k0 hpv hls
                    go_wp2
                    go_quiet (fail)
                    go_wp2
                    go_roundw
                    case rel => exact ⟨k + 1, by omega, by go_num, HF, HKK.out.drewN _⟩
                    case measure => simp [intOf]; omega
                  | false =>
                    have HF : Hid (pRise none ps = false) := by show pRise none ps = _; rw [HA.out, hls]; simp
                    have hls' : Op.bytesLess ps[k - 1].k ps[k].k = false := hls
                    generalize ps[k].k = key at *
                    generalize ps[k].v = val at *
                    generalize ps[k].n = ver at *
                    generalize ps[k - 1].k = y at *
                    have b0i : key.isEmpty = false := e1
                    have b1 : decide (16 < (key.length : Int)) = false := decide_eq_false (by omega)
                    have b2 : decide (64 < (val.length : Int)) = false := decide_eq_false (by omega)
                    have b3 : decide (ver < 1) = false := decide_eq_false (by omega)
                    have b4 : decide (1099511627775 < ver) = false := decide_eq_false (by omega)
                    clear HA e0 hok k0 hpv hls
                    go_wp2
                    go_quiet (fail)
                    go_wp2
                    go_ret
                    rw [HF.out, Bool.and_false]
                    exact ⟨rfl, HKK.out.drewN _⟩
              · have HF : Hid (pRise none ps = false) := by show pRise none ps = _; rw [HA.out]; unfold prOk; unfold isCnt; rw [decide_eq_false g2]; simp
                generalize ps[k].k = key at *
                generalize ps[k].v = val at *
                generalize ps[k].n = ver at *
                have b0i : key.isEmpty = false := e1
                have b1 : decide (16 < (key.length : Int)) = false := decide_eq_false (by omega)
                have b2 : decide (64 < (val.length : Int)) = false := decide_eq_false (by omega)
                have b3 : decide (ver < 1) = false := decide_eq_false (by omega)
                have b4 : decide (1099511627775 < ver) = true := decide_eq_true (by omega)
                clear HA e0
                go_wp2
                go_quiet (fail)
                go_wp2
                go_ret
                rw [HF.out, Bool.and_false]
                exact ⟨rfl, HKK.out.drewN _⟩
            · have HF : Hid (pRise none ps = false) := by show pRise none ps = _; rw [HA.out]; unfold prOk; unfold isCnt; rw [decide_eq_false g1]; simp
              generalize ps[k].k = key at *
              generalize ps[k].v = val at *
              generalize ps[k].n = ver at *
              have b0i : key.isEmpty = false := e1
              have b1 : decide (16 < (key.length : Int)) = false := decide_eq_false (by omega)
              have b2 : decide (64 < (val.length : Int)) = false := decide_eq_false (by omega)
              have b3 : decide (ver < 1) = true := decide_eq_true (by omega)
              clear HA e0
              go_wp2
              go_quiet (fail)
              go_wp2
              go_ret
              rw [HF.out, Bool.and_false]
              exact ⟨rfl, HKK.out.drewN _⟩
          · have HF : Hid (pRise none ps = false) := by show pRise none ps = _; rw [HA.out]; unfold prOk; rw [decide_eq_false h64]; simp
            generalize ps[k].k = key at *
            generalize ps[k].v = val at *
            generalize ps[k].n = ver at *
            have b0i : key.isEmpty = false := e1
            have b1 : decide (16 < (key.length : Int)) = false := decide_eq_false (by omega)
            have b2 : decide (64 < (val.length : Int)) = true := decide_eq_true (by omega)
            clear HA e0
            go_wp2
            go_quiet (fail)
            go_wp2
            go_ret
            rw [HF.out, Bool.and_false]
            exact ⟨rfl, HKK.out.drewN _⟩
        · have HF : Hid (pRise none ps = false) := by show pRise none ps = _; rw [HA.out]; unfold prOk; rw [decide_eq_false h16]; simp
          generalize ps[k].k = key at *
          generalize ps[k].v = val at *
          generalize ps[k].n = ver at *
          have b0i : key.isEmpty = false := e1
          have b1 : decide (16 < (key.length : Int)) = true := decide_eq_true (by omega)
          clear HA e0
          go_wp2
          go_quiet (fail)
          go_wp2
          go_ret
          rw [HF.out, Bool.and_false]
          exact ⟨rfl, HKK.out.drewN _⟩
    · have HF : Hid (pRise none ps = true) := HI.out.trans (pRise_end hlt)
      by_cases h32 : ps.length ≤ 32
      · have h32' : (ps.length : Int) ≤ 32 := by omega
        have HD : Hid (decide (ps.length ≤ 32) = true) := decide_eq_true h32
        clear h32
        go_wp2
        go_ret
        rw [HF.out, HD.out, Bool.and_true]
        exact ⟨rfl, HK.out⟩
      · have h32' : ¬ (ps.length : Int) ≤ 32 := by omega
        have HD : Hid (decide (ps.length ≤ 32) = false) := decide_eq_false h32
        clear h32
        go_wp2
        go_ret
        rw [HF.out, HD.out, Bool.and_true]
        first | exact ⟨rfl, HK.out⟩ | exact ⟨ret_bool (by simp; omega), HK.out⟩

end Go.Proofs.YtflnjlbafchnaaaGreatDoor
