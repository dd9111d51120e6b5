/-
  Relays: the law's samePackets, the equal case.
-/
import Derived.Test.YtmlncfnnldplgaaWRy4
namespace Go.Proofs.Ytmlncfnnldplgaa
open Go.RowKit

set_option maxRecDepth 100000 in
set_option maxHeartbeats 4000000 in
theorem samePk_yes (B B' c c' : Nat) (ao ao' : Option Addr) (ps : List Pk) (w : World) (h : OwnPk B w ao c ps) (h' : OwnPk B' w ao' c' ps) (hl : (ps.length : Int) ≤ 4611686018427387903) :
    Calls Try.prog 13 #[.slice ao ps.length c, .slice ao' ps.length c'] w fun e w' => e = .returned (.bool true) ∧ Kept Nil w w' := by
  have HR : Hid (OwnPk B w ao c ps) := h
  have HR' : Hid (OwnPk B' w ao' c' ps) := h'
  clear h h'
  go_enter Try.func13, Try.ntmps13
  go_wp2
  go_loopw [5] (fun u wr => ∃ k : Nat, k ≤ ps.length ∧ u = .int .i64 k ∧ Hid (Kept Nil w wr)) (fun u _ => ps.length - (intOf u).toNat)
  case atStart => exact ⟨0, Nat.zero_le _, rfl, Kept.refl _ _⟩
  case round =>
    obtain ⟨k, hk, rfl, HK⟩ := hrel
    by_cases hlt : k < ps.length
    · have hki : (k : Int) < ps.length := by omega
      obtain ⟨g, e, _, _, c0, c1, c2, c3, c4, _⟩ := (HR.out.kept HK.out).cells hlt
      subst e
      obtain ⟨g', e, _, _, d0, d1, d2, d3, d4, _⟩ := (HR'.out.kept HK.out).cells hlt
      subst e
      obtain ⟨y, HY⟩ : ∃ y : Pk, Hid (y = ps[k]) := ⟨ps[k], (rfl : ps[k] = ps[k])⟩
      rw [← HY.out] at c0 c1 c2 c3 c4 d0 d1 d2 d3 d4
      go_upto_region 6 with fail
      go_quiet (fail)
      go_wp2
      go_roundw
      case rel => exact ⟨k + 1, by omega, by go_num, HK.out.drewN _⟩
      case measure => simp [intOf]; omega
    · obtain rfl : k = ps.length := by omega
      have hirr : ¬ (ps.length : Int) < ps.length := by omega
      go_wp2
      go_ret
      exact ⟨rfl, HK.out⟩
end Go.Proofs.Ytmlncfnnldplgaa
