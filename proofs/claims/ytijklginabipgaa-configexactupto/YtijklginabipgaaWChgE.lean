/-
  slices.Equal on two rows of ints.
-/
import Derived.Test.YtijklginabipgaaWTrk5
namespace Go.Proofs.Ytijklginabipgaa
open Go.RowKit

set_option maxRecDepth 100000 in
set_option maxHeartbeats 1000000 in
theorem slEqual_any (B1 B2 c1 c2 : Nat) (a1 a2 : Option Addr) (ns ms : List Int) (w : World) (h1 : IntRow B1 w a1 ns) (h2 : IntRow B2 w a2 ms) (hl1 : (ns.length : Int) ≤ 9223372036854775807) (hl2 : (ms.length : Int) ≤ 9223372036854775807) :
    Calls Try.prog 122 #[.slice a1 ns.length c1, .slice a2 ms.length c2] w fun e w' => e = .returned (.bool (decide (ns = ms))) ∧ Kept Nil w w' := by
  by_cases hlen : ns.length = ms.length
  · have H1 : Hid (IntRow B1 w a1 ns) := h1
    have H2 : Hid (IntRow B2 w a2 ms) := h2
    clear h1 h2
    have hl : (ns.length : Int) = ms.length := by omega
    go_enter Try.func122, Try.ntmps122
    go_wp2
    go_loopw [13] (fun i wr => ∃ k : Nat, k ≤ ns.length ∧ i = .int .i64 k ∧ Hid (ns.take k = ms.take k) ∧ Hid (Kept Nil w wr)) (fun i _ => ns.length - (intOf i).toNat)
    case atStart => exact ⟨0, Nat.zero_le _, rfl, rfl, Kept.refl _ _⟩
    case round =>
      obtain ⟨k, hk, rfl, HT, HK⟩ := hrel
      by_cases hlt : k < ns.length
      · have hlt2 : k < ms.length := by omega
        obtain ⟨x1, rfl, _, e1⟩ := (H1.out.nil HK.out) k hlt
        obtain ⟨x2, rfl, _, e2⟩ := (H2.out.nil HK.out) k hlt2
        have HX : Hid (ns[k] = ms[k] → ns.take (k + 1) = ms.take (k + 1)) := fun h => by
          rw [List.take_succ_eq_append_getElem hlt, List.take_succ_eq_append_getElem hlt2, HT.out, h]
        have HY : Hid (ns[k] ≠ ms[k] → ns ≠ ms) := fun h e => by subst e; exact h rfl
        generalize ns[k] = x at e1 HX HY
        generalize ms[k] = y at e2 HX HY
        by_cases hxy : x = y
        · subst hxy
          have HT2 : Hid _ := HX.out rfl
          clear HX HY
          go_wp2
          go_region
          go_wp2
          go_roundw
          case rel => exact ⟨k + 1, by omega, by go_num, HT2, HK.out.drew⟩
          case measure => simp [intOf]; omega
        · have HN : Hid (decide (ns = ms) = false) := decide_eq_false (HY.out hxy)
          have hxy' : (x != y) = true := by simpa using hxy
          clear HX HY
          go_wp2
          go_region
          go_wp2
          go_ret
          rw [HN.out]
          exact ⟨rfl, HK.out.drew⟩
      · have HN : Hid (decide (ns = ms) = true) := by
          refine decide_eq_true ?_
          have := HT.out
          rwa [List.take_of_length_le (by omega), List.take_of_length_le (by omega)] at this
        go_wp2
        go_ret
        rw [HN.out]
        exact ⟨rfl, HK.out⟩
  · have HN : Hid (decide (ns = ms) = false) := decide_eq_false (fun e => hlen (by rw [e]))
    have hl : ((ns.length : Int) != (ms.length : Int)) = true := by simp; omega
    clear h1 h2 hlen
    go_enter Try.func122, Try.ntmps122
    go_wp2
    go_ret
    rw [HN.out]
    exact ⟨rfl, Kept.refl _ _⟩

set_option maxRecDepth 100000 in
set_option maxHeartbeats 1000000 in
theorem slEqualQ_any (B1 B2 c1 c2 : Nat) (a1 a2 : Option Addr) (ns ms : List Int) (w : World) (h1 : IntRow B1 w a1 ns) (h2 : IntRow B2 w a2 ms) (hl1 : (ns.length : Int) ≤ 9223372036854775807) (hl2 : (ms.length : Int) ≤ 9223372036854775807) :
    Calls Try.prog 122 #[.slice a1 ns.length c1, .slice a2 ms.length c2] w fun e w' => e = .returned (.bool (decide (ns = ms))) ∧ ∃ m, w' = w.drewN m := by
  by_cases hlen : ns.length = ms.length
  · have H1 : Hid (IntRow B1 w a1 ns) := h1
    have H2 : Hid (IntRow B2 w a2 ms) := h2
    clear h1 h2
    have hl : (ns.length : Int) = ms.length := by omega
    go_enter Try.func122, Try.ntmps122
    go_wp2
    go_loopw [13] (fun i wr => ∃ k : Nat, k ≤ ns.length ∧ i = .int .i64 k ∧ Hid (ns.take k = ms.take k) ∧ Hid (∃ m, wr = w.drewN m)) (fun i _ => ns.length - (intOf i).toNat)
    case atStart => exact ⟨0, Nat.zero_le _, rfl, rfl, 0, rfl⟩
    case round =>
      obtain ⟨k, hk, rfl, HT, HQ⟩ := hrel
      have HK : Hid (Kept Nil w wr) := by obtain ⟨m, hm⟩ := HQ.out; show Kept _ _ _; rw [hm]; exact (Kept.refl _ _).drewN _
      have HQ1 : Hid (∃ m, wr.drew = w.drewN m) := by obtain ⟨m, hm⟩ := HQ.out; exact ⟨m + 1, by rw [hm]; rfl⟩
      by_cases hlt : k < ns.length
      · have hlt2 : k < ms.length := by omega
        obtain ⟨x1, rfl, _, e1⟩ := (H1.out.nil HK.out) k hlt
        obtain ⟨x2, rfl, _, e2⟩ := (H2.out.nil HK.out) k hlt2
        have HX : Hid (ns[k] = ms[k] → ns.take (k + 1) = ms.take (k + 1)) := fun h => by
          rw [List.take_succ_eq_append_getElem hlt, List.take_succ_eq_append_getElem hlt2, HT.out, h]
        have HY : Hid (ns[k] ≠ ms[k] → ns ≠ ms) := fun h e => by subst e; exact h rfl
        generalize ns[k] = x at e1 HX HY
        generalize ms[k] = y at e2 HX HY
        by_cases hxy : x = y
        · subst hxy
          have HT2 : Hid _ := HX.out rfl
          clear HX HY
          go_wp2
          go_region
          go_wp2
          go_roundw
          case rel => exact ⟨k + 1, by omega, by go_num, HT2, HQ1.out⟩
          case measure => simp [intOf]; omega
        · have HN : Hid (decide (ns = ms) = false) := decide_eq_false (HY.out hxy)
          have hxy' : (x != y) = true := by simpa using hxy
          clear HX HY
          go_wp2
          go_region
          go_wp2
          go_ret
          rw [HN.out]
          exact ⟨rfl, HQ1.out⟩
      · have HN : Hid (decide (ns = ms) = true) := by
          refine decide_eq_true ?_
          have := HT.out
          rwa [List.take_of_length_le (by omega), List.take_of_length_le (by omega)] at this
        go_wp2
        go_ret
        rw [HN.out]
        exact ⟨rfl, HQ.out⟩
  · have HN : Hid (decide (ns = ms) = false) := decide_eq_false (fun e => hlen (by rw [e]))
    have hl : ((ns.length : Int) != (ms.length : Int)) = true := by simp; omega
    clear h1 h2 hlen
    go_enter Try.func122, Try.ntmps122
    go_wp2
    go_ret
    rw [HN.out]
    exact ⟨rfl, 0, rfl⟩

end Go.Proofs.Ytijklginabipgaa
