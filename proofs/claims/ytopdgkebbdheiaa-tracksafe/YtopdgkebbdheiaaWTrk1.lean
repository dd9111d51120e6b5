/-
  How many of the voters are among those: isMajority, Joint and Quorum.
-/
import Derived.Test.YtopdgkebbdheiaaWOld
import Derived.Test.YtopdgkebbdheiaaWLog9
namespace Go.Proofs.Ytopdgkebbdheiaa
open Go.RowKit

def cntIn (vs hs : List Int) : Nat := (vs.filter (hasZ hs)).length
def maj (vs hs : List Int) : Bool := decide ((vs.length : Int) < 2 * (cntIn vs hs : Nat))
def quo (v n hs : List Int) : Bool := maj v hs && (n.isEmpty || maj n hs)
theorem cntIn_le (vs hs : List Int) : cntIn vs hs ≤ vs.length := List.length_filter_le _ _
theorem cntIn_succ {vs : List Int} (hs : List Int) {k : Nat} (h : k < vs.length) : cntIn (vs.take (k + 1)) hs = cntIn (vs.take k) hs + if hasZ hs vs[k] then 1 else 0 := by
  unfold cntIn
  rw [List.take_succ_eq_append_getElem h, List.filter_append, List.length_append]
  congr 1
  by_cases hz : hasZ hs vs[k]
  · simp [hz]
  · simp [hz]

set_option maxRecDepth 100000 in
set_option maxHeartbeats 1000000 in
theorem isMajority_any (B c1 c2 : Nat) (a1 a2 : Option Addr) (vs hs : List Int) (w : World) (h1 : IntRow B w a1 vs) (h2 : IntRow B w a2 hs) (hl1 : (vs.length : Int) ≤ 1000000) (hl2 : (hs.length : Int) ≤ 9223372036854775807) :
    Calls Try.prog 75 #[.slice a1 vs.length c1, .slice a2 hs.length c2] w fun e w' => e = .returned (.bool (maj vs hs)) ∧ w' = w := by
  have HR : Hid (IntRow B w a1 vs ∧ IntRow B w a2 hs) := ⟨h1, h2⟩
  clear h1 h2
  go_enter Try.func75, Try.ntmps75
  go_wp2
  go_loop [5, 10] (fun v i => ∃ k : Nat, k ≤ vs.length ∧ i = .int .i64 k ∧ v = .int .i64 (cntIn (vs.take k) hs : Nat)) (fun _ i => vs.length - (intOf i).toNat)
  case atStart => exact ⟨0, Nat.zero_le _, rfl, rfl⟩
  case round =>
    obtain ⟨k, hk, rfl, rfl⟩ := hrel
    by_cases hlt : k < vs.length
    · obtain ⟨a, rfl, _, hcell⟩ := HR.out.1 k hlt
      have C := contains_any B c2 a2 hs vs[k] w HR.out.2 hl2
      have hst := cntIn_succ hs hlt
      have hcl := cntIn_le (vs.take k) hs
      have hcl2 : (vs.take k).length ≤ vs.length := by rw [List.length_take]; omega
      have hki : (k : Int) < vs.length := by omega
      generalize vs[k] = z at *
      generalize cntIn (vs.take k) hs = n at *
      cases hz : hasZ hs z with
      | true =>
        rw [hz] at C hst
        simp only [if_true] at hst
        have HST : Hid (cntIn (vs.take (k + 1)) hs = n + 1) := hst
        clear hz hst
        go_wp2_with fail
        refine C.mono ?_
        rintro e w1 ⟨rfl, rfl⟩
        go_wp2
        go_round
        case rel => exact ⟨k + 1, by omega, by go_num, by rw [HST.out]; go_num⟩
        case measure => simp [intOf]; omega
      | false =>
        rw [hz] at C hst
        have HST : Hid (cntIn (vs.take (k + 1)) hs = n) := by show _ = _; simpa using hst
        clear hz hst
        go_wp2_with fail
        refine C.mono ?_
        rintro e w1 ⟨rfl, rfl⟩
        go_wp2
        go_round
        case rel => exact ⟨k + 1, by omega, by go_num, by rw [HST.out]⟩
        case measure => simp [intOf]; omega
    · obtain rfl : k = vs.length := by omega
      rw [List.take_length]
      have hcl := cntIn_le vs hs
      have HM : Hid (maj vs hs = decide ((vs.length : Int) < 2 * (cntIn vs hs : Nat))) := rfl
      generalize cntIn vs hs = n at *
      go_wp2
      go_ret
      rw [HM.out]
      exact ⟨rfl, rfl⟩

set_option maxRecDepth 100000 in
set_option maxHeartbeats 1000000 in
theorem joint_any (c1 c2 c3 : Nat) (a1 a2 a3 : Option Addr) (x y z : Nat) (w : World) :
    Calls Try.prog 36 #[.agg #[.slice a1 x c1, .slice a2 y c2, .slice a3 z c3]] w fun e w' => e = .returned (.bool (decide (0 < y))) ∧ Kept Nil w w' := by
  go_enter Try.func36, Try.ntmps36
  go_wp2
  go_ret
  exact ⟨rfl, (Kept.refl _ _).alloc _⟩

set_option maxRecDepth 100000 in
set_option maxHeartbeats 1000000 in
theorem quorum_any (B c1 c2 c3 d : Nat) (a1 a2 a3 ao : Option Addr) (v n l hs : List Int) (w : World) (h : CfRows B w a1 a2 a3 v n l) (hh : IntRow B w ao hs) (h1 : (v.length : Int) ≤ 1000000) (h2 : (n.length : Int) ≤ 1000000) (h3 : (hs.length : Int) ≤ 9223372036854775807) :
    Calls Try.prog 22 #[.agg #[.slice a1 v.length c1, .slice a2 n.length c2, .slice a3 l.length c3], .slice ao hs.length d] w fun e w' => e = .returned (.bool (quo v n hs)) ∧ Kept Nil w w' := by
  have M1 := isMajority_any B c1 d a1 ao v hs _ (h.r1.alloc (.cells #[.slice a1 v.length c1, .slice a2 n.length c2, .slice a3 l.length c3] 24)) (hh.alloc _) h1 h3
  have M2 := fun w' (hk : Kept Nil w w') => isMajority_any B c2 d a2 ao n hs w' (h.r2.nil hk) (hh.nil hk) h2 h3
  have J := fun w' => joint_any c1 c2 c3 a1 a2 a3 v.length n.length l.length w'
  have HB : Hid ((w.alloc (.cells #[.slice a1 v.length c1, .slice a2 n.length c2, .slice a3 l.length c3] 24)).heap[w.heap.size]? = some (.cells #[.slice a1 v.length c1, .slice a2 n.length c2, .slice a3 l.length c3] 24 (0, 0))) := blk_new _ _
  have HV : Hid (quo v n hs = (maj v hs && (n.isEmpty || maj n hs))) := rfl
  generalize maj v hs = b1 at *
  generalize maj n hs = b2 at *
  clear h hh h1 h2 h3
  cases b1 with
  | false =>
    go_enter Try.func22, Try.ntmps22
    go_wp2_with fail
    refine M1.mono ?_
    rintro e w1 ⟨rfl, rfl⟩
    go_wp2
    go_ret
    rw [HV.out]
    exact ⟨rfl, (Kept.refl _ _).alloc _⟩
  | true =>
    by_cases hn : n = []
    · have hj : decide (0 < n.length) = false := by rw [hn]; rfl
      simp only [hj] at J
      have HF : Hid (quo v n hs = true) := by show quo v n hs = true; rw [HV.out, hn]; rfl
      clear hn HV hj
      go_enter Try.func22, Try.ntmps22
      go_wp2_with fail
      refine M1.mono ?_
      rintro e w1 ⟨rfl, hw1⟩
      have HB1 : Hid (w1.heap[w.heap.size]? = some (.cells #[.slice a1 v.length c1, .slice a2 n.length c2, .slice a3 l.length c3] 24 (0, 0))) := by show _ = _; rw [hw1]; exact HB.out
      have HK1 : Hid (Kept Nil w w1) := by show Kept _ _ _; rw [hw1]; exact (Kept.refl _ _).alloc _
      clear hw1 HB
      have q0 := blk_at HB1.out 0 rfl
      have q1 := blk_at HB1.out 1 rfl
      have q2 := blk_at HB1.out 2 rfl
      go_wp2_with fail
      refine (J _).mono ?_
      rintro e w2 ⟨rfl, k2⟩
      have HK2 : Hid (Kept Nil w w2) := HK1.out.trans k2
      go_wp2
      go_ret
      rw [HF.out]
      exact ⟨rfl, HK2.out⟩
    · have hj : decide (0 < n.length) = true := decide_eq_true (List.length_pos_iff.2 hn)
      simp only [hj] at J
      have HF : Hid (quo v n hs = b2) := by
        show quo v n hs = b2
        rw [HV.out]
        cases n with
        | nil => exact absurd rfl hn
        | cons x t => simp
      clear hn HV hj
      go_enter Try.func22, Try.ntmps22
      go_wp2_with fail
      refine M1.mono ?_
      rintro e w1 ⟨rfl, hw1⟩
      have HB1 : Hid (w1.heap[w.heap.size]? = some (.cells #[.slice a1 v.length c1, .slice a2 n.length c2, .slice a3 l.length c3] 24 (0, 0))) := by show _ = _; rw [hw1]; exact HB.out
      have HK1 : Hid (Kept Nil w w1) := by show Kept _ _ _; rw [hw1]; exact (Kept.refl _ _).alloc _
      clear hw1 HB
      have q0 := blk_at HB1.out 0 rfl
      have q1 := blk_at HB1.out 1 rfl
      have q2 := blk_at HB1.out 2 rfl
      go_wp2_with fail
      refine (J _).mono ?_
      rintro e w2 ⟨rfl, k2⟩
      have HK2 : Hid (Kept Nil w w2) := HK1.out.trans k2
      have HB2 : Hid (_) := k2.block _ _ HB1.out (fun x => x.elim)
      have r1 := blk_at HB2.out 1 rfl
      clear k2 q0 q1 q2
      go_wp2_with fail
      refine (M2 _ HK2.out).mono ?_
      rintro e w3 ⟨rfl, rfl⟩
      go_wp2
      go_ret
      rw [HF.out]
      exact ⟨rfl, HK2.out⟩

end Go.Proofs.Ytopdgkebbdheiaa
