/-
  Results: may they be: by the program and by the document's answer.
-/
import Derived.Test.YtijklginabipgaaGreatWTab1
import Derived.Test.YtijklginabipgaaGreatWTab2
import Derived.Test.YtijklginabipgaaGreatWCmd
namespace Go.Proofs.YtijklginabipgaaGreat
open Go.RowKit

def rsOk (kd : Int) (val : List UInt8) (ver : Int) (ks : List (List UInt8)) : Bool := (decide (0 ≤ kd) && decide (kd ≤ 8)) && decide (val.length ≤ 64) && isNum ver && keysOk ks

set_option maxRecDepth 100000 in
set_option maxHeartbeats 4000000 in
theorem isResult_any (B c : Nat) (kd ver : Int) (val : List UInt8) (ao : Option Addr) (ks : List (List UInt8)) (w : World) (h : StrRow B w ao ks) (hl : (ks.length : Int) ≤ 9223372036854775807) (hv : val.length ≤ maxLen) :
    Calls Tryz.prog 83 #[.agg #[.int .i64 kd, .string (bs val), .int .i64 ver, .slice ao ks.length c]] w fun e w' => e = .returned (.bool (rsOk kd val ver ks)) ∧ Kept Nil w w' := by
  have HN := areNumbers_any (w.heap.size + 1) 1 [ver] _ (ints1k w (.cells #[.int .i64 kd, .string (bs val), .int .i64 ver, .slice ao ks.length c] 143) ver _ rfl) (by simp)
  rw [fromTo_one] at HN
  have VA := areKeys_any B c ao ks _ ((h.alloc (.cells #[.int .i64 kd, .string (bs val), .int .i64 ver, .slice ao ks.length c] 143)).alloc (.cells #[.int .i64 ver] 3)) hl
  have hsz := bs_size val
  have hv' : (val.length : Int) ≤ 9223372036854775807 := by unfold maxLen at hv; omega
  have HS : Hid (rsOk kd val ver ks = ((decide (0 ≤ kd) && decide (kd ≤ 8)) && decide (val.length ≤ 64) && isNum ver && keysOk ks)) := rfl
  rw [HS.out]
  generalize isNum ver = b1 at *
  generalize keysOk ks = b2 at *
  clear h hl hv
  by_cases h0 : 0 ≤ kd
  · by_cases h8 : kd ≤ 8
    · by_cases h64 : val.length ≤ 64
      · have h64' : (val.length : Int) ≤ 64 := by omega
        rw [decide_eq_true h0, decide_eq_true h8, decide_eq_true h64]
        clear h64 HS
        cases b1 with
        | false =>
          simp only [Bool.and_false, Bool.false_and]
          go_enter Tryz.func83, Tryz.ntmps83
          go_wp2_with fail
          refine HN.mono ?_
          rintro e w1 ⟨rfl, rfl⟩
          go_wp2
          go_ret
          exact ⟨rfl, ((Kept.refl _ _).alloc _).alloc _⟩
        | true =>
          simp only [Bool.true_and]
          go_enter Tryz.func83, Tryz.ntmps83
          go_wp2_with fail
          refine HN.mono ?_
          rintro e w1 ⟨rfl, rfl⟩
          go_wp2_with fail
          refine VA.mono ?_
          rintro e w2 ⟨rfl, k2⟩
          go_wp2
          go_ret
          exact ⟨rfl, (((Kept.refl _ _).alloc _).alloc _).trans k2⟩
      · have h64' : ¬ (val.length : Int) ≤ 64 := by omega
        rw [decide_eq_false h64]
        simp only [Bool.and_false, Bool.false_and]
        clear h64 HS HN VA
        go_enter Tryz.func83, Tryz.ntmps83
        go_wp2
        go_ret
        exact ⟨rfl, (Kept.refl _ _).alloc _⟩
    · rw [decide_eq_false h8]
      simp only [Bool.and_false, Bool.false_and]
      clear HS HN VA
      go_enter Tryz.func83, Tryz.ntmps83
      go_wp2
      go_ret
      exact ⟨rfl, (Kept.refl _ _).alloc _⟩
  · rw [decide_eq_false h0]
    simp only [Bool.false_and]
    clear HS HN VA
    go_enter Tryz.func83, Tryz.ntmps83
    go_wp2
    go_ret
    exact ⟨rfl, (Kept.refl _ _).alloc _⟩

end Go.Proofs.YtijklginabipgaaGreat
