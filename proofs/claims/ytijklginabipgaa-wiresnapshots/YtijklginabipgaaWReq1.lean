/-
  Which requests may be, and a request written: the program's isRequest, its writer's command and request, PutRequest.
-/
import Derived.Test.YtijklginabipgaaWCmd
import Derived.Deep.QuietTactic
import Derived.BigQuiet
import Derived.RegionCalls
namespace Go.Proofs.Ytijklginabipgaa
open Go.RowKit

/-- A request, plainly. -/
structure Rq where
  cl : Int
  nm : Int
  kd : Int
  key : List UInt8
  val : List UInt8
  ifv : Int
  tm : Int
def Rq.cells (q : Rq) : Array Value := #[.int .i64 q.cl, .int .i64 q.nm, .int .i64 q.kd, .string (bs q.key), .string (bs q.val), .int .i64 q.ifv, .int .i64 q.tm]
def Rq.none (q : Rq) : Bool := decide (q.kd = 0) && q.key.isEmpty && q.val.isEmpty && decide (q.ifv = 0)
def Rq.ok (q : Rq) : Bool := isNum q.cl && isNum q.nm && isNum q.tm && (if q.cl = 0 then q.none else isCmd q.kd q.key q.val q.ifv)

set_option maxRecDepth 100000 in
set_option maxHeartbeats 2000000 in
theorem isRequest_any (cl nm kd ifv tm : Int) (key val : List UInt8) (w : World) (hk : key.length ≤ maxLen) (hv : val.length ≤ maxLen) :
    Calls Try.prog 118 #[.agg #[.int .i64 cl, .int .i64 nm, .int .i64 kd, .string (bs key), .string (bs val), .int .i64 ifv, .int .i64 tm]] w fun e w' => e = .returned (.bool (Rq.ok ⟨cl, nm, kd, key, val, ifv, tm⟩)) ∧ Kept Nil w w' := by
  have HN := areNumbers_any (w.heap.size + 1) 3 [cl, nm, tm] _ (ints3 w (.cells #[.int .i64 cl, .int .i64 nm, .int .i64 kd, .string (bs key), .string (bs val), .int .i64 ifv, .int .i64 tm] 79) cl nm tm) (by simp)
  have ef : fromTo 0 [cl, nm, tm] = (isNum cl && isNum nm && isNum tm) := by simp [fromTo, isNum, Bool.and_assoc]
  rw [ef] at HN
  have HC := fun w => isCommand_any kd ifv key val w hk hv
  have ht := bs_toList
  by_cases c1 : (isNum cl && isNum nm && isNum tm) = true
  · rw [c1] at HN
    have C1 : Hid ((isNum cl && isNum nm && isNum tm) = true) := c1
    clear ef c1 hk hv
    by_cases c2 : cl = 0
    · subst c2
      go_enter Try.func118, Try.ntmps118
      go_wp2_with (first | (go_at_call 158; go_must (refine HN.mono ?_); rintro e w1 ⟨rfl, rfl⟩))
      all_goals go_ret
      all_goals refine ⟨ret_bool ?_, ((Kept.refl _ _).alloc _).alloc _⟩
      all_goals (unfold Rq.ok; rw [C1.out, if_pos rfl]; simp only [Rq.none])
      all_goals simp [*]
    · have c3 : (cl == 0) = false := by simpa using c2
      go_enter Try.func118, Try.ntmps118
      go_wp2_with (first | (go_at_call 158; go_must (refine HN.mono ?_); rintro e w1 ⟨rfl, rfl⟩) | (go_at_call 171; go_must (refine (HC _).mono ?_); rintro e w2 ⟨rfl, hk⟩))
      go_ret
      refine ⟨ret_bool ?_, (((Kept.refl _ _).alloc _).alloc _).trans hk⟩
      unfold Rq.ok
      rw [C1.out, if_neg c2]; rfl
  · have c1 : (isNum cl && isNum nm && isNum tm) = false := by simpa using c1
    rw [c1] at HN
    have C1 : Hid ((isNum cl && isNum nm && isNum tm) = false) := c1
    clear ef c1 hk hv
    go_enter Try.func118, Try.ntmps118
    go_wp2_with (first | (go_at_call 158; go_must (refine HN.mono ?_); rintro e w1 ⟨rfl, rfl⟩))
    go_ret
    refine ⟨ret_bool ?_, ((Kept.refl _ _).alloc _).alloc _⟩
    unfold Rq.ok
    rw [C1.out]; rfl

def encCmd (kd : Nat) (key val : List UInt8) (ifv : Nat) : List UInt8 := enc kd ++ encText key ++ encText val ++ enc ifv
set_option maxRecDepth 100000 in
set_option maxHeartbeats 1000000 in
theorem wCommand_any (b kd ifv : Nat) (key val l : List UInt8) (w : World) (h : WInv b w l) (h1 : kd ≤ 1099511627775) (h2 : ifv ≤ 1099511627775) (h3 : key.length ≤ 16) (h4 : val.length ≤ 64) (hl : l.length ≤ 100000000000) :
    Calls Try.prog 172 #[.pointer (some ⟨b, 0, none⟩), .agg #[.int .i64 kd, .string (bs key), .string (bs val), .int .i64 ifv]] w fun e w' => e = .returned (.tuple #[]) ∧ WInv b w' (l ++ encCmd kd key val ifv) ∧ Kept (Wr b) w w' := by
  have HX : Hid (¬ Wr b w.heap.size (.cells #[.int .i64 kd, .string (bs key), .string (bs val), .int .i64 ifv] 77)) := not_wr (Nat.ne_of_gt h.lt) (by decide)
  have HB : Hid (_) := blk_new w (.cells #[.int .i64 kd, .string (bs key), .string (bs val), .int .i64 ifv] 77)
  have HE : Hid (l ++ encCmd kd key val ifv = (((l ++ enc kd) ++ encText key) ++ encText val) ++ enc ifv) := by show _ = _; simp [encCmd]
  have HL : Hid ((enc kd).length ≤ 6 ∧ (encText key).length ≤ 22 ∧ (encText val).length ≤ 70 ∧ l.length ≤ 100000000000 ∧ kd ≤ 1099511627775 ∧ ifv ≤ 1099511627775 ∧ key.length ≤ 16 ∧ val.length ≤ 64) := by
    have a1 := enc_len6 h1
    have a2 := encText_len (l := key) (by omega)
    have a3 := encText_len (l := val) (by omega)
    exact ⟨a1, by omega, by omega, hl, h1, h2, h3, h4⟩
  have h1' : (kd : Int) ≤ 1099511627775 := by omega
  have h2' : (ifv : Int) ≤ 1099511627775 := by omega
  clear h1 h2 h3 h4 hl
  rw [HE.out]
  go_enter Try.func172, Try.ntmps172
  go_wp2_with fail
  refine (wNumber_any b kd l _ (h.alloc _) HL.out.2.2.2.2.1 (by have := HL.out.2.2.2.1; omega)).mono ?_
  rintro e w1 ⟨rfl, i1, k1⟩
  have X1 : Hid (_) := k1.block _ _ HB.out HX.out
  have q1 := blk_cell X1.out 1
  simp only [List.getElem?_toArray, List.getElem?_cons_zero, List.getElem?_cons_succ] at q1
  go_wp2_with fail
  refine (wText_any b key _ w1 i1 (by have := HL.out; omega) (by have := HL.out; simp only [List.length_append]; omega)).mono ?_
  rintro e w2 ⟨rfl, i2, k2⟩
  have X2 : Hid (_) := k2.block _ _ X1.out HX.out
  have q2 := blk_cell X2.out 2
  simp only [List.getElem?_toArray, List.getElem?_cons_zero, List.getElem?_cons_succ] at q2
  clear q1
  go_wp2_with fail
  refine (wText_any b val _ w2 i2 (by have := HL.out; omega) (by have := HL.out; simp only [List.length_append]; omega)).mono ?_
  rintro e w3 ⟨rfl, i3, k3⟩
  have X3 : Hid (_) := k3.block _ _ X2.out HX.out
  have q3 := blk_cell X3.out 3
  simp only [List.getElem?_toArray, List.getElem?_cons_zero, List.getElem?_cons_succ] at q3
  clear q2
  go_wp2_with fail
  refine (wNumber_any b ifv _ w3 i3 HL.out.2.2.2.2.2.1 (by have := HL.out; simp only [List.length_append]; omega)).mono ?_
  rintro e w4 ⟨rfl, i4, k4⟩
  go_wp2
  go_end0
  exact ⟨rfl, i4, (((((Kept.refl _ _).alloc _).trans k1).trans k2).trans k3).trans k4⟩

end Go.Proofs.Ytijklginabipgaa
