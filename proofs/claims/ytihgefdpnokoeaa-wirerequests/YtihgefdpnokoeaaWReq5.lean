/-
  GetRequest; and the document's: the same plain answer.
-/
import Derived.Test.YtihgefdpnokoeaaWGetR
import Derived.Test.YtihgefdpnokoeaaWCmdR
namespace Go.Proofs.Ytihgefdpnokoeaa
open Go.RowKit

def zRq : Rq := ⟨0, 0, 0, [], [], 0, 0⟩
def getReq (l : List UInt8) : Rq × Int :=
  match rdAll (rdReq l) with
  | .ok q => (q, 0)
  | .error c => (zRq, c)

theorem readR_any (l : List UInt8) (w : World) :
    Calls Try.prog 70 #[.string (bs l), .func (.func 71) #[] #[]] w fun e w' => e = .returned (.tuple #[.agg #[.int .i64 (getReq l).1.cl, .int .i64 (getReq l).1.nm, .int .i64 (getReq l).1.kd, .string (bs (getReq l).1.key), .string (bs (getReq l).1.val), .int .i64 (getReq l).1.ifv, .int .i64 (getReq l).1.tm], .int .i64 (getReq l).2]) ∧ Kept Nil w w' := by
  cases hr : rdReq l with
  | error c =>
    have e : getReq l = (zRq, c) := by unfold getReq; rw [hr]; rfl
    rw [e]
    exact readR_err l c w hr
  | ok x =>
    obtain ⟨q, t⟩ := x
    cases t with
    | nil =>
      have e : getReq l = (q, 0) := by unfold getReq; rw [hr]; rfl
      rw [e]
      exact readR_ok l q w hr
    | cons y t =>
      have e : getReq l = (zRq, 1) := by unfold getReq; rw [hr]; rfl
      rw [e]
      exact readR_left l q y t w hr

set_option maxRecDepth 100000 in
set_option maxHeartbeats 1000000 in
theorem getRequest_any (l : List UInt8) (w : World) :
    Calls Try.prog 23 #[.string (bs l)] w fun e w' => e = .returned (.tuple #[.agg #[.int .i64 (getReq l).1.cl, .int .i64 (getReq l).1.nm, .int .i64 (getReq l).1.kd, .string (bs (getReq l).1.key), .string (bs (getReq l).1.val), .int .i64 (getReq l).1.ifv, .int .i64 (getReq l).1.tm], .int .i64 (getReq l).2]) ∧ Kept Nil w w' := by
  have H := fun w => readR_any l w
  generalize getReq l = g at H ⊢
  obtain ⟨⟨cl, nm, kd, key, val, ifv, tm⟩, c⟩ := g
  simp only at H ⊢
  go_enter Try.func23, Try.ntmps23
  go_wp2_with fail
  refine (H _).mono ?_
  rintro e w1 ⟨rfl, hk⟩
  have hb := hk.block _ _ (blk_new w (.cells #[.int .i64 0, .int .i64 0, .int .i64 0, .string (bs []), .string (bs []), .int .i64 0, .int .i64 0] 41)) (fun x => x.elim)
  have g0 := blk_at hb 0 rfl
  have g1 := blk_at hb 1 rfl
  have g2 := blk_at hb 2 rfl
  have g3 := blk_at hb 3 rfl
  have g4 := blk_at hb 4 rfl
  have g5 := blk_at hb 5 rfl
  have g6 := blk_at hb 6 rfl
  have f0 := blk_free hb 0
  have f1 := blk_free hb 1
  have f2 := blk_free hb 2
  have f3 := blk_free hb 3
  have f4 := blk_free hb 4
  have f5 := blk_free hb 5
  have f6 := blk_free hb 6
  go_wp2
  refine bodyPost_ret (v := .tuple #[.agg #[.int .i64 cl, .int .i64 nm, .int .i64 kd, .string (bs key), .string (bs val), .int .i64 ifv, .int .i64 tm], .int .i64 c]) (by simp [results, Try.results23, go_sem, g0, g1, g2, g3, g4, g5, g6]) rfl ⟨rfl, ?_⟩
  have hkk : Kept Nil w w1 := ((Kept.refl _ _).alloc _).trans hk
  exact (((((((hkk.setNew (Nat.le_refl _) _).setNew (Nat.le_refl _) _).setNew (Nat.le_refl _) _).setNew (Nat.le_refl _) _).setNew (Nat.le_refl _) _).setNew (Nat.le_refl _) _).setNew (Nat.le_refl _) _)

/-! ### the document's way -/
/-- What the document's GetRequest comes to. -/
def refEnd (q : Rq) (st : Except Int (List UInt8)) : Rq × Int := if stEnd st = 0 then (q, 0) else (zRq, stEnd st)
def refReq (l : List UInt8) : Rq × Int :=
  let a := stRun rdNum 0 (.ok l)
  let b := stRun rdNum 0 a.2
  let c := stRun rdNum 0 b.2
  if a.1 = 0 then refEnd ⟨a.1, b.1, 0, [], [], 0, c.1⟩ c.2
  else
    let d := stRun rdNum 0 c.2
    let e := stRun (rdText 16) [] d.2
    let f := stRun (rdText 64) [] e.2
    let g := stRun rdNum 0 f.2
    refEnd ⟨a.1, b.1, d.1, e.1, f.1, g.1, c.1⟩ (if isCmd d.1 e.1 f.1 g.1 then g.2 else stBad 5 g.2)

theorem refEnd_err (q : Rq) {c : Int} (hc : c ≠ 0) : refEnd q (.error c) = (zRq, c) := if_neg hc
theorem getReq_err {l : List UInt8} {c : Int} (h : rdReq l = .error c) : getReq l = (zRq, c) := by unfold getReq; rw [h]; rfl
theorem refEnd_all (q : Rq) (l : List UInt8) {m : List UInt8} (h : rdReq m = .ok (q, l)) : refEnd q (.ok l) = getReq m := by
  unfold getReq
  rw [h]
  cases l with
  | nil => rfl
  | cons x l => rfl
theorem refReq_eq (l : List UInt8) : refReq l = getReq l := by
  unfold refReq
  cases r1 : rdNum l with
  | error c =>
    rw [stRun_no r1]
    simp only [stRun_err, if_true]
    rw [refEnd_err _ (rdNum_err r1), getReq_err (rdThen_no r1)]
  | ok x1 =>
  obtain ⟨cl, l1⟩ := x1
  rw [stRun_ok r1]
  simp only
  by_cases c0 : cl = 0
  · rw [if_pos c0]
    subst c0
    cases r2 : rdNum l1 with
    | error c =>
      rw [stRun_no r2]
      simp only [stRun_err]
      rw [refEnd_err _ (rdNum_err r2), getReq_err ((rdThen_ok r1).trans (rdThen_no r2))]
    | ok x2 =>
    obtain ⟨nm, l2⟩ := x2
    rw [stRun_ok r2]
    simp only
    cases r3 : rdNum l2 with
    | error c =>
      rw [stRun_no r3]
      simp only
      rw [refEnd_err _ (rdNum_err r3), getReq_err ((rdThen_ok r1).trans ((rdThen_ok r2).trans (rdThen_no r3)))]
    | ok x3 =>
    obtain ⟨tm, l3⟩ := x3
    rw [stRun_ok r3]
    simp only
    refine refEnd_all _ _ ((rdThen_ok r1).trans ((rdThen_ok r2).trans ((rdThen_ok r3).trans ?_)))
    rw [if_pos rfl]
    unfold rdReqEnd
    rw [if_pos]
    have h0 : isNum 0 = true := by decide
    simp [Rq.ok, Rq.none, isNum_of (rdNum_ok r2).1, isNum_of (rdNum_ok r3).1, h0]
  · rw [if_neg c0]
    have hz : isCmd ((0 : Nat) : Int) [] [] ((0 : Nat) : Int) = false := by decide
    cases r2 : rdNum l1 with
    | error c =>
      rw [stRun_no r2]
      simp only [stRun_err, hz]
      rw [getReq_err ((rdThen_ok r1).trans (rdThen_no r2))]
      exact refEnd_err _ (rdNum_err r2)
    | ok x2 =>
    obtain ⟨nm, l2⟩ := x2
    rw [stRun_ok r2]
    simp only
    cases r3 : rdNum l2 with
    | error c =>
      rw [stRun_no r3]
      simp only [stRun_err, hz]
      rw [getReq_err ((rdThen_ok r1).trans ((rdThen_ok r2).trans (rdThen_no r3)))]
      exact refEnd_err _ (rdNum_err r3)
    | ok x3 =>
    obtain ⟨tm, l3⟩ := x3
    rw [stRun_ok r3]
    simp only
    have hh : rdReq l = rdThen (rdCmd l3) fun c l => rdReqEnd ⟨cl, nm, c.1, c.2.1, c.2.2.1, c.2.2.2, tm⟩ l := (rdThen_ok r1).trans ((rdThen_ok r2).trans ((rdThen_ok r3).trans (if_neg c0)))
    have hbad : ∀ (q : Rq) (b : Bool) {c : Int}, c ≠ 0 → refEnd q (if b = true then .error c else stBad 5 (.error c)) = (zRq, c) := by
      intro q b c hc
      cases b
      · exact refEnd_err q hc
      · exact refEnd_err q hc
    cases r4 : rdNum l3 with
    | error c =>
      rw [stRun_no r4]
      simp only [stRun_err]
      exact (hbad _ _ (rdNum_err r4)).trans (getReq_err (hh.trans (rdThen_no (rdThen_no r4)))).symm
    | ok x4 =>
    obtain ⟨kd, l4⟩ := x4
    rw [stRun_ok r4]
    simp only
    cases r5 : rdText 16 l4 with
    | error c =>
      rw [stRun_no r5]
      simp only [stRun_err]
      exact (hbad _ _ (rdText_err r5)).trans (getReq_err (hh.trans (rdThen_no ((rdThen_ok r4).trans (rdThen_no r5))))).symm
    | ok x5 =>
    obtain ⟨key, l5⟩ := x5
    rw [stRun_ok r5]
    simp only
    cases r6 : rdText 64 l5 with
    | error c =>
      rw [stRun_no r6]
      simp only [stRun_err]
      exact (hbad _ _ (rdText_err r6)).trans (getReq_err (hh.trans (rdThen_no ((rdThen_ok r4).trans ((rdThen_ok r5).trans (rdThen_no r6)))))).symm
    | ok x6 =>
    obtain ⟨val, l6⟩ := x6
    rw [stRun_ok r6]
    simp only
    cases r7 : rdNum l6 with
    | error c =>
      rw [stRun_no r7]
      simp only
      exact (hbad _ _ (rdNum_err r7)).trans (getReq_err (hh.trans (rdThen_no ((rdThen_ok r4).trans ((rdThen_ok r5).trans ((rdThen_ok r6).trans (rdThen_no r7))))))).symm
    | ok x7 =>
    obtain ⟨ifv, l7⟩ := x7
    rw [stRun_ok r7]
    simp only
    have hC : rdCmd l3 = .ok ((kd, key, val, ifv), l7) := (rdThen_ok r4).trans ((rdThen_ok r5).trans ((rdThen_ok r6).trans (rdThen_ok r7)))
    have hfin := hh.trans (rdThen_ok hC)
    have hokq : Rq.ok ⟨cl, nm, kd, key, val, ifv, tm⟩ = isCmd kd key val ifv := by
      simp [Rq.ok, isNum_of (rdNum_ok r1).1, isNum_of (rdNum_ok r2).1, isNum_of (rdNum_ok r3).1, c0]
    unfold rdReqEnd at hfin
    simp only [hokq] at hfin
    cases hb : isCmd kd key val ifv with
    | true =>
      rw [hb] at hfin
      exact refEnd_all _ _ hfin
    | false =>
      rw [hb] at hfin
      rw [getReq_err hfin]
      exact refEnd_err _ (by decide)

end Go.Proofs.Ytihgefdpnokoeaa
