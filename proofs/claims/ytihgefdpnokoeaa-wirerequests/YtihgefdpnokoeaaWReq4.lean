/-
  A request read: the reader's request.
-/
import Derived.Test.YtihgefdpnokoeaaWReq3
namespace Go.Proofs.Ytihgefdpnokoeaa
open Go.RowKit

def rdReqEnd (q : Rq) (l : List UInt8) : Except Int (Rq × List UInt8) := if q.ok then .ok (q, l) else .error 5
def rdReq (l : List UInt8) : Except Int (Rq × List UInt8) :=
  rdThen (rdNum l) fun cl l => rdThen (rdNum l) fun nm l => rdThen (rdNum l) fun tm l =>
    if cl = 0 then rdReqEnd ⟨cl, nm, 0, [], [], 0, tm⟩ l
    else rdThen (rdCmd l) fun c l => rdReqEnd ⟨cl, nm, c.1, c.2.1, c.2.2.1, c.2.2.2, tm⟩ l
def RqV : Rq → World → Value → Prop := fun q _ v => v = .agg #[.int .i64 q.cl, .int .i64 q.nm, .int .i64 q.kd, .string (bs q.key), .string (bs q.val), .int .i64 q.ifv, .int .i64 q.tm]

theorem rdCmd_len {l t : List UInt8} {c : Cm} (h : rdCmd l = .ok (c, t)) : c.2.1.length ≤ 16 ∧ c.2.2.1.length ≤ 64 := by
  unfold rdCmd at h
  cases r1 : rdNum l with
  | error e => rw [rdThen_no r1] at h; cases h
  | ok x1 =>
    obtain ⟨kd, l1⟩ := x1
    rw [rdThen_ok r1] at h
    cases r2 : rdText 16 l1 with
    | error e => rw [rdThen_no r2] at h; cases h
    | ok x2 =>
      obtain ⟨key, l2⟩ := x2
      rw [rdThen_ok r2] at h
      cases r3 : rdText 64 l2 with
      | error e => rw [rdThen_no r3] at h; cases h
      | ok x3 =>
        obtain ⟨val, l3⟩ := x3
        rw [rdThen_ok r3] at h
        cases r4 : rdNum l3 with
        | error e => rw [rdThen_no r4] at h; cases h
        | ok x4 =>
          obtain ⟨ifv, l4⟩ := x4
          rw [rdThen_ok r4] at h
          simp only [Except.ok.injEq, Prod.mk.injEq] at h
          obtain ⟨rfl, rfl⟩ := h
          exact ⟨rdText_le r2, rdText_le r3⟩

def zReq : Array Value := #[.int .i64 0, .int .i64 0, .int .i64 0, .string (bs []), .string (bs []), .int .i64 0, .int .i64 0]

set_option maxRecDepth 100000 in
set_option maxHeartbeats 2000000 in
theorem rRequest_any (p : Addr) (l : List UInt8) (w : World) (hl : Left p w l) :
    Calls Try.prog 71 #[.pointer (some p)] w (RdPost p w (rdReq l) RqV) := by
  have HB : Hid (p.block < w.heap.size) := cell_lt hl.cell
  have HN : Hid (_) := blk_new w (.cells #[.int .i64 0, .int .i64 0, .int .i64 0, .string (bs []), .string (bs []), .int .i64 0, .int .i64 0] 41)
  have HX : Hid (¬ One p.block w.heap.size (.cells #[.int .i64 0, .int .i64 0, .int .i64 0, .string (bs []), .string (bs []), .int .i64 0, .int .i64 0] 41 (0, 0))) := fun (e : w.heap.size = p.block) => by have := HB.out; omega
  have hla := hl.alloc (.cells #[.int .i64 0, .int .i64 0, .int .i64 0, .string (bs []), .string (bs []), .int .i64 0, .int .i64 0] 41)
  clear hl
  cases r1 : rdNum l with
  | error c =>
    have HR : Hid (rdReq l = .error c) := rdThen_no r1
    go_enter Try.func71, Try.ntmps71
    go_wp2_with fail
    refine (number_no hla r1).mono ?_
    rintro e w1 ⟨rfl, k1⟩
    go_wp2
    unfold bodyPost RdPost
    rw [HR.out]
    exact ⟨rfl, rfl, ((Kept.refl _ _).alloc _).trans k1⟩
  | ok x1 =>
  obtain ⟨cl, l1⟩ := x1
  cases r2 : rdNum l1 with
  | error c =>
    have HR : Hid (rdReq l = .error c) := (rdThen_ok r1).trans (rdThen_no r2)
    go_enter Try.func71, Try.ntmps71
    go_wp2_with fail
    refine (number_ok hla r1).mono ?_
    rintro e w1 ⟨rfl, c1, z1, k1⟩
    go_wp2_with fail
    refine (number_no ⟨c1, z1⟩ r2).mono ?_
    rintro e w2 ⟨rfl, k2⟩
    go_wp2
    unfold bodyPost RdPost
    rw [HR.out]
    exact ⟨rfl, rfl, (((Kept.refl _ _).alloc _).trans k1).trans k2⟩
  | ok x2 =>
  obtain ⟨nm, l2⟩ := x2
  cases r3 : rdNum l2 with
  | error c =>
    have HR : Hid (rdReq l = .error c) := (rdThen_ok r1).trans ((rdThen_ok r2).trans (rdThen_no r3))
    go_enter Try.func71, Try.ntmps71
    go_wp2_with fail
    refine (number_ok hla r1).mono ?_
    rintro e w1 ⟨rfl, c1, z1, k1⟩
    go_wp2_with fail
    refine (number_ok ⟨c1, z1⟩ r2).mono ?_
    rintro e w2 ⟨rfl, c2, z2, k2⟩
    go_wp2_with fail
    refine (number_no ⟨c2, z2⟩ r3).mono ?_
    rintro e w3 ⟨rfl, k3⟩
    go_wp2
    unfold bodyPost RdPost
    rw [HR.out]
    exact ⟨rfl, rfl, ((((Kept.refl _ _).alloc _).trans k1).trans k2).trans k3⟩
  | ok x3 =>
  obtain ⟨tm, l3⟩ := x3
  by_cases c0 : cl = 0
  · have HR : Hid (rdReq l = rdReqEnd ⟨(0 : Nat), nm, 0, [], [], 0, tm⟩ l3) := by
      subst c0
      exact (rdThen_ok r1).trans ((rdThen_ok r2).trans ((rdThen_ok r3).trans (if_pos rfl)))
    subst c0
    have HI := fun w => isRequest_any (0 : Nat) nm 0 0 tm [] [] w (by simp) (by simp)
    have hokv : Hid (Rq.ok ⟨(0 : Nat), nm, 0, [], [], 0, tm⟩ = true) := by
      have a1 := rdNum_ok r2
      have a2 := rdNum_ok r3
      show Rq.ok _ = true
      unfold maxNum at a1 a2
      simp [Rq.ok, Rq.none, isNum]; omega
    rw [hokv.out] at HI
    go_enter Try.func71, Try.ntmps71
    go_wp2_with fail
    refine (number_ok hla r1).mono ?_
    rintro e w1 ⟨rfl, c1, z1, k1⟩
    go_wp2_with fail
    refine (number_ok ⟨c1, z1⟩ r2).mono ?_
    rintro e w2 ⟨rfl, c2, z2, k2⟩
    go_wp2_with fail
    refine (number_ok ⟨c2, z2⟩ r3).mono ?_
    rintro e w3 ⟨rfl, c3, z3, k3⟩
    have hl3 : Left p w3 l3 := ⟨c3, z3⟩
    have HN3 : Hid (_) := k3.block _ _ (k2.block _ _ (k1.block _ _ HN.out HX.out) HX.out) HX.out
    have hk3 : Kept (One p.block) w w3 := ((((Kept.refl _ _).alloc _).trans k1).trans k2).trans k3
    go_wp2_with fail
    refine (HI _).mono ?_
    rintro e w4 ⟨rfl, k4⟩
    have hq := k4.block _ _ (blk_new w3 _) (fun x => x.elim)
    have hbr := k4.block _ _ (blk_past HN3.out _) (fun x => x.elim)
    have q0 := blk_at hq 0 rfl
    have q1 := blk_at hq 1 rfl
    have q2 := blk_at hq 2 rfl
    have q3 := blk_at hq 3 rfl
    have q4 := blk_at hq 4 rfl
    have q5 := blk_at hq 5 rfl
    have q6 := blk_at hq 6 rfl
    have g0 := blk_at hbr 0 rfl
    have g1 := blk_at hbr 1 rfl
    have g2 := blk_at hbr 2 rfl
    have g3 := blk_at hbr 3 rfl
    have g4 := blk_at hbr 4 rfl
    have g5 := blk_at hbr 5 rfl
    have g6 := blk_at hbr 6 rfl
    have f0 := blk_free hbr 0
    have f1 := blk_free hbr 1
    have f2 := blk_free hbr 2
    have f3 := blk_free hbr 3
    have f4 := blk_free hbr 4
    have f5 := blk_free hbr 5
    have f6 := blk_free hbr 6
    go_wp2_with (go_at_call 118; go_must (refine (must_ok _ _).mono ?_); rintro e w5 ⟨rfl, rfl⟩)
    go_wp2
    refine bodyPost_ret (v := .agg #[.int .i64 (0 : Nat), .int .i64 nm, .int .i64 0, .string (bs []), .string (bs []), .int .i64 0, .int .i64 tm]) (by simp [results, Try.results71, go_sem, g0, g1, g2, g3, g4, g5, g6]; rfl) rfl ?_
    unfold RdPost
    rw [HR.out]
    unfold rdReqEnd
    rw [hokv.out]
    have hl5 : Left p w5 l3 := (hl3.alloc _).kept k4
    have hne : p.block ≠ w.heap.size := Nat.ne_of_lt HB.out
    have hkk : Kept (One p.block) w w5 := (hk3.alloc _).trans (k4.mono (fun _ _ x => x.elim))
    exact ⟨⟨_, rfl, rfl⟩, ((((((hl5.other hne _).other hne _).other hne _).other hne _).other hne _).other hne _).other hne _, ((((((hkk.setNew (Nat.le_refl _) _).setNew (Nat.le_refl _) _).setNew (Nat.le_refl _) _).setNew (Nat.le_refl _) _).setNew (Nat.le_refl _) _).setNew (Nat.le_refl _) _).setNew (Nat.le_refl _) _⟩
  · have c0' : ((cl : Int) != 0) = true := by simpa using c0
    have HR1 : Hid (rdReq l = rdThen (rdCmd l3) fun c l => rdReqEnd ⟨cl, nm, c.1, c.2.1, c.2.2.1, c.2.2.2, tm⟩ l) :=
      (rdThen_ok r1).trans ((rdThen_ok r2).trans ((rdThen_ok r3).trans (if_neg c0)))
    have HCm := fun w h => rCommand_any p l3 w h
    go_enter Try.func71, Try.ntmps71
    go_wp2_with fail
    refine (number_ok hla r1).mono ?_
    rintro e w1 ⟨rfl, c1, z1, k1⟩
    go_wp2_with fail
    refine (number_ok ⟨c1, z1⟩ r2).mono ?_
    rintro e w2 ⟨rfl, c2, z2, k2⟩
    go_wp2_with fail
    refine (number_ok ⟨c2, z2⟩ r3).mono ?_
    rintro e w3 ⟨rfl, c3, z3, k3⟩
    have hl3 : Left p w3 l3 := ⟨c3, z3⟩
    have HN3 : Hid (_) := k3.block _ _ (k2.block _ _ (k1.block _ _ HN.out HX.out) HX.out) HX.out
    have hk3 : Kept (One p.block) w w3 := ((((Kept.refl _ _).alloc _).trans k1).trans k2).trans k3
    have HB3 : Hid (p.block < w3.heap.size) := cell_lt hl3.cell
    cases r4 : rdCmd l3 with
    | error c =>
      have HR : Hid (rdReq l = .error c) := HR1.out.trans (rdThen_no r4)
      go_wp2_with fail
      refine (RdPost.no (HCm _ (hl3.alloc _)) r4).mono ?_
      rintro e w4 ⟨rfl, k4⟩
      go_wp2
      unfold bodyPost RdPost
      rw [HR.out]
      exact ⟨rfl, rfl, (hk3.alloc _).trans k4⟩
    | ok x4 =>
    obtain ⟨⟨kd, key, val, ifv⟩, l4⟩ := x4
    have hlen := rdCmd_len r4
    have HR : Hid (rdReq l = rdReqEnd ⟨cl, nm, kd, key, val, ifv, tm⟩ l4) := HR1.out.trans (rdThen_ok r4)
    have HI := fun w => isRequest_any cl nm kd ifv tm key val w (by simp only at hlen; unfold maxLen; omega) (by simp only at hlen; unfold maxLen; omega)
    clear hlen
    go_wp2_with fail
    refine (RdPost.ok (HCm _ (hl3.alloc _)) r4).mono ?_
    rintro e w4 ⟨v4, rfl, rfl, c4, z4, k4⟩
    have hl4 : Left p w4 l4 := ⟨c4, z4⟩
    have HX3 : Hid (¬ w3.heap.size = p.block) := fun e => by have := HB3.out; omega
    have hq := k4.block _ _ (blk_new w3 _) HX3.out
    have HQ : Hid (_) := hq
    have HBR : Hid (_) := k4.block _ _ (blk_past HN3.out _) HX.out
    have hk4 : Kept (One p.block) w w4 := (hk3.alloc _).trans k4
    have q0 := blk_at hq 0 rfl
    have q1 := blk_at hq 1 rfl
    have q2 := blk_at hq 2 rfl
    have q3 := blk_at hq 3 rfl
    have q4 := blk_at hq 4 rfl
    have q5 := blk_at hq 5 rfl
    have q6 := blk_at hq 6 rfl
    have fq0 := blk_free hq 0
    have fq1 := blk_free hq 1
    have fq2 := blk_free hq 2
    have fq3 := blk_free hq 3
    have fq4 := blk_free hq 4
    have fq5 := blk_free hq 5
    have fq6 := blk_free hq 6
    have hlt3 : w.heap.size < w3.heap.size := lt_of_block HN3.out
    have hne3 : w.heap.size ≠ w3.heap.size := Nat.ne_of_lt hlt3
    have hp3 : p.block ≠ w3.heap.size := fun e => HX3.out e.symm
    have hk5 : Kept (One p.block) w ((((w4.setCell ⟨w3.heap.size, 2, none⟩ (.int .i64 kd)).setCell ⟨w3.heap.size, 3, none⟩ (.string (bs key))).setCell ⟨w3.heap.size, 4, none⟩ (.string (bs val))).setCell ⟨w3.heap.size, 5, none⟩ (.int .i64 ifv)) :=
      (((hk4.setNew (Nat.le_of_lt hlt3) _).setNew (Nat.le_of_lt hlt3) _).setNew (Nat.le_of_lt hlt3) _).setNew (Nat.le_of_lt hlt3) _
    have hl5 : Left p ((((w4.setCell ⟨w3.heap.size, 2, none⟩ (.int .i64 kd)).setCell ⟨w3.heap.size, 3, none⟩ (.string (bs key))).setCell ⟨w3.heap.size, 4, none⟩ (.string (bs val))).setCell ⟨w3.heap.size, 5, none⟩ (.int .i64 ifv)) l4 :=
      (((hl4.other hp3 _).other hp3 _).other hp3 _).other hp3 _
    have HKL : Hid (_ ∧ _) := ⟨hk5, hl5⟩
    have HQ5 : Hid (_) := blk_set (blk_set (blk_set (blk_set HQ.out 2 (.int .i64 kd)) 3 (.string (bs key))) 4 (.string (bs val))) 5 (.int .i64 ifv)
    have HB5 : Hid (_) := blk_other (blk_other (blk_other (blk_other HBR.out hne3 (a := ⟨w3.heap.size, 2, none⟩) (.int .i64 kd)) hne3 (a := ⟨w3.heap.size, 3, none⟩) (.string (bs key))) hne3 (a := ⟨w3.heap.size, 4, none⟩) (.string (bs val))) hne3 (a := ⟨w3.heap.size, 5, none⟩) (.int .i64 ifv)
    clear hk5 hl5 hk4 hl4 hk3 hl3 hne3 hlt3
    cases hokv : Rq.ok ⟨cl, nm, kd, key, val, ifv, tm⟩ with
    | true =>
      rw [hokv] at HI
      have HOK : Hid (Rq.ok ⟨cl, nm, kd, key, val, ifv, tm⟩ = true) := hokv
      clear hokv
      go_wp2_with fail
      refine (HI _).mono ?_
      rintro e w6 ⟨rfl, k6⟩
      have hq6 := k6.block _ _ HQ5.out (fun x => x.elim)
      have hbr := k6.block _ _ HB5.out (fun x => x.elim)
      clear q0 q1 q2 q3 q4 q5 q6 fq0 fq1 fq2 fq3 fq4 fq5 fq6
      have p0 := blk_at hq6 0 rfl
      have p1 := blk_at hq6 1 rfl
      have p2 := blk_at hq6 2 rfl
      have p3 := blk_at hq6 3 rfl
      have p4 := blk_at hq6 4 rfl
      have p5 := blk_at hq6 5 rfl
      have p6 := blk_at hq6 6 rfl
      have g0 := blk_at hbr 0 rfl
      have g1 := blk_at hbr 1 rfl
      have g2 := blk_at hbr 2 rfl
      have g3 := blk_at hbr 3 rfl
      have g4 := blk_at hbr 4 rfl
      have g5 := blk_at hbr 5 rfl
      have g6 := blk_at hbr 6 rfl
      have f0 := blk_free hbr 0
      have f1 := blk_free hbr 1
      have f2 := blk_free hbr 2
      have f3 := blk_free hbr 3
      have f4 := blk_free hbr 4
      have f5 := blk_free hbr 5
      have f6 := blk_free hbr 6
      go_wp2_with (go_at_call 118; go_must (refine (must_ok _ _).mono ?_); rintro e w7 ⟨rfl, rfl⟩)
      refine bodyPost_ret (v := .agg #[.int .i64 cl, .int .i64 nm, .int .i64 kd, .string (bs key), .string (bs val), .int .i64 ifv, .int .i64 tm]) (by simp [results, Try.results71, go_sem, g0, g1, g2, g3, g4, g5, g6]) rfl ?_
      unfold RdPost
      rw [HR.out]
      unfold rdReqEnd
      rw [HOK.out]
      have hl7 := HKL.out.2.kept k6
      have hne : p.block ≠ w.heap.size := Nat.ne_of_lt HB.out
      have hkk := HKL.out.1.trans (k6.mono (Y := One p.block) (fun _ _ x => x.elim))
      exact ⟨⟨_, rfl, rfl⟩, ((((((hl7.other hne _).other hne _).other hne _).other hne _).other hne _).other hne _).other hne _, ((((((hkk.setNew (Nat.le_refl _) _).setNew (Nat.le_refl _) _).setNew (Nat.le_refl _) _).setNew (Nat.le_refl _) _).setNew (Nat.le_refl _) _).setNew (Nat.le_refl _) _).setNew (Nat.le_refl _) _⟩
    | false =>
      rw [hokv] at HI
      have HOK : Hid (Rq.ok ⟨cl, nm, kd, key, val, ifv, tm⟩ = false) := hokv
      clear hokv
      go_wp2_with fail
      refine (HI _).mono ?_
      rintro e w6 ⟨rfl, k6⟩
      go_wp2_with (go_at_call 118; go_must (refine (must_no _ _).mono ?_); rintro e w7 ⟨rfl, rfl⟩)
      unfold bodyPost RdPost
      rw [HR.out]
      unfold rdReqEnd
      rw [HOK.out]
      exact ⟨rfl, rfl, HKL.out.1.trans (k6.mono (Y := One p.block) (fun _ _ x => x.elim))⟩

end Go.Proofs.Ytihgefdpnokoeaa
