/-
  Joined: WReq3, WReq4, WStrP.
-/
import Derived.Test.YtijklginabipgaaWReq2
import Derived.Test.YtijklginabipgaaWStrM
import Derived.Test.YtijklginabipgaaWOlc
/-
  A request read: the reader's command and request.
-/
namespace Go.Proofs.Ytijklginabipgaa
open Go.RowKit

abbrev Cm := Nat × List UInt8 × List UInt8 × Nat
def rdCmd (l : List UInt8) : Except Int (Cm × List UInt8) :=
  rdThen (rdNum l) fun kd l => rdThen (rdText 16 l) fun key l => rdThen (rdText 64 l) fun val l => rdThen (rdNum l) fun ifv l => .ok ((kd, key, val, ifv), l)
def CmV : Cm → World → Value → Prop := fun c _ v => v = .agg #[.int .i64 c.1, .string (bs c.2.1), .string (bs c.2.2.1), .int .i64 c.2.2.2]

set_option maxRecDepth 100000 in
set_option maxHeartbeats 1000000 in
theorem rCommand_any (p : Addr) (l : List UInt8) (w : World) (hl : Left p w l) :
    Calls Try.prog 174 #[.pointer (some p)] w (RdPost p w (rdCmd l) CmV) := by
  have HB : Hid (p.block < w.heap.size) := cell_lt hl.cell
  have HN : Hid (_) := blk_new w (.cells #[.int .i64 0, .string (bs []), .string (bs []), .int .i64 0] 77)
  have HX : Hid (¬ One p.block w.heap.size (.cells #[.int .i64 0, .string (bs []), .string (bs []), .int .i64 0] 77 (0, 0))) := fun (e : w.heap.size = p.block) => by have := HB.out; omega
  have hla := hl.alloc (.cells #[.int .i64 0, .string (bs []), .string (bs []), .int .i64 0] 77)
  clear hl
  cases r1 : rdNum l with
  | error c =>
    have HR : Hid (rdCmd l = .error c) := rdThen_no r1
    go_enter Try.func174, Try.ntmps174
    go_wp2_with fail
    refine (number_no hla r1).mono ?_
    rintro e w1 ⟨rfl, k1⟩
    go_wp2
    unfold bodyPost RdPost
    rw [HR.out]
    exact ⟨rfl, rfl, ((Kept.refl _ _).alloc _).trans k1⟩
  | ok x1 =>
  obtain ⟨kd, l1⟩ := x1
  cases r2 : rdText 16 l1 with
  | error c =>
    have HR : Hid (rdCmd l = .error c) := (rdThen_ok r1).trans (rdThen_no r2)
    go_enter Try.func174, Try.ntmps174
    go_wp2_with fail
    refine (number_ok hla r1).mono ?_
    rintro e w1 ⟨rfl, c1, z1, k1⟩
    go_wp2_with fail
    refine (RdPost.no (key_any p l1 w1 ⟨c1, z1⟩) r2).mono ?_
    rintro e w2 ⟨rfl, k2⟩
    go_wp2
    unfold bodyPost RdPost
    rw [HR.out]
    exact ⟨rfl, rfl, (((Kept.refl _ _).alloc _).trans k1).trans k2⟩
  | ok x2 =>
  obtain ⟨key, l2⟩ := x2
  cases r3 : rdText 64 l2 with
  | error c =>
    have HR : Hid (rdCmd l = .error c) := (rdThen_ok r1).trans ((rdThen_ok r2).trans (rdThen_no r3))
    go_enter Try.func174, Try.ntmps174
    go_wp2_with fail
    refine (number_ok hla r1).mono ?_
    rintro e w1 ⟨rfl, c1, z1, k1⟩
    go_wp2_with fail
    refine (RdPost.ok (key_any p l1 w1 ⟨c1, z1⟩) r2).mono ?_
    rintro e w2 ⟨v2, rfl, rfl, c2, z2, k2⟩
    go_wp2_with fail
    refine (text_no ⟨c2, z2⟩ r3).mono ?_
    rintro e w3 ⟨rfl, k3⟩
    go_wp2
    unfold bodyPost RdPost
    rw [HR.out]
    exact ⟨rfl, rfl, ((((Kept.refl _ _).alloc _).trans k1).trans k2).trans k3⟩
  | ok x3 =>
  obtain ⟨val, l3⟩ := x3
  cases r4 : rdNum l3 with
  | error c =>
    have HR : Hid (rdCmd l = .error c) := (rdThen_ok r1).trans ((rdThen_ok r2).trans ((rdThen_ok r3).trans (rdThen_no r4)))
    go_enter Try.func174, Try.ntmps174
    go_wp2_with fail
    refine (number_ok hla r1).mono ?_
    rintro e w1 ⟨rfl, c1, z1, k1⟩
    go_wp2_with fail
    refine (RdPost.ok (key_any p l1 w1 ⟨c1, z1⟩) r2).mono ?_
    rintro e w2 ⟨v2, rfl, rfl, c2, z2, k2⟩
    go_wp2_with fail
    refine (text_ok ⟨c2, z2⟩ r3).mono ?_
    rintro e w3 ⟨rfl, c3, z3, k3⟩
    go_wp2_with fail
    refine (number_no ⟨c3, z3⟩ r4).mono ?_
    rintro e w4 ⟨rfl, k4⟩
    go_wp2
    unfold bodyPost RdPost
    rw [HR.out]
    exact ⟨rfl, rfl, (((((Kept.refl _ _).alloc _).trans k1).trans k2).trans k3).trans k4⟩
  | ok x4 =>
  obtain ⟨ifv, l4⟩ := x4
  have HR : Hid (rdCmd l = .ok ((kd, key, val, ifv), l4)) := (rdThen_ok r1).trans ((rdThen_ok r2).trans ((rdThen_ok r3).trans (rdThen_ok r4)))
  go_enter Try.func174, Try.ntmps174
  go_wp2_with fail
  refine (number_ok hla r1).mono ?_
  rintro e w1 ⟨rfl, c1, z1, k1⟩
  go_wp2_with fail
  refine (RdPost.ok (key_any p l1 w1 ⟨c1, z1⟩) r2).mono ?_
  rintro e w2 ⟨v2, rfl, rfl, c2, z2, k2⟩
  go_wp2_with fail
  refine (text_ok ⟨c2, z2⟩ r3).mono ?_
  rintro e w3 ⟨rfl, c3, z3, k3⟩
  go_wp2_with fail
  refine (number_ok ⟨c3, z3⟩ r4).mono ?_
  rintro e w4 ⟨rfl, c4, z4, k4⟩
  have hbr := k4.block _ _ (k3.block _ _ (k2.block _ _ (k1.block _ _ HN.out HX.out) HX.out) HX.out) HX.out
  have g0 := blk_at hbr 0 rfl
  have g1 := blk_at hbr 1 rfl
  have g2 := blk_at hbr 2 rfl
  have g3 := blk_at hbr 3 rfl
  have f0 := blk_free hbr 0
  have f1 := blk_free hbr 1
  have f2 := blk_free hbr 2
  have f3 := blk_free hbr 3
  go_wp2
  refine bodyPost_ret (v := .agg #[.int .i64 kd, .string (bs key), .string (bs val), .int .i64 ifv]) (by simp [results, Try.results174, go_sem, g0, g1, g2, g3]) rfl ?_
  unfold RdPost
  rw [HR.out]
  have hl4 : Left p w4 l4 := ⟨c4, z4⟩
  have hne : p.block ≠ w.heap.size := Nat.ne_of_lt HB.out
  exact ⟨⟨_, rfl, rfl⟩, (((hl4.other hne _).other hne _).other hne _).other hne _, (((((((((Kept.refl _ _).alloc _).trans k1).trans k2).trans k3).trans k4).setNew (Nat.le_refl _) _).setNew (Nat.le_refl _) _).setNew (Nat.le_refl _) _).setNew (Nat.le_refl _) _⟩

end Go.Proofs.Ytijklginabipgaa

/-
  A request read: the reader's request.
-/
namespace Go.Proofs.Ytijklginabipgaa
open Go.RowKit

def rdReqEnd (q : Rq) (l : List UInt8) : Except Int (Rq × List UInt8) := if q.ok then .ok (q, l) else .error 5
def rdReq (l : List UInt8) : Except Int (Rq × List UInt8) :=
  rdThen (rdNum l) fun cl l => rdThen (rdNum l) fun nm l => rdThen (rdNum l) fun tm l =>
    if cl = 0 then rdReqEnd ⟨cl, nm, 0, [], [], 0, tm⟩ l
    else rdThen (rdCmd l) fun c l => rdReqEnd ⟨cl, nm, c.1, c.2.1, c.2.2.1, c.2.2.2, tm⟩ l
def RqV : Rq → World → Value → Prop := fun q _ v => v = .agg #[.int .i64 q.cl, .int .i64 q.nm, .int .i64 q.kd, .string (bs q.key), .string (bs q.val), .int .i64 q.ifv, .int .i64 q.tm]

theorem rdCmd_len {l t : List UInt8} {c : Cm} (h : rdCmd l = .ok (c, t)) : c.2.1.length ≤ 16 ∧ c.2.2.1.length ≤ 64 := by
  unfold rdCmd at h
  cases r1 : rdNum l with
  | error e => rw [rdThen_no r1] at h; cases h
  | ok x1 =>
    obtain ⟨kd, l1⟩ := x1
    rw [rdThen_ok r1] at h
    cases r2 : rdText 16 l1 with
    | error e => rw [rdThen_no r2] at h; cases h
    | ok x2 =>
      obtain ⟨key, l2⟩ := x2
      rw [rdThen_ok r2] at h
      cases r3 : rdText 64 l2 with
      | error e => rw [rdThen_no r3] at h; cases h
      | ok x3 =>
        obtain ⟨val, l3⟩ := x3
        rw [rdThen_ok r3] at h
        cases r4 : rdNum l3 with
        | error e => rw [rdThen_no r4] at h; cases h
        | ok x4 =>
          obtain ⟨ifv, l4⟩ := x4
          rw [rdThen_ok r4] at h
          simp only [Except.ok.injEq, Prod.mk.injEq] at h
          obtain ⟨rfl, rfl⟩ := h
          exact ⟨rdText_le r2, rdText_le r3⟩

def zReq : Array Value := #[.int .i64 0, .int .i64 0, .int .i64 0, .string (bs []), .string (bs []), .int .i64 0, .int .i64 0]

set_option maxRecDepth 100000 in
set_option maxHeartbeats 2000000 in
theorem rRequest_any (p : Addr) (l : List UInt8) (w : World) (hl : Left p w l) :
    Calls Try.prog 121 #[.pointer (some p)] w (RdPost p w (rdReq l) RqV) := by
  have HB : Hid (p.block < w.heap.size) := cell_lt hl.cell
  have HN : Hid (_) := blk_new w (.cells #[.int .i64 0, .int .i64 0, .int .i64 0, .string (bs []), .string (bs []), .int .i64 0, .int .i64 0] 79)
  have HX : Hid (¬ One p.block w.heap.size (.cells #[.int .i64 0, .int .i64 0, .int .i64 0, .string (bs []), .string (bs []), .int .i64 0, .int .i64 0] 79 (0, 0))) := fun (e : w.heap.size = p.block) => by have := HB.out; omega
  have hla := hl.alloc (.cells #[.int .i64 0, .int .i64 0, .int .i64 0, .string (bs []), .string (bs []), .int .i64 0, .int .i64 0] 79)
  clear hl
  cases r1 : rdNum l with
  | error c =>
    have HR : Hid (rdReq l = .error c) := rdThen_no r1
    go_enter Try.func121, Try.ntmps121
    go_wp2_with fail
    refine (number_no hla r1).mono ?_
    rintro e w1 ⟨rfl, k1⟩
    go_wp2
    unfold bodyPost RdPost
    rw [HR.out]
    exact ⟨rfl, rfl, ((Kept.refl _ _).alloc _).trans k1⟩
  | ok x1 =>
  obtain ⟨cl, l1⟩ := x1
  cases r2 : rdNum l1 with
  | error c =>
    have HR : Hid (rdReq l = .error c) := (rdThen_ok r1).trans (rdThen_no r2)
    go_enter Try.func121, Try.ntmps121
    go_wp2_with fail
    refine (number_ok hla r1).mono ?_
    rintro e w1 ⟨rfl, c1, z1, k1⟩
    go_wp2_with fail
    refine (number_no ⟨c1, z1⟩ r2).mono ?_
    rintro e w2 ⟨rfl, k2⟩
    go_wp2
    unfold bodyPost RdPost
    rw [HR.out]
    exact ⟨rfl, rfl, (((Kept.refl _ _).alloc _).trans k1).trans k2⟩
  | ok x2 =>
  obtain ⟨nm, l2⟩ := x2
  cases r3 : rdNum l2 with
  | error c =>
    have HR : Hid (rdReq l = .error c) := (rdThen_ok r1).trans ((rdThen_ok r2).trans (rdThen_no r3))
    go_enter Try.func121, Try.ntmps121
    go_wp2_with fail
    refine (number_ok hla r1).mono ?_
    rintro e w1 ⟨rfl, c1, z1, k1⟩
    go_wp2_with fail
    refine (number_ok ⟨c1, z1⟩ r2).mono ?_
    rintro e w2 ⟨rfl, c2, z2, k2⟩
    go_wp2_with fail
    refine (number_no ⟨c2, z2⟩ r3).mono ?_
    rintro e w3 ⟨rfl, k3⟩
    go_wp2
    unfold bodyPost RdPost
    rw [HR.out]
    exact ⟨rfl, rfl, ((((Kept.refl _ _).alloc _).trans k1).trans k2).trans k3⟩
  | ok x3 =>
  obtain ⟨tm, l3⟩ := x3
  by_cases c0 : cl = 0
  · have HR : Hid (rdReq l = rdReqEnd ⟨(0 : Nat), nm, 0, [], [], 0, tm⟩ l3) := by
      subst c0
      exact (rdThen_ok r1).trans ((rdThen_ok r2).trans ((rdThen_ok r3).trans (if_pos rfl)))
    subst c0
    have HI := fun w => isRequest_any (0 : Nat) nm 0 0 tm [] [] w (by simp) (by simp)
    have hokv : Hid (Rq.ok ⟨(0 : Nat), nm, 0, [], [], 0, tm⟩ = true) := by
      have a1 := rdNum_ok r2
      have a2 := rdNum_ok r3
      show Rq.ok _ = true
      unfold maxNum at a1 a2
      simp [Rq.ok, Rq.none, isNum]; omega
    rw [hokv.out] at HI
    go_enter Try.func121, Try.ntmps121
    go_wp2_with fail
    refine (number_ok hla r1).mono ?_
    rintro e w1 ⟨rfl, c1, z1, k1⟩
    go_wp2_with fail
    refine (number_ok ⟨c1, z1⟩ r2).mono ?_
    rintro e w2 ⟨rfl, c2, z2, k2⟩
    go_wp2_with fail
    refine (number_ok ⟨c2, z2⟩ r3).mono ?_
    rintro e w3 ⟨rfl, c3, z3, k3⟩
    have hl3 : Left p w3 l3 := ⟨c3, z3⟩
    have HN3 : Hid (_) := k3.block _ _ (k2.block _ _ (k1.block _ _ HN.out HX.out) HX.out) HX.out
    have hk3 : Kept (One p.block) w w3 := ((((Kept.refl _ _).alloc _).trans k1).trans k2).trans k3
    go_wp2_with fail
    refine (HI _).mono ?_
    rintro e w4 ⟨rfl, k4⟩
    have hq := k4.block _ _ (blk_new w3 _) (fun x => x.elim)
    have hbr := k4.block _ _ (blk_past HN3.out _) (fun x => x.elim)
    have q0 := blk_at hq 0 rfl
    have q1 := blk_at hq 1 rfl
    have q2 := blk_at hq 2 rfl
    have q3 := blk_at hq 3 rfl
    have q4 := blk_at hq 4 rfl
    have q5 := blk_at hq 5 rfl
    have q6 := blk_at hq 6 rfl
    have g0 := blk_at hbr 0 rfl
    have g1 := blk_at hbr 1 rfl
    have g2 := blk_at hbr 2 rfl
    have g3 := blk_at hbr 3 rfl
    have g4 := blk_at hbr 4 rfl
    have g5 := blk_at hbr 5 rfl
    have g6 := blk_at hbr 6 rfl
    have f0 := blk_free hbr 0
    have f1 := blk_free hbr 1
    have f2 := blk_free hbr 2
    have f3 := blk_free hbr 3
    have f4 := blk_free hbr 4
    have f5 := blk_free hbr 5
    have f6 := blk_free hbr 6
    go_wp2_with (go_at_call 145; go_must (refine (must_ok _ _).mono ?_); rintro e w5 ⟨rfl, rfl⟩)
    go_wp2
    refine bodyPost_ret (v := .agg #[.int .i64 (0 : Nat), .int .i64 nm, .int .i64 0, .string (bs []), .string (bs []), .int .i64 0, .int .i64 tm]) (by simp [results, Try.results121, go_sem, g0, g1, g2, g3, g4, g5, g6]; rfl) rfl ?_
    unfold RdPost
    rw [HR.out]
    unfold rdReqEnd
    rw [hokv.out]
    have hl5 : Left p w5 l3 := (hl3.alloc _).kept k4
    have hne : p.block ≠ w.heap.size := Nat.ne_of_lt HB.out
    have hkk : Kept (One p.block) w w5 := (hk3.alloc _).trans (k4.mono (fun _ _ x => x.elim))
    exact ⟨⟨_, rfl, rfl⟩, ((((((hl5.other hne _).other hne _).other hne _).other hne _).other hne _).other hne _).other hne _, ((((((hkk.setNew (Nat.le_refl _) _).setNew (Nat.le_refl _) _).setNew (Nat.le_refl _) _).setNew (Nat.le_refl _) _).setNew (Nat.le_refl _) _).setNew (Nat.le_refl _) _).setNew (Nat.le_refl _) _⟩
  · have c0' : ((cl : Int) != 0) = true := by simpa using c0
    have HR1 : Hid (rdReq l = rdThen (rdCmd l3) fun c l => rdReqEnd ⟨cl, nm, c.1, c.2.1, c.2.2.1, c.2.2.2, tm⟩ l) :=
      (rdThen_ok r1).trans ((rdThen_ok r2).trans ((rdThen_ok r3).trans (if_neg c0)))
    have HCm := fun w h => rCommand_any p l3 w h
    go_enter Try.func121, Try.ntmps121
    go_wp2_with fail
    refine (number_ok hla r1).mono ?_
    rintro e w1 ⟨rfl, c1, z1, k1⟩
    go_wp2_with fail
    refine (number_ok ⟨c1, z1⟩ r2).mono ?_
    rintro e w2 ⟨rfl, c2, z2, k2⟩
    go_wp2_with fail
    refine (number_ok ⟨c2, z2⟩ r3).mono ?_
    rintro e w3 ⟨rfl, c3, z3, k3⟩
    have hl3 : Left p w3 l3 := ⟨c3, z3⟩
    have HN3 : Hid (_) := k3.block _ _ (k2.block _ _ (k1.block _ _ HN.out HX.out) HX.out) HX.out
    have hk3 : Kept (One p.block) w w3 := ((((Kept.refl _ _).alloc _).trans k1).trans k2).trans k3
    have HB3 : Hid (p.block < w3.heap.size) := cell_lt hl3.cell
    cases r4 : rdCmd l3 with
    | error c =>
      have HR : Hid (rdReq l = .error c) := HR1.out.trans (rdThen_no r4)
      go_wp2_with fail
      refine (RdPost.no (HCm _ (hl3.alloc _)) r4).mono ?_
      rintro e w4 ⟨rfl, k4⟩
      go_wp2
      unfold bodyPost RdPost
      rw [HR.out]
      exact ⟨rfl, rfl, (hk3.alloc _).trans k4⟩
    | ok x4 =>
    obtain ⟨⟨kd, key, val, ifv⟩, l4⟩ := x4
    have hlen := rdCmd_len r4
    have HR : Hid (rdReq l = rdReqEnd ⟨cl, nm, kd, key, val, ifv, tm⟩ l4) := HR1.out.trans (rdThen_ok r4)
    have HI := fun w => isRequest_any cl nm kd ifv tm key val w (by simp only at hlen; unfold maxLen; omega) (by simp only at hlen; unfold maxLen; omega)
    clear hlen
    go_wp2_with fail
    refine (RdPost.ok (HCm _ (hl3.alloc _)) r4).mono ?_
    rintro e w4 ⟨v4, rfl, rfl, c4, z4, k4⟩
    have hl4 : Left p w4 l4 := ⟨c4, z4⟩
    have HX3 : Hid (¬ w3.heap.size = p.block) := fun e => by have := HB3.out; omega
    have hq := k4.block _ _ (blk_new w3 _) HX3.out
    have HQ : Hid (_) := hq
    have HBR : Hid (_) := k4.block _ _ (blk_past HN3.out _) HX.out
    have hk4 : Kept (One p.block) w w4 := (hk3.alloc _).trans k4
    have q0 := blk_at hq 0 rfl
    have q1 := blk_at hq 1 rfl
    have q2 := blk_at hq 2 rfl
    have q3 := blk_at hq 3 rfl
    have q4 := blk_at hq 4 rfl
    have q5 := blk_at hq 5 rfl
    have q6 := blk_at hq 6 rfl
    have fq0 := blk_free hq 0
    have fq1 := blk_free hq 1
    have fq2 := blk_free hq 2
    have fq3 := blk_free hq 3
    have fq4 := blk_free hq 4
    have fq5 := blk_free hq 5
    have fq6 := blk_free hq 6
    have hlt3 : w.heap.size < w3.heap.size := lt_of_block HN3.out
    have hne3 : w.heap.size ≠ w3.heap.size := Nat.ne_of_lt hlt3
    have hp3 : p.block ≠ w3.heap.size := fun e => HX3.out e.symm
    have hk5 : Kept (One p.block) w ((((w4.setCell ⟨w3.heap.size, 2, none⟩ (.int .i64 kd)).setCell ⟨w3.heap.size, 3, none⟩ (.string (bs key))).setCell ⟨w3.heap.size, 4, none⟩ (.string (bs val))).setCell ⟨w3.heap.size, 5, none⟩ (.int .i64 ifv)) :=
      (((hk4.setNew (Nat.le_of_lt hlt3) _).setNew (Nat.le_of_lt hlt3) _).setNew (Nat.le_of_lt hlt3) _).setNew (Nat.le_of_lt hlt3) _
    have hl5 : Left p ((((w4.setCell ⟨w3.heap.size, 2, none⟩ (.int .i64 kd)).setCell ⟨w3.heap.size, 3, none⟩ (.string (bs key))).setCell ⟨w3.heap.size, 4, none⟩ (.string (bs val))).setCell ⟨w3.heap.size, 5, none⟩ (.int .i64 ifv)) l4 :=
      (((hl4.other hp3 _).other hp3 _).other hp3 _).other hp3 _
    have HKL : Hid (_ ∧ _) := ⟨hk5, hl5⟩
    have HQ5 : Hid (_) := blk_set (blk_set (blk_set (blk_set HQ.out 2 (.int .i64 kd)) 3 (.string (bs key))) 4 (.string (bs val))) 5 (.int .i64 ifv)
    have HB5 : Hid (_) := blk_other (blk_other (blk_other (blk_other HBR.out hne3 (a := ⟨w3.heap.size, 2, none⟩) (.int .i64 kd)) hne3 (a := ⟨w3.heap.size, 3, none⟩) (.string (bs key))) hne3 (a := ⟨w3.heap.size, 4, none⟩) (.string (bs val))) hne3 (a := ⟨w3.heap.size, 5, none⟩) (.int .i64 ifv)
    clear hk5 hl5 hk4 hl4 hk3 hl3 hne3 hlt3
    cases hokv : Rq.ok ⟨cl, nm, kd, key, val, ifv, tm⟩ with
    | true =>
      rw [hokv] at HI
      have HOK : Hid (Rq.ok ⟨cl, nm, kd, key, val, ifv, tm⟩ = true) := hokv
      clear hokv
      go_wp2_with fail
      refine (HI _).mono ?_
      rintro e w6 ⟨rfl, k6⟩
      have hq6 := k6.block _ _ HQ5.out (fun x => x.elim)
      have hbr := k6.block _ _ HB5.out (fun x => x.elim)
      clear q0 q1 q2 q3 q4 q5 q6 fq0 fq1 fq2 fq3 fq4 fq5 fq6
      have p0 := blk_at hq6 0 rfl
      have p1 := blk_at hq6 1 rfl
      have p2 := blk_at hq6 2 rfl
      have p3 := blk_at hq6 3 rfl
      have p4 := blk_at hq6 4 rfl
      have p5 := blk_at hq6 5 rfl
      have p6 := blk_at hq6 6 rfl
      have g0 := blk_at hbr 0 rfl
      have g1 := blk_at hbr 1 rfl
      have g2 := blk_at hbr 2 rfl
      have g3 := blk_at hbr 3 rfl
      have g4 := blk_at hbr 4 rfl
      have g5 := blk_at hbr 5 rfl
      have g6 := blk_at hbr 6 rfl
      have f0 := blk_free hbr 0
      have f1 := blk_free hbr 1
      have f2 := blk_free hbr 2
      have f3 := blk_free hbr 3
      have f4 := blk_free hbr 4
      have f5 := blk_free hbr 5
      have f6 := blk_free hbr 6
      go_wp2_with (go_at_call 145; go_must (refine (must_ok _ _).mono ?_); rintro e w7 ⟨rfl, rfl⟩)
      refine bodyPost_ret (v := .agg #[.int .i64 cl, .int .i64 nm, .int .i64 kd, .string (bs key), .string (bs val), .int .i64 ifv, .int .i64 tm]) (by simp [results, Try.results121, go_sem, g0, g1, g2, g3, g4, g5, g6]) rfl ?_
      unfold RdPost
      rw [HR.out]
      unfold rdReqEnd
      rw [HOK.out]
      have hl7 := HKL.out.2.kept k6
      have hne : p.block ≠ w.heap.size := Nat.ne_of_lt HB.out
      have hkk := HKL.out.1.trans (k6.mono (Y := One p.block) (fun _ _ x => x.elim))
      exact ⟨⟨_, rfl, rfl⟩, ((((((hl7.other hne _).other hne _).other hne _).other hne _).other hne _).other hne _).other hne _, ((((((hkk.setNew (Nat.le_refl _) _).setNew (Nat.le_refl _) _).setNew (Nat.le_refl _) _).setNew (Nat.le_refl _) _).setNew (Nat.le_refl _) _).setNew (Nat.le_refl _) _).setNew (Nat.le_refl _) _⟩
    | false =>
      rw [hokv] at HI
      have HOK : Hid (Rq.ok ⟨cl, nm, kd, key, val, ifv, tm⟩ = false) := hokv
      clear hokv
      go_wp2_with fail
      refine (HI _).mono ?_
      rintro e w6 ⟨rfl, k6⟩
      go_wp2_with (go_at_call 145; go_must (refine (must_no _ _).mono ?_); rintro e w7 ⟨rfl, rfl⟩)
      unfold bodyPost RdPost
      rw [HR.out]
      unfold rdReqEnd
      rw [HOK.out]
      exact ⟨rfl, rfl, HKL.out.1.trans (k6.mono (Y := One p.block) (fun _ _ x => x.elim))⟩

end Go.Proofs.Ytijklginabipgaa

/-
  WireStrict, plainly: what is read is what would be written, of requests, entries, configurations, snapshots, tables and messages.
-/
namespace Go.Proofs.Ytijklginabipgaa
open Go.RowKit

theorem rdTimes_strict {α : Type} {rd : List UInt8 → Except Int (α × List UInt8)} {f : α → List UInt8} (H : ∀ {l a t}, rd l = .ok (a, t) → l = f a ++ t) :
    ∀ {n : Nat} {l t : List UInt8} {xs : List α}, rdTimes rd n l = .ok (xs, t) → l = catAll f xs ++ t
  | 0, l, t, xs, h => by
    simp only [rdTimes, Except.ok.injEq, Prod.mk.injEq] at h
    obtain ⟨rfl, rfl⟩ := h
    rfl
  | n + 1, l, t, xs, h => by
    unfold rdTimes at h
    split at h
    · cases h
    · rename_i r1
      split at h
      · cases h
      · rename_i r2
        simp only [Except.ok.injEq, Prod.mk.injEq] at h
        obtain ⟨rfl, rfl⟩ := h
        rw [H r1, rdTimes_strict H r2]
        simp [catAll]
theorem rdTimes_allS {α : Type} {rd : List UInt8 → Except Int (α × List UInt8)} {P : α → Prop} (H : ∀ {l a t}, rd l = .ok (a, t) → P a) :
    ∀ {n : Nat} {l t : List UInt8} {xs : List α}, rdTimes rd n l = .ok (xs, t) → ∀ x ∈ xs, P x
  | 0, l, t, xs, h => by
    simp only [rdTimes, Except.ok.injEq, Prod.mk.injEq] at h
    obtain ⟨rfl, rfl⟩ := h
    intro x hx; simp at hx
  | n + 1, l, t, xs, h => by
    unfold rdTimes at h
    split at h
    · cases h
    · rename_i r1
      split at h
      · cases h
      · rename_i r2
        simp only [Except.ok.injEq, Prod.mk.injEq] at h
        obtain ⟨rfl, rfl⟩ := h
        intro x hx
        rcases List.mem_cons.1 hx with rfl | hx
        · exact H r1
        · exact rdTimes_allS H r2 x hx
theorem rdList_strict {α : Type} {rd : List UInt8 → Except Int (α × List UInt8)} {f : α → List UInt8} (H : ∀ {l a t}, rd l = .ok (a, t) → l = f a ++ t) {most : Nat} {l t : List UInt8} {xs : List α}
    (h : (rdThen (rdUpTo most l) fun n l => rdTimes rd n l) = .ok (xs, t)) : l = encList f xs ++ t ∧ xs.length ≤ most := by
  obtain ⟨n, u, r1, h⟩ := rdThen_inv h
  obtain ⟨e1, e2⟩ := rdUpTo_strict r1
  have hl := rdTimes_len h
  rw [e1, rdTimes_strict H h]
  unfold encList
  rw [hl]
  exact ⟨by simp, e2⟩
theorem rdCmd_strict {l t : List UInt8} {c : Cm} (h : rdCmd l = .ok (c, t)) : l = encCmd c.1 c.2.1 c.2.2.1 c.2.2.2 ++ t := by
  obtain ⟨kd, l1, r1, h⟩ := rdThen_inv h
  obtain ⟨key, l2, r2, h⟩ := rdThen_inv h
  obtain ⟨val, l3, r3, h⟩ := rdThen_inv h
  obtain ⟨ifv, l4, r4, h⟩ := rdThen_inv h
  cases h
  rw [rdNum_strict r1, (rdText_strict r2).1, (rdText_strict r3).1, rdNum_strict r4]
  simp [encCmd]
theorem rdReq_strict {l t : List UInt8} {q : Rq} (h : rdReq l = .ok (q, t)) : l = encReq q.cl.toNat q.nm.toNat q.kd.toNat q.key q.val q.ifv.toNat q.tm.toNat ++ t ∧ q.ok = true := by
  obtain ⟨cl, l1, r1, h⟩ := rdThen_inv h
  obtain ⟨nm, l2, r2, h⟩ := rdThen_inv h
  obtain ⟨tm, l3, r3, h⟩ := rdThen_inv h
  rw [rdNum_strict r1, rdNum_strict r2, rdNum_strict r3]
  split at h
  · rename_i hc
    subst hc
    unfold rdReqEnd at h
    split at h
    · rename_i hok
      cases h
      exact ⟨by simp [encReq, encAll], hok⟩
    · cases h
  · rename_i hc
    obtain ⟨c, l4, r4, h⟩ := rdThen_inv h
    unfold rdReqEnd at h
    split at h
    · rename_i hok
      cases h
      rw [rdCmd_strict r4]
      exact ⟨by simp [encReq, encAll, hc], hok⟩
    · cases h
theorem rdEnt_strict {l t : List UInt8} {x : En} (h : rdEnt l = .ok (x, t)) : l = encEn x ++ t ∧ x.ok = true := by
  obtain ⟨ix, l1, r1, h⟩ := rdThen_inv h
  obtain ⟨tm, l2, r2, h⟩ := rdThen_inv h
  obtain ⟨kd, l3, r3, h⟩ := rdThen_inv h
  obtain ⟨dt, l4, r4, h⟩ := rdThen_inv h
  unfold rdEntEnd at h
  split at h
  · rename_i hok
    cases h
    rw [rdNum_strict r1, rdNum_strict r2, rdNum_strict r3, (rdText_strict r4).1]
    exact ⟨by simp [encEn, encEnt, encAll], hok⟩
  · cases h
theorem encAll_cat (ns : List Nat) : catAll enc ns = encAll ns := by simp [catAll, encAll, List.flatMap]
theorem rdNums_strict {most : Nat} {l t : List UInt8} {ns : List Nat} (h : rdNums most l = .ok (ns, t)) : l = encNums ns ++ t := by
  have e := (rdList_strict (f := enc) (fun h => rdNum_strict h) h).1
  rw [e, encList, encNums, encAll_cat]
theorem rdCfg_strict {l t : List UInt8} {c : Cf} (h : rdCfg l = .ok (c, t)) : l = encCfg c.v c.n c.l ++ t ∧ c.ok = true := by
  obtain ⟨v, l1, r1, h⟩ := rdThen_inv h
  obtain ⟨n, l2, r2, h⟩ := rdThen_inv h
  obtain ⟨ls, l3, r3, h⟩ := rdThen_inv h
  unfold rdCfgEnd at h
  split at h
  · rename_i hok
    cases h
    rw [rdNums_strict r1, rdNums_strict r2, rdNums_strict r3]
    exact ⟨by simp [encCfg], hok⟩
  · cases h
theorem rdSn_strict {l t : List UInt8} {x : Sn} (h : rdSn l = .ok (x, t)) : l = encSnap x.ix x.tm x.c.v x.c.n x.c.l x.dt ++ t ∧ x.c.ok = true ∧ x.ix ≤ 1099511627775 ∧ x.tm ≤ 1099511627775 ∧ x.dt.length ≤ 8192 := by
  obtain ⟨ix, l1, r1, h⟩ := rdThen_inv h
  obtain ⟨tm, l2, r2, h⟩ := rdThen_inv h
  obtain ⟨c, l3, r3, h⟩ := rdThen_inv h
  obtain ⟨dt, l4, r4, h⟩ := rdThen_inv h
  cases h
  have e3 := rdCfg_strict r3
  have e4 := rdText_strict r4
  rw [rdNum_strict r1, rdNum_strict r2, e3.1, e4.1]
  exact ⟨by simp [encSnap, encAll], e3.2, rdNum_max r1, rdNum_max r2, e4.2⟩
theorem rdSnap_strict {l t : List UInt8} {x : Sn} (h : rdSnap l = .ok (x, t)) : l = encSnap x.ix x.tm x.c.v x.c.n x.c.l x.dt ++ t ∧ x.ok = true := by
  obtain ⟨y, l1, r1, h⟩ := rdThen_inv h
  split at h
  · rename_i hok
    cases h
    exact ⟨(rdSn_strict r1).1, hok⟩
  · cases h
theorem rdPr_strict {l t : List UInt8} {x : Pr} (h : rdPr l = .ok (x, t)) : l = encPr x ++ t := by
  obtain ⟨k, l1, r1, h⟩ := rdThen_inv h
  obtain ⟨v, l2, r2, h⟩ := rdThen_inv h
  obtain ⟨n, l3, r3, h⟩ := rdThen_inv h
  cases h
  rw [(rdText_strict r1).1, (rdText_strict r2).1, rdNum_strict r3]
  simp [encPr]
theorem rdRs_strict {l t : List UInt8} {x : Rs} (h : rdRs l = .ok (x, t)) : l = encRs x.kd x.val x.ver x.ks ++ t := by
  obtain ⟨kd, l1, r1, h⟩ := rdThen_inv h
  obtain ⟨val, l2, r2, h⟩ := rdThen_inv h
  obtain ⟨ver, l3, r3, h⟩ := rdThen_inv h
  obtain ⟨ks, l4, r4, h⟩ := rdThen_inv h
  cases h
  rw [rdNum_strict r1, (rdText_strict r2).1, rdNum_strict r3, (rdList_strict (f := encText) (fun h => (rdText_strict h).1) r4).1]
  simp [encRs]
theorem rdSs_strict {l t : List UInt8} {x : Ss} (h : rdSs l = .ok (x, t)) : l = encSs x ++ t := by
  obtain ⟨cl, l1, r1, h⟩ := rdThen_inv h
  obtain ⟨ls, l2, r2, h⟩ := rdThen_inv h
  obtain ⟨sn, l3, r3, h⟩ := rdThen_inv h
  obtain ⟨r, l4, r4, h⟩ := rdThen_inv h
  cases h
  rw [rdNum_strict r1, rdNum_strict r2, rdNum_strict r3, rdRs_strict r4]
  simp [encSs, encAll]
theorem rdTab_strict {l t : List UInt8} {x : Tb} (h : rdTab l = .ok (x, t)) : l = encTab x.tm x.ps x.ss ++ t ∧ x.ok = true := by
  obtain ⟨tm, l1, r1, h⟩ := rdThen_inv h
  obtain ⟨ps, l2, r2, h⟩ := rdThen_inv h
  obtain ⟨ss, l3, r3, h⟩ := rdThen_inv h
  unfold rdTabEnd at h
  split at h
  · rename_i hok
    cases h
    rw [rdNum_strict r1, (rdList_strict (f := encPr) (fun h => rdPr_strict h) r2).1, (rdList_strict (f := encSs) (fun h => rdSs_strict h) r3).1]
    exact ⟨by simp [encTab], hok⟩
  · cases h
theorem rdEns_strict {l t : List UInt8} {es : List En} (h : rdEns 8 l = .ok (es, t)) : l = encList encEn es ++ t ∧ es.length ≤ 8 ∧ ∀ e ∈ es, e.ok = true := by
  have e := rdList_strict (f := encEn) (fun h => (rdEnt_strict h).1) h
  obtain ⟨n, u, r1, h⟩ := rdThen_inv h
  exact ⟨e.1, e.2, rdTimes_allS (fun h => (rdEnt_strict h).2) h⟩

/-! ### messages -/
/-- A message as the reader makes it: what its kind has not is zero. -/
inductive Mg.Shape : Mg → Prop
  | vote (kd fr td tm ix lg : Nat) (hk : kd = 1 ∨ kd = 3) : Mg.Shape { Mg.head kd fr td tm with ix := ix, lg := lg }
  | reply (kd fr td tm : Nat) (rj : Bool) (hk : kd = 2 ∨ kd = 4) : Mg.Shape { Mg.head kd fr td tm with rj := rj }
  | app (fr td tm ix lg cm cx : Nat) (es : List En) : Mg.Shape { Mg.head 5 fr td tm with ix := ix, lg := lg, cm := cm, cx := cx, es := es }
  | back (fr td tm ix hn cx : Nat) (rj : Bool) : Mg.Shape { Mg.head 6 fr td tm with ix := ix, rj := rj, hn := hn, cx := cx }
  | inst (fr td tm cx : Nat) (sn : Sn) : Mg.Shape { Mg.head 7 fr td tm with cx := cx, sn := sn }
  | other (kd fr td tm : Nat) (hk : kd = 0 ∨ 7 < kd) : Mg.Shape (Mg.head kd fr td tm)
structure Mg.Small (m : Mg) : Prop where
  kd : m.kd ≤ 1099511627775
  fr : m.fr ≤ 1099511627775
  td : m.td ≤ 1099511627775
  tm : m.tm ≤ 1099511627775
  ix : m.ix ≤ 1099511627775
  lg : m.lg ≤ 1099511627775
  cm : m.cm ≤ 1099511627775
  hn : m.hn ≤ 1099511627775
  cx : m.cx ≤ 1099511627775
  es : m.es.length ≤ 8 ∧ ∀ e ∈ m.es, e.ok = true
  sn : m.kd = 7 → m.sn.c.ok = true
  si : m.sn.ix ≤ 1099511627775
  st : m.sn.tm ≤ 1099511627775
  sd : m.sn.dt.length ≤ 8192
theorem Mg.small_head {kd fr td tm : Nat} (h1 : kd ≤ 1099511627775) (h2 : fr ≤ 1099511627775) (h3 : td ≤ 1099511627775) (h4 : tm ≤ 1099511627775) (h7 : kd ≠ 7) : Mg.Small (Mg.head kd fr td tm) :=
  ⟨h1, h2, h3, h4, Nat.zero_le _, Nat.zero_le _, Nat.zero_le _, Nat.zero_le _, Nat.zero_le _, ⟨Nat.zero_le _, fun e he => by simp [Mg.head] at he⟩, fun e => absurd e h7, Nat.zero_le _, Nat.zero_le _, Nat.zero_le _⟩
theorem rdBody_strict {kd fr td tm : Nat} {l t : List UInt8} {m : Mg} (h : rdBody kd fr td tm l = .ok (m, t)) (h1 : kd ≤ 1099511627775) (h2 : fr ≤ 1099511627775) (h3 : td ≤ 1099511627775) (h4 : tm ≤ 1099511627775) :
    l = encBody m ++ t ∧ m.Shape ∧ m.Small ∧ m.kd = kd ∧ m.fr = fr ∧ m.td = td ∧ m.tm = tm := by
  unfold rdBody at h
  split at h
  · rename_i hk
    obtain ⟨ix, l1, r1, h⟩ := rdThen_inv h
    obtain ⟨lg, l2, r2, h⟩ := rdThen_inv h
    cases h
    rw [rdNum_strict r1, rdNum_strict r2]
    have hs := Mg.small_head h1 h2 h3 h4 (by omega)
    refine ⟨by simp [encBody, Mg.head, hk, encAll], .vote _ _ _ _ _ _ hk, { hs with ix := rdNum_max r1, lg := rdNum_max r2 }, rfl, rfl, rfl, rfl⟩
  · rename_i hk1
    split at h
    · rename_i hk
      obtain ⟨rj, l1, r1, h⟩ := rdThen_inv h
      cases h
      rw [rdFlag_strict r1]
      have hs := Mg.small_head h1 h2 h3 h4 (by omega)
      exact ⟨by simp [encBody, Mg.head, hk1, hk], .reply _ _ _ _ _ hk, { hs with }, rfl, rfl, rfl, rfl⟩
    · rename_i hk2
      split at h
      · rename_i hk
        subst hk
        obtain ⟨ix, l1, r1, h⟩ := rdThen_inv h
        obtain ⟨lg, l2, r2, h⟩ := rdThen_inv h
        obtain ⟨cm, l3, r3, h⟩ := rdThen_inv h
        obtain ⟨cx, l4, r4, h⟩ := rdThen_inv h
        obtain ⟨es, l5, r5, h⟩ := rdThen_inv h
        cases h
        have e5 := rdEns_strict r5
        rw [rdNum_strict r1, rdNum_strict r2, rdNum_strict r3, rdNum_strict r4, e5.1]
        have hs := Mg.small_head h1 h2 h3 h4 (by omega)
        exact ⟨by simp [encBody, Mg.head, encAll], .app _ _ _ _ _ _ _ _, { hs with ix := rdNum_max r1, lg := rdNum_max r2, cm := rdNum_max r3, cx := rdNum_max r4, es := e5.2 }, rfl, rfl, rfl, rfl⟩
      · rename_i hk5
        split at h
        · rename_i hk
          subst hk
          obtain ⟨ix, l1, r1, h⟩ := rdThen_inv h
          obtain ⟨rj, l2, r2, h⟩ := rdThen_inv h
          obtain ⟨hn, l3, r3, h⟩ := rdThen_inv h
          obtain ⟨cx, l4, r4, h⟩ := rdThen_inv h
          cases h
          rw [rdNum_strict r1, rdFlag_strict r2, rdNum_strict r3, rdNum_strict r4]
          have hs := Mg.small_head h1 h2 h3 h4 (by omega)
          exact ⟨by simp [encBody, Mg.head, encAll], .back _ _ _ _ _ _ _, { hs with ix := rdNum_max r1, hn := rdNum_max r3, cx := rdNum_max r4 }, rfl, rfl, rfl, rfl⟩
        · rename_i hk6
          split at h
          · rename_i hk
            subst hk
            obtain ⟨cx, l1, r1, h⟩ := rdThen_inv h
            obtain ⟨sn, l2, r2, h⟩ := rdThen_inv h
            cases h
            have e2 := rdSn_strict r2
            rw [rdNum_strict r1, e2.1]
            exact ⟨by simp [encBody, Mg.head], .inst _ _ _ _ _, ⟨h1, h2, h3, h4, Nat.zero_le _, Nat.zero_le _, Nat.zero_le _, Nat.zero_le _, rdNum_max r1, ⟨Nat.zero_le _, fun e he => by simp [Mg.head] at he⟩, fun _ => e2.2.1, e2.2.2.1, e2.2.2.2.1, e2.2.2.2.2⟩, rfl, rfl, rfl, rfl⟩
          · rename_i hk7
            cases h
            exact ⟨by simp [encBody, Mg.head, hk1, hk2, hk5, hk6, hk7], .other _ _ _ _ (by omega), Mg.small_head h1 h2 h3 h4 hk7, rfl, rfl, rfl, rfl⟩
theorem rdMsg_strict {l t : List UInt8} {m : Mg} (h : rdMsg l = .ok (m, t)) : l = encMsg m ++ t ∧ m.Shape ∧ m.Small ∧ m.ok = true := by
  obtain ⟨kd, l1, r1, h⟩ := rdThen_inv h
  obtain ⟨fr, l2, r2, h⟩ := rdThen_inv h
  obtain ⟨td, l3, r3, h⟩ := rdThen_inv h
  obtain ⟨tm, l4, r4, h⟩ := rdThen_inv h
  obtain ⟨y, l5, r5, h⟩ := rdThen_inv h
  split at h
  · rename_i hok
    cases h
    obtain ⟨e1, e2, e3, e4, e5, e6, e7⟩ := rdBody_strict r5 (rdNum_max r1) (rdNum_max r2) (rdNum_max r3) (rdNum_max r4)
    rw [rdNum_strict r1, rdNum_strict r2, rdNum_strict r3, rdNum_strict r4, e1, ← e4, ← e5, ← e6, ← e7]
    exact ⟨by simp [encMsg, encAll], e2, e3, hok⟩
  · cases h

end Go.Proofs.Ytijklginabipgaa
