/-
  A request read: the reader's command and request.
-/
import Derived.Test.YtihgefdpnokoeaaWReq2
namespace Go.Proofs.Ytihgefdpnokoeaa
open Go.RowKit

abbrev Cm := Nat × List UInt8 × List UInt8 × Nat
def rdCmd (l : List UInt8) : Except Int (Cm × List UInt8) :=
  rdThen (rdNum l) fun kd l => rdThen (rdText 16 l) fun key l => rdThen (rdText 64 l) fun val l => rdThen (rdNum l) fun ifv l => .ok ((kd, key, val, ifv), l)
def CmV : Cm → World → Value → Prop := fun c _ v => v = .agg #[.int .i64 c.1, .string (bs c.2.1), .string (bs c.2.2.1), .int .i64 c.2.2.2]

set_option maxRecDepth 100000 in
set_option maxHeartbeats 1000000 in
theorem rCommand_any (p : Addr) (l : List UInt8) (w : World) (hl : Left p w l) :
    Calls Try.prog 126 #[.pointer (some p)] w (RdPost p w (rdCmd l) CmV) := by
  have HB : Hid (p.block < w.heap.size) := cell_lt hl.cell
  have HN : Hid (_) := blk_new w (.cells #[.int .i64 0, .string (bs []), .string (bs []), .int .i64 0] 39)
  have HX : Hid (¬ One p.block w.heap.size (.cells #[.int .i64 0, .string (bs []), .string (bs []), .int .i64 0] 39 (0, 0))) := fun (e : w.heap.size = p.block) => by have := HB.out; omega
  have hla := hl.alloc (.cells #[.int .i64 0, .string (bs []), .string (bs []), .int .i64 0] 39)
  clear hl
  cases r1 : rdNum l with
  | error c =>
    have HR : Hid (rdCmd l = .error c) := rdThen_no r1
    go_enter Try.func126, Try.ntmps126
    go_wp2_with fail
    refine (number_no hla r1).mono ?_
    rintro e w1 ⟨rfl, k1⟩
    go_wp2
    unfold bodyPost RdPost
    rw [HR.out]
    exact ⟨rfl, rfl, ((Kept.refl _ _).alloc _).trans k1⟩
  | ok x1 =>
  obtain ⟨kd, l1⟩ := x1
  cases r2 : rdText 16 l1 with
  | error c =>
    have HR : Hid (rdCmd l = .error c) := (rdThen_ok r1).trans (rdThen_no r2)
    go_enter Try.func126, Try.ntmps126
    go_wp2_with fail
    refine (number_ok hla r1).mono ?_
    rintro e w1 ⟨rfl, c1, z1, k1⟩
    go_wp2_with fail
    refine (RdPost.no (key_any p l1 w1 ⟨c1, z1⟩) r2).mono ?_
    rintro e w2 ⟨rfl, k2⟩
    go_wp2
    unfold bodyPost RdPost
    rw [HR.out]
    exact ⟨rfl, rfl, (((Kept.refl _ _).alloc _).trans k1).trans k2⟩
  | ok x2 =>
  obtain ⟨key, l2⟩ := x2
  cases r3 : rdText 64 l2 with
  | error c =>
    have HR : Hid (rdCmd l = .error c) := (rdThen_ok r1).trans ((rdThen_ok r2).trans (rdThen_no r3))
    go_enter Try.func126, Try.ntmps126
    go_wp2_with fail
    refine (number_ok hla r1).mono ?_
    rintro e w1 ⟨rfl, c1, z1, k1⟩
    go_wp2_with fail
    refine (RdPost.ok (key_any p l1 w1 ⟨c1, z1⟩) r2).mono ?_
    rintro e w2 ⟨v2, rfl, rfl, c2, z2, k2⟩
    go_wp2_with fail
    refine (text_no ⟨c2, z2⟩ r3).mono ?_
    rintro e w3 ⟨rfl, k3⟩
    go_wp2
    unfold bodyPost RdPost
    rw [HR.out]
    exact ⟨rfl, rfl, ((((Kept.refl _ _).alloc _).trans k1).trans k2).trans k3⟩
  | ok x3 =>
  obtain ⟨val, l3⟩ := x3
  cases r4 : rdNum l3 with
  | error c =>
    have HR : Hid (rdCmd l = .error c) := (rdThen_ok r1).trans ((rdThen_ok r2).trans ((rdThen_ok r3).trans (rdThen_no r4)))
    go_enter Try.func126, Try.ntmps126
    go_wp2_with fail
    refine (number_ok hla r1).mono ?_
    rintro e w1 ⟨rfl, c1, z1, k1⟩
    go_wp2_with fail
    refine (RdPost.ok (key_any p l1 w1 ⟨c1, z1⟩) r2).mono ?_
    rintro e w2 ⟨v2, rfl, rfl, c2, z2, k2⟩
    go_wp2_with fail
    refine (text_ok ⟨c2, z2⟩ r3).mono ?_
    rintro e w3 ⟨rfl, c3, z3, k3⟩
    go_wp2_with fail
    refine (number_no ⟨c3, z3⟩ r4).mono ?_
    rintro e w4 ⟨rfl, k4⟩
    go_wp2
    unfold bodyPost RdPost
    rw [HR.out]
    exact ⟨rfl, rfl, (((((Kept.refl _ _).alloc _).trans k1).trans k2).trans k3).trans k4⟩
  | ok x4 =>
  obtain ⟨ifv, l4⟩ := x4
  have HR : Hid (rdCmd l = .ok ((kd, key, val, ifv), l4)) := (rdThen_ok r1).trans ((rdThen_ok r2).trans ((rdThen_ok r3).trans (rdThen_ok r4)))
  go_enter Try.func126, Try.ntmps126
  go_wp2_with fail
  refine (number_ok hla r1).mono ?_
  rintro e w1 ⟨rfl, c1, z1, k1⟩
  go_wp2_with fail
  refine (RdPost.ok (key_any p l1 w1 ⟨c1, z1⟩) r2).mono ?_
  rintro e w2 ⟨v2, rfl, rfl, c2, z2, k2⟩
  go_wp2_with fail
  refine (text_ok ⟨c2, z2⟩ r3).mono ?_
  rintro e w3 ⟨rfl, c3, z3, k3⟩
  go_wp2_with fail
  refine (number_ok ⟨c3, z3⟩ r4).mono ?_
  rintro e w4 ⟨rfl, c4, z4, k4⟩
  have hbr := k4.block _ _ (k3.block _ _ (k2.block _ _ (k1.block _ _ HN.out HX.out) HX.out) HX.out) HX.out
  have g0 := blk_at hbr 0 rfl
  have g1 := blk_at hbr 1 rfl
  have g2 := blk_at hbr 2 rfl
  have g3 := blk_at hbr 3 rfl
  have f0 := blk_free hbr 0
  have f1 := blk_free hbr 1
  have f2 := blk_free hbr 2
  have f3 := blk_free hbr 3
  go_wp2
  refine bodyPost_ret (v := .agg #[.int .i64 kd, .string (bs key), .string (bs val), .int .i64 ifv]) (by simp [results, Try.results126, go_sem, g0, g1, g2, g3]) rfl ?_
  unfold RdPost
  rw [HR.out]
  have hl4 : Left p w4 l4 := ⟨c4, z4⟩
  have hne : p.block ≠ w.heap.size := Nat.ne_of_lt HB.out
  exact ⟨⟨_, rfl, rfl⟩, (((hl4.other hne _).other hne _).other hne _).other hne _, (((((((((Kept.refl _ _).alloc _).trans k1).trans k2).trans k3).trans k4).setNew (Nat.le_refl _) _).setNew (Nat.le_refl _) _).setNew (Nat.le_refl _) _).setNew (Nat.le_refl _) _⟩

end Go.Proofs.Ytihgefdpnokoeaa
