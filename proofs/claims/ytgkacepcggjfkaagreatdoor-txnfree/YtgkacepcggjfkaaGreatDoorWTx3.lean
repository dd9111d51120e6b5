/-
  Transactions: the small functions of the program: said, settled, the keys, a Get.
-/
import Derived.Test.YtgkacepcggjfkaaGreatDoorWTx2
import Derived.Test.YtgkacepcggjfkaaGreatDoorWKv11
namespace Go.Proofs.YtgkacepcggjfkaaGreatDoor
open Go.RowKit

/-- The value that a result tells. -/
def saidR (r : Rr) : List UInt8 := if r.kd = 1 then r.v else []
def kKey (k : List UInt8) : List UInt8 := 107 :: k
def tKey (n : Nat) : List UInt8 := 116 :: Lib.decDigits n
def Hd.settled (h : Hd) (d : Bool) : Nat := if d = true ∧ 0 < h.b then h.t else h.n

set_option maxRecDepth 100000 in
set_option maxHeartbeats 1000000 in
theorem said_any (r : Rr) (ko : Option Addr) (kc : Nat) (w : World) :
    Calls Tryz.prog 73 #[rrV r ko kc] w fun e w' => e = .returned (.string (bs (saidR r))) ∧ Kept Nil w w' := by
  obtain ⟨s, HS⟩ : ∃ s, Hid (s = saidR r) := ⟨_, rfl⟩
  rw [← HS.out]
  obtain ⟨kd, v, n, ks⟩ := r
  unfold rrV
  by_cases c : kd = 1
  · obtain rfl : s = v := by rw [HS.out]; unfold saidR; simp [c]
    subst c
    go_enter Tryz.func73, Tryz.ntmps73
    go_wp2
    go_ret
    exact ⟨rfl, (Kept.refl _ _).alloc _⟩
  · obtain rfl : s = [] := by rw [HS.out]; unfold saidR; simp [c]
    go_enter Tryz.func73, Tryz.ntmps73
    go_wp2
    go_ret
    exact ⟨rfl, (Kept.refl _ _).alloc _⟩

set_option maxRecDepth 100000 in
set_option maxHeartbeats 1000000 in
theorem settled_any (h : Hd) (d : Bool) (w : World) :
    Calls Tryz.prog 54 #[.agg #[.int .i64 h.n, .int .i64 h.b, .int .i64 h.t], .bool d] w fun e w' => e = .returned (.int .i64 (h.settled d)) ∧ Kept Nil w w' := by
  obtain ⟨s, HS⟩ : ∃ s, Hid (s = h.settled d) := ⟨_, rfl⟩
  rw [← HS.out]
  obtain ⟨n, b, t⟩ := h
  cases d with
  | false =>
    obtain rfl : s = n := by rw [HS.out]; unfold Hd.settled; simp
    go_enter Tryz.func54, Tryz.ntmps54
    go_wp2
    go_ret
    exact ⟨rfl, (Kept.refl _ _).alloc _⟩
  | true =>
    by_cases c : 0 < b
    · obtain rfl : s = t := by rw [HS.out]; unfold Hd.settled; simp [c]
      have c' : (0 : Int) < (b : Int) := by omega
      go_enter Tryz.func54, Tryz.ntmps54
      go_wp2
      go_ret
      exact ⟨rfl, (Kept.refl _ _).alloc _⟩
    · obtain rfl : s = n := by rw [HS.out]; unfold Hd.settled; simp [c]
      have c' : ¬ (0 : Int) < (b : Int) := by omega
      go_enter Tryz.func54, Tryz.ntmps54
      go_wp2
      go_ret
      exact ⟨rfl, (Kept.refl _ _).alloc _⟩

set_option maxRecDepth 100000 in
set_option maxHeartbeats 1000000 in
theorem amountKey_any (k : List UInt8) (hk : k.length ≤ 140737488355328) (w : World) :
    Calls Tryz.prog 75 #[.string (bs k)] w fun e w' => e = .returned (.string (bs (kKey k))) ∧ w' = w := by
  have he : (⟨#[107]⟩ : ByteArray) ++ bs k = bs (kKey k) := bs_append [107] k
  have hz : (bs k).size = k.length := bs_size k
  go_enter Tryz.func75, Tryz.ntmps75
  go_wp2
  go_ret
  exact ⟨rfl, rfl⟩

set_option maxRecDepth 100000 in
set_option maxHeartbeats 1000000 in
theorem recordKey_any (n : Nat) (hn : n ≤ 999999999) (w : World) (hL : LD w) :
    Calls Tryz.prog 49 #[.int .i64 n] w fun e w' => e = .returned (.string (bs (tKey n))) ∧ Kept Nil w w' := by
  have he : (⟨#[116]⟩ : ByteArray) ++ bs (Lib.decDigits n) = bs (tKey n) := bs_append [116] _
  have hz : (bs (Lib.decDigits n)).size ≤ 9 := by rw [bs_size]; exact digits_len9 hn
  have IT := itoa_any n (by omega) (by omega) w hL
  rw [itoa_nat] at IT
  go_enter Tryz.func49, Tryz.ntmps49
  go_wp2_with fail
  go_fit IT
  rintro _ w1 ⟨rfl, k1⟩
  have K1 : Hid (Kept Nil w w1) := k1
  clear k1
  go_wp2
  go_ret
  exact ⟨rfl, K1.out⟩

set_option maxRecDepth 100000 in
set_option maxHeartbeats 1000000 in
theorem getCommand_any (k : List UInt8) (w : World) :
    Calls Tryz.prog 50 #[.string (bs k)] w fun e w' => e = .returned (.agg #[.int .i64 2, .string (bs k), .string (bs []), .int .i64 0]) ∧ Kept Nil w w' := by
  go_enter Tryz.func50, Tryz.ntmps50
  go_wp2
  exact bodyPost_ret (v := .agg #[.int .i64 2, .string (bs k), .string (bs []), .int .i64 0]) (by simp [results, Tryz.results50, go_sem, bs]) rfl ⟨rfl, (Kept.refl _ _).alloc _⟩
end Go.Proofs.YtgkacepcggjfkaaGreatDoor
