/-
  Unframe, and the document's Unframe: the same plain answer.
-/
import Derived.Test.YtmlncfnnldplgaaWCatch
import Derived.BigQuiet
namespace Go.Proofs.Ytmlncfnnldplgaa
open Go.RowKit

/-- A frame's body, what stands behind it, the error. -/
def unF (l : List UInt8) : List UInt8 × List UInt8 × Int :=
  match rdFrame l with
  | .ok (x, _) => (x.1, x.2, 0)
  | .error c => ([], [], c)

theorem rdFrame_nil {l : List UInt8} {x : List UInt8 × List UInt8} {t : List UInt8} (h : rdFrame l = .ok (x, t)) : t = [] := by
  unfold rdFrame at h
  split at h
  · cases h
  · split at h
    · cases h
    · split at h
      · simp only [Except.ok.injEq, Prod.mk.injEq] at h; exact h.2.symm
      · cases h

theorem readF_any (l : List UInt8) (w : World) (hlen : l.length ≤ maxLen) :
    Calls Try.prog 94 #[.string (bs l), .func (.func 95) #[] #[]] w fun e w' => e = .returned (.tuple #[.agg #[.string (bs (unF l).1), .string (bs (unF l).2.1)], .int .i64 (unF l).2.2]) ∧ Kept Nil w w' := by
  unfold unF
  cases hr : rdFrame l with
  | error c => exact readF_err l c w hlen hr
  | ok r =>
    obtain ⟨x, t⟩ := r
    obtain rfl := rdFrame_nil hr
    exact readF_ok l x w hlen hr

set_option maxRecDepth 100000 in
set_option maxHeartbeats 600000 in
theorem unframe_any (l : List UInt8) (w : World) (hlen : l.length ≤ maxLen) :
    Calls Try.prog 91 #[.string (bs l)] w fun e w' => e = .returned (.tuple #[.string (bs (unF l).1), .string (bs (unF l).2.1), .int .i64 (unF l).2.2]) ∧ Kept Nil w w' := by
  have H := readF_any l w hlen
  generalize unF l = u at H ⊢
  obtain ⟨a, b, c⟩ := u
  simp only at H ⊢
  clear hlen
  go_enter Try.func91, Try.ntmps91
  go_wp2_with (first | (go_at_call 94; go_must (refine H.mono ?_); rintro e w1 ⟨rfl, hk⟩))
  go_region
  all_goals (try go_wp2)
  all_goals go_ret3
  all_goals exact ⟨rfl, (hk.alloc _).drew⟩

theorem val4 (x a b c d : Nat) (ha : a < 256) (hb : b < 256) (hc : c < 256) :
    a + b * 256 + c * 65536 + d * 16777216 = x ↔ (a = x % 256 ∧ b = x / 256 % 256 ∧ c = x / 65536 % 256 ∧ d = x / 16777216) := by
  omega

theorem ofNat_eq {d : UInt8} {n : Nat} (h : n < 256) : d = UInt8.ofNat n ↔ d.toNat = n := by
  rw [← UInt8.toNat_inj, ofNat_toNat h]

theorem len4 {l : List UInt8} (h : l.length = 4) : ∃ a b c d, l = [a, b, c, d] := by
  match l, h with
  | [a, b, c, d], _ => exact ⟨a, b, c, d, rfl⟩

theorem val_le4 {l : List UInt8} {x : Nat} (h : l.length = 4) (hx : x < 4294967296) : valN 4 l = x ↔ l = le4 x := by
  obtain ⟨a, b, c, d, rfl⟩ := len4 h
  have ha := a.toNat_lt
  have hb := b.toNat_lt
  have hc := c.toNat_lt
  have := val4 x a.toNat b.toNat c.toNat d.toNat ha hb hc
  simp only [valN, List.getD_cons_zero, List.getD_cons_succ]
  simp only [le4, List.cons.injEq, and_true]
  rw [ofNat_eq (by omega), ofNat_eq (by omega), ofNat_eq (by omega), ofNat_eq (by omega), Nat.mod_eq_of_lt (show x / 16777216 < 256 by omega)]
  rw [← this]
  simp

theorem unF_err {l : List UInt8} {c : Int} (h : rdText 65536 l = .error c) : unF l = ([], [], c) := by
  unfold unF rdFrame
  rw [h]
theorem unF_no {l body t : List UInt8} (h : rdText 65536 l = .ok (body, t)) (h4 : ¬ 4 ≤ t.length) : unF l = ([], [], 3) := by
  unfold unF rdFrame
  rw [h]
  simp only [show rdSum t = .error 3 from if_neg h4]
theorem rdFrame_if {l body t : List UInt8} (h : rdText 65536 l = .ok (body, t)) (h4 : 4 ≤ t.length) : rdFrame l = if valN 4 (t.take 4) = crc body then .ok ((body, t.drop 4), []) else .error 2 := by
  unfold rdFrame
  rw [h]
  simp only [show rdSum t = .ok (valN 4 (t.take 4), t.drop 4) from if_pos h4]
theorem val_sum (t body : List UInt8) (h4 : 4 ≤ t.length) : valN 4 (t.take 4) = crc body ↔ t.take 4 = le4 (crc body) := val_le4 (by simp; omega) (crc_lt body)
theorem unF_yes {l body t : List UInt8} (h : rdText 65536 l = .ok (body, t)) (h4 : 4 ≤ t.length) (hs : t.take 4 = le4 (crc body)) : unF l = (body, t.drop 4, 0) := by
  unfold unF
  rw [rdFrame_if h h4, if_pos ((val_sum t body h4).2 hs)]
theorem unF_sum {l body t : List UInt8} (h : rdText 65536 l = .ok (body, t)) (h4 : 4 ≤ t.length) (hs : ¬ t.take 4 = le4 (crc body)) : unF l = ([], [], 2) := by
  unfold unF
  rw [rdFrame_if h h4, if_neg (fun e => hs ((val_sum t body h4).1 e))]

theorem Kept.newOne {w w' : World} {o : Obj} (h : Kept (One w.heap.size) (w.alloc o) w') : Kept Nil w w' :=
  Kept.ofNew ((Kept.refl _ _).alloc o) h (fun k _ e => by have : k = w.heap.size := e; omega)

end Go.Proofs.Ytmlncfnnldplgaa
