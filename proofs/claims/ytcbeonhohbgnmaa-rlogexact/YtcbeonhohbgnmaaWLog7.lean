/-
  Compact and Slice: the program's.
-/
import Derived.Test.YtcbeonhohbgnmaaWLog6
namespace Go.Proofs.Ytcbeonhohbgnmaa
open Go.RowKit

/-- Compact: the log and the error. -/
def cmpE (base bt : Int) (es : List En) (i : Int) : Int := (tAt base bt es i).2
def cmpL (base bt : Int) (es : List En) (i : Int) : Int × Int × List En := if (tAt base bt es i).2 = 0 then (i, (tAt base bt es i).1, es.drop (i - base).toNat) else (0, 0, [])
theorem tAt_ok {base bt i : Int} {es : List En} (h : (tAt base bt es i).2 = 0) : base ≤ i ∧ i ≤ base + es.length := by
  unfold tAt at h
  split at h
  · simp at h
  · split at h
    · simp at h
    · omega

theorem EntRow.sub {B : Nat} {w : World} {ao : Option Addr} {es : List En} (h : EntRow B w ao es) (q : Nat) : EntRow B w (ao.map (fun x => x.add (q * 4))) (es.drop q) := by
  cases ao with
  | some a => exact h.drop q
  | none =>
    intro j hj
    obtain ⟨a, e, _⟩ := h (q + j) (by rw [List.length_drop] at hj; omega)
    cases e
/-- What Clone makes of a slice's end. -/
theorem cloneSub {B c : Nat} {ao : Option Addr} {es : List En} (q : Nat) {w : World} (h : EntRow B w ao es) (hn : ao = none → es = [] ∧ c = 0) (hl : (es.length : Int) ≤ 1099511627776) :
    Calls Try.prog 166 #[.slice (ao.map (fun x => x.add (q * 4))) (es.length - q) (c - q)] w fun e w' => ∃ ao' c', e = .returned (.slice ao' (es.length - q) c') ∧ OwnEs w.heap.size w' ao' c' (es.drop q) ∧ Kept Nil w w' := by
  have H := cloneE_any B (c - q) (ao.map (fun x => x.add (q * 4))) (es.drop q) w (h.sub q) (fun e => by
    cases ao with
    | some a => cases e
    | none => obtain ⟨rfl, rfl⟩ := hn rfl; exact ⟨List.drop_nil, Nat.zero_sub _⟩) (by rw [List.length_drop]; omega)
  rw [List.length_drop] at H
  exact H
theorem cloneEnd (ao : Option Addr) (w : World) :
    Calls Try.prog 166 #[.slice ao 0 0] w fun e w' => ∃ ao' c', e = .returned (.slice ao' 0 c') ∧ OwnEs w.heap.size w' ao' c' [] ∧ Kept Nil w w' := cloneE_any w.heap.size 0 ao [] w (entRow_nil _ _ _) (fun _ => ⟨rfl, rfl⟩) (by simp)

set_option maxRecDepth 100000 in
set_option maxHeartbeats 2000000 in
theorem compact_any (B c : Nat) (base bt i : Int) (ao : Option Addr) (es : List En) (w : World) (h : EntRow B w ao es) (hn : ao = none → es = [] ∧ c = 0) (hb : 0 ≤ base ∧ base ≤ 1099511627775) (hl : (es.length : Int) ≤ 1099511627776) (hc : es.length ≤ c) (hi : -4611686018427387904 ≤ i ∧ i ≤ 4611686018427387904) :
    Calls Try.prog 73 #[.agg #[.int .i64 base, .int .i64 bt, .slice ao es.length c], .int .i64 i] w fun e w' => ∃ ao' c', e = .returned (.tuple #[.agg #[.int .i64 (cmpL base bt es i).1, .int .i64 (cmpL base bt es i).2.1, .slice ao' (cmpL base bt es i).2.2.length c'], .int .i64 (cmpE base bt es i)]) ∧ OwnEs w.heap.size w' ao' c' (cmpL base bt es i).2.2 ∧ Kept Nil w w' := by
  have HR : Hid (EntRow B w ao es) := h
  have T := fun w' (hk : Kept Nil w w') => termAt_any B c base bt i ao es w' (HR.out.nil hk) hb (by omega) hi
  obtain ⟨hb0, hb1⟩ := hb
  obtain ⟨hi0, hi1⟩ := hi
  have HQ : Hid (((w.alloc (.cells #[.int .i64 base, .int .i64 bt, .slice ao es.length c] 108)).alloc (.cells #[.int .i64 0, .int .i64 0, .slice none 0 0] 108)).heap[w.heap.size]? = some (.cells #[.int .i64 base, .int .i64 bt, .slice ao es.length c] 108 (0, 0)) ∧ ((w.alloc (.cells #[.int .i64 base, .int .i64 bt, .slice ao es.length c] 108)).alloc (.cells #[.int .i64 0, .int .i64 0, .slice none 0 0] 108)).heap[w.heap.size + 1]? = some (.cells #[.int .i64 0, .int .i64 0, .slice none 0 0] 108 (0, 0))) := by
    refine ⟨blk_past (blk_new w _) _, ?_⟩
    have := blk_new (w.alloc (.cells #[.int .i64 base, .int .i64 bt, .slice ao es.length c] 108)) (.cells #[.int .i64 0, .int .i64 0, .slice none 0 0] 108)
    rwa [show (w.alloc (.cells #[.int .i64 base, .int .i64 bt, .slice ao es.length c] 108)).heap.size = w.heap.size + 1 by simp] at this
  have hE : cmpE base bt es i = (tAt base bt es i).2 := rfl
  have hok := @tAt_ok base bt i es
  have hL : cmpL base bt es i = if (tAt base bt es i).2 = 0 then (i, (tAt base bt es i).1, es.drop (i - base).toNat) else (0, 0, []) := rfl
  generalize cmpE base bt es i = er at hE ⊢
  generalize cmpL base bt es i = cl at hL ⊢
  generalize tAt base bt es i = ta at T hE hL hok
  obtain ⟨t, x⟩ := ta
  simp only at T hE hL hok
  rw [hE]
  clear hE
  by_cases hx : x = 0
  · subst hx
    rw [if_pos rfl] at hL
    subst hL
    obtain ⟨hlo, hhi⟩ := hok rfl
    obtain ⟨q, rfl⟩ : ∃ q : Nat, i = base + q := ⟨(i - base).toNat, by omega⟩
    have hsub : base + (q : Int) - base = (q : Int) := by omega
    have hq : q ≤ es.length := by omega
    rw [show (base + (q : Int) - base).toNat = q by omega]
    clear hok hlo hhi
    go_enter Try.func73, Try.ntmps73
    go_wp2_with fail
    refine (T _ (((Kept.refl _ _).alloc _).alloc _)).mono ?_
    rintro e w1 ⟨rfl, k1⟩
    have B1 := k1.block _ _ HQ.out.1 (fun x => x.elim)
    obtain ⟨x0, x1, x2⟩ := lookB B1
    by_cases hcq : q < c
    · go_wp2_with fail
      refine (cloneSub q (HR.out.nil ((((Kept.refl _ _).alloc _).alloc _).trans k1)) hn hl).mono ?_
      rintro e w2 ⟨ao', c', rfl, o2, k2⟩
      have B2 := k2.block _ _ (k1.block _ _ HQ.out.2 (fun x => x.elim)) (fun x => x.elim)
      have f0 := blk_free B2 0
      have f1 := blk_free B2 1
      have f2 := blk_free B2 2
      have z0 := blk_at B2 0 rfl
      have z1 := blk_at B2 1 rfl
      have z2 := blk_at B2 2 rfl
      have HO : Hid (OwnEs (w.heap.size + 2) w2 ao' c' (es.drop q)) := own_mono o2 (by have := k1.size; simp at this; omega)
      have KK : Hid (Kept Nil w w2) := ((((Kept.refl _ _).alloc _).alloc _).trans k1).trans k2
      clear o2 k1 k2 B1 B2 T
      go_wp2
      refine bodyPost_ret (v := .tuple #[.agg #[.int .i64 (base + q), .int .i64 t, .slice ao' (es.length - q) c'], .int .i64 0]) (by simp [results, Try.results73, go_sem, z0, z1, z2]) rfl ?_
      have hw1 : w.heap.size + 1 < w.heap.size + 2 := by omega
      exact ⟨ao', c', by simp only [List.length_drop], own_mono (ownsRow_setCell_below (ownsRow_setCell_below (ownsRow_setCell_below HO.out hw1 _) hw1 _) hw1 _) (by omega), ((KK.out.setNew (Nat.le_succ _) _).setNew (Nat.le_succ _) _).setNew (Nat.le_succ _) _⟩
    · obtain rfl : c = q := by omega
      have hlen : es.length = c := by omega
      have HL : Hid (es.length = c) := hlen
      clear hlen
      go_wp2_with fail
      have HD : Hid (es.drop c = []) := List.drop_eq_nil_of_le (by have := HL.out; omega)
      refine (cloneEnd ao _).mono ?_
      rintro e w2 ⟨ao', c', rfl, o2, k2⟩
      have B2 := k2.block _ _ (k1.block _ _ HQ.out.2 (fun x => x.elim)) (fun x => x.elim)
      have f0 := blk_free B2 0
      have f1 := blk_free B2 1
      have f2 := blk_free B2 2
      have z0 := blk_at B2 0 rfl
      have z1 := blk_at B2 1 rfl
      have z2 := blk_at B2 2 rfl
      have HO : Hid (OwnEs (w.heap.size + 2) w2 ao' c' []) := own_mono o2 (by have := k1.size; simp at this; omega)
      have KK : Hid (Kept Nil w w2) := ((((Kept.refl _ _).alloc _).alloc _).trans k1).trans k2
      clear o2 k1 k2 B1 B2 T
      go_wp2
      refine bodyPost_ret (v := .tuple #[.agg #[.int .i64 (base + c), .int .i64 t, .slice ao' 0 c'], .int .i64 0]) (by simp [results, Try.results73, go_sem, z0, z1, z2]) rfl ?_
      have hw1 : w.heap.size + 1 < w.heap.size + 2 := by omega
      exact ⟨ao', c', by rw [HD.out]; rfl, by rw [HD.out]; exact own_mono (ownsRow_setCell_below (ownsRow_setCell_below (ownsRow_setCell_below HO.out hw1 _) hw1 _) hw1 _) (by omega), ((KK.out.setNew (Nat.le_succ _) _).setNew (Nat.le_succ _) _).setNew (Nat.le_succ _) _⟩
  · rw [if_neg hx] at hL
    subst hL
    have hx' : (x != 0) = true := by simpa using hx
    clear hx
    go_enter Try.func73, Try.ntmps73
    go_wp2_with fail
    refine (T _ (((Kept.refl _ _).alloc _).alloc _)).mono ?_
    rintro e w1 ⟨rfl, k1⟩
    have B2 := k1.block _ _ HQ.out.2 (fun x => x.elim)
    have f0 := blk_free B2 0
    have f1 := blk_free B2 1
    have f2 := blk_free B2 2
    have z0 := blk_at B2 0 rfl
    have z1 := blk_at B2 1 rfl
    have z2 := blk_at B2 2 rfl
    have KK : Hid (Kept Nil w w1) := ((((Kept.refl _ _).alloc _).alloc _).trans k1)
    clear k1 B2 T
    go_wp2
    refine bodyPost_ret (v := .tuple #[.agg #[.int .i64 0, .int .i64 0, .slice none 0 0], .int .i64 x]) (by simp [results, Try.results73, go_sem, z0, z1, z2]) rfl ?_
    exact ⟨none, 0, rfl, World.ownsRow_nil _ _ _ _, ((KK.out.setNew (Nat.le_succ _) _).setNew (Nat.le_succ _) _).setNew (Nat.le_succ _) _⟩

end Go.Proofs.Ytcbeonhohbgnmaa
