/-
  The document's first, SameEntries and SameLog (the same twice: true).
-/
import Derived.Test.YtcbeonhohbgnmaaWLog6
namespace Go.Proofs.Ytcbeonhohbgnmaa
open Go.RowKit

theorem tAt_in {base bt : Int} {es : List En} {p : Nat} (h : p ≤ es.length) : tAt base bt es (base + p) = (tmAt bt es p, 0) := by
  unfold tAt
  rw [if_neg (by omega), if_neg (by omega), show (base + (p : Int) - base).toNat = p by omega]

set_option maxRecDepth 100000 in
set_option maxHeartbeats 2000000 in
theorem refFirst_any (B c p : Nat) (base bt : Int) (ao : Option Addr) (es : List En) (w : World) (h : EntRow B w ao es) (hb : 0 ≤ base ∧ base ≤ 1099511627775) (hl : (es.length : Int) ≤ 281474976710656) (hp : p ≤ es.length) :
    Calls Try.prog 165 #[.agg #[.int .i64 base, .int .i64 bt, .slice ao es.length c], .int .i64 (base + p)] w fun e w' => e = .returned (.int .i64 (base + (down bt es (tmAt bt es p) p : Nat))) ∧ Kept Nil w w' := by
  have HR : Hid (EntRow B w ao es) := h
  have HBB : Hid (0 ≤ base ∧ base ≤ 1099511627775) := hb
  have T := fun (q : Nat) w' (hk : Kept Nil w w') (hq : q ≤ es.length) => refTermAt_any B c base bt (base + q) ao es w' (HR.out.nil hk) HBB.out hl (by have := HBB.out; omega)
  have HBN : Hid (_) := blk_new w (.cells #[.int .i64 base, .int .i64 bt, .slice ao es.length c] 108)
  obtain ⟨hb0, hb1⟩ := hb
  have T1 := T p _ ((Kept.refl _ _).alloc (.cells #[.int .i64 base, .int .i64 bt, .slice ao es.length c] 108)) hp
  rw [tAt_in hp] at T1
  simp only at T1
  generalize tmAt bt es p = t at T1 ⊢
  clear h
  go_enter Try.func165, Try.ntmps165
  go_wp2_with fail
  refine T1.mono ?_
  rintro e w1 ⟨rfl, k1⟩
  have K1 : Hid (Kept Nil w w1) := ((Kept.refl _ _).alloc _).trans k1
  have B1 : Hid (_) := k1.block _ _ HBN.out (fun x => x.elim)
  clear k1 T1 HBN
  go_wp2
  go_loopw [1] (fun i wr => ∃ q : Nat, q ≤ p ∧ i = .int .i64 (base + q) ∧ Hid (down bt es t p = down bt es t q) ∧ Hid (Kept Nil w wr) ∧ Hid (wr.heap[w.heap.size]? = some (.cells #[.int .i64 base, .int .i64 bt, .slice ao es.length c] 108 (0, 0)))) (fun i _ => (intOf i - base).toNat)
  case atStart => exact ⟨p, by omega, rfl, rfl, K1.out, B1.out⟩
  case round =>
    obtain ⟨q, hq, rfl, HD, HK, HB⟩ := hrel
    clear K1 B1
    obtain ⟨c0, c1, c2⟩ := lookB HB.out
    by_cases h1 : 1 < q
    · have hq1 : base + 1 < base + (q : Int) := by omega
      have T2 := T (q - 1) wr HK.out (by omega)
      rw [tAt_in (show q - 1 ≤ es.length by omega), show base + ((q - 1 : Nat) : Int) = base + (q : Int) - 1 by omega] at T2
      simp only at T2
      by_cases he : tmAt bt es (q - 1) = t
      · have HF : Hid (down bt es t p = down bt es t (q - 1)) := HD.out.trans (down_more h1 he)
        rw [he] at T2
        have hne : (t != t) = false := by simp
        clear he
        go_wp2_with fail
        refine T2.mono ?_
        rintro e w3 ⟨rfl, k3⟩
        have K3 : Hid (Kept Nil w w3) := HK.out.trans k3
        have B3 : Hid (_) := k3.block _ _ HB.out (fun x => x.elim)
        clear k3 c0 c1 c2
        go_wp2
        go_roundw
        case rel => exact ⟨q - 1, by omega, by rw [show base + ((q - 1 : Nat) : Int) = base + (q : Int) - 1 by omega], HF.out, K3.out, B3.out⟩
        case measure => simp [intOf]; omega
      · have HF : Hid (down bt es t p = q) := HD.out.trans (down_end (fun h => he h.2))
        generalize tmAt bt es (q - 1) = x at T2 he
        have he' : (x != t) = true := by simpa using he
        clear he
        go_wp2_with fail
        refine T2.mono ?_
        rintro e w3 ⟨rfl, k3⟩
        have K3 : Hid (Kept Nil w w3) := HK.out.trans k3
        clear k3 c0 c1 c2
        go_wp2
        go_ret
        exact ⟨ret_int (by rw [HF.out]), K3.out⟩
    · have HF : Hid (down bt es t p = q) := HD.out.trans (down_end (fun h => h1 h.1))
      have hq1 : ¬ base + 1 < base + (q : Int) := by omega
      go_wp2
      go_ret
      exact ⟨ret_int (by rw [HF.out]), HK.out⟩

set_option maxRecDepth 100000 in
set_option maxHeartbeats 2000000 in
theorem sameEntries_yes (B1 B2 c d : Nat) (ao bo : Option Addr) (es : List En) (w : World) (h1 : EntRow B1 w ao es) (h2 : EntRow B2 w bo es) (hl : (es.length : Int) ≤ 281474976710656) :
    Calls Try.prog 77 #[.slice ao es.length c, .slice bo es.length d] w fun e w' => e = .returned (.bool true) ∧ Kept Nil w w' := by
  have HR : Hid (EntRow B1 w ao es ∧ EntRow B2 w bo es) := ⟨h1, h2⟩
  clear h1 h2
  go_enter Try.func77, Try.ntmps77
  go_wp2
  go_loopw [5] (fun i wr => ∃ k : Nat, k ≤ es.length ∧ i = .int .i64 k ∧ Hid (Kept Nil w wr)) (fun i _ => es.length - (intOf i).toNat)
  case atStart => exact ⟨0, Nat.zero_le _, rfl, Kept.refl _ _⟩
  case round =>
    obtain ⟨k, hk, rfl, HK⟩ := hrel
    by_cases hlt : k < es.length
    · obtain ⟨a, rfl, _, c0, c1, c2, c3, _⟩ := (HR.out.1.nil HK.out) k hlt
      obtain ⟨a', rfl, _, d0, d1, d2, d3, _⟩ := (HR.out.2.nil HK.out) k hlt
      have hki : (k : Int) < es.length := by omega
      generalize es[k].ix = ix at *
      generalize es[k].tm = tm at *
      generalize es[k].kd = kd at *
      generalize es[k].dt = dt at *
      go_wp2
      go_quiet (fail)
      go_wp2
      go_roundw
      case rel => exact ⟨k + 1, by omega, by go_num, HK.out.drewN _⟩
      case measure => simp [intOf]; omega
    · go_wp2
      go_ret
      exact ⟨rfl, HK.out⟩

set_option maxRecDepth 100000 in
set_option maxHeartbeats 2000000 in
theorem sameLog_yes (B1 B2 c d : Nat) (base bt : Int) (ao bo : Option Addr) (es : List En) (w : World) (h1 : EntRow B1 w ao es) (h2 : EntRow B2 w bo es) (hl : (es.length : Int) ≤ 281474976710656) :
    Calls Try.prog 72 #[.agg #[.int .i64 base, .int .i64 bt, .slice ao es.length c], .agg #[.int .i64 base, .int .i64 bt, .slice bo es.length d]] w fun e w' => e = .returned (.bool true) ∧ Kept Nil w w' := by
  have S := sameEntries_yes B1 B2 c d ao bo es _ ((h1.alloc (.cells #[.int .i64 base, .int .i64 bt, .slice ao es.length c] 108)).alloc (.cells #[.int .i64 base, .int .i64 bt, .slice bo es.length d] 108)) ((h2.alloc _).alloc _) hl
  have HA : Hid (_) := blk_past (blk_new w (.cells #[.int .i64 base, .int .i64 bt, .slice ao es.length c] 108)) (.cells #[.int .i64 base, .int .i64 bt, .slice bo es.length d] 108)
  have HB : Hid (((w.alloc (.cells #[.int .i64 base, .int .i64 bt, .slice ao es.length c] 108)).alloc (.cells #[.int .i64 base, .int .i64 bt, .slice bo es.length d] 108)).heap[w.heap.size + 1]? = some (.cells #[.int .i64 base, .int .i64 bt, .slice bo es.length d] 108 (0, 0))) := by
    have := blk_new (w.alloc (.cells #[.int .i64 base, .int .i64 bt, .slice ao es.length c] 108)) (.cells #[.int .i64 base, .int .i64 bt, .slice bo es.length d] 108)
    rwa [show (w.alloc (.cells #[.int .i64 base, .int .i64 bt, .slice ao es.length c] 108)).heap.size = w.heap.size + 1 by simp] at this
  clear h1 h2
  go_enter Try.func72, Try.ntmps72
  go_wp2_with fail
  refine S.mono ?_
  rintro e w1 ⟨rfl, k1⟩
  obtain ⟨c0, c1, c2⟩ := lookB (k1.block _ _ HA.out (fun x => x.elim))
  have B2 := k1.block _ _ HB.out (fun x => x.elim)
  have d0 := blk_at B2 0 rfl
  have d1 := blk_at B2 1 rfl
  have KK : Hid (Kept Nil w w1) := (((Kept.refl _ _).alloc _).alloc _).trans k1
  clear k1 B2 S
  go_wp2
  go_ret
  exact ⟨rfl, KK.out⟩

end Go.Proofs.Ytcbeonhohbgnmaa
