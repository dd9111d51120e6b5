/-
  A leader's log, grown by raw steps, and how long it is.
-/
import Derived.Test.YtopdgkebbdheiaaWMatch2
namespace Go.Proofs.Ytopdgkebbdheiaa
open Go.RowKit

def GrownLen (z : Nat) (w : World) (e : Ending) (w' : World) : Prop := ∃ es ao c, e = .returned (.slice ao es.length c) ∧ OwnEs w.heap.size w' ao c es ∧ Lead es ∧ Kept Nil w w' ∧ es.length ≤ z ∧ (0 < z → 0 < es.length) ∧ (z = 0 → ao = none ∧ c = 0)

set_option maxRecDepth 100000 in
set_option maxHeartbeats 2000000 in
theorem grownLen_any (B cap : Nat) (bo : Option Addr) (zs : List Int) (w : World) (h : IntRow B w bo zs) (hl : (zs.length : Int) ≤ 16384) : Calls Try.prog 39 #[.slice bo zs.length cap] w (GrownLen zs.length w) := by
  obtain ⟨i0, hi, hz0, hz1, hz2⟩ := info_parts Try.infoEn
  have HR : Hid (IntRow B w bo zs) := h
  clear h
  go_enter Try.func39, Try.ntmps39
  go_wp2
  go_loopw [3, 4, 5] (fun v t i wr => ∃ k : Nat, ∃ es : List En, ∃ ao c, ∃ tt : Nat, k ≤ 40 ∧ k ≤ zs.length ∧ i = .int .i64 k ∧ t = .int .i64 tt ∧ 1 ≤ tt ∧ tt ≤ 1 + 2 * k ∧ v = .slice ao es.length c ∧ Hid (es.length = k) ∧ Hid (OwnEs w.heap.size wr ao c es) ∧ Hid (Lead es) ∧ Hid (Kept Nil w wr) ∧ Hid (k = 0 → ao = none ∧ c = 0)) (fun _ _ i _ => 40 - (intOf i).toNat)
  case atStart => exact ⟨0, [], none, 0, 1, by omega, by omega, rfl, rfl, by omega, by omega, rfl, rfl, World.ownsRow_nil _ _ _ _, Lead.nil, Kept.refl _ _, (fun _ => ⟨rfl, rfl⟩)⟩
  case round =>
    obtain ⟨k, es, ao, c, tt, hk40, hkz, rfl, rfl, ht1, ht2, rfl, HEK, HO, HN, HK, HZ⟩ := hrel
    by_cases hlt : k < zs.length ∧ k < 40
    · obtain ⟨hlt1, hlt2⟩ := hlt
      obtain ⟨a, rfl, _, hcell⟩ := (HR.out.nil HK.out) k hlt1
      have hi1 : (k : Int) < zs.length := by omega
      have hi2 : (k : Int) < 40 := by omega
      have hx1 := Int.emod_nonneg zs[k] (show (3 : Int) ≠ 0 by omega)
      have hx2 := Int.emod_lt_of_pos zs[k] (show (0 : Int) < 3 by omega)
      generalize zs[k] = z at *
      obtain ⟨x, hx⟩ : ∃ x : Nat, z % 3 = (x : Int) := ⟨(z % 3).toNat, by omega⟩
      have PK := fun w' => pick_any z 3 w' (by decide) (by decide)
      rw [hx] at PK hx2
      clear hx hx1
      go_wp2_with fail
      refine (PK _).mono ?_
      rintro e w1 ⟨rfl, rfl⟩
      have ho : w1.ownsRow w.heap.size 57 4 (.slice ao es.length c) es.length (enCells es) := HO.out
      have hcv := convB1 w1 (tt + x) (by omega)
      rw [show ((tt + x : Nat) : Int) = (tt : Int) + x by omega] at hcv
      generalize UInt8.ofNat (tt + x) = b at hcv
      have HSRC : Hid (Src Try.prog 4 51 (.slice (some ⟨w1.heap.size + 1, 0, none⟩) 1 1) 1 [.int .i64 ((k : Int) + 1), .int .i64 ((tt : Int) + x), .int .i64 1, .string (bs [b])] ((w1.alloc (.cells #[.int .u8 ((tt : Int) + x)] 5)).alloc (.cells #[.int .i64 ((k : Int) + 1), .int .i64 ((tt : Int) + x), .int .i64 1, .string (bs [b])] 57))) := by
        have := src_en (w := w1.alloc (.cells #[.int .u8 ((tt : Int) + x)] 5)) ⟨(k : Int) + 1, (tt : Int) + x, 1, [b]⟩
        rwa [show (w1.alloc (.cells #[.int .u8 ((tt : Int) + x)] 5)).heap.size = w1.heap.size + 1 by simp] at this
      have HLL : Hid (es.length + 1 ≤ maxLen ∧ (es.length + 1) * 40 ≤ 140737488355328) := by
        have := HEK.out
        constructor
        · unfold maxLen; omega
        · omega
      have HS : Hid (Lead (es ++ [⟨(k : Int) + 1, (tt : Int) + x, 1, [b]⟩])) := HN.out.snoc (by have := HEK.out; omega) (by simp only []; omega) (by simp only []; omega) rfl
      go_wp2_with (first | (at_builtin; go_must (refine wpList_append_src _ rfl _ _ 51 51 rfl w.heap.size 57 i0 (.agg #[.int .i64 0, .int .i64 0, .int .i64 0, .string ⟨#[]⟩]) 4 40 Try.underlying51 hi hz0 hz1 hz2 rfl _ _ _ rfl ((ho.alloc _).alloc _) (.slice (some ⟨w1.heap.size + 1, 0, none⟩) 1 1) 1 [.int .i64 ((k : Int) + 1), .int .i64 ((tt : Int) + x), .int .i64 1, .string (bs [b])] rfl HSRC.out HLL.out.1 HLL.out.2 (le_alloc (le_alloc HK.out.size _) _) ?_); intro ao' c' w2 ho' hg'; have HK2 : Hid (Kept Nil w w2) := ((HK.out.alloc _).alloc _).grown hg' (own_row ho); clear hg'))
      go_roundw
      case rel => exact ⟨k + 1, es ++ [En.mk ((k : Int) + 1) ((tt : Int) + x) 1 [b]], ao', c', tt + x, by omega, by omega, by go_num, by go_num, by omega, by omega, by rw [List.length_append]; rfl, (by show _ = _; rw [List.length_append, HEK.out]; rfl), OwnEs.push ho', HS.out, HK2.out, (fun h => by omega)⟩
      case measure => simp [intOf]; omega
    · have hlt3 : ¬ ((k : Int) < zs.length ∧ (k : Int) < 40) := by omega
      go_wp2
      all_goals
        go_ret
        exact ⟨es, ao, c, rfl, HO.out, HN.out, HK.out, by have := HEK.out; omega, fun h => by have := HEK.out; omega, fun h => HZ.out (by omega)⟩

end Go.Proofs.Ytopdgkebbdheiaa
