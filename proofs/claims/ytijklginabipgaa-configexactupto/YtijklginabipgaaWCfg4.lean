/-
  Rows copied (the law's ints and conf), and held against each other (the document's SameInts and SameConfig).
-/
import Derived.Test.YtijklginabipgaaWOlz
namespace Go.Proofs.Ytijklginabipgaa
open Go.RowKit

def intCells (zs : List Int) : List Value := zs.map fun z => Value.int .i64 z
theorem add_at (g j : Nat) : (⟨g, 0, none⟩ : Addr).add j = ⟨g, j, none⟩ := by unfold Addr.add; split <;> simp_all

theorem src_row {B c : Nat} {w : World} {ao : Option Addr} {zs : List Int} (h : IntRow B w ao zs) (hn : ao = none → c = 0 ∨ True) : Src Try.prog 1 22 (.slice ao zs.length c) zs.length (intCells zs) w := by
  have _ := hn
  cases ao with
  | none =>
    have hz : zs = [] := by
      cases zs with
      | nil => rfl
      | cons z t =>
        obtain ⟨a, ha, _⟩ := h 0 (by simp)
        cases ha
    subst hz
    exact Src.ofNil w Try.underlying22 c
  | some a =>
    refine Src.ofSlice w Try.underlying22 a zs.length c (intCells zs) (by simp [intCells]) ?_ ?_
    · intro j u hj
      have hj' : j < zs.length := by
        have := (List.getElem?_eq_some_iff.1 hj).1
        simpa [intCells] using this
      obtain ⟨a', ha, _, hc⟩ := h j hj'
      simp only [Option.some.injEq] at ha
      subst ha
      rw [hc]
      simpa [intCells, hj'] using hj
    · intro u hu
      obtain ⟨_, _, rfl⟩ := List.mem_map.1 hu
      rfl

theorem row_own {B n c : Nat} {w : World} {ao : Option Addr} {zs rest : List Int} (h : w.ownsRow B 3 1 (.slice ao n c) n (intCells (zs ++ rest))) : IntRow w.heap.size w ao zs := by
  intro j hj
  rcases h.2 with ⟨_, h0⟩ | ⟨g, cap, cur, hv, hB, hg, _⟩
  · have := h.1
    simp [intCells] at this
    omega
  · simp only [Value.slice.injEq, true_and] at hv
    obtain ⟨rfl, rfl⟩ := hv
    refine ⟨⟨g, 0, none⟩, rfl, lt_of_block hg, ?_⟩
    have hlen := h.1
    simp only [intCells, List.length_map, List.length_append, Nat.mul_one] at hlen
    rw [add_at, World.ownsRow.cellAt h j (by omega)]
    have hj2 : j < (zs.map fun z => Value.int .i64 z).length := by simpa using hj
    rw [intCells, List.map_append, List.getElem?_append_left hj2]
    simp [hj]

theorem own_cap {B n c : Nat} {w : World} {ao : Option Addr} {xs : List Value} (h : w.ownsRow B 3 1 (.slice ao (n + 1) c) (n + 1) xs) : ∃ g, ao = some ⟨g, 0, none⟩ ∧ n + 1 ≤ c := by
  rcases h.2 with ⟨_, h0⟩ | ⟨g, cap, cur, hv, _, _, hc, _⟩
  · omega
  · simp only [Value.slice.injEq, true_and] at hv
    obtain ⟨rfl, rfl⟩ := hv
    exact ⟨g, rfl, hc⟩

set_option maxRecDepth 100000 in
set_option maxHeartbeats 1000000 in
theorem ints_any (B cap : Nat) (ao : Option Addr) (zs : List Int) (w : World) (h : IntRow B w ao zs) (hl : (zs.length + 1) * 8 ≤ 140737488355328) :
    Calls Try.prog 9 #[.slice ao zs.length cap] w fun e w' => ∃ g c, e = .returned (.slice (some ⟨g, 0, none⟩) zs.length c) ∧ w'.ownsRow w.heap.size 3 1 (.slice (some ⟨g, 0, none⟩) (zs.length + 1) c) (zs.length + 1) (intCells (zs ++ [99])) ∧ Kept Nil w w' := by
  obtain ⟨i0, hi, hz0, hz1, hz2⟩ := info_parts Try.infoInt
  have HS : Hid (Src Try.prog 1 22 (.slice ao zs.length cap) zs.length (intCells zs) w) := src_row h (fun _ => .inr trivial)
  have HL : Hid ((0 + zs.length ≤ maxLen ∧ (0 + zs.length) * 8 ≤ 140737488355328) ∧ (zs.length + 1 ≤ maxLen ∧ (zs.length + 1) * 8 ≤ 140737488355328)) := by
    refine ⟨⟨?_, ?_⟩, ⟨?_, ?_⟩⟩ <;> (unfold maxLen at *; omega)
  have hl' : (zs.length : Int) ≤ 17592186044415 := by omega
  clear h hl
  go_enter Try.func9, Try.ntmps9
  have tA : True := trivial
  go_wp2_with (first | (at_builtin; have _t := tA; clear _t tA; go_must (refine wpList_append_src _ rfl _ _ 22 22 rfl w.heap.size 3 i0 (.int .i64 0) 1 8 Try.underlying22 hi hz0 hz1 hz2 rfl _ 0 [] rfl (World.ownsRow_nil _ _ _ _) (.slice ao zs.length cap) zs.length (intCells zs) rfl HS.out HL.out.1.1 HL.out.1.2 (Nat.le_refl _) ?_); intro a1 c1 w1 ho1 hg1; rw [Nat.zero_add, List.nil_append] at ho1; have HK1 : Hid (Kept Nil w w1) := (Kept.refl _ _).grown hg1 (fun k e => by cases e); clear hg1) | (at_builtin; go_must (refine wpList_append_src _ rfl _ _ 22 22 rfl w.heap.size 3 i0 (.int .i64 0) 1 8 Try.underlying22 hi hz0 hz1 hz2 rfl _ _ _ rfl (ho1.alloc _) (.slice (some ⟨w1.heap.size, 0, none⟩) 1 1) 1 [.int .i64 99] rfl (src_int _) HL.out.2.1 HL.out.2.2 (le_alloc HK1.out.size _) ?_); intro a2 c2 w2 ho2 hg2; have HK2 : Hid (Kept Nil w w2) := (HK1.out.alloc _).grown hg2 (own_row ho1); have HO2 : Hid _ := ho2; obtain ⟨g, rfl, hcap⟩ := own_cap ho2; clear hg2 ho2))
  go_ret
  refine ⟨g, c2, rfl, ?_, HK2.out⟩
  have e : intCells (zs ++ [99]) = intCells zs ++ [.int .i64 99] := by simp [intCells]
  rw [e]
  exact HO2.out

set_option maxRecDepth 100000 in
set_option maxHeartbeats 1000000 in
theorem refSameInts_any (B1 B2 c1 c2 : Nat) (a1 a2 : Option Addr) (ns ms : List Int) (w : World) (h1 : IntRow B1 w a1 ns) (h2 : IntRow B2 w a2 ms) (hl1 : (ns.length : Int) ≤ 9223372036854775807) (hl2 : (ms.length : Int) ≤ 9223372036854775807) :
    Calls Try.prog 18 #[.slice a1 ns.length c1, .slice a2 ms.length c2] w fun e w' => e = .returned (.bool (decide (ns = ms))) ∧ Kept Nil w w' := by
  by_cases hlen : ns.length = ms.length
  · have H1 : Hid (IntRow B1 w a1 ns) := h1
    have H2 : Hid (IntRow B2 w a2 ms) := h2
    clear h1 h2
    have hl : (ns.length : Int) = ms.length := by omega
    go_enter Try.func18, Try.ntmps18
    go_wp2
    go_loopw [5] (fun i wr => ∃ k : Nat, k ≤ ns.length ∧ i = .int .i64 k ∧ Hid (ns.take k = ms.take k) ∧ Hid (Kept Nil w wr)) (fun i _ => ns.length - (intOf i).toNat)
    case atStart => exact ⟨0, Nat.zero_le _, rfl, rfl, Kept.refl _ _⟩
    case round =>
      obtain ⟨k, hk, rfl, HT, HK⟩ := hrel
      by_cases hlt : k < ns.length
      · have hlt2 : k < ms.length := by omega
        obtain ⟨x1, rfl, _, e1⟩ := (H1.out.nil HK.out) k hlt
        obtain ⟨x2, rfl, _, e2⟩ := (H2.out.nil HK.out) k hlt2
        have HX : Hid (ns[k] = ms[k] → ns.take (k + 1) = ms.take (k + 1)) := fun h => by
          rw [List.take_succ_eq_append_getElem hlt, List.take_succ_eq_append_getElem hlt2, HT.out, h]
        have HY : Hid (ns[k] ≠ ms[k] → ns ≠ ms) := fun h e => by subst e; exact h rfl
        generalize ns[k] = x at e1 HX HY
        generalize ms[k] = y at e2 HX HY
        by_cases hxy : x = y
        · subst hxy
          have HT2 : Hid _ := HX.out rfl
          clear HX HY
          go_wp2
          go_region
          go_wp2
          go_roundw
          case rel => exact ⟨k + 1, by omega, by go_num, HT2, HK.out.drew⟩
          case measure => simp [intOf]; omega
        · have HN : Hid (decide (ns = ms) = false) := decide_eq_false (HY.out hxy)
          have hxy' : (x != y) = true := by simpa using hxy
          clear HX HY
          go_wp2
          go_region
          go_wp2
          go_ret
          rw [HN.out]
          exact ⟨rfl, HK.out.drew⟩
      · have HN : Hid (decide (ns = ms) = true) := by
          refine decide_eq_true ?_
          have := HT.out
          rwa [List.take_of_length_le (by omega), List.take_of_length_le (by omega)] at this
        go_wp2
        go_ret
        rw [HN.out]
        exact ⟨rfl, HK.out⟩
  · have HN : Hid (decide (ns = ms) = false) := decide_eq_false (fun e => hlen (by rw [e]))
    have hl : ((ns.length : Int) != (ms.length : Int)) = true := by simp; omega
    clear h1 h2 hlen
    go_enter Try.func18, Try.ntmps18
    go_wp2
    go_ret
    rw [HN.out]
    exact ⟨rfl, Kept.refl _ _⟩

set_option maxRecDepth 100000 in
set_option maxHeartbeats 1000000 in
/-- Two that have the same rows are the same. -/
theorem refSameConfig_yes (B1 B2 c1 c2 c3 d1 d2 d3 : Nat) (a1 a2 a3 b1 b2 b3 : Option Addr) (v n l : List Int) (w : World) (h1 : CfRows B1 w a1 a2 a3 v n l) (h2 : CfRows B2 w b1 b2 b3 v n l) (hl1 : (v.length : Int) ≤ 9223372036854775807) (hl2 : (n.length : Int) ≤ 9223372036854775807) (hl3 : (l.length : Int) ≤ 9223372036854775807) :
    Calls Try.prog 14 #[.agg #[.slice a1 v.length c1, .slice a2 n.length c2, .slice a3 l.length c3], .agg #[.slice b1 v.length d1, .slice b2 n.length d2, .slice b3 l.length d3]] w fun e w' => e = .returned (.bool true) ∧ Kept Nil w w' := by
  have S1 := fun w' (hk : Kept Nil w w') => refSameInts_any B1 B2 c1 d1 a1 b1 v v w' (h1.r1.nil hk) (h2.r1.nil hk) hl1 hl1
  have S2 := fun w' (hk : Kept Nil w w') => refSameInts_any B1 B2 c2 d2 a2 b2 n n w' (h1.r2.nil hk) (h2.r2.nil hk) hl2 hl2
  have S3 := fun w' (hk : Kept Nil w w') => refSameInts_any B1 B2 c3 d3 a3 b3 l l w' (h1.r3.nil hk) (h2.r3.nil hk) hl3 hl3
  rw [decide_eq_true rfl] at S1 S2 S3
  have HA : Hid (_) := blk_past (blk_new w (.cells #[.slice a1 v.length c1, .slice a2 n.length c2, .slice a3 l.length c3] 24)) (.cells #[.slice b1 v.length d1, .slice b2 n.length d2, .slice b3 l.length d3] 24)
  have HB : Hid (((w.alloc (.cells #[.slice a1 v.length c1, .slice a2 n.length c2, .slice a3 l.length c3] 24)).alloc (.cells #[.slice b1 v.length d1, .slice b2 n.length d2, .slice b3 l.length d3] 24)).heap[w.heap.size + 1]? = some (.cells #[.slice b1 v.length d1, .slice b2 n.length d2, .slice b3 l.length d3] 24 (0, 0))) := by
    have := blk_new (w.alloc (.cells #[.slice a1 v.length c1, .slice a2 n.length c2, .slice a3 l.length c3] 24)) (.cells #[.slice b1 v.length d1, .slice b2 n.length d2, .slice b3 l.length d3] 24)
    rwa [show (w.alloc (.cells #[.slice a1 v.length c1, .slice a2 n.length c2, .slice a3 l.length c3] 24)).heap.size = w.heap.size + 1 by simp] at this
  clear h1 h2 hl1 hl2 hl3
  go_enter Try.func14, Try.ntmps14
  go_wp2_with fail
  refine (S1 _ (((Kept.refl _ _).alloc _).alloc _)).mono ?_
  rintro e w1 ⟨rfl, k1⟩
  have K1 : Hid (Kept Nil w w1) := (((Kept.refl _ _).alloc _).alloc _).trans k1
  have A1 : Hid _ := k1.block _ _ HA.out (fun x => x.elim)
  have B1 : Hid _ := k1.block _ _ HB.out (fun x => x.elim)
  have p1 := blk_at A1.out 1 rfl
  have r1 := blk_at B1.out 1 rfl
  go_wp2_with fail
  refine (S2 _ K1.out).mono ?_
  rintro e w2 ⟨rfl, k2⟩
  have K2 : Hid (Kept Nil w w2) := K1.out.trans k2
  have A2 : Hid _ := k2.block _ _ A1.out (fun x => x.elim)
  have B2 : Hid _ := k2.block _ _ B1.out (fun x => x.elim)
  have p2 := blk_at A2.out 2 rfl
  have r2 := blk_at B2.out 2 rfl
  go_wp2_with fail
  refine (S3 _ K2.out).mono ?_
  rintro e w3 ⟨rfl, k3⟩
  go_wp2
  go_ret
  exact ⟨rfl, K2.out.trans k3⟩

end Go.Proofs.Ytijklginabipgaa
