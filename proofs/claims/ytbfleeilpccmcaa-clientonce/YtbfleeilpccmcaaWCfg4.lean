/-
  Rows copied (the law's ints and conf), and held against each other (the document's SameInts and SameConfig).
-/
import Derived.Test.YtbfleeilpccmcaaWCfg3
namespace Go.Proofs.Ytbfleeilpccmcaa
open Go.RowKit

def intCells (zs : List Int) : List Value := zs.map fun z => Value.int .i64 z
theorem add_at (g j : Nat) : (⟨g, 0, none⟩ : Addr).add j = ⟨g, j, none⟩ := by unfold Addr.add; split <;> simp_all

theorem src_row {B c : Nat} {w : World} {ao : Option Addr} {zs : List Int} (h : IntRow B w ao zs) (hn : ao = none → c = 0 ∨ True) : Src Try.prog 1 22 (.slice ao zs.length c) zs.length (intCells zs) w := by
  have _ := hn
  cases ao with
  | none =>
    have hz : zs = [] := by
      cases zs with
      | nil => rfl
      | cons z t =>
        obtain ⟨a, ha, _⟩ := h 0 (by simp)
        cases ha
    subst hz
    exact Src.ofNil w Try.underlying22 c
  | some a =>
    refine Src.ofSlice w Try.underlying22 a zs.length c (intCells zs) (by simp [intCells]) ?_ ?_
    · intro j u hj
      have hj' : j < zs.length := by
        have := (List.getElem?_eq_some_iff.1 hj).1
        simpa [intCells] using this
      obtain ⟨a', ha, _, hc⟩ := h j hj'
      simp only [Option.some.injEq] at ha
      subst ha
      rw [hc]
      simpa [intCells, hj'] using hj
    · intro u hu
      obtain ⟨_, _, rfl⟩ := List.mem_map.1 hu
      rfl

theorem row_own {B n c : Nat} {w : World} {ao : Option Addr} {zs rest : List Int} (h : w.ownsRow B 3 1 (.slice ao n c) n (intCells (zs ++ rest))) : IntRow w.heap.size w ao zs := by
  intro j hj
  rcases h.2 with ⟨_, h0⟩ | ⟨g, cap, cur, hv, hB, hg, _⟩
  · have := h.1
    simp [intCells] at this
    omega
  · simp only [Value.slice.injEq, true_and] at hv
    obtain ⟨rfl, rfl⟩ := hv
    refine ⟨⟨g, 0, none⟩, rfl, lt_of_block hg, ?_⟩
    have hlen := h.1
    simp only [intCells, List.length_map, List.length_append, Nat.mul_one] at hlen
    rw [add_at, World.ownsRow.cellAt h j (by omega)]
    have hj2 : j < (zs.map fun z => Value.int .i64 z).length := by simpa using hj
    rw [intCells, List.map_append, List.getElem?_append_left hj2]
    simp [hj]

theorem own_cap {B n c : Nat} {w : World} {ao : Option Addr} {xs : List Value} (h : w.ownsRow B 3 1 (.slice ao (n + 1) c) (n + 1) xs) : ∃ g, ao = some ⟨g, 0, none⟩ ∧ n + 1 ≤ c := by
  rcases h.2 with ⟨_, h0⟩ | ⟨g, cap, cur, hv, _, _, hc, _⟩
  · omega
  · simp only [Value.slice.injEq, true_and] at hv
    obtain ⟨rfl, rfl⟩ := hv
    exact ⟨g, rfl, hc⟩

set_option maxRecDepth 100000 in
set_option maxHeartbeats 1000000 in
theorem ints_any (B cap : Nat) (ao : Option Addr) (zs : List Int) (w : World) (h : IntRow B w ao zs) (hl : (zs.length + 1) * 8 ≤ 140737488355328) :
    Calls Try.prog 8 #[.slice ao zs.length cap] w fun e w' => ∃ g c, e = .returned (.slice (some ⟨g, 0, none⟩) zs.length c) ∧ w'.ownsRow w.heap.size 3 1 (.slice (some ⟨g, 0, none⟩) (zs.length + 1) c) (zs.length + 1) (intCells (zs ++ [99])) ∧ Kept Nil w w' := by
  obtain ⟨i0, hi, hz0, hz1, hz2⟩ := info_parts Try.infoInt
  have HS : Hid (Src Try.prog 1 22 (.slice ao zs.length cap) zs.length (intCells zs) w) := src_row h (fun _ => .inr trivial)
  have HL : Hid ((0 + zs.length ≤ maxLen ∧ (0 + zs.length) * 8 ≤ 140737488355328) ∧ (zs.length + 1 ≤ maxLen ∧ (zs.length + 1) * 8 ≤ 140737488355328)) := by
    refine ⟨⟨?_, ?_⟩, ⟨?_, ?_⟩⟩ <;> (unfold maxLen at *; omega)
  have hl' : (zs.length : Int) ≤ 17592186044415 := by omega
  clear h hl
  go_enter Try.func8, Try.ntmps8
  have tA : True := trivial
  go_wp2_with (first | (at_builtin; have _t := tA; clear _t tA; go_must (refine wpList_append_src _ rfl _ _ 22 22 rfl w.heap.size 3 i0 (.int .i64 0) 1 8 Try.underlying22 hi hz0 hz1 hz2 rfl _ 0 [] rfl (World.ownsRow_nil _ _ _ _) (.slice ao zs.length cap) zs.length (intCells zs) rfl HS.out HL.out.1.1 HL.out.1.2 (Nat.le_refl _) ?_); intro a1 c1 w1 ho1 hg1; rw [Nat.zero_add, List.nil_append] at ho1; have HK1 : Hid (Kept Nil w w1) := (Kept.refl _ _).grown hg1 (fun k e => by cases e); clear hg1) | (at_builtin; go_must (refine wpList_append_src _ rfl _ _ 22 22 rfl w.heap.size 3 i0 (.int .i64 0) 1 8 Try.underlying22 hi hz0 hz1 hz2 rfl _ _ _ rfl (ho1.alloc _) (.slice (some ⟨w1.heap.size, 0, none⟩) 1 1) 1 [.int .i64 99] rfl (src_int _) HL.out.2.1 HL.out.2.2 (le_alloc HK1.out.size _) ?_); intro a2 c2 w2 ho2 hg2; have HK2 : Hid (Kept Nil w w2) := (HK1.out.alloc _).grown hg2 (own_row ho1); have HO2 : Hid _ := ho2; obtain ⟨g, rfl, hcap⟩ := own_cap ho2; clear hg2 ho2))
  go_ret
  refine ⟨g, c2, rfl, ?_, HK2.out⟩
  have e : intCells (zs ++ [99]) = intCells zs ++ [.int .i64 99] := by simp [intCells]
  rw [e]
  exact HO2.out

end Go.Proofs.Ytbfleeilpccmcaa
