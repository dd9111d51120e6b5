/-
  slices.Grow at nil, slices.Concat of three rows of ints.
-/
import Derived.Test.YtijklginabipgaaWTrk2
import Derived.Lib.AppendZeros
namespace Go.Proofs.Ytijklginabipgaa
open Go.RowKit

theorem IntRow.src {B c : Nat} {w : World} {ao : Option Addr} {zs : List Int} (h : IntRow B w ao zs) : Src Try.prog 1 22 (.slice ao zs.length c) zs.length (zs.map (Value.int .i64)) w := by
  cases hes : zs with
  | nil =>
    cases ao with
    | none => exact Src.ofNil _ Try.underlying22 c
    | some a => exact Src.ofSlice _ Try.underlying22 a 0 c [] rfl (fun j u hj => by simp at hj) (fun u hu => by simp at hu)
  | cons x t =>
    rw [← hes]
    obtain ⟨a, rfl, _⟩ := h 0 (by rw [hes]; simp)
    refine Src.ofSlice _ Try.underlying22 a zs.length c _ (by simp) ?_ ?_
    · intro j u hj
      have hlt : j < zs.length := by have := (List.getElem?_eq_some_iff.1 hj).1; simpa using this
      obtain ⟨a', e, _, q0⟩ := h j hlt
      simp only [Option.some.injEq] at e
      subst e
      rw [q0, ← hj]
      simp [hlt]
    · intro u hu
      obtain ⟨e, _, rfl⟩ := List.mem_map.1 hu
      rfl
set_option maxRecDepth 100000 in
set_option maxHeartbeats 2000000 in
theorem growNil_any (n : Nat) (w : World) (h0 : 0 < n) (hs : n ≤ 1000000) :
    Calls Try.prog 135 #[.slice none 0 0, .int .i64 n] w fun e w' => ∃ ao G, e = .returned (.slice ao 0 G) ∧ w'.ownsRow w.heap.size 3 1 (.slice ao 0 G) 0 [] ∧ Kept Nil w w' := by
  obtain ⟨i0, hi, hz0, hz1, hz2⟩ := info_parts Try.infoInt
  have hrz := fun ty => Lib.run_append_nil_zeros (P := Try.prog) w 22 3 ty 3 i0 (.int .i64 0) .i64 .i64 Try.underlying22 Try.underlying3 hi hz0 n h0 (by omega) (by omega) (by rw [hz2]; omega)
  have hG := grownCap_ge w n 0 3
  have hG2 := grownCap_le_maxLen w n 0 3 (by unfold maxLen; omega)
  generalize grownCap w n 0 3 = G at *
  have HG : Hid (n ≤ G ∧ G ≤ maxLen) := ⟨hG, hG2⟩
  have hG63 : G ≤ 9223372036854775807 := by unfold maxLen at hG2; omega
  have h1 : (0 : Int) < n := by omega
  have h2 : ¬ ((n : Int) < 0) := by omega
  clear hz1 hz2 hi hz0 hG2
  go_enter Try.func135, Try.ntmps135
  go_wp2_with (at_builtin; refine Lib.wpList_append_run _ rfl _ _ _ _ rfl _ _ rfl rfl _ _ (hrz _) ?_)
  all_goals
    go_ret
    refine ⟨_, _, rfl, ?_, ?_⟩
    · have hsz : (Builtin.zeroCells #[Value.int .i64 0] n ++ Builtin.zeroCells #[Value.int .i64 0] (G - n)).size = G * 1 := by
        have := HG.out.1
        simp [Builtin.zeroCells]
        omega
      have hb : ((w.alloc (.cells (Builtin.zeroCells #[Value.int .i64 0] n ++ Builtin.zeroCells #[Value.int .i64 0] (G - n)) 3)).drew).heap[w.heap.size]? = some (.cells (Builtin.zeroCells #[Value.int .i64 0] n ++ Builtin.zeroCells #[Value.int .i64 0] (G - n)) 3 (0, 0)) := blk_new _ _
      exact ⟨rfl, .inr ⟨w.heap.size, G, _, rfl, Nat.le_refl _, hb, Nat.zero_le _, HG.out.2, hsz, by simp⟩⟩
    · exact ((Kept.refl _ _).alloc _).drew

end Go.Proofs.Ytijklginabipgaa
