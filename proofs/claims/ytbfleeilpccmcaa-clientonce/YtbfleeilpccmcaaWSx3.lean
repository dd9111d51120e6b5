/-
  SessionExact: the law writes over a table.
-/
import Derived.Test.YtbfleeilpccmcaaWSx2
namespace Go.Proofs.Ytbfleeilpccmcaa
open Go.RowKit

theorem row_block {B n c : Nat} {e : TypeId} {w : World} {ao : Option Addr} {l : List Value} (h : w.ownsRow B e 1 (.slice ao n c) n l) (h0 : 0 < n) : ∃ g cs, ao = some ⟨g, 0, none⟩ ∧ w.heap[g]? = some (.cells cs e (0, 0)) ∧ n ≤ cs.size := by
  rcases h.2 with ⟨h1, h2⟩ | ⟨g, cap, cur, hv, hb, hh, h1, h2, h3, h4⟩
  · omega
  · simp only [Value.slice.injEq] at hv
    exact ⟨g, cur, hv.1, hh, by rw [h3]; omega⟩

set_option maxRecDepth 100000 in
set_option maxHeartbeats 2000000 in
theorem overTexts2_any (B c n : Nat) (ao : Option Addr) (l : List Value) (w : World) (h : w.ownsRow B 9 1 (.slice ao n c) n l) (hB : B ≤ w.heap.size) (hl : n ≤ 8796093022200) :
    Calls Try.prog 28 #[.slice ao n c] w fun e w' => e = .returned (.tuple #[]) ∧ w.grownBy w' (Value.slice ao n c).ownBlock ∧ ∃ ys, w'.ownsRow B 9 1 (.slice ao n c) n ys := by
  obtain ⟨i0, hi, hz0, hz1, hz2⟩ := info_parts Try.infoSt
  have HO0 : Hid (w.ownsRow B 9 1 (.slice ao n c) n l) := h
  clear h
  go_enter Try.func28, Try.ntmps28
  go_wp2
  go_loopw [2] (fun i wr => ∃ k : Nat, ∃ ys : List Value, k ≤ n ∧ i = .int .i64 k ∧ Hid (wr.ownsRow B 9 1 (.slice ao n c) n ys) ∧ Hid (w.grownBy wr (Value.slice ao n c).ownBlock)) (fun i _ => n - (intOf i).toNat)
  case atStart => exact ⟨0, l, Nat.zero_le _, rfl, HO0.out, grown_reflK _ _⟩
  case round =>
    obtain ⟨k, ys, hk, rfl, HO, HG⟩ := hrel
    clear HO0
    rename World => wr
    by_cases hlt : k < n
    · obtain ⟨g, cs, rfl, hb, hcl⟩ := row_block HO.out (by omega)
      have hki : (k : Int) < n := by omega
      obtain ⟨u, hcell⟩ : ∃ u, wr.cell? ⟨g, k, none⟩ = some u := ⟨_, by rw [blk_cell hb, Array.getElem?_eq_getElem (by omega)]⟩
      have hfz : wr.frozen? ⟨g, k, none⟩ = false := blk_free hb k
      have HO2 : Hid ((wr.setCell ⟨g, k, none⟩ (.string (bs [111, 118, 101, 114]))).ownsRow B 9 1 (.slice (some ⟨g, 0, none⟩) n c) n (ys.set k (.string (bs [111, 118, 101, 114])))) := own_setAtK HO.out k _
      have HG2 : Hid (w.grownBy (wr.setCell ⟨g, k, none⟩ (.string (bs [111, 118, 101, 114]))) (Value.slice (some ⟨g, 0, none⟩) n c).ownBlock) := grown_set HG.out _
      clear hb hcl
      go_wp2
      go_roundw
      case rel => exact ⟨k + 1, ys.set k (.string (bs [111, 118, 101, 114])), by omega, by go_num, HO2.out, HG2.out⟩
      case measure => simp [intOf]; omega
    · have HLL : Hid (n + 2 ≤ maxLen ∧ (n + 2) * 16 ≤ 140737488355328) := by constructor; unfold maxLen; omega; omega
      have HSZ : Hid (B ≤ wr.heap.size) := Nat.le_trans hB HG.out.size
      have ho := HO.out
      go_wp2_with (first | (at_builtin; go_must (refine wpList_append_keep _ rfl _ _ 43 43 rfl B 9 i0 (.string ⟨#[]⟩) 1 16 Try.underlying43 hi hz0 hz1 hz2 rfl _ _ _ rfl (World.ownsRow.alloc ho _) (.slice (some ⟨wr.heap.size, 0, none⟩) 2 2) 2 [.string (bs [111, 118, 101, 114]), .string (bs [111, 118, 101, 114])] rfl (src_ky2 [111, 118, 101, 114] [111, 118, 101, 114]) HLL.out.1 HLL.out.2 (le_alloc HSZ.out _) ?_); intro ao' c' w2 ho' hg' hk'; have HG2 : Hid (w.grownBy w2 (Value.slice ao n c).ownBlock) := grown_transK (grown_allocK HG.out _) hg'; have HK2 : Hid (∃ ys, w2.ownsRow B 9 1 (.slice ao n c) n ys) := hk'; clear hg' ho' hk'))
      go_end0
      exact ⟨rfl, HG2.out, HK2.out⟩

/-- The keys' rows of sessions. -/
def KRows (B : Nat) (w : World) (xs : List Se) : Prop := ∀ e ∈ xs, ∃ l, w.ownsRow B 9 1 (.slice e.ao e.s.ks.length e.c) e.s.ks.length l
theorem KRows.next {B : Nat} {w w' : World} {xs : List Se} {y : Se} (h : KRows B w xs) (hy : y ∈ xs) (hg : w.grownBy w' (Value.slice y.ao y.s.ks.length y.c).ownBlock) (h1 : ∃ ys, w'.ownsRow B 9 1 (.slice y.ao y.s.ks.length y.c) y.s.ks.length ys) : KRows B w' xs := fun e he => by
  obtain ⟨l, hl⟩ := h e he
  obtain ⟨l0, hl0⟩ := h y hy
  obtain ⟨ys, hys⟩ := h1
  exact row_share (by decide) hl hl0 hg hys
end Go.Proofs.Ytbfleeilpccmcaa
