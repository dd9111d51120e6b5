/-
  kv: the document's Apply, whole.
-/
import Derived.Test.YtbfleeilpccmcaaWKv16
import Derived.Test.YtbfleeilpccmcaaWKv17
import Derived.Test.YtbfleeilpccmcaaWKv18
import Derived.Test.YtbfleeilpccmcaaWTabS
namespace Go.Proofs.Ytbfleeilpccmcaa
open Go.RowKit

theorem isCmd_kind {kd m : Int} {ck val : List UInt8} (h : isCmd kd ck val m = true) : kd = 1 ∨ kd = 2 ∨ kd = 3 ∨ kd = 4 ∨ kd = 5 ∨ kd = 6 := by
  unfold isCmd at h
  by_cases h6 : kd = 6
  · simp [h6]
  · by_cases h23 : kd = 2 ∨ kd = 3
    · omega
    · by_cases h15 : kd = 1 ∨ kd = 5
      · omega
      · by_cases h4 : kd = 4
        · omega
        · simp [h6, h23, h15, h4] at h
theorem grown_set {w wr : World} {g i : Nat} (h : w.grownBy wr (some g)) (u : Value) : w.grownBy (wr.setCell ⟨g, i, none⟩ u) (some g) :=
  ⟨h.os, h.tape, h.output, by simpa [World.setCell] using h.size, fun j hj hne => by
    rw [Below.heap_setCell _ _ _ _ (fun e => hne (by rw [e]))]
    exact h.block j hj hne⟩
theorem grown_transK {a b c : World} {r : Option Nat} (h : a.grownBy b r) (k : b.grownBy c r) : a.grownBy c r :=
  ⟨k.os.trans h.os, k.tape.trans h.tape, k.output.trans h.output, Nat.le_trans h.size k.size, fun i hi hne => (k.block i (by have := h.size; omega) hne).trans (h.block i hi hne)⟩
theorem src_ky2 {w : World} (y z : List UInt8) : Src Try.prog 1 43 (.slice (some ⟨w.heap.size, 0, none⟩) 2 2) 2 [.string (bs y), .string (bs z)] (w.alloc (.cells #[.string (bs y), .string (bs z)] 9)) := by
  refine Src.ofSlice _ Try.underlying43 _ 2 2 _ rfl ?_ ?_
  · intro j u hj
    match j, hj with
    | 0, hj | 1, hj =>
      simp at hj
      subst hj
      simp [Addr.add]
  · intro u hu
    simp at hu
    rcases hu with rfl | rfl <;> rfl
theorem OwnK.frees {B c : Nat} {w : World} {ao : Option Addr} {ks : List (List UInt8)} (h : OwnK B w ao c ks) (h0 : 0 < ks.length) : ∃ g cs, ao = some ⟨g, 0, none⟩ ∧ w.heap[g]? = some (.cells cs 9 (0, 0)) ∧ ks.length ≤ cs.size := by
  rcases h.2 with ⟨h1, _⟩ | ⟨g, cap, cur, hv, hb, hh, h1, h2, h3, h4⟩
  · simp at h1
    omega
  · simp only [Value.slice.injEq] at hv
    exact ⟨g, cur, hv.1, hh, by rw [h3]; omega⟩
theorem OwnK.set {B g c k : Nat} {w : World} {ks : List (List UInt8)} (h : OwnK B w (some ⟨g, 0, none⟩) c ks) (z : List UInt8) : OwnK B (w.setCell ⟨g, k, none⟩ (.string (bs z))) (some ⟨g, 0, none⟩) c (ks.set k z) := by
  have := own_setAtK h k (.string (bs z))
  unfold OwnK kyCells
  rw [List.length_set, List.map_set]
  exact this

set_option maxRecDepth 100000 in
set_option maxHeartbeats 2000000 in
theorem overTexts_any (B c : Nat) (ao : Option Addr) (ks : List (List UInt8)) (w : World) (h : OwnK B w ao c ks) (hB : B ≤ w.heap.size) (hl : ks.length ≤ 4000000) :
    Calls Try.prog 28 #[.slice ao ks.length c] w fun e w' => e = .returned (.tuple #[]) ∧ w.grownBy w' (Value.slice ao ks.length c).ownBlock := by
  obtain ⟨i0, hi, hz0, hz1, hz2⟩ := info_parts Try.infoSt
  have HO0 : Hid (OwnK B w ao c ks) := h
  clear h
  go_enter Try.func28, Try.ntmps28
  go_wp2
  go_loopw [2] (fun i wr => ∃ k : Nat, ∃ ys : List (List UInt8), k ≤ ks.length ∧ i = .int .i64 k ∧ Hid (ys.length = ks.length) ∧ Hid (OwnK B wr ao c ys) ∧ Hid (w.grownBy wr (Value.slice ao ks.length c).ownBlock)) (fun i _ => ks.length - (intOf i).toNat)
  case atStart => exact ⟨0, ks, Nat.zero_le _, rfl, rfl, HO0.out, grown_reflK _ _⟩
  case round =>
    obtain ⟨k, ys, hk, rfl, HL, HO, HG⟩ := hrel
    clear HO0
    rename World => wr
    by_cases hlt : k < ks.length
    · have hly : k < ys.length := by rw [HL.out]; exact hlt
      obtain ⟨g, cs, rfl, hb, hcl⟩ := HO.out.frees (by omega)
      have hki : (k : Int) < ks.length := by omega
      obtain ⟨u, hcell⟩ : ∃ u, wr.cell? ⟨g, k, none⟩ = some u := ⟨_, by rw [blk_cell hb, Array.getElem?_eq_getElem (by omega)]⟩
      have hfz : wr.frozen? ⟨g, k, none⟩ = false := blk_free hb k
      have HO2 : Hid (OwnK B (wr.setCell ⟨g, k, none⟩ (.string (bs [111, 118, 101, 114]))) (some ⟨g, 0, none⟩) c (ys.set k [111, 118, 101, 114])) := HO.out.set [111, 118, 101, 114]
      have HG2 : Hid (w.grownBy (wr.setCell ⟨g, k, none⟩ (.string (bs [111, 118, 101, 114]))) (Value.slice (some ⟨g, 0, none⟩) ks.length c).ownBlock) := grown_set HG.out _
      clear hb hcl
      go_wp2
      go_roundw
      case rel => exact ⟨k + 1, ys.set k [111, 118, 101, 114], by omega, by go_num, (List.length_set ..).trans HL.out, HO2.out, HG2.out⟩
      case measure => simp [intOf]; omega
    · have ho : wr.ownsRow B 9 1 (.slice ao ks.length c) ks.length (kyCells ys) := by have := HO.out; unfold OwnK at this; rw [HL.out] at this; exact this
      have HLL : Hid (ks.length + 2 ≤ maxLen ∧ (ks.length + 2) * 16 ≤ 140737488355328) := by constructor; unfold maxLen; omega; omega
      have HSZ : Hid (B ≤ wr.heap.size) := Nat.le_trans hB HG.out.size
      go_wp2_with (first | (at_builtin; go_must (refine wpList_append_src _ rfl _ _ 43 43 rfl B 9 i0 (.string ⟨#[]⟩) 1 16 Try.underlying43 hi hz0 hz1 hz2 rfl _ _ _ rfl (World.ownsRow.alloc ho _) (.slice (some ⟨wr.heap.size, 0, none⟩) 2 2) 2 [.string (bs [111, 118, 101, 114]), .string (bs [111, 118, 101, 114])] rfl (src_ky2 [111, 118, 101, 114] [111, 118, 101, 114]) HLL.out.1 HLL.out.2 (le_alloc HSZ.out _) ?_); intro ao' c' w2 ho' hg'; have HG2 : Hid (w.grownBy w2 (Value.slice ao ks.length c).ownBlock) := grown_transK (grown_allocK HG.out _) hg'; clear hg' ho'))
      go_end0
      exact ⟨rfl, HG2.out⟩

end Go.Proofs.Ytbfleeilpccmcaa
