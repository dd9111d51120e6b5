/-
  kv: the document's Apply, whole.
-/
import Derived.Test.YtflnjlbafchnaaaGreatDoorWKv16
import Derived.Test.YtflnjlbafchnaaaGreatDoorWKv17
import Derived.Test.YtflnjlbafchnaaaGreatDoorWKv18
import Derived.Test.YtflnjlbafchnaaaGreatDoorWTabS
namespace Go.Proofs.YtflnjlbafchnaaaGreatDoor
open Go.RowKit

theorem isCmd_kind {kd m : Int} {ck val : List UInt8} (h : isCmd kd ck val m = true) : kd = 1 ∨ kd = 2 ∨ kd = 3 ∨ kd = 4 ∨ kd = 5 ∨ kd = 6 := by
  unfold isCmd at h
  by_cases h6 : kd = 6
  · simp [h6]
  · by_cases h23 : kd = 2 ∨ kd = 3
    · omega
    · by_cases h15 : kd = 1 ∨ kd = 5
      · omega
      · by_cases h4 : kd = 4
        · omega
        · simp [h6, h23, h15, h4] at h
theorem refApply_any (B c : Nat) (ao : Option Addr) (ps : List Pr) (ck val : List UInt8) (kd m : Int) (w : World) (h : PairRow B w ao ps) (hl : (ps.length : Int) ≤ 3518437208780) (hck : ck.length ≤ maxLen) (hval : val.length ≤ maxLen) :
    Calls Tryz.prog 100 #[.slice ao ps.length c, .agg #[.int .i64 kd, .string (bs ck), .string (bs val), .int .i64 m]] w (RefApPost w ao c ps (apP kd ck val m ps) (apR kd ck val m ps)) := by
  cases hb : (pairsOk ps && isCmd kd ck val m) with
  | false =>
    unfold apP apR
    rw [hb]
    exact refApBad B c ao ps ck val kd m w h hb hl hck hval
  | true =>
    unfold apP apR
    rw [hb, if_pos rfl, if_pos rfl]
    simp only [Bool.and_eq_true] at hb
    obtain ⟨hok, hcm⟩ := hb
    obtain ⟨_, hsrt, _⟩ := pairs_ok hok
    obtain ⟨s1, _, _, _⟩ := spot_ok hok ck
    obtain ⟨_, hm0⟩ := isCmd_val hcm
    rcases isCmd_kind hcm with rfl | rfl | rfl | rfl | rfl | rfl
    · exact refAp1 B c ao ps ck val m w h hok hcm hl hck hval
    · show Calls _ _ _ _ (RefApPost w ao c ps ps (tellRr 1 (spotV ck ps) (spotN ck ps)))
      by_cases e : spotN ck ps = 0
      · rw [show tellRr 1 (spotV ck ps) (spotN ck ps) = ⟨2, [], 0, []⟩ from if_pos e]
        exact refAp2N B c ao ps ck val m w h hok hcm e hl hck hval
      · rw [show tellRr 1 (spotV ck ps) (spotN ck ps) = ⟨1, spotV ck ps, spotN ck ps, []⟩ from if_neg e]
        exact refAp2Y B c ao ps ck val m w h hok hcm e hl hck hval
    · show Calls _ _ _ _ (RefApPost w ao c ps (dropP (spotN ck ps) (lowP ck ps) ps) (dropRr (spotN ck ps)))
      by_cases e : spotN ck ps = 0
      · rw [show dropRr (spotN ck ps) = ⟨2, [], 0, []⟩ from if_pos e, show dropP (spotN ck ps) (lowP ck ps) ps = ps from if_pos e]
        exact refAp3N B c ao ps ck val m w h hok hcm e hl hck hval
      · rw [show dropRr (spotN ck ps) = ⟨1, [], spotN ck ps, []⟩ from if_neg e, show dropP (spotN ck ps) (lowP ck ps) ps = delP (lowP ck ps) ps from if_neg e]
        exact refAp3Y B c ao ps ck val m w h hok hcm e hl hck hval
    · show Calls _ _ _ _ (RefApPost w ao c ps (swapP ck val m (spotN ck ps) (lowP ck ps) ps) (swapRr val (spotV ck ps) m (spotN ck ps) ps.length))
      by_cases e : spotN ck ps = m
      · rw [show swapP ck val m (spotN ck ps) (lowP ck ps) ps = putP ck val (spotN ck ps) (lowP ck ps) ps from if_pos e, show swapRr val (spotV ck ps) m (spotN ck ps) ps.length = putRr val (spotN ck ps) ps.length from if_pos e]
        exact refAp4P B c ao ps ck val m w h hok hcm e hl hck hval
      · rw [show swapP ck val m (spotN ck ps) (lowP ck ps) ps = ps from if_neg e, show swapRr val (spotV ck ps) m (spotN ck ps) ps.length = tellRr 3 (spotV ck ps) (spotN ck ps) from if_neg e]
        by_cases e0 : spotN ck ps = 0
        · rw [show tellRr 3 (spotV ck ps) (spotN ck ps) = ⟨2, [], 0, []⟩ from if_pos e0]
          exact refAp4N B c ao ps ck val m w h hok hcm e0 (fun x => e (by omega)) hl hck hval
        · rw [show tellRr 3 (spotV ck ps) (spotN ck ps) = ⟨3, spotV ck ps, spotN ck ps, []⟩ from if_neg e0]
          exact refAp4U B c ao ps ck val m w h hok hcm e0 e hl hck hval
    · exact refAp5 B c ao ps ck val m w h hok hcm hl hck hval
    · show Calls _ _ _ _ (RefApPost w ao c ps ps ⟨1, [], 0, (listP ck m (ps.drop (lowP ck ps))).map Pr.k⟩)
      rw [← foldL_is hsrt hm0]
      exact refAp6 B c ao ps ck val m w h hok hcm hl hck hval

set_option maxRecDepth 100000 in
set_option maxHeartbeats 1000000 in
theorem samePairs_any (B p1 p2 : Nat) (a1 a2 : Option Addr) (ps : List Pr) (w : World) (h1 : PairRow B w a1 ps) (h2 : PairRow B w a2 ps) (hl : (ps.length : Int) ≤ 9223372036854775807) :
    Calls Tryz.prog 37 #[.slice a1 ps.length p1, .slice a2 ps.length p2] w fun e w' => e = .returned (.bool true) ∧ Kept Nil w w' := by
  have S := sameTable_any B p1 p2 0 0 0 a1 a2 none none ps [] w h1 h2 (fun j hj => by simp at hj) (fun j hj => by simp at hj) hl (by simp)
  simp only [List.length_nil] at S
  go_enter Tryz.func37, Tryz.ntmps37
  go_wp2_with fail
  go_fit S
  rintro _ w1 ⟨rfl, k1⟩
  have K1 : Hid (Kept Nil w w1) := k1
  clear k1
  go_wp2
  go_ret
  exact ⟨rfl, K1.out⟩

theorem grown_set {w wr : World} {g i : Nat} (h : w.grownBy wr (some g)) (u : Value) : w.grownBy (wr.setCell ⟨g, i, none⟩ u) (some g) :=
  ⟨h.os, h.tape, h.output, by simpa [World.setCell] using h.size, fun j hj hne => by
    rw [Below.heap_setCell _ _ _ _ (fun e => hne (by rw [e]))]
    exact h.block j hj hne⟩
theorem grown_transK {a b c : World} {r : Option Nat} (h : a.grownBy b r) (k : b.grownBy c r) : a.grownBy c r :=
  ⟨k.os.trans h.os, k.tape.trans h.tape, k.output.trans h.output, Nat.le_trans h.size k.size, fun i hi hne => (k.block i (by have := h.size; omega) hne).trans (h.block i hi hne)⟩
theorem src_kv2 {w : World} (y z : Pr) : Src Tryz.prog 3 55 (.slice (some ⟨w.heap.size, 0, none⟩) 2 2) 2 [.string (bs y.k), .string (bs y.v), .int .i64 y.n, .string (bs z.k), .string (bs z.v), .int .i64 z.n] (w.alloc (.cells #[.string (bs y.k), .string (bs y.v), .int .i64 y.n, .string (bs z.k), .string (bs z.v), .int .i64 z.n] 63)) := by
  refine Src.ofSlice _ Tryz.underlying55 _ 2 2 _ rfl ?_ ?_
  · intro j u hj
    match j, hj with
    | 0, hj | 1, hj | 2, hj | 3, hj | 4, hj | 5, hj =>
      simp at hj
      subst hj
      simp [Addr.add]
  · intro u hu
    simp at hu
    rcases hu with rfl | rfl | rfl | rfl | rfl | rfl <;> rfl
theorem src_ky2 {w : World} (y z : List UInt8) : Src Tryz.prog 1 48 (.slice (some ⟨w.heap.size, 0, none⟩) 2 2) 2 [.string (bs y), .string (bs z)] (w.alloc (.cells #[.string (bs y), .string (bs z)] 9)) := by
  refine Src.ofSlice _ Tryz.underlying48 _ 2 2 _ rfl ?_ ?_
  · intro j u hj
    match j, hj with
    | 0, hj | 1, hj =>
      simp at hj
      subst hj
      simp [Addr.add]
  · intro u hu
    simp at hu
    rcases hu with rfl | rfl <;> rfl
theorem OwnP.frees {B c : Nat} {w : World} {ao : Option Addr} {ps : List Pr} (h : OwnP B w ao c ps) (h0 : 0 < ps.length) : ∃ g, ao = some ⟨g, 0, none⟩ ∧ ∀ j, (hj : j < ps.length) → w.cell? ⟨g, j * 3, none⟩ = some (.string (bs ps[j].k)) ∧ w.cell? ⟨g, j * 3 + 1, none⟩ = some (.string (bs ps[j].v)) ∧ w.cell? ⟨g, j * 3 + 2, none⟩ = some (.int .i64 ps[j].n) ∧ w.frozen? ⟨g, j * 3, none⟩ = false ∧ w.frozen? ⟨g, j * 3 + 1, none⟩ = false ∧ w.frozen? ⟨g, j * 3 + 2, none⟩ = false := by
  obtain ⟨g, e, _, _, hc⟩ := h.cells h0
  exact ⟨g, e, hc⟩

theorem OwnK.frees {B c : Nat} {w : World} {ao : Option Addr} {ks : List (List UInt8)} (h : OwnK B w ao c ks) (h0 : 0 < ks.length) : ∃ g cs, ao = some ⟨g, 0, none⟩ ∧ w.heap[g]? = some (.cells cs 9 (0, 0)) ∧ ks.length ≤ cs.size := by
  rcases h.2 with ⟨h1, _⟩ | ⟨g, cap, cur, hv, hb, hh, h1, h2, h3, h4⟩
  · simp at h1
    omega
  · simp only [Value.slice.injEq] at hv
    exact ⟨g, cur, hv.1, hh, by rw [h3]; omega⟩
theorem OwnK.set {B g c k : Nat} {w : World} {ks : List (List UInt8)} (h : OwnK B w (some ⟨g, 0, none⟩) c ks) (z : List UInt8) : OwnK B (w.setCell ⟨g, k, none⟩ (.string (bs z))) (some ⟨g, 0, none⟩) c (ks.set k z) := by
  have := own_setAtK h k (.string (bs z))
  unfold OwnK kyCells
  rw [List.length_set, List.map_set]
  exact this

set_option maxRecDepth 100000 in
set_option maxHeartbeats 2000000 in
theorem overTexts_any (B c : Nat) (ao : Option Addr) (ks : List (List UInt8)) (w : World) (h : OwnK B w ao c ks) (hB : B ≤ w.heap.size) (hl : ks.length ≤ 4000000) :
    Calls Tryz.prog 31 #[.slice ao ks.length c] w fun e w' => e = .returned (.tuple #[]) ∧ w.grownBy w' (Value.slice ao ks.length c).ownBlock := by
  obtain ⟨i0, hi, hz0, hz1, hz2⟩ := info_parts Tryz.infoSt
  have HO0 : Hid (OwnK B w ao c ks) := h
  clear h
  go_enter Tryz.func31, Tryz.ntmps31
  go_wp2
  go_loopw [2] (fun i wr => ∃ k : Nat, ∃ ys : List (List UInt8), k ≤ ks.length ∧ i = .int .i64 k ∧ Hid (ys.length = ks.length) ∧ Hid (OwnK B wr ao c ys) ∧ Hid (w.grownBy wr (Value.slice ao ks.length c).ownBlock)) (fun i _ => ks.length - (intOf i).toNat)
  case atStart => exact ⟨0, ks, Nat.zero_le _, rfl, rfl, HO0.out, grown_reflK _ _⟩
  case round =>
    obtain ⟨k, ys, hk, rfl, HL, HO, HG⟩ := hrel
    clear HO0
    rename World => wr
    by_cases hlt : k < ks.length
    · have hly : k < ys.length := by rw [HL.out]; exact hlt
      obtain ⟨g, cs, rfl, hb, hcl⟩ := HO.out.frees (by omega)
      have hki : (k : Int) < ks.length := by omega
      obtain ⟨u, hcell⟩ : ∃ u, wr.cell? ⟨g, k, none⟩ = some u := ⟨_, by rw [blk_cell hb, Array.getElem?_eq_getElem (by omega)]⟩
      have hfz : wr.frozen? ⟨g, k, none⟩ = false := blk_free hb k
      have HO2 : Hid (OwnK B (wr.setCell ⟨g, k, none⟩ (.string (bs [111, 118, 101, 114]))) (some ⟨g, 0, none⟩) c (ys.set k [111, 118, 101, 114])) := HO.out.set [111, 118, 101, 114]
      have HG2 : Hid (w.grownBy (wr.setCell ⟨g, k, none⟩ (.string (bs [111, 118, 101, 114]))) (Value.slice (some ⟨g, 0, none⟩) ks.length c).ownBlock) := grown_set HG.out _
      clear hb hcl
      go_wp2
      go_roundw
      case rel => exact ⟨k + 1, ys.set k [111, 118, 101, 114], by omega, by go_num, (List.length_set ..).trans HL.out, HO2.out, HG2.out⟩
      case measure => simp [intOf]; omega
    · have ho : wr.ownsRow B 9 1 (.slice ao ks.length c) ks.length (kyCells ys) := by have := HO.out; unfold OwnK at this; rw [HL.out] at this; exact this
      have HLL : Hid (ks.length + 2 ≤ maxLen ∧ (ks.length + 2) * 16 ≤ 140737488355328) := by constructor; unfold maxLen; omega; omega
      have HSZ : Hid (B ≤ wr.heap.size) := Nat.le_trans hB HG.out.size
      go_wp2_with (first | (at_builtin; go_must (refine wpList_append_src _ rfl _ _ 48 48 rfl B 9 i0 (.string ⟨#[]⟩) 1 16 Tryz.underlying48 hi hz0 hz1 hz2 rfl _ _ _ rfl (World.ownsRow.alloc ho _) (.slice (some ⟨wr.heap.size, 0, none⟩) 2 2) 2 [.string (bs [111, 118, 101, 114]), .string (bs [111, 118, 101, 114])] rfl (src_ky2 [111, 118, 101, 114] [111, 118, 101, 114]) HLL.out.1 HLL.out.2 (le_alloc HSZ.out _) ?_); intro ao' c' w2 ho' hg'; have HG2 : Hid (w.grownBy w2 (Value.slice ao ks.length c).ownBlock) := grown_transK (grown_allocK HG.out _) hg'; clear hg' ho'))
      go_end0
      exact ⟨rfl, HG2.out⟩

end Go.Proofs.YtflnjlbafchnaaaGreatDoor
