/-
  TermAt and Fresh, and slices.Clone at entries: the program's.
-/
import Derived.Test.YtopdgkebbdheiaaWOld
import Derived.Lib.SliceRun
namespace Go.Proofs.Ytopdgkebbdheiaa
open Go.RowKit

set_option maxRecDepth 100000 in
set_option maxHeartbeats 1000000 in
theorem termAt_any (B c : Nat) (base bt i : Int) (ao : Option Addr) (es : List En) (w : World) (h : EntRow B w ao es) (hb : 0 ≤ base ∧ base ≤ 1099511627775) (hl : (es.length : Int) ≤ 281474976710656) (hi : -4611686018427387904 ≤ i ∧ i ≤ 4611686018427387904) :
    Calls Try.prog 81 #[.agg #[.int .i64 base, .int .i64 bt, .slice ao es.length c], .int .i64 i] w fun e w' => e = .returned (.tuple #[.int .i64 (tAt base bt es i).1, .int .i64 (tAt base bt es i).2]) ∧ Kept Nil w w' := by
  obtain ⟨hi0, hi1⟩ := hi
  have HR : Hid (EntRow B w ao es) := h
  have L := fun w' (hk : Kept Nil w w') => last_any B c base bt ao es w' (HR.out.nil hk) hb hl
  have HBN : Hid (_) := blk_new w (.cells #[.int .i64 base, .int .i64 bt, .slice ao es.length c] 53)
  obtain ⟨hb0, hb1⟩ := hb
  clear h
  by_cases h1 : i < base
  · have e1 : tAt base bt es i = (0, 11) := if_pos h1
    rw [e1]
    go_enter Try.func81, Try.ntmps81
    go_wp2
    go_ret2
    exact ⟨rfl, (Kept.refl _ _).alloc _⟩
  · by_cases h2 : base + es.length < i
    · have e1 : tAt base bt es i = (0, 12) := (if_neg h1).trans (if_pos h2)
      rw [e1]
      clear e1
      go_enter Try.func81, Try.ntmps81
      go_wp2_with fail
      refine (L _ ((Kept.refl _ _).alloc _)).mono ?_
      rintro e w1 ⟨rfl, k1⟩
      have KK : Hid (Kept Nil w w1) := ((Kept.refl _ _).alloc _).trans k1
      clear k1
      go_wp2
      go_ret2
      exact ⟨rfl, KK.out⟩
    · have e1 : tAt base bt es i = (tmAt bt es (i - base).toNat, 0) := (if_neg h1).trans (if_neg h2)
      have T := fun w' (hk : Kept Nil w w') => termBehind_any B c (i - base) base bt ao es w' (HR.out.nil hk) (by omega) (by omega) hl
      rw [e1]
      generalize tmAt bt es (i - base).toNat = t at T
      clear e1
      go_enter Try.func81, Try.ntmps81
      go_wp2_with fail
      refine (L _ ((Kept.refl _ _).alloc _)).mono ?_
      rintro e w1 ⟨rfl, k1⟩
      have KK : Hid (Kept Nil w w1) := ((Kept.refl _ _).alloc _).trans k1
      have B1 := k1.block _ _ HBN.out (fun x => x.elim)
      have c0 := blk_at B1 0 rfl
      have c1 := blk_at B1 1 rfl
      have c2 := blk_at B1 2 rfl
      clear k1 B1
      go_wp2_with fail
      refine (T _ KK.out).mono ?_
      rintro e w2 ⟨rfl, k2⟩
      go_wp2
      go_ret2
      exact ⟨rfl, KK.out.trans k2⟩

/-- Fresh: is a log that ends so as far? -/
def freshB (base bt : Int) (es : List En) (index term : Int) : Bool := decide (tmAt bt es es.length < term) || (decide (term = tmAt bt es es.length) && decide (base + es.length ≤ index))

/-! ### the library's Clone at entries -/
theorem add_posE (a : Addr) {i : Nat} (h : 0 < i) : a.add i = ⟨a.block, a.off + i, none⟩ := by unfold Addr.add; rw [if_neg (by omega)]
theorem Try.infoEn : (Try.prog.info? 57).map (fun i => (i.zero, i.size, i.bytes)) = some (some (.agg #[.int .i64 0, .int .i64 0, .int .i64 0, .string ⟨#[]⟩]), 4, 40) := by kernel_rfl
theorem EntRow.src {B c : Nat} {w : World} {ao : Option Addr} {es : List En} (h : EntRow B w ao es) : Src Try.prog 4 51 (.slice ao es.length c) es.length (enCells es) w := by
  cases hes : es with
  | nil =>
    cases ao with
    | none => exact Src.ofNil _ Try.underlying51 c
    | some a => exact Src.ofSlice _ Try.underlying51 a 0 c [] rfl (fun j u hj => by simp at hj) (fun u hu => by simp at hu)
  | cons x t =>
    rw [← hes]
    obtain ⟨a, rfl, _⟩ := h 0 (by rw [hes]; simp)
    refine Src.ofSlice _ Try.underlying51 a es.length c _ (enCells_len es) ?_ ?_
    · intro j u hj
      have hlt : j < es.length * 4 := by
        rw [← enCells_len]
        exact (List.getElem?_eq_some_iff.1 hj).1
      obtain ⟨a', e, _, q0, q1, q2, q3, _⟩ := h (j / 4) (by omega)
      simp only [Option.some.injEq] at e
      subst e
      obtain ⟨p0, p1, p2, p3⟩ := enCells_at es (j / 4) (by omega)
      have hadd : ∀ r, 0 < r → j = j / 4 * 4 + r → a.add j = ⟨(a.add (j / 4 * 4)).block, (a.add (j / 4 * 4)).off + r, none⟩ := fun r hr hj => by
        generalize j / 4 * 4 = m at hj ⊢
        rw [hj, ← addr_add2]
        exact add_posE _ hr
      rcases (show j = j / 4 * 4 ∨ j = j / 4 * 4 + 1 ∨ j = j / 4 * 4 + 2 ∨ j = j / 4 * 4 + 3 by omega) with e | e | e | e
      · rw [e] at hj ⊢; rw [p0] at hj; rw [← hj]; exact q0
      · rw [hadd 1 (by omega) e]; rw [e, p1] at hj; rw [← hj]; exact q1
      · rw [hadd 2 (by omega) e]; rw [e, p2] at hj; rw [← hj]; exact q2
      · rw [hadd 3 (by omega) e]; rw [e, p3] at hj; rw [← hj]; exact q3
    · intro u hu
      obtain ⟨e, _, hu⟩ := List.mem_flatMap.1 hu
      simp at hu
      rcases hu with rfl | rfl | rfl | rfl <;> rfl

set_option maxRecDepth 100000 in
set_option maxHeartbeats 1000000 in
theorem cloneE_any (B c : Nat) (ao : Option Addr) (es : List En) (w : World) (h : EntRow B w ao es) (hn : ao = none → es = [] ∧ c = 0) (hl : es.length * 40 ≤ 140737488355328) :
    Calls Try.prog 105 #[.slice ao es.length c] w fun e w' => ∃ ao' c', e = .returned (.slice ao' es.length c') ∧ OwnEs w.heap.size w' ao' c' es ∧ Kept Nil w w' := by
  cases ao with
  | none =>
    obtain ⟨rfl, rfl⟩ := hn rfl
    have hnil : ∀ w : World, (binOp .eql 51 (.slice none 0 0) (.slice none 0 0)).run Try.prog w = .ok (.bool true) w := fun w => Lib.run_eql_slice_nil w 51 57 none 0 0 0 0 Try.underlying51
    go_enter Try.func105, Try.ntmps105
    go_wp2
    go_ret
    exact ⟨none, 0, rfl, World.ownsRow_nil _ _ _ _, Kept.refl _ _⟩
  | some a =>
    obtain ⟨i0, hi, hz0, hz1, hz2⟩ := info_parts Try.infoEn
    have HS : Hid (Src Try.prog 4 51 (.slice (some a) es.length c) es.length (enCells es) (w.alloc (.cells #[] 57))) := (h.alloc _).src
    have HO : Hid ((w.alloc (.cells #[] 57)).ownsRow w.heap.size 57 4 (.slice (some ⟨w.heap.size, 0, none⟩) 0 0) 0 []) := World.ownsRow_lit w #[] 0 (Nat.le_refl _) (by decide) rfl
    have HLL : Hid (0 + es.length ≤ maxLen ∧ (0 + es.length) * 40 ≤ 140737488355328) := by constructor <;> (try unfold maxLen) <;> omega
    have hnil : ∀ w : World, (binOp .eql 51 (.slice (some a) es.length c) (.slice none 0 0)).run Try.prog w = .ok (.bool false) w := fun w => Lib.run_eql_slice_nil w 51 57 (some a) es.length c 0 0 Try.underlying51
    clear h hn hl
    go_enter Try.func105, Try.ntmps105
    go_wp2_with (at_builtin; go_must (refine wpList_append_src _ rfl _ _ 51 51 rfl w.heap.size 57 i0 (.agg #[.int .i64 0, .int .i64 0, .int .i64 0, .string ⟨#[]⟩]) 4 40 Try.underlying51 hi hz0 hz1 hz2 rfl _ _ _ rfl HO.out (.slice (some a) es.length c) es.length (enCells es) rfl HS.out HLL.out.1 HLL.out.2 (by simp) ?_); intro ao' c' w1 ho' hg'; have HO1 : Hid (w1.ownsRow w.heap.size 57 4 (.slice ao' (0 + es.length) c') (0 + es.length) ([] ++ enCells es)) := ho'; have HG1 : Hid _ := hg'; clear ho' hg')
    go_ret
    have ho := HO1.out
    rw [Nat.zero_add, List.nil_append] at ho
    exact ⟨ao', c', rfl, ho, ((Kept.refl _ _).alloc _).grown HG1.out (fun k hk => own_row HO.out k hk)⟩

set_option maxRecDepth 100000 in
set_option maxHeartbeats 1000000 in
theorem logClone_any (B c : Nat) (base bt : Int) (ao : Option Addr) (es : List En) (w : World) (h : EntRow B w ao es) (hn : ao = none → es = [] ∧ c = 0) (hl : es.length * 40 ≤ 140737488355328) :
    Calls Try.prog 80 #[.agg #[.int .i64 base, .int .i64 bt, .slice ao es.length c]] w fun e w' => ∃ ao' c', e = .returned (.agg #[.int .i64 base, .int .i64 bt, .slice ao' es.length c']) ∧ OwnEs w.heap.size w' ao' c' es ∧ Kept Nil w w' := by
  obtain ⟨q1, q2⟩ : ((w.alloc (.cells #[.int .i64 base, .int .i64 bt, .slice ao es.length c] 53)).alloc (.cells #[.int .i64 0, .int .i64 0, .slice none 0 0] 53)).heap[w.heap.size]? = some (.cells #[.int .i64 base, .int .i64 bt, .slice ao es.length c] 53 (0, 0)) ∧ ((w.alloc (.cells #[.int .i64 base, .int .i64 bt, .slice ao es.length c] 53)).alloc (.cells #[.int .i64 0, .int .i64 0, .slice none 0 0] 53)).heap[w.heap.size + 1]? = some (.cells #[.int .i64 0, .int .i64 0, .slice none 0 0] 53 (0, 0)) := by
    refine ⟨blk_past (blk_new w _) _, ?_⟩
    have := blk_new (w.alloc (.cells #[.int .i64 base, .int .i64 bt, .slice ao es.length c] 53)) (.cells #[.int .i64 0, .int .i64 0, .slice none 0 0] 53)
    rwa [show (w.alloc (.cells #[.int .i64 base, .int .i64 bt, .slice ao es.length c] 53)).heap.size = w.heap.size + 1 by simp] at this
  have HQ : Hid (_ ∧ _) := ⟨q1, q2⟩
  have C := cloneE_any B c ao es _ ((h.alloc (.cells #[.int .i64 base, .int .i64 bt, .slice ao es.length c] 53)).alloc (.cells #[.int .i64 0, .int .i64 0, .slice none 0 0] 53)) hn hl
  clear h hn hl q1 q2
  go_enter Try.func80, Try.ntmps80
  go_wp2_with fail
  refine C.mono ?_
  rintro e w1 ⟨ao', c', rfl, o1, k1⟩
  have B1 := k1.block _ _ HQ.out.1 (fun x => x.elim)
  have B2 := k1.block _ _ HQ.out.2 (fun x => x.elim)
  have x0 := blk_at B1 0 rfl
  have x1 := blk_at B1 1 rfl
  have x2 := blk_at B1 2 rfl
  have y2 := blk_free B1 2
  have z0 := blk_at B2 0 rfl
  have z1 := blk_at B2 1 rfl
  have z2 := blk_at B2 2 rfl
  have f0 := blk_free B2 0
  have f1 := blk_free B2 1
  have f2 := blk_free B2 2
  have HO : Hid (OwnEs (w.heap.size + 2) w1 ao' c' es) := own_mono o1 (by simp)
  have HK : Hid (Kept Nil w w1) := (((Kept.refl _ _).alloc _).alloc _).trans k1
  clear o1 k1 B1 B2 C
  go_wp2
  refine bodyPost_ret (v := .agg #[.int .i64 base, .int .i64 bt, .slice ao' es.length c']) (by simp [results, Try.results80, go_sem, z0, z1, z2]) rfl ?_
  have hw0 : w.heap.size < w.heap.size + 2 := by omega
  have hw1 : w.heap.size + 1 < w.heap.size + 2 := by omega
  exact ⟨ao', c', rfl, own_mono (ownsRow_setCell_below (ownsRow_setCell_below (ownsRow_setCell_below (ownsRow_setCell_below HO.out hw0 _) hw1 _) hw1 _) hw1 _) (by omega), (((HK.out.setNew (Nat.le_refl _) _).setNew (Nat.le_succ _) _).setNew (Nat.le_succ _) _).setNew (Nat.le_succ _) _⟩

end Go.Proofs.Ytopdgkebbdheiaa
