/-
  The law's own helpers: copies with something in their spare room, what is held, what is written over.
-/
import Derived.Test.YtcbeonhohbgnmaaWLogA
import Derived.Test.YtcbeonhohbgnmaaWLogB
import Derived.Test.YtcbeonhohbgnmaaWLog9
namespace Go.Proofs.Ytcbeonhohbgnmaa
open Go.RowKit

def e99 : En := ⟨99, 0, 0, []⟩
/-- A copy of a row, with something in its spare room. -/
def OwnX (B : Nat) (w : World) (ao : Option Addr) (c : Nat) (es : List En) : Prop := OwnEs B w ao c (es ++ [e99])

set_option maxRecDepth 100000 in
set_option maxHeartbeats 2000000 in
theorem entries_any (B c : Nat) (ao : Option Addr) (es : List En) (w : World) (h : EntRow B w ao es) (hl : (es.length : Int) ≤ 1099511627776) :
    Calls Try.prog 70 #[.slice ao es.length c] w fun e w' => ∃ ao' c', e = .returned (.slice ao' es.length c') ∧ OwnX w.heap.size w' ao' c' es ∧ Kept Nil w w' := by
  obtain ⟨i0, hii, hz0, hz1, hz2⟩ := info_parts Try.infoEn
  have HS : Hid (Src Try.prog 4 78 (.slice ao es.length c) es.length (enCells es) w) := h.src
  have HL1 : Hid (0 + es.length ≤ maxLen ∧ (0 + es.length) * 40 ≤ 140737488355328) := by constructor <;> (try unfold maxLen) <;> omega
  have HL2 : Hid (es.length + 1 ≤ maxLen ∧ (es.length + 1) * 40 ≤ 140737488355328) := by constructor <;> (try unfold maxLen) <;> omega
  clear h
  go_enter Try.func70, Try.ntmps70
  go_wp2_with (first | (at_builtin; refine wpList_append_src _ rfl _ _ 78 78 rfl w.heap.size 48 i0 (.agg #[.int .i64 0, .int .i64 0, .int .i64 0, .string ⟨#[]⟩]) 4 40 Try.underlying78 hii hz0 hz1 hz2 rfl (.slice none 0 0) 0 [] rfl (World.ownsRow_nil _ _ _ _) (.slice ao es.length c) es.length (enCells es) rfl HS.out HL1.out.1 HL1.out.2 (Nat.le_refl _) ?_; intro ao1 c1 w1 ho1 hg1; have HO1 : Hid (w1.ownsRow w.heap.size 48 4 (.slice ao1 es.length c1) es.length (enCells es)) := (by rw [Nat.zero_add, List.nil_append] at ho1; exact ho1); have HK1 : Hid (Kept Nil w w1) := (Kept.refl _ _).grown hg1 (fun k hk => by simp [Value.ownBlock] at hk); have HSZ : Hid (w.heap.size ≤ w1.heap.size) := HK1.out.size; rw [Nat.zero_add]; clear ho1 hg1) | (at_builtin; refine wpList_append_src _ rfl _ _ 78 78 rfl w.heap.size 48 i0 (.agg #[.int .i64 0, .int .i64 0, .int .i64 0, .string ⟨#[]⟩]) 4 40 Try.underlying78 hii hz0 hz1 hz2 rfl _ _ _ rfl (World.ownsRow.alloc HO1.out _) (.slice (some ⟨w1.heap.size, 0, none⟩) 1 1) 1 [.int .i64 99, .int .i64 0, .int .i64 0, .string (bs [])] rfl (src_en e99) HL2.out.1 HL2.out.2 (le_alloc HSZ.out _) ?_; intro ao2 c2 w2 ho2 hg2; have HO2 : Hid (OwnEs w.heap.size w2 ao2 c2 (es ++ [e99])) := OwnEs.push ho2; have HK2 : Hid (Kept Nil w w2) := (HK1.out.alloc _).grown hg2 (fun k hk => by have := own_row HO1.out k hk; omega); have hcap2 : (es.length : Int) ≤ c2 := (by have hcap := own_capE HO2.out; rw [List.length_append] at hcap; simp only [List.length_cons, List.length_nil] at hcap; omega); clear ho2 hg2))
  go_ret
  exact ⟨ao2, c2, rfl, HO2.out, HK2.out⟩

set_option maxRecDepth 100000 in
set_option maxHeartbeats 1000000 in
theorem logOf_any (B c : Nat) (base bt : Int) (ao : Option Addr) (es : List En) (w : World) (h : EntRow B w ao es) (hl : (es.length : Int) ≤ 1099511627776) :
    Calls Try.prog 69 #[.agg #[.int .i64 base, .int .i64 bt, .slice ao es.length c]] w fun e w' => ∃ ao' c', e = .returned (.agg #[.int .i64 base, .int .i64 bt, .slice ao' es.length c']) ∧ OwnX w.heap.size w' ao' c' es ∧ Kept Nil w w' := by
  obtain ⟨q1, q2⟩ : ((w.alloc (.cells #[.int .i64 base, .int .i64 bt, .slice ao es.length c] 108)).alloc (.cells #[.int .i64 0, .int .i64 0, .slice none 0 0] 108)).heap[w.heap.size]? = some (.cells #[.int .i64 base, .int .i64 bt, .slice ao es.length c] 108 (0, 0)) ∧ ((w.alloc (.cells #[.int .i64 base, .int .i64 bt, .slice ao es.length c] 108)).alloc (.cells #[.int .i64 0, .int .i64 0, .slice none 0 0] 108)).heap[w.heap.size + 1]? = some (.cells #[.int .i64 0, .int .i64 0, .slice none 0 0] 108 (0, 0)) := by
    refine ⟨blk_past (blk_new w _) _, ?_⟩
    have := blk_new (w.alloc (.cells #[.int .i64 base, .int .i64 bt, .slice ao es.length c] 108)) (.cells #[.int .i64 0, .int .i64 0, .slice none 0 0] 108)
    rwa [show (w.alloc (.cells #[.int .i64 base, .int .i64 bt, .slice ao es.length c] 108)).heap.size = w.heap.size + 1 by simp] at this
  have HQ : Hid (_ ∧ _) := ⟨q1, q2⟩
  have C := entries_any B c ao es _ ((h.alloc (.cells #[.int .i64 base, .int .i64 bt, .slice ao es.length c] 108)).alloc (.cells #[.int .i64 0, .int .i64 0, .slice none 0 0] 108)) hl
  clear h hl q1 q2
  go_enter Try.func69, Try.ntmps69
  go_wp2_with fail
  refine C.mono ?_
  rintro e w1 ⟨ao', c', rfl, o1, k1⟩
  have B1 := k1.block _ _ HQ.out.1 (fun x => x.elim)
  have B2 := k1.block _ _ HQ.out.2 (fun x => x.elim)
  have x0 := blk_at B1 0 rfl
  have x1 := blk_at B1 1 rfl
  have x2 := blk_at B1 2 rfl
  have y2 := blk_free B1 2
  have z0 := blk_at B2 0 rfl
  have z1 := blk_at B2 1 rfl
  have z2 := blk_at B2 2 rfl
  have f0 := blk_free B2 0
  have f1 := blk_free B2 1
  have f2 := blk_free B2 2
  have HO : Hid (OwnX (w.heap.size + 2) w1 ao' c' es) := own_mono o1 (by simp)
  have HK : Hid (Kept Nil w w1) := (((Kept.refl _ _).alloc _).alloc _).trans k1
  clear o1 k1 B1 B2 C
  go_wp2
  refine bodyPost_ret (v := .agg #[.int .i64 base, .int .i64 bt, .slice ao' es.length c']) (by simp [results, Try.results69, go_sem, z0, z1, z2]) rfl ?_
  have hw0 : w.heap.size < w.heap.size + 2 := by omega
  have hw1 : w.heap.size + 1 < w.heap.size + 2 := by omega
  exact ⟨ao', c', rfl, own_mono (ownsRow_setCell_below (ownsRow_setCell_below (ownsRow_setCell_below (ownsRow_setCell_below HO.out hw0 _) hw1 _) hw1 _) hw1 _) (by omega), (((HK.out.setNew (Nat.le_refl _) _).setNew (Nat.le_succ _) _).setNew (Nat.le_succ _) _).setNew (Nat.le_succ _) _⟩

theorem OwnX.row {B c : Nat} {w : World} {ao : Option Addr} {es : List En} (h : OwnX B w ao c es) (hs : ∀ e ∈ es, e.dt.length ≤ maxLen) : EntRow w.heap.size w ao es := by
  have := (OwnEs.row h (fun e he => by
    rcases List.mem_append.mp he with he | he
    · exact hs e he
    · simp at he; subst he; simp [e99])).take es.length
  rw [List.take_left] at this
  exact this

set_option maxRecDepth 100000 in
set_option maxHeartbeats 2000000 in
theorem heldEntries_any (B1 B2 c d : Nat) (ao bo : Option Addr) (es : List En) (w : World) (h1 : OwnX B1 w ao c es) (h2 : EntRow B2 w bo es) (hl : (es.length : Int) ≤ 1099511627776) :
    Calls Try.prog 84 #[.slice ao es.length c, .slice bo es.length d] w fun e w' => e = .returned (.bool true) ∧ Kept Nil w w' := by
  have S := sameEntries_yes w.heap.size B2 c d ao bo es w (h1.row h2.small) h2 (by omega)
  have hcap := own_capE h1
  rw [List.length_append] at hcap
  simp only [List.length_cons, List.length_nil] at hcap
  obtain ⟨g, rfl, _, hg, hcl⟩ := own_cellE h1 (by simp)
  have hat := (enCells_at (es ++ [e99]) es.length (by simp)).1
  simp only [List.getElem_append_right (Nat.le_refl es.length), Nat.sub_self, List.getElem_cons_zero, e99] at hat
  have HC : Hid (w.cell? ⟨g, es.length * 4, none⟩ = some (.int .i64 99)) := hcl _ _ hat
  have hc1 : (es.length : Int) + 1 ≤ c := by omega
  clear hcl hat h1 h2
  go_enter Try.func84, Try.ntmps84
  go_wp2_with fail
  refine S.mono ?_
  rintro e w1 ⟨rfl, k1⟩
  have hx : w1.cell? ⟨g, es.length * 4, none⟩ = some (.int .i64 99) := cell_kept k1 (fun _ x => x) HC.out
  have hx2 : w1.cell? ((⟨g, 0, none⟩ : Addr).add (es.length * 4)) = some (.int .i64 99) := by rw [addr_addE]; exact hx
  have HK : Hid (Kept Nil w w1) := k1
  clear k1
  go_wp2
  go_ret
  exact ⟨rfl, HK.out⟩

end Go.Proofs.Ytcbeonhohbgnmaa
