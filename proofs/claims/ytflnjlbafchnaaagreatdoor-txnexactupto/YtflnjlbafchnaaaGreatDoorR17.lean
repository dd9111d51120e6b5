/-
  Joined: WTxC.
-/
import Derived.Test.YtflnjlbafchnaaaGreatDoorR16
/-
  Transactions: Look; slices.Clone of numbers and of parts; isPart (the program).
-/
namespace Go.Proofs.YtflnjlbafchnaaaGreatDoor
open Go.RowKit

theorem intC_len (zs : List Int) : (intC zs).length = zs.length := by simp [intC]
theorem OwnI.src {B c : Nat} {w : World} {ao : Option Addr} {zs : List Int} (h : OwnI B w ao c zs) : Src Tryz.prog 1 37 (.slice ao zs.length c) zs.length (intC zs) w := by
  rcases h.2 with ⟨h1, _⟩ | ⟨g, cap, cur, hv, hb, hh, h1, h2, h3, h4⟩
  · simp only [Value.slice.injEq] at h1
    obtain ⟨rfl, h2, h3⟩ := h1
    have : zs = [] := List.eq_nil_of_length_eq_zero h2
    subst this
    exact Src.ofNil _ Tryz.underlying37 c
  · simp only [Value.slice.injEq] at hv
    obtain ⟨rfl, _, _⟩ := hv
    refine Src.ofSlice _ Tryz.underlying37 ⟨g, 0, none⟩ zs.length c _ (by rw [intC_len, Nat.mul_one]) ?_ ?_
    · intro j u hj
      rw [Addr.add_lit, blk_cell hh]
      have := congrArg (fun l : List Value => l[j]?) h4
      have hlt : j < zs.length * 1 := by
        have := (List.getElem?_eq_some_iff.1 hj).1
        rw [intC_len] at this
        omega
      simp only [List.getElem?_take, if_pos hlt, Array.getElem?_toList] at this
      rw [Nat.zero_add, this]
      exact hj
    · intro u hu
      unfold intC at hu
      obtain ⟨z, _, rfl⟩ := List.mem_map.1 hu
      rfl
set_option maxRecDepth 100000 in
set_option maxHeartbeats 1000000 in
theorem cloneO_any (B c : Nat) (ao : Option Addr) (zs : List Int) (w : World) (h : OwnI B w ao c zs) (hl : zs.length ≤ 1000) :
    Calls Tryz.prog 57 #[.slice ao zs.length c] w fun e w' => ∃ ao' c', e = .returned (.slice ao' zs.length c') ∧ OwnI w.heap.size w' ao' c' zs ∧ Kept Nil w w' := by
  cases ao with
  | none =>
    obtain ⟨rfl, rfl⟩ : zs = [] ∧ c = 0 := by
      rcases h.2 with ⟨h1, _⟩ | ⟨g, cap, cur, hv, _⟩
      · simp at h1
        exact ⟨h1.1, h1.2⟩
      · simp at hv
    have hnil : ∀ w : World, (binOp .eql 37 (.slice none 0 0) (.slice none 0 0)).run Tryz.prog w = .ok (.bool true) w := fun w => Lib.run_eql_slice_nil w 37 3 none 0 0 0 0 Tryz.underlying37
    go_enter Tryz.func57, Tryz.ntmps57
    go_wp2
    go_ret
    exact ⟨none, 0, rfl, World.ownsRow_nil _ _ _ _, Kept.refl _ _⟩
  | some a =>
    obtain ⟨i0, hi, hz0, hz1, hz2⟩ := info_parts Tryz.infoI2
    have HS : Hid (Src Tryz.prog 1 37 (.slice (some a) zs.length c) zs.length (intC zs) (w.alloc (.cells #[] 3))) := (h.kept ((Kept.refl _ _).alloc _)).src
    have HO : Hid ((w.alloc (.cells #[] 3)).ownsRow w.heap.size 3 1 (.slice (some ⟨w.heap.size, 0, none⟩) 0 0) 0 []) := World.ownsRow_lit w #[] 0 (Nat.le_refl _) (by decide) rfl
    have HLL : Hid (0 + zs.length ≤ maxLen ∧ (0 + zs.length) * 8 ≤ 140737488355328) := by constructor <;> (try unfold maxLen) <;> omega
    have hnil : ∀ w : World, (binOp .eql 37 (.slice (some a) zs.length c) (.slice none 0 0)).run Tryz.prog w = .ok (.bool false) w := fun w => Lib.run_eql_slice_nil w 37 3 (some a) zs.length c 0 0 Tryz.underlying37
    clear h hl
    go_enter Tryz.func57, Tryz.ntmps57
    go_wp2_with (at_builtin; go_must (refine wpList_append_src _ rfl _ _ 37 37 rfl w.heap.size 3 i0 (.int .i64 0) 1 8 Tryz.underlying37 hi hz0 hz1 hz2 rfl _ _ _ rfl HO.out (.slice (some a) zs.length c) zs.length (intC zs) rfl HS.out HLL.out.1 HLL.out.2 (by simp) ?_); intro ao' c' w1 ho' hg'; have HO1 : Hid (w1.ownsRow w.heap.size 3 1 (.slice ao' (0 + zs.length) c') (0 + zs.length) ([] ++ intC zs)) := ho'; have HG1 : Hid _ := hg'; clear ho' hg')
    go_ret
    have ho := HO1.out
    rw [Nat.zero_add, List.nil_append] at ho
    exact ⟨ao', c', rfl, ho, ((Kept.refl _ _).alloc _).grown HG1.out (fun k hk => own_row HO.out k hk)⟩

def LkPost (w : World) (t : Tx) (e : Ending) (w' : World) : Prop := ∃ ao c, e = .returned (.agg #[.int .i64 t.st, .slice ao t.old.length c]) ∧ OwnI w.heap.size w' ao c t.old ∧ Kept Nil w w'
set_option maxRecDepth 100000 in
set_option maxHeartbeats 2000000 in
theorem look_any (w : World) (b : Nat) (t : Tx) (ap oo : Option Addr) (cp oc : Nat) (h : TxAt w b t ap oo cp oc) (B : Nat) (hO : OwnI B w oo oc t.old) (hl : t.old.length ≤ 1000) :
    Calls Tryz.prog 14 #[.pointer (some ⟨b, 0, none⟩)] w (LkPost w t) := by
  have hlt : b < w.heap.size := lt_of_block h
  obtain ⟨W, hW⟩ : ∃ W, W = w.alloc (.cells #[.int .i64 0, .slice none 0 0] 39) := ⟨_, rfl⟩
  obtain ⟨A, HAe⟩ : ∃ A, Hid (A = w.heap.size) := ⟨_, rfl⟩
  have HAw : Hid (w.heap.size ≤ A) := by show _ ≤ _; rw [HAe.out]; exact Nat.le_refl _
  have KW : Hid (Kept Nil w W) := by rw [hW]; exact (Kept.refl _ _).alloc _
  have HAW : Hid (W.heap[A]? = some (.cells #[.int .i64 0, .slice none 0 0] 39 (0, 0))) := by rw [hW, HAe.out]; exact blk_new _ _
  have HTW : Hid (TxAt W b t ap oo cp oc) := by rw [hW]; exact h.past _
  have HWs : Hid (w.heap.size ≤ W.heap.size) := KW.out.size
  have HOW : Hid (OwnI B W oo oc t.old) := hO.kept KW.out
  have SS : ∀ X, Kept Nil W X → X.cell? ⟨b, 2, none⟩ = some (.int .i64 t.st) ∧ X.cell? ⟨b, 3, none⟩ = some (.slice oo t.old.length oc) := fun X kX => ⟨blk_at (HTW.out.kept kX) 2 rfl, blk_at (HTW.out.kept kX) 3 rfl⟩
  have CL := cloneO_any B oc oo t.old W.drew (HOW.out.kept ((Kept.refl _ _).drew)) hl
  have KD : Hid (Kept Nil W W.drew) := (Kept.refl _ _).drew
  have hAb : A ≠ b := by rw [HAe.out]; omega
  have hbA : b ≠ A := fun e => hAb e.symm
  have s0 := SS W (Kept.refl _ _)
  clear h hO hl
  go_enter Tryz.func14, Tryz.ntmps14
  go_upto_region 1 with fail
  rw [← hW, ← HAe.out]
  clear hW
  go_region_held3 (fun w' => w'.cell? ⟨b, 2, none⟩ = some (.int .i64 t.st) ∧ w'.cell? ⟨b, 3, none⟩ = some (.slice oo t.old.length oc)) (first | assumption | go_keep) (first | (go_at_call 57; go_must (go_fit CL; rintro e wa ⟨a1, c1, rfl, o1, k1⟩; have Ka : Hid (Kept Nil W wa) := KD.out.trans k1; have Oa : Hid (OwnI w.heap.size wa a1 c1 t.old) := own_mono o1 HWs.out; have sa := SS wa Ka.out; have BR := Ka.out.block _ _ HAW.out (fun x => x.elim); have r0 := blk_at BR 0 rfl; have r1 := blk_at BR 1 rfl; have z0 := blk_free BR 0; have z1 := blk_free BR 1; clear BR o1 k1)))
  all_goals
    obtain ⟨V, hV⟩ : ∃ V, V = (wa.setCell ⟨A, 0, none⟩ (.int .i64 t.st)).setCell ⟨A, 1, none⟩ (.slice a1 t.old.length c1) := ⟨_, rfl⟩
    have HV : Hid (V.heap[A]? = some (.cells #[.int .i64 t.st, .slice a1 t.old.length c1] 39 (0, 0)) ∧ Kept Nil w V ∧ OwnI w.heap.size V a1 c1 t.old) := by
      have BR := Ka.out.block _ _ HAW.out (fun x => x.elim)
      have hne : ∀ a, a1 = some a → a.block ≠ A := fun a ha e => by
        obtain ⟨_, cur, fr, hb⟩ := Oa.out.lt a ha
        rw [e, BR] at hb
        simp at hb
      rw [hV]
      exact ⟨blk_set (blk_set BR 0 _) 1 _, ((KW.out.trans Ka.out).setNew (p := ⟨A, 0, none⟩) HAw.out _).setNew (p := ⟨A, 1, none⟩) HAw.out _, Oa.out.keptX (((Kept.refl (One A) _).setCell (p := ⟨A, 0, none⟩) (fun _ => rfl) _).setCell (p := ⟨A, 1, none⟩) (fun _ => rfl) _) (fun a ha _ x => hne a ha x)⟩
    clear r0 r1 z0 z1
    rw [← hV]
    clear hV
    go_wp2
    have j0 := blk_at HV.out.1 0 rfl
    have j1 := blk_at HV.out.1 1 rfl
    exact bodyPost_ret (v := .agg #[.int .i64 t.st, .slice a1 t.old.length c1]) (by simp [results, Tryz.results14, go_sem, j0, j1]) rfl ⟨a1, c1, rfl, HV.out.2.2, HV.out.2.1⟩

/-! ### parts -/
theorem Tryz.infoPt : (Tryz.prog.info? 29).map (fun i => (i.zero, i.size, i.bytes)) = some (some (.agg #[.string ⟨#[]⟩, .int .i64 0]), 2, 24) := by kernel_rfl
theorem ptCells_one (ps : List Pt) : ∀ u ∈ ptCells ps, u.oneCell' = true := by
  intro u hu
  unfold ptCells at hu
  obtain ⟨p, _, hp⟩ := List.mem_flatMap.1 hu
  simp at hp
  rcases hp with rfl | rfl <;> rfl
theorem PtRow.src {B c : Nat} {w : World} {ao : Option Addr} {ps : List Pt} (h : PtRow B w ao ps) : Src Tryz.prog 2 22 (.slice ao ps.length c) ps.length (ptCells ps) w := by
  cases hes : ps with
  | nil =>
    cases ao with
    | none => exact Src.ofNil _ Tryz.underlying22 c
    | some a => exact Src.ofSlice _ Tryz.underlying22 a 0 c [] rfl (fun j u hj => by simp at hj) (fun u hu => by simp at hu)
  | cons x t =>
    rw [← hes]
    obtain ⟨a, rfl, _⟩ := h 0 (by rw [hes]; simp)
    refine Src.ofSlice _ Tryz.underlying22 a ps.length c _ (ptCells_len ps) ?_ (ptCells_one ps)
    intro j u hj
    have hlt : j < ps.length * 2 := by have := (List.getElem?_eq_some_iff.1 hj).1; rwa [ptCells_len] at this
    obtain ⟨a', e, _, q0, q1⟩ := h (j / 2) (by omega)
    simp only [Option.some.injEq] at e
    subst e
    obtain ⟨e1, e2⟩ := ptCells_at ps (j / 2) (by omega)
    rcases (show j = j / 2 * 2 ∨ j = j / 2 * 2 + 1 by omega) with e | e
    · rw [e] at hj ⊢; rw [e1] at hj; rw [← hj]; exact q0
    · have hadd : a.add j = ⟨(a.add (j / 2 * 2)).block, (a.add (j / 2 * 2)).off + 1, none⟩ := by
        generalize j / 2 * 2 = m at e ⊢
        rw [e, ← addr_add2]
        exact add_posE _ (by omega)
      rw [hadd]; rw [e, e2] at hj; rw [← hj]; exact q1
set_option maxRecDepth 100000 in
set_option maxHeartbeats 1000000 in
theorem cloneT_any (B c : Nat) (a : Addr) (ps : List Pt) (w : World) (h : PtRow B w (some a) ps) (hl : ps.length ≤ 1000) :
    Calls Tryz.prog 43 #[.slice (some a) ps.length c] w fun e w' => ∃ ao' c', e = .returned (.slice ao' ps.length c') ∧ OwnT w.heap.size w' ao' c' ps ∧ Kept Nil w w' := by
  obtain ⟨i0, hi, hz0, hz1, hz2⟩ := info_parts Tryz.infoPt
  have HS : Hid (Src Tryz.prog 2 22 (.slice (some a) ps.length c) ps.length (ptCells ps) (w.alloc (.cells #[] 29))) := (h.keptX ((Kept.refl Nil _).alloc _) (fun _ _ _ x => x.elim)).src
  have HO : Hid ((w.alloc (.cells #[] 29)).ownsRow w.heap.size 29 2 (.slice (some ⟨w.heap.size, 0, none⟩) 0 0) 0 []) := World.ownsRow_lit w #[] 0 (Nat.le_refl _) (by decide) rfl
  have HLL : Hid (0 + ps.length ≤ maxLen ∧ (0 + ps.length) * 24 ≤ 140737488355328) := by constructor <;> (try unfold maxLen) <;> omega
  have hnil : ∀ w : World, (binOp .eql 22 (.slice (some a) ps.length c) (.slice none 0 0)).run Tryz.prog w = .ok (.bool false) w := fun w => Lib.run_eql_slice_nil w 22 29 (some a) ps.length c 0 0 Tryz.underlying22
  clear h hl
  go_enter Tryz.func43, Tryz.ntmps43
  go_wp2_with (at_builtin; go_must (refine wpList_append_src _ rfl _ _ 22 22 rfl w.heap.size 29 i0 (.agg #[.string ⟨#[]⟩, .int .i64 0]) 2 24 Tryz.underlying22 hi hz0 hz1 hz2 rfl _ _ _ rfl HO.out (.slice (some a) ps.length c) ps.length (ptCells ps) rfl HS.out HLL.out.1 HLL.out.2 (by simp) ?_); intro ao' c' w1 ho' hg'; have HO1 : Hid (w1.ownsRow w.heap.size 29 2 (.slice ao' (0 + ps.length) c') (0 + ps.length) ([] ++ ptCells ps)) := ho'; have HG1 : Hid _ := hg'; clear ho' hg')
  go_ret
  have ho := HO1.out
  rw [Nat.zero_add, List.nil_append] at ho
  exact ⟨ao', c', rfl, ho, ((Kept.refl _ _).alloc _).grown HG1.out (fun k hk => own_row HO.out k hk)⟩
def ptOk (p : Pt) : Bool := decide (1 ≤ p.k.length) && decide (p.k.length < 16) && decide (-999999999 ≤ p.a) && decide (p.a ≤ 999999999)
set_option maxRecDepth 100000 in
set_option maxHeartbeats 1000000 in
theorem isPart_any (p : Pt) (hk : p.k.length ≤ maxLen) (w : World) :
    Calls Tryz.prog 47 #[.agg #[.string (bs p.k), .int .i64 p.a]] w fun e w' => e = .returned (.bool (ptOk p)) ∧ Kept Nil w w' := by
  obtain ⟨x, HX⟩ : ∃ x, Hid (x = ptOk p) := ⟨_, rfl⟩
  rw [← HX.out]
  obtain ⟨k, a⟩ := p
  have hz : (bs k).size = k.length := bs_size k
  unfold maxLen at hk
  by_cases c1 : 1 ≤ k.length
  · by_cases c2 : k.length < 16
    · by_cases c3 : -999999999 ≤ a
      · by_cases c4 : a ≤ 999999999
        · obtain rfl : x = true := by rw [HX.out]; simp [ptOk, c1, c2, c3, c4]
          go_enter Tryz.func47, Tryz.ntmps47
          go_wp2
          go_ret
          exact ⟨rfl, (Kept.refl _ _).alloc _⟩
        · obtain rfl : x = false := by rw [HX.out]; simp [ptOk, c1, c2, c3, c4]
          go_enter Tryz.func47, Tryz.ntmps47
          go_wp2
          go_ret
          exact ⟨rfl, (Kept.refl _ _).alloc _⟩
      · obtain rfl : x = false := by rw [HX.out]; simp [ptOk, c1, c2, c3]
        go_enter Tryz.func47, Tryz.ntmps47
        go_wp2
        go_ret
        exact ⟨rfl, (Kept.refl _ _).alloc _⟩
    · obtain rfl : x = false := by rw [HX.out]; simp [ptOk, c1, c2]
      go_enter Tryz.func47, Tryz.ntmps47
      go_wp2
      go_ret
      exact ⟨rfl, (Kept.refl _ _).alloc _⟩
  · obtain rfl : x = false := by rw [HX.out]; simp [ptOk, c1]
    go_enter Tryz.func47, Tryz.ntmps47
    go_wp2
    go_ret
    exact ⟨rfl, (Kept.refl _ _).alloc _⟩
end Go.Proofs.YtflnjlbafchnaaaGreatDoor
