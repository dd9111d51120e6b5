/-
  A client: Clone of numbers, New.
-/
import Derived.Test.YtbfleeilpccmcaaWCl1
import Derived.Test.YtbfleeilpccmcaaWCfg4
namespace Go.Proofs.Ytbfleeilpccmcaa
open Go.RowKit

set_option maxRecDepth 100000 in
set_option maxHeartbeats 2000000 in
theorem cloneI_any (B c : Nat) (a : Addr) (zs : List Int) (w : World) (h : IntRow B w (some a) zs) (hl : zs.length * 8 ≤ 140737488355328) :
    Calls Try.prog 19 #[.slice (some a) zs.length c] w fun e w' => ∃ ao' c', e = .returned (.slice ao' zs.length c') ∧ w'.ownsRow w.heap.size 3 1 (.slice ao' zs.length c') zs.length (intCells zs) ∧ Kept Nil w w' := by
  obtain ⟨i0, hi, hz0, hz1, hz2⟩ := info_parts Try.infoInt
  have HS : Hid (Src Try.prog 1 22 (.slice (some a) zs.length c) zs.length (intCells zs) (w.alloc (.cells #[] 3))) := src_row (h.alloc _) (fun _ => .inr trivial)
  have HO : Hid ((w.alloc (.cells #[] 3)).ownsRow w.heap.size 3 1 (.slice (some ⟨w.heap.size, 0, none⟩) 0 0) 0 []) := World.ownsRow_lit w #[] 0 (Nat.le_refl _) (by decide) rfl
  have HLL : Hid (0 + zs.length ≤ maxLen ∧ (0 + zs.length) * 8 ≤ 140737488355328) := by constructor <;> (try unfold maxLen) <;> omega
  have hnil : ∀ w : World, (binOp .eql 22 (.slice (some a) zs.length c) (.slice none 0 0)).run Try.prog w = .ok (.bool false) w := fun w => Lib.run_eql_slice_nil w 22 3 (some a) zs.length c 0 0 Try.underlying22
  clear h hl
  go_enter Try.func19, Try.ntmps19
  go_wp2_with (at_builtin; go_must (refine wpList_append_src _ rfl _ _ 22 22 rfl w.heap.size 3 i0 (.int .i64 0) 1 8 Try.underlying22 hi hz0 hz1 hz2 rfl _ _ _ rfl HO.out (.slice (some a) zs.length c) zs.length (intCells zs) rfl HS.out HLL.out.1 HLL.out.2 (by simp) ?_); intro ao' c' w1 ho' hg'; have HO1 : Hid (w1.ownsRow w.heap.size 3 1 (.slice ao' (0 + zs.length) c') (0 + zs.length) ([] ++ intCells zs)) := ho'; have HG1 : Hid _ := hg'; clear ho' hg')
  go_ret
  have ho := HO1.out
  rw [Nat.zero_add, List.nil_append] at ho
  exact ⟨ao', c', rfl, ho, ((Kept.refl _ _).alloc _).grown HG1.out (fun k hk => own_row HO.out k hk)⟩
def newOk (l : List Int) (pat : Int) : Bool := !l.isEmpty && rise 0 l && decide (1 ≤ pat) && decide (pat ≤ 100)
/-- A client that is new. -/
def newC (pat : Int) : Cl := ⟨0, pat, 0, 0, false, 0, 0, 0, 0, 0, [], [], 0, 0, [], 0, []⟩
set_option maxRecDepth 100000 in
set_option maxHeartbeats 2000000 in
theorem new_any (B cc : Nat) (ao : Option Addr) (l : List Int) (pat : Int) (w : World) (h : IntRow B w ao l) (hl : (l.length : Int) ≤ 9223372036854775807) :
    Calls Try.prog 5 #[.slice ao l.length cc, .int .i64 pat] w fun e w' => (newOk l pat = false ∧ e = .returned (.tuple #[.pointer none, .int .i64 13]) ∧ w' = w) ∨ (newOk l pat = true ∧ ∃ b an cn, e = .returned (.tuple #[.pointer (some ⟨b, 0, none⟩), .int .i64 0]) ∧ ClAt w' b (newC pat) an l.length cn none 0 ∧ w'.ownsRow w.heap.size 3 1 (.slice an l.length cn) l.length (intCells l) ∧ w.heap.size ≤ b ∧ Kept Nil w w') := by
  have AN := areNodes_any B cc ao l w h hl
  by_cases h0 : l = []
  · subst h0
    have HF : Hid (newOk [] pat = false) := rfl
    go_enter Try.func5, Try.ntmps5
    go_wp2
    exact bodyPost_ret (v := .tuple #[.pointer none, .int .i64 13]) (by simp [results, Try.results5, go_sem]) rfl (.inl ⟨HF.out, rfl, rfl⟩)
  · have h1 : ((l.length : Int) == 0) = false := by simpa using h0
    have HM : Hid (l.isEmpty = false) := by show l.isEmpty = false; simpa using h0
    obtain ⟨a, rfl⟩ : ∃ a, ao = some a := by
      obtain ⟨a, ha, _⟩ := h 0 (by cases l <;> simp at h0 ⊢)
      exact ⟨a, ha⟩
    cases hr : rise 0 l with
    | false =>
      have HF : Hid (newOk l pat = false) := by show _ = _; unfold newOk; rw [hr]; simp
      rw [hr] at AN
      go_enter Try.func5, Try.ntmps5
      go_wp2_with (go_at_call 18; go_must (refine AN.mono ?_); rintro e w1 ⟨rfl, rfl⟩)
      exact bodyPost_ret (v := .tuple #[.pointer none, .int .i64 13]) (by simp [results, Try.results5, go_sem]) rfl (.inl ⟨HF.out, rfl, rfl⟩)
    | true =>
      rw [hr] at AN
      by_cases hp : 1 ≤ pat
      · by_cases hq : pat ≤ 100
        · have HF : Hid (newOk l pat = true) := by show _ = _; unfold newOk; rw [hr, HM.out]; simp [hp, hq]
          have h9 := (rise_few hr).2.2
          have CI := cloneI_any B cc a l w h (by omega)
          have hp' : ¬ pat < 1 := by omega
          have hq' : ¬ pat > 100 := by omega
          clear h h0
          go_enter Try.func5, Try.ntmps5
          go_wp2_with (first | (go_at_call 18; go_must (refine AN.mono ?_); rintro e w1 ⟨rfl, rfl⟩) | (go_at_call 19; go_fit CI; rintro e w2 ⟨an, cn, rfl, o2, k2⟩; have HO : Hid (_ ∧ _) := ⟨o2, k2⟩; clear o2 k2))
          exact bodyPost_ret (v := .tuple #[.pointer (some ⟨w2.heap.size, 0, none⟩), .int .i64 0]) (by simp [results, Try.results5, go_sem]) rfl <| .inr ⟨HF.out, _, an, cn, rfl, blk_new w2 _, HO.out.1.alloc _, HO.out.2.size, HO.out.2.alloc _⟩
        · have HF : Hid (newOk l pat = false) := by show _ = _; unfold newOk; simp [hq]
          have hp' : ¬ pat < 1 := by omega
          have hq' : pat > 100 := by omega
          go_enter Try.func5, Try.ntmps5
          go_wp2_with (go_at_call 18; go_must (refine AN.mono ?_); rintro e w1 ⟨rfl, rfl⟩)
          exact bodyPost_ret (v := .tuple #[.pointer none, .int .i64 13]) (by simp [results, Try.results5, go_sem]) rfl (.inl ⟨HF.out, rfl, rfl⟩)
      · have HF : Hid (newOk l pat = false) := by show _ = _; unfold newOk; simp [hp]
        have hp' : pat < 1 := by omega
        go_enter Try.func5, Try.ntmps5
        go_wp2_with (go_at_call 18; go_must (refine AN.mono ?_); rintro e w1 ⟨rfl, rfl⟩)
        exact bodyPost_ret (v := .tuple #[.pointer none, .int .i64 13]) (by simp [results, Try.results5, go_sem]) rfl (.inl ⟨HF.out, rfl, rfl⟩)

end Go.Proofs.Ytbfleeilpccmcaa
