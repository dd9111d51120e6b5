/-
  Files are copied, compared, found, put and taken out.
-/
import Derived.Test.YtnmkccdcgmajgaaWAct3
import Derived.Deep.QuietTactic
import Derived.BigQuiet
namespace Go.Proofs.Ytnmkccdcgmajgaa
open Go.RowKit

theorem own_none {B c : Nat} {w : World} {fs : List Fi} (h : OwnFs B w none c fs) : fs = [] ∧ c = 0 := by
  rcases h.2 with ⟨h1, h0⟩ | ⟨g, cap, cur, h1, _⟩
  · simp only [Value.slice.injEq, true_and] at h1
    exact ⟨List.length_eq_zero_iff.1 h1.1, h1.2⟩
  · simp at h1

set_option maxRecDepth 100000 in
set_option maxHeartbeats 1000000 in
theorem cloneF_any (B c : Nat) (ao : Option Addr) (fs : List Fi) (w : World) (h : OwnFs B w ao c fs) (hl : (fs.length : Int) ≤ 1099511627776) :
    Calls Try.prog 93 #[.slice ao fs.length c] w fun e w' => ∃ ao' c', e = .returned (.slice ao' fs.length c') ∧ OwnFs w.heap.size w' ao' c' fs ∧ Kept Nil w w' := by
  cases ao with
  | none =>
    obtain ⟨rfl, rfl⟩ := own_none h
    have hnil : ∀ w : World, (binOp .eql 83 (.slice none 0 0) (.slice none 0 0)).run Try.prog w = .ok (.bool true) w := fun w => Lib.run_eql_slice_nil w 83 88 none 0 0 0 0 Try.underlying83
    go_enter Try.func93, Try.ntmps93
    go_wp2
    go_ret
    exact ⟨none, 0, rfl, World.ownsRow_nil _ _ _ _, Kept.refl _ _⟩
  | some a =>
    obtain ⟨i0, hi, hz0, hz1, hz2⟩ := info_parts Try.infoFi
    have HS : Hid (Src Try.prog 2 83 (.slice (some a) fs.length c) fs.length (fiCells fs) (w.alloc (.cells #[] 88))) := (h.row.nil ((Kept.refl _ _).alloc _)).src
    have HO : Hid ((w.alloc (.cells #[] 88)).ownsRow w.heap.size 88 2 (.slice (some ⟨w.heap.size, 0, none⟩) 0 0) 0 []) := World.ownsRow_lit w #[] 0 (Nat.le_refl _) (by decide) rfl
    have HLL : Hid (0 + fs.length ≤ maxLen ∧ (0 + fs.length) * 32 ≤ 140737488355328) := by constructor <;> (try unfold maxLen) <;> omega
    have hnil : ∀ w : World, (binOp .eql 83 (.slice (some a) fs.length c) (.slice none 0 0)).run Try.prog w = .ok (.bool false) w := fun w => Lib.run_eql_slice_nil w 83 88 (some a) fs.length c 0 0 Try.underlying83
    clear h hl
    go_enter Try.func93, Try.ntmps93
    go_wp2_with (at_builtin; go_must (refine wpList_append_src _ rfl _ _ 83 83 rfl w.heap.size 88 i0 (.agg #[.string ⟨#[]⟩, .string ⟨#[]⟩]) 2 32 Try.underlying83 hi hz0 hz1 hz2 rfl _ _ _ rfl HO.out (.slice (some a) fs.length c) fs.length (fiCells fs) rfl HS.out HLL.out.1 HLL.out.2 (by simp) ?_); intro ao' c' w1 ho' hg'; have HO1 : Hid (w1.ownsRow w.heap.size 88 2 (.slice ao' (0 + fs.length) c') (0 + fs.length) ([] ++ fiCells fs)) := ho'; have HG1 : Hid _ := hg'; clear ho' hg')
    go_ret
    have ho := HO1.out
    rw [Nat.zero_add, List.nil_append] at ho
    exact ⟨ao', c', rfl, ho, ((Kept.refl _ _).alloc _).grown HG1.out (fun k hk => own_row HO.out k hk)⟩

set_option maxRecDepth 100000 in
set_option maxHeartbeats 1000000 in
theorem filesOf_any (B c : Nat) (ao : Option Addr) (fs : List Fi) (w : World) (h : FiRow B w ao fs) (hl : (fs.length : Int) ≤ 1099511627776) :
    Calls Try.prog 52 #[.slice ao fs.length c] w fun e w' => ∃ ao' c', e = .returned (.slice ao' fs.length c') ∧ OwnFs w.heap.size w' ao' c' fs ∧ Kept Nil w w' := by
  obtain ⟨i0, hi, hz0, hz1, hz2⟩ := info_parts Try.infoFi
  have HS : Hid (Src Try.prog 2 83 (.slice ao fs.length c) fs.length (fiCells fs) w) := h.src
  have HLL : Hid (0 + fs.length ≤ maxLen ∧ (0 + fs.length) * 32 ≤ 140737488355328) := by constructor <;> (try unfold maxLen) <;> omega
  clear h hl
  go_enter Try.func52, Try.ntmps52
  go_wp2_with (at_builtin; go_must (refine wpList_append_src _ rfl _ _ 83 83 rfl w.heap.size 88 i0 (.agg #[.string ⟨#[]⟩, .string ⟨#[]⟩]) 2 32 Try.underlying83 hi hz0 hz1 hz2 rfl (.slice none 0 0) 0 [] rfl (World.ownsRow_nil _ _ _ _) (.slice ao fs.length c) fs.length (fiCells fs) rfl HS.out HLL.out.1 HLL.out.2 (Nat.le_refl _) ?_); intro ao' c' w1 ho' hg'; have HO1 : Hid (w1.ownsRow w.heap.size 88 2 (.slice ao' (0 + fs.length) c') (0 + fs.length) ([] ++ fiCells fs)) := ho'; have HG1 : Hid (Kept Nil w w1) := (Kept.refl _ _).grown hg' (fun k hk => by simp [Value.ownBlock] at hk); clear ho' hg')
  go_ret
  have ho := HO1.out
  rw [Nat.zero_add, List.nil_append] at ho
  exact ⟨ao', c', rfl, ho, HG1.out⟩

set_option maxRecDepth 100000 in
set_option maxHeartbeats 2000000 in
theorem sameFiles_yes (B1 B2 c1 c2 : Nat) (a1 a2 : Option Addr) (fs : List Fi) (w : World) (h1 : FiRow B1 w a1 fs) (h2 : FiRow B2 w a2 fs) (hl : (fs.length : Int) ≤ 9223372036854775807) :
    Calls Try.prog 54 #[.slice a1 fs.length c1, .slice a2 fs.length c2] w fun e w' => e = .returned (.bool true) ∧ Kept Nil w w' := by
  have HR : Hid (FiRow B1 w a1 fs ∧ FiRow B2 w a2 fs) := ⟨h1, h2⟩
  clear h1 h2
  go_enter Try.func54, Try.ntmps54
  go_wp2
  go_loopw [5] (fun i wr => ∃ k : Nat, k ≤ fs.length ∧ i = .int .i64 k ∧ Hid (Kept Nil w wr)) (fun i _ => fs.length - (intOf i).toNat)
  case atStart => exact ⟨0, Nat.zero_le _, rfl, Kept.refl _ _⟩
  case round =>
    obtain ⟨k, hk, rfl, HK⟩ := hrel
    by_cases hlt : k < fs.length
    · obtain ⟨a, rfl, _, c0, c1'⟩ := (HR.out.1.nil HK.out) k hlt
      obtain ⟨a', rfl, _, d0, d1⟩ := (HR.out.2.nil HK.out) k hlt
      have hki : (k : Int) < fs.length := by omega
      generalize fs[k].1 = x at *
      generalize fs[k].2 = y at *
      go_wp2
      go_quiet (fail)
      go_wp2
      go_roundw
      case rel => exact ⟨k + 1, by omega, by go_num, HK.out.drewN _⟩
      case measure => simp [intOf]; omega
    · go_wp2
      go_ret
      exact ⟨rfl, HK.out⟩

set_option maxRecDepth 100000 in
set_option maxHeartbeats 1000000 in
theorem place_any (B c : Nat) (ao : Option Addr) (fs : List Fi) (nm : List UInt8) (w : World) (h : FiRow B w ao fs) (hl : (fs.length : Int) ≤ 1099511627776) :
    Calls Try.prog 94 #[.slice ao fs.length c, .string (bs nm)] w fun e w' => e = .returned (.int .i64 (plc (isF nm) fs)) ∧ Kept Nil w w' := by
  have hmf : ∀ (fn : Fn) (first cap : Array Value) (w : World), (Instr.makeFunc fn first cap).run Try.prog w = .ok (.func fn first cap) w := fun _ _ _ _ => rfl
  obtain ⟨W, hW⟩ : ∃ W, W = w.alloc (.cells #[.string (bs nm)] 9) := ⟨_, rfl⟩
  have KW : Hid (Kept Nil w W) := by rw [hW]; exact (Kept.refl _ _).alloc _
  have HB : Hid (W.heap[w.heap.size]? = some (.cells #[.string (bs nm)] 9 (0, 0))) := by rw [hW]; exact blk_new _ _
  have I := indexP_any B c w.heap.size ao fs nm W (h.nil KW.out) (by omega) (blk_at HB.out 0 rfl)
  clear h
  generalize plc (isF nm) fs = r at *
  go_enter Try.func94, Try.ntmps94
  go_wp2_with fail
  rw [← hW]
  clear hW
  go_fit I
  rintro e w1 ⟨rfl, k1⟩
  have K1 : Hid (Kept Nil w w1) := KW.out.trans k1
  clear k1 I
  go_wp2
  go_ret
  exact ⟨rfl, K1.out⟩

/-- The bytes of the file at a place; where none is there are none. -/
def datAt (fs : List Fi) (i : Int) : List UInt8 := if i < 0 then [] else (fs[i.toNat]?.map (·.2)).getD []
set_option maxRecDepth 100000 in
set_option maxHeartbeats 1000000 in
theorem dataAt_any (B c : Nat) (ao : Option Addr) (fs : List Fi) (i : Int) (w : World) (h : FiRow B w ao fs) (hi : i = -1 ∨ ∃ k : Nat, i = k ∧ k < fs.length) :
    Calls Try.prog 96 #[.slice ao fs.length c, .int .i64 i] w fun e w' => e = .returned (.string (bs (datAt fs i))) ∧ w' = w := by
  rcases hi with rfl | ⟨k, rfl, hk⟩
  · go_enter Try.func96, Try.ntmps96
    go_wp2
    go_ret
    exact ⟨rfl, rfl⟩
  · obtain ⟨a, rfl, _, c0, c1⟩ := h k hk
    have hki : (k : Int) < fs.length := by omega
    have HD : Hid (datAt fs k = fs[k].2) := by
      show datAt fs k = fs[k].2
      unfold datAt
      rw [if_neg (by omega)]
      simp [hk]
    rw [HD.out]
    generalize fs[k].2 = y at *
    generalize fs[k].1 = x at *
    clear h
    go_enter Try.func96, Try.ntmps96
    go_wp2
    go_ret
    exact ⟨rfl, rfl⟩

/-- A file has these bytes; one that is not there is put at the end. -/
def putZ (fs : List Fi) (nm x : List UInt8) : List Fi := if plc (isF nm) fs < 0 then fs ++ [(nm, x)] else fs.set (plc (isF nm) fs).toNat (((fs[(plc (isF nm) fs).toNat]?).map (·.1)).getD [], x)
theorem Blk.own {B c : Nat} {w : World} {ao : Option Addr} {fs : List Fi} (h : OwnFs B w ao c fs) {k : Nat} {o : Obj} (hb : Blk ao k o) : B ≤ k := by
  obtain ⟨a, rfl, rfl⟩ := hb
  rcases h.2 with ⟨h1, _⟩ | ⟨g, cap, cur, h1, h2, _⟩
  · simp at h1
  · simp only [Value.slice.injEq, Option.some.injEq] at h1
    rw [h1.1]
    exact h2

theorem blk_lt {B c : Nat} {w : World} {ao : Option Addr} {fs : List Fi} (h : OwnFs B w ao c fs) {k : Nat} {o : Obj} (hb : Blk ao k o) : k < w.heap.size := by
  obtain ⟨a, rfl, rfl⟩ := hb
  rcases h.2 with ⟨h1, _⟩ | ⟨g, cap, cur, h1, _, h3, _⟩
  · simp at h1
  · simp only [Value.slice.injEq, Option.some.injEq] at h1
    rw [h1.1]
    exact lt_of_block h3

set_option maxRecDepth 100000 in
set_option maxHeartbeats 2000000 in
theorem put_any (c : Nat) (ao : Option Addr) (fs : List Fi) (nm x : List UInt8) (w0 w : World) (h : OwnFs w0.heap.size w ao c fs) (hk : Kept Nil w0 w) (hl : (fs.length : Int) ≤ 1099511627776) :
    Calls Try.prog 95 #[.slice ao fs.length c, .string (bs nm), .string (bs x)] w fun e w' => ∃ ao' c', e = .returned (.slice ao' (putZ fs nm x).length c') ∧ OwnFs w0.heap.size w' ao' c' (putZ fs nm x) ∧ Kept Nil w0 w' := by
  have PL := place_any w.heap.size c ao fs nm w h.row hl
  have HO : Hid (OwnFs w0.heap.size w ao c fs) := h
  have HK : Hid (Kept Nil w0 w) := hk
  rcases plc_cases (isF nm) fs with ⟨e0, hall⟩ | ⟨k, hkk, e0, ht, hall⟩
  · have HZ : Hid (putZ fs nm x = fs ++ [(nm, x)]) := by show putZ fs nm x = _; unfold putZ; rw [e0, if_pos (by omega)]
    rw [HZ.out]
    rw [e0] at PL
    clear h hk hall
    obtain ⟨i0, hi, hz0, hz1, hz2⟩ := info_parts Try.infoFi
    have HLL : Hid (fs.length + 1 ≤ maxLen ∧ (fs.length + 1) * 32 ≤ 140737488355328) := by constructor <;> (try unfold maxLen) <;> omega
    go_enter Try.func95, Try.ntmps95
    go_wp2_with fail
    go_fit PL
    rintro e w1 ⟨rfl, k1⟩
    have K1 : Hid (Kept Nil w0 w1) := HK.out.trans k1
    have HO1 : Hid (OwnFs w0.heap.size w1 ao c fs) := HO.out.kept k1
    have HSZ : Hid (w0.heap.size ≤ w1.heap.size) := K1.out.size
    clear k1 PL
    go_wp2_with (at_builtin; go_must (refine wpList_append_src _ rfl _ _ 83 83 rfl w0.heap.size 88 i0 (.agg #[.string ⟨#[]⟩, .string ⟨#[]⟩]) 2 32 Try.underlying83 hi hz0 hz1 hz2 rfl _ _ _ rfl (World.ownsRow.alloc HO1.out _) (.slice (some ⟨w1.heap.size, 0, none⟩) 1 1) 1 [.string (bs nm), .string (bs x)] rfl (src_fi _ _) HLL.out.1 HLL.out.2 (le_alloc HSZ.out _) ?_); intro ao' c' w2 ho' hg'; have HO2 : Hid (OwnFs w0.heap.size w2 ao' c' (fs ++ [(nm, x)])) := OwnFs.push ho'; have HK2 : Hid (Kept Nil w0 w2) := (K1.out.alloc _).grown hg' (own_row HO1.out); clear ho' hg')
    go_ret
    exact ⟨ao', c', by simp, HO2.out, HK2.out⟩
  · have HZ : Hid (putZ fs nm x = fs.set k (fs[k].1, x)) := by
      show putZ fs nm x = _
      unfold putZ
      rw [e0, if_neg (by omega)]
      simp [hkk]
    rw [HZ.out]
    rw [e0] at PL
    clear h hk hall ht
    have hki : (k : Int) < fs.length := by omega
    go_enter Try.func95, Try.ntmps95
    go_wp2_with fail
    go_fit PL
    rintro e w1 ⟨rfl, k1⟩
    have K1 : Hid (Kept Nil w0 w1) := HK.out.trans k1
    have HO1 : Hid (OwnFs w0.heap.size w1 ao c fs) := HO.out.kept k1
    clear k1 PL
    obtain ⟨g, rfl, hBg, _, hcs⟩ := HO1.out.cells (by omega)
    obtain ⟨d0, d1, z0, z1⟩ := hcs k hkk
    have HO2 : Hid (OwnFs w0.heap.size (w1.setCell ⟨g, k * 2 + 1, none⟩ (.string (bs x))) (some ⟨g, 0, none⟩) c (fs.set k (fs[k].1, x))) := HO1.out.set1 hkk x
    have HK2 : Hid (Kept Nil w0 (w1.setCell ⟨g, k * 2 + 1, none⟩ (.string (bs x)))) := K1.out.setNew hBg _
    clear hcs
    go_wp2
    go_ret
    exact ⟨some ⟨g, 0, none⟩, c, by simp, HO2.out, HK2.out⟩

set_option maxRecDepth 100000 in
set_option maxHeartbeats 1000000 in
theorem wo_any (B2 c d : Nat) (ao so : Option Addr) (fs : List Fi) (ks : List (List UInt8)) (w0 w : World) (h : OwnFs w0.heap.size w ao c fs) (hk : Kept Nil w0 w) (hl : (fs.length : Int) ≤ 1099511627776) (hs : StrRow B2 w so ks) (hkl : (ks.length : Int) ≤ 9223372036854775807) (hsd : ∀ a o, so = some a → ¬ Blk ao a.block o) :
    Calls Try.prog 97 #[.slice ao fs.length c, .slice so ks.length d] w fun e w' => e = .returned (.slice ao (fs.filter fun f => !inF ks f).length c) ∧ OwnFs w0.heap.size w' ao c (fs.filter fun f => !inF ks f) ∧ Kept Nil w0 w' ∧ Kept (Blk ao) w w' := by
  have hmf : ∀ (fn : Fn) (first cap : Array Value) (w : World), (Instr.makeFunc fn first cap).run Try.prog w = .ok (.func fn first cap) w := fun _ _ _ _ => rfl
  obtain ⟨W, hW⟩ : ∃ W, W = w.alloc (.cells #[.slice so ks.length d] 53) := ⟨_, rfl⟩
  have KW : Hid (Kept Nil w W) := by rw [hW]; exact (Kept.refl _ _).alloc _
  have HB : Hid (W.heap[w.heap.size]? = some (.cells #[.slice so ks.length d] 53 (0, 0))) := by rw [hW]; exact blk_new _ _
  have HOW : Hid (OwnFs w0.heap.size W ao c fs) := h.kept KW.out
  have HK : Hid (Kept Nil w0 W) := hk.trans KW.out
  have D := delW_any w0.heap.size c w.heap.size ao fs B2 d so ks W HOW.out hl (hs.nil KW.out) hsd hkl HB.out (fun o hb => by
    obtain ⟨a, rfl, e⟩ := hb
    rcases h.2 with ⟨h1, _⟩ | ⟨g, cap, cur, h1, h2, h3, _⟩
    · simp at h1
    · simp only [Value.slice.injEq, Option.some.injEq] at h1
      have := lt_of_block h3
      rw [h1.1] at e
      simp at e
      omega)
  clear h hk hs hsd
  obtain ⟨gs, HGS⟩ : ∃ x : List Fi, Hid (x = fs.filter fun f => !inF ks f) := ⟨_, rfl⟩
  rw [← HGS.out] at D ⊢
  go_enter Try.func97, Try.ntmps97
  go_wp2_with fail
  rw [← hW]
  clear hW
  go_fit D
  rintro e w1 ⟨rfl, o1, k1⟩
  have HO1 : Hid (OwnFs w0.heap.size w1 ao c gs) := o1
  have K1 : Hid (Kept Nil w0 w1) := Kept.ofNew HK.out k1 (fun k o hb => Blk.own HOW.out hb)
  have KB1 : Hid (Kept (Blk ao) w w1) := (KW.out.mono (fun _ _ x => x.elim)).trans k1
  clear o1 k1 D
  go_wp2
  go_ret
  exact ⟨rfl, HO1.out, K1.out, KB1.out⟩

theorem OwnFs.aside {B c g i : Nat} {w : World} {ao : Option Addr} {fs : List Fi} (h : OwnFs B w ao c fs) (hn : ∀ o, Blk ao g o → False) (u : Value) : OwnFs B (w.setCell ⟨g, i, none⟩ u) ao c fs := by
  refine ⟨h.1, h.2.imp id ?_⟩
  rintro ⟨b, cap, cur, h1, h2, h3, h4⟩
  refine ⟨b, cap, cur, h1, h2, ?_, h4⟩
  simp only [Value.slice.injEq] at h1
  rw [Below.heap_setCell _ _ _ _ (fun e => hn (.cells cur 88 (0, 0)) ⟨_, h1.1, e⟩)]
  exact h3
theorem src_fi_blk {w : World} {b : Nat} {x y : ByteArray} (h : w.heap[b]? = some (.cells #[.string x, .string y] 88 (0, 0))) : Src Try.prog 2 83 (.slice (some ⟨b, 0, none⟩) 1 1) 1 [.string x, .string y] w := by
  refine Src.ofSlice _ Try.underlying83 _ 1 1 _ rfl ?_ ?_
  · intro j u hj
    match j, hj with
    | 0, hj =>
      simp at hj
      subst hj
      exact blk_at h 0 rfl
    | 1, hj =>
      simp at hj
      subst hj
      exact blk_at h 1 rfl
  · intro u hu
    simp at hu
    rcases hu with rfl | rfl <;> rfl

end Go.Proofs.Ytnmkccdcgmajgaa
