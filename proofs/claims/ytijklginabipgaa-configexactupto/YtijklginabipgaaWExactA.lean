/-
  ConfigExact: the law's clones of operations, that they are held.
-/
import Derived.Test.YtijklginabipgaaWExact9
namespace Go.Proofs.Ytijklginabipgaa
open Go.RowKit

/-- A copy of a row of operations, with something in its spare room. -/
def OwnXO (B : Nat) (w : World) (ao : Option Addr) (c : Nat) (os : List (Int × Int)) : Prop := OwnOps B w ao c (os ++ [(99, 0)])
theorem own_capO {w : World} {B c : Nat} {ao : Option Addr} {es : List (Int × Int)} (h : OwnOps B w ao c es) : es.length ≤ c := by
  rcases h.2 with ⟨h1, h2⟩ | ⟨g, cap, cur, h1, h2, h3, h4, _⟩
  · simp only [Value.slice.injEq] at h1
    omega
  · simp only [Value.slice.injEq] at h1
    omega
theorem src_op {w : World} (z y : Int) : Src Try.prog 2 25 (.slice (some ⟨w.heap.size, 0, none⟩) 1 1) 1 [.int .i64 z, .int .i64 y] (w.alloc (.cells #[.int .i64 z, .int .i64 y] 32)) := by
  refine Src.ofSlice _ Try.underlying25 _ 1 1 _ rfl ?_ ?_
  · intro j u hj
    match j, hj with
    | 0, hj | 1, hj =>
      simp at hj
      subst hj
      simp [Addr.add]
  · intro u hu
    simp at hu
    rcases hu with rfl | rfl <;> rfl
theorem OwnOps.push {B : Nat} {w' : World} {ao : Option Addr} {c : Nat} {es : List (Int × Int)} {x : Int × Int} (h : w'.ownsRow B 32 2 (.slice ao (es.length + 1) c) (es.length + 1) (opCells es ++ [.int .i64 x.1, .int .i64 x.2])) : OwnOps B w' ao c (es ++ [x]) := by
  unfold OwnOps
  rw [show opCells (es ++ [x]) = opCells es ++ [.int .i64 x.1, .int .i64 x.2] by simp [opCells, opCell], List.length_append]
  exact h
theorem OwnXO.kept {B c : Nat} {w w' : World} {ao : Option Addr} {os : List (Int × Int)} (h : OwnXO B w ao c os) (hk : Kept Nil w w') : OwnXO B w' ao c os := OwnOps.kept h hk
theorem OwnXO.row {B c : Nat} {w : World} {ao : Option Addr} {os : List (Int × Int)} (h : OwnXO B w ao c os) : OpRow w.heap.size w ao os := fun j hj => by
  have := OwnOps.row h j (by simp; omega)
  rw [List.getElem_append_left hj] at this
  exact this
theorem OwnXO.spare {B c : Nat} {w : World} {ao : Option Addr} {os : List (Int × Int)} (h : OwnXO B w ao c os) : ∃ g, ao = some ⟨g, 0, none⟩ ∧ os.length + 1 ≤ c ∧ w.cell? ⟨g, os.length * 2, none⟩ = some (.int .i64 99) ∧ w.cell? ⟨g, os.length * 2 + 1, none⟩ = some (.int .i64 0) := by
  have hc := own_capO h
  obtain ⟨g, e, _, _, hx⟩ := OwnOps.cells h (by simp)
  obtain ⟨e1, e2, _, _⟩ := hx os.length (by simp)
  simp only [List.getElem_concat_length] at e1 e2
  exact ⟨g, e, by simpa using hc, e1, e2⟩

set_option maxRecDepth 100000 in
set_option maxHeartbeats 2000000 in
theorem opsOf_any (B c : Nat) (ao : Option Addr) (es : List (Int × Int)) (w : World) (h : OpRow B w ao es) (hl : (es.length : Int) ≤ 1099511627776) :
    Calls Try.prog 11 #[.slice ao es.length c] w fun e w' => ∃ ao' c', e = .returned (.slice ao' es.length c') ∧ OwnXO w.heap.size w' ao' c' es ∧ Kept Nil w w' := by
  obtain ⟨i0, hii, hz0, hz1, hz2⟩ := info_parts Try.infoOp
  have HS : Hid (Src Try.prog 2 25 (.slice ao es.length c) es.length (opCells es) w) := h.src
  have HL1 : Hid (0 + es.length ≤ maxLen ∧ (0 + es.length) * 16 ≤ 140737488355328) := by constructor <;> (try unfold maxLen) <;> omega
  have HL2 : Hid (es.length + 1 ≤ maxLen ∧ (es.length + 1) * 16 ≤ 140737488355328) := by constructor <;> (try unfold maxLen) <;> omega
  clear h
  go_enter Try.func11, Try.ntmps11
  go_wp2_with (first | (at_builtin; refine wpList_append_src _ rfl _ _ 25 25 rfl w.heap.size 32 i0 (.agg #[.int .i64 0, .int .i64 0]) 2 16 Try.underlying25 hii hz0 hz1 hz2 rfl (.slice none 0 0) 0 [] rfl (World.ownsRow_nil _ _ _ _) (.slice ao es.length c) es.length (opCells es) rfl HS.out HL1.out.1 HL1.out.2 (Nat.le_refl _) ?_; intro ao1 c1 w1 ho1 hg1; have HO1 : Hid (w1.ownsRow w.heap.size 32 2 (.slice ao1 es.length c1) es.length (opCells es)) := (by rw [Nat.zero_add, List.nil_append] at ho1; exact ho1); have HK1 : Hid (Kept Nil w w1) := (Kept.refl _ _).grown hg1 (fun k hk => by simp [Value.ownBlock] at hk); have HSZ : Hid (w.heap.size ≤ w1.heap.size) := HK1.out.size; rw [Nat.zero_add]; clear ho1 hg1) | (at_builtin; refine wpList_append_src _ rfl _ _ 25 25 rfl w.heap.size 32 i0 (.agg #[.int .i64 0, .int .i64 0]) 2 16 Try.underlying25 hii hz0 hz1 hz2 rfl _ _ _ rfl (World.ownsRow.alloc HO1.out _) (.slice (some ⟨w1.heap.size, 0, none⟩) 1 1) 1 [.int .i64 99, .int .i64 0] rfl (src_op 99 0) HL2.out.1 HL2.out.2 (le_alloc HSZ.out _) ?_; intro ao2 c2 w2 ho2 hg2; have HO2 : Hid (OwnOps w.heap.size w2 ao2 c2 (es ++ [(99, 0)])) := OwnOps.push ho2; have HK2 : Hid (Kept Nil w w2) := (HK1.out.alloc _).grown hg2 (fun k hk => by have := own_row HO1.out k hk; omega); have hcap2 : (es.length : Int) ≤ c2 := (by have hcap := own_capO HO2.out; rw [List.length_append] at hcap; simp only [List.length_cons, List.length_nil] at hcap; omega); clear ho2 hg2))
  go_ret
  exact ⟨ao2, c2, rfl, HO2.out, HK2.out⟩

set_option maxRecDepth 100000 in
set_option maxHeartbeats 2000000 in
theorem heldOps_yes (B B2 d c : Nat) (xo ao : Option Addr) (os : List (Int × Int)) (w : World) (hx : OwnXO B w xo d os) (h : OpRow B2 w ao os) (hl : os.length ≤ 1048576) :
    Calls Try.prog 13 #[.slice xo os.length d, .slice ao os.length c] w fun e w' => e = .returned (.bool true) ∧ Kept Nil w w' := by
  have HX : Hid (OwnXO B w xo d os) := hx
  have HR : Hid (OpRow B2 w ao os) := h
  obtain ⟨g, rfl, hc1, hs1, hs2⟩ := hx.spare
  clear hx h
  go_enter Try.func13, Try.ntmps13
  go_wp2
  clear hs1 hs2 hc1
  go_loopw [5] (fun i wr => ∃ k : Nat, k ≤ os.length ∧ i = .int .i64 k ∧ Hid (Kept Nil w wr)) (fun i _ => os.length - (intOf i).toNat)
  case atStart => exact ⟨0, Nat.zero_le _, rfl, Kept.refl _ _⟩
  case round =>
    obtain ⟨k, hk, rfl, HK⟩ := hrel
    by_cases hlt : k < os.length
    · obtain ⟨x1, hx1, _, e1, e2⟩ := (HX.out.kept HK.out).row k hlt
      obtain ⟨x2, rfl, _, f1, f2⟩ := (HR.out.nil HK.out) k hlt
      simp only [Option.some.injEq] at hx1
      subst hx1
      have hki : (k : Int) < os.length := by omega
      generalize os[k] = o at *
      obtain ⟨y, z⟩ := o
      dsimp only at e1 e2 f1 f2
      simp only [addr_addE] at e1 e2
      go_wp2
      go_quiet (fail)
      go_wp2
      go_roundw
      case rel => exact ⟨k + 1, by omega, by go_num, HK.out.drewN _⟩
      case measure => simp [intOf]; omega
    · go_wp2
      go_ret
      exact ⟨rfl, HK.out⟩

end Go.Proofs.Ytijklginabipgaa
