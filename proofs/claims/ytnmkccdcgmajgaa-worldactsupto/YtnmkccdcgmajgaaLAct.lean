/-
  WorldActs holds for every list of acts whose values and letters together number at most 1,048,576: files behind the acts, one behind the other from none on, are those of the document's answer; what is handed in stays as it is, and what comes out is memory of its own.
  Conditions: the arguments are together of bulk at most 1,048,576 (the given 'Upto' form).
-/
import Derived.Test.YtnmkccdcgmajgaaRows
import Derived.Test.YtnmkccdcgmajgaaWAct8
import Derived.ProofKit
import Derived.OpenShut
import Derived.ShutString
import Derived.ChangeOld
import Derived.SizedLaws
import Derived.ChangeSlices
import Derived.JoinedCond
import Derived.Lib.SmallJoins
import Derived.Carry
import Derived.Deep.Slices
import Derived.Deep.Strs
namespace Go.Proofs.Ytnmkccdcgmajgaa
open Go.ChangeShapes Go.WideShapes Go.ChangeAt Go.RowKit

theorem Try.ownE : ownKnob Try.prog.godebug = none := by kernel_rfl
theorem Try.laidOutE : laidOutB Try.prog = true := by kernel_rfl
theorem Try.cellsIntE : Try.prog.cellsOf 3 = 1 := by kernel_rfl
theorem Try.cellsStrE : Try.prog.cellsOf 9 = 1 := by kernel_rfl
theorem Try.cellsAcE : Try.prog.cellsOf 86 = 5 := by kernel_rfl
theorem list5 {α : Type} {cs : List α} (h : cs.length = 5) : ∃ a b c d e, cs = [a, b, c, d, e] := by
  match cs, h with
  | [a, b, c, d, e], _ => exact ⟨a, b, c, d, e, rfl⟩
theorem add_pos (a : Addr) {i : Nat} (h : 0 < i) : a.add i = ⟨a.block, a.off + i, none⟩ := by unfold Addr.add; rw [if_neg (by omega)]
theorem add_zero (a : Addr) : a.add 0 = a := rfl

/-! how much a datum holds -/
theorem bulk_pos {H : Type} (d : DataW H) : 0 < Rows.uptoBulk d := by
  cases d with
  | lit l => cases l <;> simp [Rows.uptoBulk]
  | _ => simp [Rows.uptoBulk]
theorem bulk_all {H : Type} : ∀ l : List (DataW H), l.length ≤ Rows.uptoBulkAll l
  | [] => Nat.zero_le _
  | d :: l => by
    have h1 := bulk_pos d
    have h2 := bulk_all l
    simp only [Rows.uptoBulkAll, List.length_cons]
    omega
theorem bulk_mem {H : Type} {d : DataW H} : ∀ {l : List (DataW H)}, d ∈ l → Rows.uptoBulk d ≤ Rows.uptoBulkAll l
  | x :: l, h => by
    simp only [Rows.uptoBulkAll]
    rcases List.mem_cons.1 h with rfl | h
    · omega
    · have := bulk_mem h
      omega

section
variable {H : Type} {enc : TypeId × Value → H} {W : World} {fuel : Nat} {v : Value} {y : DataW H × List MemPlace}

instance : Inhabited Ac := ⟨⟨0, [], [], [], 0⟩⟩

set_option maxRecDepth 100000 in
theorem actsIn (hf : DataW.trod enc Try.prog W 0 (fun _ => true) true fuel 82 [v] = some y) :
    ∃ (ao : Option Addr) (xs : List Ac) (cap : Nat), v = .slice ao xs.length cap ∧ AcRow W.heap.size W ao xs ∧ xs.length ≤ Rows.uptoBulk y.1 ∧ ∀ a ∈ xs, a.nm.length ≤ Rows.uptoBulk y.1 ∧ a.tn.length ≤ Rows.uptoBulk y.1 ∧ a.dt.length ≤ Rows.uptoBulk y.1 := by
  rcases Go.Deep.open_slice Try.underlying82 hf with ⟨h1, _⟩ | ⟨a, len, cap, m, n, D, Pl, h1, _, hl, hm, hmm, hy, hx⟩
  · simp at h1
    subst h1
    exact ⟨none, [], 0, rfl, fun j hj => by simp at hj, by simp, fun a ha => by cases ha⟩
  · simp at h1
    subst h1
    simp only [if_true] at hmm
    obtain ⟨f, hF⟩ := Go.Deep.choose_lt (α := Ac) (n := len) (p := fun j p => a.block < W.heap.size ∧ W.cell? (a.add (j * 5)) = some (.int .i64 p.what) ∧ W.cell? ⟨(a.add (j * 5)).block, (a.add (j * 5)).off + 1, none⟩ = some (.string (bs p.nm)) ∧ W.cell? ⟨(a.add (j * 5)).block, (a.add (j * 5)).off + 2, none⟩ = some (.string (bs p.tn)) ∧ W.cell? ⟨(a.add (j * 5)).block, (a.add (j * 5)).off + 3, none⟩ = some (.string (bs p.dt)) ∧ W.cell? ⟨(a.add (j * 5)).block, (a.add (j * 5)).off + 4, none⟩ = some (.int .i64 p.sz) ∧ p.nm.length ≤ Rows.uptoBulk (D j) ∧ p.tn.length ≤ Rows.uptoBulk (D j) ∧ p.dt.length ≤ Rows.uptoBulk (D j)) (fun j hj => by
      obtain ⟨cs, h1, h2⟩ := hx j (by omega)
      rw [Try.cellsAcE] at h1
      obtain ⟨_, hlen, hc⟩ := World.cells?_some h1
      obtain ⟨c0, c1, c2, c3, c4, rfl⟩ := list5 hlen
      obtain ⟨ys, n', _, he, _, hyl, hg⟩ := DataW.trod_struct Try.underlying86 h2
      obtain ⟨y0, y1, y2, y3, y4, rfl⟩ := list5 hyl
      have g0 := hg 0 _ rfl
      have g1 := hg 1 _ rfl
      have g2 := hg 2 _ rfl
      have g3 := hg 3 _ rfl
      have g4 := hg 4 _ rfl
      simp at g0 g1 g2 g3 g4
      obtain ⟨z0, e0, _, _⟩ := DataW.trod_int Try.underlying3 g0
      obtain ⟨s1, e1, w1, _⟩ := DataW.trod_string Try.underlying9 g1
      obtain ⟨s2, e2, w2, _⟩ := DataW.trod_string Try.underlying9 g2
      obtain ⟨s3, e3, w3, _⟩ := DataW.trod_string Try.underlying9 g3
      obtain ⟨z4, e4, _, _⟩ := DataW.trod_int Try.underlying3 g4
      simp [Try.cellsIntE, Try.cellsStrE] at e0 e1 e2 e3 e4
      subst e0 e1 e2 e3 e4
      have q0 := hc 0 (by omega)
      have q1 := hc 1 (by omega)
      have q2 := hc 2 (by omega)
      have q3 := hc 3 (by omega)
      have q4 := hc 4 (by omega)
      rw [add_zero] at q0
      rw [add_pos _ (by omega)] at q1 q2 q3 q4
      have e : (a.add (j * 5)).block = a.block := by unfold Addr.add; split <;> rfl
      have hb := World.block_lt_of_cell? W _ q0
      have hD : D j = .agg [y0.1, y1.1, y2.1, y3.1, y4.1] := by have := (Prod.mk.inj he).1; simpa using this
      have hsz : s1.data.toList.length ≤ Rows.uptoBulk (D j) ∧ s2.data.toList.length ≤ Rows.uptoBulk (D j) ∧ s3.data.toList.length ≤ Rows.uptoBulk (D j) := by
        rw [hD, w1, w2, w3]
        simp only [Rows.uptoBulk, Rows.uptoBulkAll]
        refine ⟨?_, ?_, ?_⟩ <;> omega
      exact ⟨⟨z0, s1.data.toList, s2.data.toList, s3.data.toList, z4⟩, by omega, q0, by rw [bs_self]; exact q1, by rw [bs_self]; exact q2, by rw [bs_self]; exact q3, q4, hsz⟩)
    have hlen : ((List.range len).map f).length = len := by simp
    have hbul : ∀ j, j < len → Rows.uptoBulk (D j) ≤ Rows.uptoBulk y.1 := fun j hj => by
      rw [hy]
      simp only [Rows.uptoBulk]
      have := bulk_mem (d := D j) (l := (List.range len).map D) (List.mem_map.2 ⟨j, by simpa using hj, rfl⟩)
      omega
    refine ⟨some a, (List.range len).map f, cap, by rw [hlen], ?_, ?_, ?_⟩
    · intro j hj
      rw [hlen] at hj
      obtain ⟨h0, h1, h2, h3, h4, h5, _⟩ := hF j hj
      simp only [List.getElem_map, List.getElem_range]
      exact ⟨a, rfl, h0, h1, h2, h3, h4, h5⟩
    · rw [hlen, hy]
      have := bulk_all ((List.range len).map D)
      simp only [Rows.uptoBulk]
      simp at this
      omega
    · intro x hx
      obtain ⟨j, hj, rfl⟩ := List.mem_map.1 hx
      have hj' : j < len := by simpa using hj
      obtain ⟨_, _, _, _, _, _, h6, h7, h8⟩ := hF j hj'
      have := hbul j hj'
      exact ⟨by omega, by omega, by omega⟩
end

set_option maxRecDepth 100000 in
theorem worldActs_lifted (os : Os) (started : os.Started) (H : Type) (enc : TypeId × Value → H) (F : Stop.Interp) :
    ReturnsInHanded {} Try.checked os 9 .any ((Rows.OpenSpec.upto Rows.worldActsSpec).pre6 enc Try.prog Try.f9 Rows.worldActsUptoRow.domain false) (((Rows.OpenSpec.upto Rows.worldActsSpec).at F).post enc Try.prog Try.f9 false true false false) := by
  refine returnsInHanded_of_cond (C := Try.checked) (s := Rows.OpenSpec.upto Rows.worldActsSpec) (k := Rows.uptoSmall) rfl Try.ownE started (by kernel_rfl) Try.func9
    (OpenSpec.witness (enc := enc) (C := Try.checked) (s := Rows.OpenSpec.upto Rows.worldActsSpec) (k := Rows.uptoSmall) rfl false ⟨#[], #[.slice none 0 0], []⟩ 8 (by kernel_rfl) (by kernel_rfl) (by kernel_rfl)
      (x := ([.nil], [], [])) (by kernel_rfl) rfl (by kernel_rfl)) ?_
  intro W base args ds gs before hval0 hW _ hk0 _
  have hk : Rows.uptoBulkAll (ds ++ gs) ≤ 1048576 := of_decide_eq_true hk0
  clear hk0
  have hval : ∀ (j : Nat) t v, Try.f9.params[j]? = some t → args[j]? = some v → Value.okWide Try.prog W .any base t v := hval0
  have hW' := hW
  obtain ⟨p, q, hA0, hV, rfl, _, _⟩ := hW
  have hA : DataW.TrodAll enc Try.prog W 0 (fun _ => true) true Try.f9.params.toList args.toList ds p := hA0
  rw [Try.params9] at hA hval
  obtain ⟨v0, vs0, d0, ds0, p0, q0, hargs, rfl, rfl, h0, hr0⟩ := trodAll_cons hA
  obtain ⟨rfl, rfl, rfl⟩ := trodAll_nil hr0
  obtain rfl : args = #[v0] := by cases args; simp_all
  obtain ⟨rfl, rfl⟩ := trodVars_none hV
  have k0 := h0
  have lt0 : ∀ x ∈ p0, x.block < W.heap.size := by obtain ⟨m, hm⟩ := k0; exact DataW.trod_lt m _ _ _ hm
  simp only [List.cons_append, List.nil_append, Rows.uptoBulkAll] at hk
  obtain ⟨ro, xs, c, hv0, hr, hl, hs⟩ : ∃ (ro : Option Addr) (xs : List Ac) (c : Nat), v0 = .slice ro xs.length c ∧ AcRow W.heap.size W ro xs ∧ xs.length ≤ Rows.uptoBulk d0 ∧ ∀ a ∈ xs, a.nm.length ≤ Rows.uptoBulk d0 ∧ a.tn.length ≤ Rows.uptoBulk d0 ∧ a.dt.length ≤ Rows.uptoBulk d0 := by
    obtain ⟨b2, len2, cap2, rfl⟩ := okWide_slice Try.underlying82 (hval 0 82 v0 rfl rfl)
    obtain ⟨fuel, hf⟩ := h0
    simp only [Value.cells] at hf
    obtain ⟨ro, xs, c, e1, e2, e3, e4⟩ := actsIn hf
    exact ⟨ro, xs, c, e1, e2, e3, e4⟩
  subst hv0
  have hw := worldActs_walk _ c ro xs W hr (by omega) (fun a ha => by have := hs a ha; omega)
  clear hA0 hval0
  refine hw.mono fun e W' ⟨he, hkk⟩ => ?_
  subst he
  have bel := hkk.below (B := W.heap.size) (fun _ _ x => x.elim) (Nat.le_refl _)
  exact ⟨_, rfl, _, _, _, [], p0 ++ [], [], hW', trodAll_mk1 (shut_bool Try.underlying4 _), trodAll_cons_mk (Below.trod Try.laidOutE (by kernel_rfl) (of_decide_eq_true (by kernel_rfl)) k0 bel lt0) trodAll_mk0, rfl, bel.frame _, fun h => by cases h⟩

theorem worldActs_holds : Rows.WorldActsUptoSaid :=
  OpenClaim.holds_of_cond 9 Try.f9 rfl rfl rfl rfl rfl rfl rfl ⟨rfl, rfl, rfl, rfl, rfl⟩ rfl rfl rfl rfl rfl (by kernel_rfl) Try.func9 (by kernel_rfl)
    (of_decide_eq_true (by kernel_rfl)) (by unfold Func.isWrapper; first | (rw [if_pos (by decide +kernel)]; kernel_rfl) | (rw [if_neg (by decide +kernel)]; exact ⟨rfl, rfl⟩))
    (fun os started H enc _ F => worldActs_lifted os started H enc F)
#print axioms worldActs_holds

end Go.Proofs.Ytnmkccdcgmajgaa
