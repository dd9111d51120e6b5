/-
  RlogExact holds for every log, every list of entries and all numbers: Valid, Last, TermAt, Slice, Fresh, Extend, Clone and Compact answer what the document's answer does wherever the log may be and the entries could follow; what is handed in stays as it is, its spare room too, also when what came out is written over.
  Conditions: none (each slice takes at most 2^47 - 4096 bytes, as the form itself says).
-/
import Derived.Test.YtcbeonhohbgnmaaRows
import Derived.Test.YtcbeonhohbgnmaaWLogs
import Derived.ProofKit
import Derived.OpenShut
import Derived.ShutString
import Derived.ChangeOld
import Derived.SizedLaws
import Derived.ChangeSlices
import Derived.Lib.SmallJoins
import Derived.Deep.Strs
import Derived.Carry
namespace Go.Proofs.Ytcbeonhohbgnmaa
open Go.ChangeShapes Go.WideShapes Go.ChangeAt Go.RowKit

theorem Try.ownE : ownKnob Try.prog.godebug = none := by kernel_rfl
theorem Try.laidOutE : laidOutB Try.prog = true := by kernel_rfl
theorem Try.cellsIntE : Try.prog.cellsOf 3 = 1 := by kernel_rfl
theorem Try.cellsStrE : Try.prog.cellsOf 9 = 1 := by kernel_rfl
theorem Try.cellsEnE : Try.prog.cellsOf 48 = 4 := by kernel_rfl
theorem Try.cellsLogE : Try.prog.cellsOf 108 = 3 := by kernel_rfl
theorem Try.cellsEsE : Try.prog.cellsOf 78 = 1 := by kernel_rfl
theorem Try.bytesEnE : Try.prog.bytesOf 48 = 40 := by kernel_rfl

theorem array3 {α : Type} {cs : Array α} (h : cs.size = 3) : ∃ a b c, cs = #[a, b, c] := by
  obtain ⟨l⟩ := cs
  match l, h with
  | [a, b, c], _ => exact ⟨a, b, c, rfl⟩
theorem list4 {α : Type} {cs : List α} (h : cs.length = 4) : ∃ a b c d, cs = [a, b, c, d] := by
  match cs, h with
  | [a, b, c, d], _ => exact ⟨a, b, c, d, rfl⟩
theorem add_pos (a : Addr) {i : Nat} (h : 0 < i) : a.add i = ⟨a.block, a.off + i, none⟩ := by unfold Addr.add; rw [if_neg (by omega)]
theorem add_zero (a : Addr) : a.add 0 = a := rfl
instance : Inhabited En := ⟨⟨0, 0, 0, []⟩⟩

set_option maxRecDepth 100000 in
theorem entsIn {H : Type} {enc : TypeId × Value → H} {W : World} {fuel : Nat} {v : Value} {y : DataW H × List MemPlace} (hf : DataW.trod enc Try.prog W 0 (fun _ => true) true fuel 78 [v] = some y) :
    ∃ (ao : Option Addr) (es : List En) (cap : Nat), v = .slice ao es.length cap ∧ EntRow W.heap.size W ao es ∧ es.length ≤ cap ∧ (es = [] ∨ ∃ sp el : List (DataW H), y.1 = .slice el sp ∧ el.length = es.length) := by
  rcases Go.Deep.open_slice Try.underlying78 hf with ⟨h1, _⟩ | ⟨a, len, cap, m, n, D, Pl, h1, _, hl, hm, hmm, hy, hx⟩
  · simp at h1
    subst h1
    exact ⟨none, [], 0, rfl, entRow_nil _ _ _, Nat.le_refl _, .inl rfl⟩
  · simp at h1
    subst h1
    simp only [if_true] at hmm
    obtain ⟨f, hF⟩ := Go.Deep.choose_lt (α := En) (n := len) (p := fun j p => a.block < W.heap.size ∧ W.cell? (a.add (j * 4)) = some (.int .i64 p.ix) ∧ W.cell? ⟨(a.add (j * 4)).block, (a.add (j * 4)).off + 1, none⟩ = some (.int .i64 p.tm) ∧ W.cell? ⟨(a.add (j * 4)).block, (a.add (j * 4)).off + 2, none⟩ = some (.int .i64 p.kd) ∧ W.cell? ⟨(a.add (j * 4)).block, (a.add (j * 4)).off + 3, none⟩ = some (.string (bs p.dt)) ∧ p.dt.length ≤ maxLen) (fun j hj => by
      obtain ⟨cs, h1, h2⟩ := hx j (by omega)
      rw [Try.cellsEnE] at h1
      obtain ⟨_, hlen, hc⟩ := World.cells?_some h1
      obtain ⟨c0, c1, c2, c3, rfl⟩ := list4 hlen
      obtain ⟨y0, y1, y2, y3, n', _, _, g0, g1, g2, g3⟩ := Joins.trod_struct4 Try.underlying48 h2
      obtain ⟨z0, e0, _, _⟩ := DataW.trod_int Try.underlying3 g0
      obtain ⟨z1, e1, _, _⟩ := DataW.trod_int Try.underlying3 g1
      obtain ⟨z2, e2, _, _⟩ := DataW.trod_int Try.underlying3 g2
      obtain ⟨s3, e3, _, k3⟩ := DataW.trod_string Try.underlying9 g3
      simp [Try.cellsIntE, Try.cellsStrE] at e0 e1 e2 e3
      subst e0 e1 e2 e3
      have q0 := hc 0 (by omega)
      have q1 := hc 1 (by omega)
      have q2 := hc 2 (by omega)
      have q3 := hc 3 (by omega)
      rw [add_zero] at q0
      rw [add_pos _ (by omega)] at q1 q2 q3
      have e : (a.add (j * 4)).block = a.block := by unfold Addr.add; split <;> rfl
      have hb := World.block_lt_of_cell? W _ q0
      exact ⟨⟨z0, z1, z2, s3.data.toList⟩, by omega, q0, q1, q2, by rw [bs_self]; exact q3, by rw [← bs_size, bs_self]; exact k3⟩)
    have hlen : ((List.range len).map f).length = len := by simp
    refine ⟨some a, (List.range len).map f, cap, by rw [hlen], ?_, by rw [hlen]; exact hl, .inr ⟨_, _, by rw [hy], by simp⟩⟩
    intro j hj
    rw [hlen] at hj
    obtain ⟨h0, h1, h2, h3, h4, h5⟩ := hF j hj
    simp only [List.getElem_map, List.getElem_range]
    exact ⟨a, rfl, h0, h1, h2, h3, h4, h5⟩
theorem entsSize {H : Type} {es : List En} {y : DataW H} (h : es = [] ∨ ∃ sp el : List (DataW H), y = .slice el sp ∧ el.length = es.length) (hw : ∀ x ∈ y.weights Try.prog 78, x ≤ 140737488351232) : (es.length : Int) ≤ 281474976710656 := by
  rcases h with rfl | ⟨sp, el, he, hl⟩
  · simp
  · have := hw ((el.length + sp.length) * 40) (by rw [he]; simp only [DataW.weights, Try.underlying78, Try.bytesEnE]; exact List.mem_cons_self)
    omega

set_option maxRecDepth 100000 in
theorem openLog {H : Type} {enc : TypeId × Value → H} {W : World} {b0 : Nat} {v : Value} {d : DataW H} {p : List MemPlace} {r : Reach}
    (hv : Value.okWide Try.prog W r b0 108 v) (h : DataW.Trod enc Try.prog W 0 (fun _ => true) true 108 v d p) (hsz : ∀ x ∈ d.weights Try.prog 108, x ≤ 140737488351232) :
    ∃ (base bt : Int) (ao : Option Addr) (es : List En) (c : Nat), v = .agg #[.int .i64 base, .int .i64 bt, .slice ao es.length c] ∧ EntRow W.heap.size W ao es ∧ es.length ≤ c ∧ (es.length : Int) ≤ 281474976710656 := by
  obtain ⟨cs, rfl, hsize⟩ := okWide_struct Try.underlying108 hv
  obtain ⟨c0, c1, c2, rfl⟩ := array3 (hsize.trans Try.cellsLogE)
  obtain ⟨fuel, hf⟩ := h
  obtain ⟨y0, y1, y2, n, hx, _, g0, g1, g2⟩ := Go.Deep.trod_struct3 Try.underlying108 hf
  obtain ⟨base, e0, _, _⟩ := DataW.trod_int Try.underlying3 g0
  obtain ⟨bt, e1, _, _⟩ := DataW.trod_int Try.underlying3 g1
  simp [Value.cells, Try.cellsIntE, Try.cellsEsE] at e0 e1 g2
  obtain ⟨ao, es, c, rfl, hr, hc, hs⟩ := entsIn g2
  subst e0 e1
  simp only [Prod.mk.injEq] at hx
  refine ⟨base, bt, ao, es, c, rfl, hr, hc, entsSize hs (fun x hxx => hsz x ?_)⟩
  rw [hx.1]
  simp only [DataW.weights, Try.underlying108, List.map_cons, List.map_nil, DataW.weightsEach]
  simp [hxx]

set_option maxRecDepth 100000 in
theorem rlogExact_lifted (os : Os) (started : os.Started) (H : Type) (enc : TypeId × Value → H) :
    ReturnsInHanded {} Try.checked os 14 .any (Rows.rlogExactSpec.pre6 enc Try.prog Try.f14 Rows.rlogExactRow.domain false) (Rows.rlogExactSpec.post enc Try.prog Try.f14 false true false false) := by
  refine returnsInHanded_of_change_sized (C := Try.checked) Try.ownE started (by kernel_rfl) Try.func14
    (ChangeSpec.witness6 (enc := enc) (C := Try.checked) false ⟨#[], #[.agg #[.int .i64 0, .int .i64 0, .slice none 0 0], .int .i64 0, .int .i64 0, .slice none 0 0, .int .i64 0], []⟩ 8 (by kernel_rfl) (by kernel_rfl) (by kernel_rfl) (by kernel_rfl)) ?_
  intro W base args ds gs before hval0 hW _ hsz0 _
  have hsz : (DataW.weightsEach Try.prog (Try.f14.params.toList ++ Rows.rlogExactSpec.plain.varTypes Try.prog) (ds ++ gs)).all (· ≤ reachBytes) = true := hsz0
  clear hsz0
  have hval : ∀ (j : Nat) t v, Try.f14.params[j]? = some t → args[j]? = some v → Value.okWide Try.prog W .any base t v := hval0
  have hW' := hW
  obtain ⟨p, q, hA0, hV, rfl, _, _⟩ := hW
  have hA : DataW.TrodAll enc Try.prog W 0 (fun _ => true) true Try.f14.params.toList args.toList ds p := hA0
  rw [Try.params14] at hA hval hsz
  obtain ⟨v0, vs0, d0, ds0, p0, q0, hargs, rfl, rfl, h0, hr0⟩ := trodAll_cons hA
  obtain ⟨v1, vs1, d1, ds1, p1, q1, rfl, rfl, rfl, h1, hr1⟩ := trodAll_cons hr0
  obtain ⟨v2, vs2, d2, ds2, p2, q2, rfl, rfl, rfl, h2, hr2⟩ := trodAll_cons hr1
  obtain ⟨v3, vs3, d3, ds3, p3, q3, rfl, rfl, rfl, h3, hr3⟩ := trodAll_cons hr2
  obtain ⟨v4, vs4, d4, ds4, p4, q4, rfl, rfl, rfl, h4, hr4⟩ := trodAll_cons hr3
  obtain ⟨rfl, rfl, rfl⟩ := trodAll_nil hr4
  obtain rfl : args = #[v0, v1, v2, v3, v4] := by cases args; simp_all
  obtain ⟨rfl, rfl⟩ := trodVars_none hV
  have k0 := h0
  have lt0 : ∀ x ∈ p0, x.block < W.heap.size := by obtain ⟨m, hm⟩ := k0; exact DataW.trod_lt m _ _ _ hm
  have k3 := h3
  have lt3 : ∀ x ∈ p3, x.block < W.heap.size := by obtain ⟨m, hm⟩ := k3; exact DataW.trod_lt m _ _ _ hm
  have hs0 : ∀ x ∈ d0.weights Try.prog 108, x ≤ 140737488351232 := fun x hx => by
    have := List.all_eq_true.1 hsz x (DataW.weights_mem_each (j := 0) (t := 108) rfl rfl x hx)
    simp only [reachBytes] at this
    exact of_decide_eq_true this
  have hs3 : ∀ x ∈ d3.weights Try.prog 78, x ≤ 140737488351232 := fun x hx => by
    have := List.all_eq_true.1 hsz x (DataW.weights_mem_each (j := 3) (t := 78) rfl rfl x hx)
    simp only [reachBytes] at this
    exact of_decide_eq_true this
  obtain ⟨lb, lt, ao, es, c, rfl, hr, hc, hl⟩ := openLog (hval 0 108 v0 rfl rfl) h0 hs0
  obtain ⟨n1, rfl, rfl, rfl, w1⟩ := open_int Try.underlying3 (hval 1 3 v1 rfl rfl) h1
  obtain ⟨n2, rfl, rfl, rfl, w2⟩ := open_int Try.underlying3 (hval 2 3 v2 rfl rfl) h2
  obtain ⟨n4, rfl, rfl, rfl, w4⟩ := open_int Try.underlying3 (hval 4 3 v4 rfl rfl) h4
  obtain ⟨bo, ns, d, hv3, hr3', hd, hl3⟩ : ∃ (bo : Option Addr) (ns : List En) (d : Nat), v3 = .slice bo ns.length d ∧ EntRow W.heap.size W bo ns ∧ ns.length ≤ d ∧ (ns.length : Int) ≤ 281474976710656 := by
    obtain ⟨a3, len3, cap3, rfl⟩ := okWide_slice Try.underlying78 (hval 3 78 v3 rfl rfl)
    obtain ⟨fuel, hf⟩ := h3
    simp only [Value.cells] at hf
    obtain ⟨bo, ns, d, e1, e2, e3, e4⟩ := entsIn hf
    exact ⟨bo, ns, d, e1, e2, e3, entsSize e4 hs3⟩
  subst hv3
  have hw := rlogExact_walk _ c d lb lt n1 n2 n4 ao bo es ns W hr hr3' hl hl3 hc hd
  clear hA0 hval0
  refine hw.mono fun e W' ⟨he, hkk⟩ => ?_
  subst he
  have bel := hkk.below (B := W.heap.size) (fun _ _ x => x.elim) (Nat.le_refl _)
  exact ⟨_, rfl, _, _, _, [], p0 ++ ([] ++ ([] ++ (p3 ++ []))), [], hW', trodAll_mk1 (shut_bool Try.underlying4 _), trodAll_cons_mk (Below.trod Try.laidOutE (by kernel_rfl) (of_decide_eq_true (by kernel_rfl)) k0 bel lt0) (trodAll_mk4 (shut_int Try.underlying3 w1) (shut_int Try.underlying3 w2) (Below.trod Try.laidOutE (by kernel_rfl) (of_decide_eq_true (by kernel_rfl)) k3 bel lt3) (shut_int Try.underlying3 w4)), rfl, bel.frame _, fun h => by cases h⟩

theorem rlogExact_holds : Rows.RlogExactSaid :=
  OpenClaim.holds_of_wide 14 Try.f14 rfl rfl rfl rfl rfl rfl rfl ⟨rfl, rfl, rfl, rfl, rfl⟩ rfl rfl rfl rfl rfl (by kernel_rfl) Try.func14 (by kernel_rfl)
    (of_decide_eq_true (by kernel_rfl)) (by unfold Func.isWrapper; first | (rw [if_pos (by decide +kernel)]; kernel_rfl) | (rw [if_neg (by decide +kernel)]; exact ⟨rfl, rfl⟩))
    (fun os started H enc _ => rlogExact_lifted os started H enc)
#print axioms rlogExact_holds

end Go.Proofs.Ytcbeonhohbgnmaa
