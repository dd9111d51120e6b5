/-
  SessionExact holds for all tables, all requests, one behind the other, and all indexes: session.Run answers what the document's answer does, table and result, what is handed in stays as it is, also when what came out is overwritten, and the first session of an empty table is opened.
  Conditions: none (each string and slice takes at most 2^47 - 4096 bytes, as the form itself says).
-/
import Derived.Test.YtblmmbghnkplkaaRows
import Derived.Test.YtblmmbghnkplkaaWKvIn
import Derived.Test.YtblmmbghnkplkaaWSx7
namespace Go.Proofs.Ytblmmbghnkplkaa
open Go.ChangeShapes Go.WideShapes Go.ChangeAt Go.RowKit

theorem Try.cellsTbE : Try.prog.cellsOf 70 = 3 := by kernel_rfl
theorem Try.cellsSsE : Try.prog.cellsOf 121 = 7 := by kernel_rfl
theorem Try.cellsRsE : Try.prog.cellsOf 55 = 4 := by kernel_rfl
theorem Try.cellsRqE : Try.prog.cellsOf 75 = 7 := by kernel_rfl
theorem Try.cellsPsE : Try.prog.cellsOf 51 = 1 := by kernel_rfl
theorem Try.cellsSeE : Try.prog.cellsOf 68 = 1 := by kernel_rfl
theorem Try.cellsStE : Try.prog.cellsOf 53 = 1 := by kernel_rfl
theorem Try.bytesStE : Try.prog.bytesOf 9 = 16 := by kernel_rfl
theorem Try.bytesSsE : Try.prog.bytesOf 121 = 80 := by kernel_rfl
theorem Try.bytesRqE : Try.prog.bytesOf 75 = 72 := by kernel_rfl
theorem array3 {α : Type} {cs : Array α} (h : cs.size = 3) : ∃ a b c, cs = #[a, b, c] := by
  obtain ⟨l⟩ := cs
  match l, h with
  | [a, b, c], _ => exact ⟨a, b, c, rfl⟩
theorem list7 {α : Type} {cs : List α} (h : cs.length = 7) : ∃ a b c d e f g, cs = [a, b, c, d, e, f, g] := by
  match cs, h with
  | [a, b, c, d, e, f, g], _ => exact ⟨a, b, c, d, e, f, g, rfl⟩
theorem wAll {H : Type} {e : TypeId} {d : DataW H} {x : Nat} : ∀ {l : List (DataW H)}, d ∈ l → x ∈ d.weights Try.prog e → x ∈ DataW.weightsAll Try.prog e l
  | [], h, _ => by simp at h
  | c :: r, h, hx => by
    rw [DataW.weightsAll]
    rcases List.mem_cons.1 h with rfl | h
    · exact List.mem_append_left _ hx
    · exact List.mem_append_right _ (wAll h hx)
instance : Inhabited Se := ⟨⟨⟨0, 0, 0, [], 0, [], 0⟩, none, 0⟩⟩
instance : Inhabited Rq := ⟨⟨0, 0, 0, [], [], 0, 0⟩⟩

section
variable {H : Type} {enc : TypeId × Value → H} {W : World} {fuel : Nat} {v : Value} {y : DataW H × List MemPlace}

set_option maxRecDepth 100000 in
theorem keysInW (hf : DataW.trod enc Try.prog W 0 (fun _ => true) true fuel 53 [v] = some y) (hw : ∀ x ∈ y.1.weights Try.prog 53, x ≤ 140737488351232) :
    ∃ (ao : Option Addr) (ks : List (List UInt8)) (cap : Nat), v = .slice ao ks.length cap ∧ StrRow W.heap.size W ao ks ∧ (ao = none → ks = [] ∧ cap = 0) ∧ ks.length ≤ 8796093022200 := by
  rcases Go.Deep.open_strs Try.underlying53 Try.underlying9 Try.cellsStrE hf with ⟨h1, _⟩ | ⟨a, len, cap, m, Sx, h1, _, hl, hm, hmm, hy, hx⟩
  · simp at h1
    subst h1
    exact ⟨none, [], 0, rfl, fun j hj => by simp at hj, fun _ => ⟨rfl, rfl⟩, by simp⟩
  · simp at h1
    subst h1
    simp only [if_true] at hmm
    have hlen : ((List.range len).map fun i => (Sx i).data.toList).length = len := by simp
    have hb9 : len ≤ 8796093022200 := by
      have := hw ((len + (m - len)) * 16) (by rw [hy]; simp only [DataW.weights, Try.underlying53, Try.bytesStE, List.length_map, List.length_range]; exact List.mem_cons_self)
      omega
    refine ⟨some a, (List.range len).map fun i => (Sx i).data.toList, cap, by rw [hlen], ?_, (fun e => by cases e), by rw [hlen]; exact hb9⟩
    intro j hj
    rw [hlen] at hj
    obtain ⟨h1, h2⟩ := hx j (by omega)
    have e : (a.add j).block = a.block := by unfold Addr.add; split <;> rfl
    have hb := World.block_lt_of_cell? W _ h1
    refine ⟨a, rfl, by omega, ?_, ?_⟩
    · rw [h1]; simp [bs_self]
    · have : (Sx j).data.toList.length = (Sx j).size := by rw [← bs_size, bs_self]
      simp only [List.getElem_map, List.getElem_range]
      omega

set_option maxRecDepth 100000 in
theorem sessInW (hf : DataW.trod enc Try.prog W 0 (fun _ => true) true fuel 68 [v] = some y) (hw : ∀ x ∈ y.1.weights Try.prog 68, x ≤ 140737488351232) :
    ∃ (ao : Option Addr) (es : List Se) (cap : Nat), v = .slice ao es.length cap ∧ SeRow W.heap.size W ao es ∧ (ao = none → es = [] ∧ cap = 0) ∧ es.length ≤ 1759218604390 := by
  rcases Go.Deep.open_slice Try.underlying68 hf with ⟨h1, _⟩ | ⟨a, len, cap, m, n, D, Pl, h1, _, hl, hm, hmm, hy, hx⟩
  · simp at h1
    subst h1
    exact ⟨none, [], 0, rfl, fun j hj => by simp at hj, fun _ => ⟨rfl, rfl⟩, by simp⟩
  · simp at h1
    subst h1
    simp only [if_true] at hmm
    have hwt : y.1.weights Try.prog 68 = (len + (m - len)) * 80 :: (DataW.weightsAll Try.prog 121 ((List.range len).map D) ++ DataW.weightsAll Try.prog 121 ((List.range (m - len)).map fun j => D (len + j))) := by
      rw [hy]
      simp only [DataW.weights, Try.underlying68, Try.bytesSsE, List.length_map, List.length_range]
    have hb9 : len ≤ 1759218604390 := by
      have := hw ((len + (m - len)) * 80) (by rw [hwt]; exact List.mem_cons_self)
      omega
    have hwD : ∀ j, j < len → ∀ x ∈ (D j).weights Try.prog 121, x ≤ 140737488351232 := fun j hj x hx => hw x (by
      rw [hwt]
      exact List.mem_cons_of_mem _ (List.mem_append_left _ (wAll (List.mem_map_of_mem (List.mem_range.2 hj)) hx)))
    obtain ⟨f, hF⟩ := Go.Deep.choose_lt (α := Se) (n := len) (p := fun j s => a.block < W.heap.size ∧ (∀ r u, (seCell s)[r]? = some u → W.cell? (a.add (j * 7 + r)) = some u) ∧ StrRow W.heap.size W s.ao s.s.ks ∧ (s.ao = none → s.s.ks = [] ∧ s.c = 0) ∧ s.s.ks.length ≤ 8796093022200 ∧ s.s.val.length ≤ maxLen) (fun j hj => by
      obtain ⟨cs, h1, h2⟩ := hx j (by omega)
      rw [Try.cellsSsE] at h1
      obtain ⟨_, hlen, hc⟩ := World.cells?_some h1
      obtain ⟨c0, c1, c2, c3, c4, c5, c6, rfl⟩ := list7 hlen
      obtain ⟨y0, y1, y2, y3, n', hD, _, g0, g1, g2, g3⟩ := Joins.trod_struct4 Try.underlying121 h2
      obtain ⟨cl, e0, _, _⟩ := DataW.trod_int Try.underlying3 g0
      obtain ⟨ls, e1, _, _⟩ := DataW.trod_int Try.underlying3 g1
      obtain ⟨sn, e6, _, _⟩ := DataW.trod_int Try.underlying3 g3
      simp [Try.cellsIntE, Try.cellsRsE] at e0 e1 e6 g2
      obtain ⟨x0, x1, x2, x3, n2, hR, _, k0, k1, k2, k3⟩ := Joins.trod_struct4 Try.underlying55 g2
      obtain ⟨kd, e2, _, _⟩ := DataW.trod_int Try.underlying3 k0
      obtain ⟨val, e3, _, hv⟩ := DataW.trod_string Try.underlying9 k1
      obtain ⟨ver, e4, _, _⟩ := DataW.trod_int Try.underlying3 k2
      simp [Try.cellsIntE, Try.cellsStrE, Try.cellsStE] at e2 e3 e4 k3
      have hD1 : D j = .agg [y0.1, y1.1, y2.1, y3.1] := congrArg Prod.fst hD
      have hR1 : y2.1 = .agg [x0.1, x1.1, x2.1, x3.1] := congrArg Prod.fst hR
      obtain ⟨ao2, ks, cp2, rfl, hrow, hnn, hkl⟩ := keysInW k3 (fun x hx => hwD j hj x (by
        rw [hD1]
        simp only [DataW.weights, Try.underlying121]
        refine DataW.weights_mem_each (j := 2) (t := 55) rfl rfl x ?_
        rw [hR1]
        simp only [DataW.weights, Try.underlying55]
        exact DataW.weights_mem_each (j := 3) (t := 53) rfl rfl x hx))
      subst e0 e1 e2 e3 e4 e6
      have q0 := hc 0 (by omega)
      have q1 := hc 1 (by omega)
      have q2 := hc 2 (by omega)
      have q3 := hc 3 (by omega)
      have q4 := hc 4 (by omega)
      have q5 := hc 5 (by omega)
      have q6 := hc 6 (by omega)
      rw [addr_add2] at q0 q1 q2 q3 q4 q5 q6
      have e : (a.add (j * 7 + 0)).block = a.block := by unfold Addr.add; split <;> rfl
      have hb := World.block_lt_of_cell? W _ q0
      refine ⟨⟨⟨cl, ls, kd, val.data.toList, ver, ks, sn⟩, ao2, cp2⟩, by omega, fun r u hu => ?_, hrow, hnn, hkl, by rw [← bs_size, bs_self]; exact hv⟩
      unfold seCell at hu
      match r, hu with
      | 0, hu | 1, hu | 2, hu | 4, hu | 5, hu | 6, hu =>
        simp at hu
        subst hu
        assumption
      | 3, hu =>
        simp at hu
        subst hu
        rw [bs_self]
        exact q3)
    have hlen : ((List.range len).map f).length = len := by simp
    refine ⟨some a, (List.range len).map f, cap, by rw [hlen], ?_, (fun e => by cases e), by rw [hlen]; exact hb9⟩
    intro j hj
    rw [hlen] at hj
    obtain ⟨h0, h⟩ := hF j hj
    simp only [List.getElem_map, List.getElem_range]
    exact ⟨a, rfl, h0, h⟩

set_option maxRecDepth 100000 in
theorem reqsIn (hf : DataW.trod enc Try.prog W 0 (fun _ => true) true fuel 71 [v] = some y) (hw : ∀ x ∈ y.1.weights Try.prog 71, x ≤ 140737488351232) :
    ∃ (ao : Option Addr) (qs : List Rq) (cap : Nat), v = .slice ao qs.length cap ∧ RqRow W.heap.size W ao qs ∧ (qs.length : Int) ≤ 9000000000000000000 := by
  rcases Go.Deep.open_slice Try.underlying71 hf with ⟨h1, _⟩ | ⟨a, len, cap, m, n, D, Pl, h1, _, hl, hm, hmm, hy, hx⟩
  · simp at h1
    subst h1
    exact ⟨none, [], 0, rfl, fun j hj => by simp at hj, by simp⟩
  · simp at h1
    subst h1
    simp only [if_true] at hmm
    have hb9 : len ≤ 9000000000000000000 := by
      have := hw ((len + (m - len)) * 72) (by rw [hy]; simp only [DataW.weights, Try.underlying71, Try.bytesRqE, List.length_map, List.length_range]; exact List.mem_cons_self)
      omega
    obtain ⟨f, hF⟩ := Go.Deep.choose_lt (α := Rq) (n := len) (p := fun j q => a.block < W.heap.size ∧ W.cell? (a.add (j * 7)) = some (.int .i64 q.cl) ∧ W.cell? ⟨(a.add (j * 7)).block, (a.add (j * 7)).off + 1, none⟩ = some (.int .i64 q.nm) ∧ W.cell? ⟨(a.add (j * 7)).block, (a.add (j * 7)).off + 2, none⟩ = some (.int .i64 q.kd) ∧ W.cell? ⟨(a.add (j * 7)).block, (a.add (j * 7)).off + 3, none⟩ = some (.string (bs q.key)) ∧ W.cell? ⟨(a.add (j * 7)).block, (a.add (j * 7)).off + 4, none⟩ = some (.string (bs q.val)) ∧ W.cell? ⟨(a.add (j * 7)).block, (a.add (j * 7)).off + 5, none⟩ = some (.int .i64 q.ifv) ∧ W.cell? ⟨(a.add (j * 7)).block, (a.add (j * 7)).off + 6, none⟩ = some (.int .i64 q.tm) ∧ q.key.length ≤ maxLen ∧ q.val.length ≤ maxLen) (fun j hj => by
      obtain ⟨cs, h1, h2⟩ := hx j (by omega)
      rw [Try.cellsRqE] at h1
      obtain ⟨_, hlen, hc⟩ := World.cells?_some h1
      obtain ⟨c0, c1, c2, c3, c4, c5, c6, rfl⟩ := list7 hlen
      obtain ⟨y0, y1, y2, y3, n', _, _, g0, g1, g2, g3⟩ := Joins.trod_struct4 Try.underlying75 h2
      obtain ⟨cl, e0, _, _⟩ := DataW.trod_int Try.underlying3 g0
      obtain ⟨nm, e1, _, _⟩ := DataW.trod_int Try.underlying3 g1
      obtain ⟨tm, e6, _, _⟩ := DataW.trod_int Try.underlying3 g3
      simp [Try.cellsIntE, Try.cellsCmE] at e0 e1 e6 g2
      obtain ⟨x0, x1, x2, x3, n2, _, _, k0, k1, k2, k3⟩ := Joins.trod_struct4 Try.underlying59 g2
      obtain ⟨kd, e2, _, _⟩ := DataW.trod_int Try.underlying3 k0
      obtain ⟨key, e3, _, hk⟩ := DataW.trod_string Try.underlying9 k1
      obtain ⟨val, e4, _, hv⟩ := DataW.trod_string Try.underlying9 k2
      obtain ⟨ifv, e5, _, _⟩ := DataW.trod_int Try.underlying3 k3
      simp [Try.cellsIntE, Try.cellsStrE] at e2 e3 e4 e5
      subst e0 e1 e2 e3 e4 e5 e6
      have q0 := hc 0 (by omega)
      have q1 := hc 1 (by omega)
      have q2 := hc 2 (by omega)
      have q3 := hc 3 (by omega)
      have q4 := hc 4 (by omega)
      have q5 := hc 5 (by omega)
      have q6 := hc 6 (by omega)
      rw [add_zero] at q0
      rw [add_pos _ (by omega)] at q1 q2 q3 q4 q5 q6
      have e : (a.add (j * 7)).block = a.block := by unfold Addr.add; split <;> rfl
      have hb := World.block_lt_of_cell? W _ q0
      exact ⟨⟨cl, nm, kd, key.data.toList, val.data.toList, ifv, tm⟩, by omega, q0, q1, q2, by rw [bs_self]; exact q3, by rw [bs_self]; exact q4, q5, q6, by rw [← bs_size, bs_self]; exact hk, by rw [← bs_size, bs_self]; exact hv⟩)
    have hlen : ((List.range len).map f).length = len := by simp
    refine ⟨some a, (List.range len).map f, cap, by rw [hlen], ?_, by rw [hlen]; omega⟩
    intro j hj
    rw [hlen] at hj
    obtain ⟨h0, h⟩ := hF j hj
    simp only [List.getElem_map, List.getElem_range]
    exact ⟨a, rfl, h0, h⟩
end

set_option maxRecDepth 100000 in
theorem openTabW {H : Type} {enc : TypeId × Value → H} {W : World} {b0 : Nat} {v : Value} {d : DataW H} {p : List MemPlace} {r : Reach}
    (hv : Value.okWide Try.prog W r b0 70 v) (h : DataW.Trod enc Try.prog W 0 (fun _ => true) true 70 v d p) (hw : ∀ x ∈ d.weights Try.prog 70, x ≤ 140737488351232) :
    ∃ (ao so : Option Addr) (cp cs : Nat) (ps : List Pr) (es : List Se) (tt : Int), v = .agg #[.slice ao ps.length cp, .slice so es.length cs, .int .i64 tt] ∧ PairRow W.heap.size W ao ps ∧ SeRow W.heap.size W so es ∧ (ao = none → ps = [] ∧ cp = 0) ∧ (so = none → es = [] ∧ cs = 0) ∧ ps.length ≤ 3518437208780 ∧ es.length ≤ 1759218604390 := by
  obtain ⟨cs, rfl, hsize⟩ := okWide_struct Try.underlying70 hv
  obtain ⟨c0, c1, c2, rfl⟩ := array3 (hsize.trans Try.cellsTbE)
  obtain ⟨fuel, hf⟩ := h
  obtain ⟨y0, y1, y2, n, hD, _, g0, g1, g2⟩ := Go.Deep.trod_struct3 Try.underlying70 hf
  obtain ⟨tt, e2, _, _⟩ := DataW.trod_int Try.underlying3 g2
  simp [Value.cells, Try.cellsIntE, Try.cellsPsE, Try.cellsSeE] at e2 g0 g1
  have hD1 : d = .agg [y0.1, y1.1, y2.1] := congrArg Prod.fst hD
  have hwt : d.weights Try.prog 70 = DataW.weightsEach Try.prog [51, 68, 3] [y0.1, y1.1, y2.1] := by
    rw [hD1]
    simp only [DataW.weights, Try.underlying70]
    rfl
  obtain ⟨ao, ps, cp, rfl, r1, n1, s1⟩ := pairsIn g0
  obtain ⟨so, es, cs, rfl, r2, n2, s2⟩ := sessInW g1 (fun x hx => hw x (by rw [hwt]; exact DataW.weights_mem_each (j := 1) (t := 68) rfl rfl x hx))
  subst e2
  exact ⟨ao, so, cp, cs, ps, es, tt, rfl, r1, r2, n1, n2, pairsSize s1 (fun x hx => hw x (by rw [hwt]; exact DataW.weights_mem_each (j := 0) (t := 51) rfl rfl x hx)), s2⟩

set_option maxRecDepth 100000 in
theorem sessionExact_lifted (os : Os) (started : os.Started) (H : Type) (enc : TypeId × Value → H) :
    ReturnsInHanded {} Try.checked os 7 .any (Rows.sessionExactSpec.pre6 enc Try.prog Try.f7 Rows.sessionExactRow.domain false) (Rows.sessionExactSpec.post enc Try.prog Try.f7 false true false false) := by
  refine returnsInHanded_of_change_sized (C := Try.checked) Try.ownE started (by kernel_rfl) Try.func7
    (ChangeSpec.witness6 (enc := enc) (C := Try.checked) false ⟨#[], #[.agg #[.slice none 0 0, .slice none 0 0, .int .i64 0], .slice none 0 0, .int .i64 0], []⟩ 8 (by kernel_rfl) (by kernel_rfl) (by kernel_rfl) (by kernel_rfl)) ?_
  intro W base args ds gs before hval0 hW _ hsz0 _
  have hsz : (DataW.weightsEach Try.prog (Try.f7.params.toList ++ Rows.sessionExactSpec.plain.varTypes Try.prog) (ds ++ gs)).all (· ≤ reachBytes) = true := hsz0
  clear hsz0
  have hval : ∀ (j : Nat) t v, Try.f7.params[j]? = some t → args[j]? = some v → Value.okWide Try.prog W .any base t v := hval0
  have hW' := hW
  obtain ⟨p, q, hA0, hV, rfl, _, _⟩ := hW
  have hA : DataW.TrodAll enc Try.prog W 0 (fun _ => true) true Try.f7.params.toList args.toList ds p := hA0
  rw [Try.params7] at hA hval hsz
  obtain ⟨v0, v1, v2, d0, d1, d2, p0, p1, p2, hargs, rfl, rfl, h0, h1, h2⟩ := trodAll_three hA
  obtain rfl : args = #[v0, v1, v2] := by cases args; simp_all
  obtain ⟨rfl, rfl⟩ := trodVars_none hV
  have k0 := h0
  have k1 := h1
  have k2 := h2
  have lt0 : ∀ x ∈ p0, x.block < W.heap.size := by obtain ⟨m, hm⟩ := k0; exact DataW.trod_lt m _ _ _ hm
  have lt1 : ∀ x ∈ p1, x.block < W.heap.size := by obtain ⟨m, hm⟩ := k1; exact DataW.trod_lt m _ _ _ hm
  have lt2 : ∀ x ∈ p2, x.block < W.heap.size := by obtain ⟨m, hm⟩ := k2; exact DataW.trod_lt m _ _ _ hm
  have hs0 : ∀ x ∈ d0.weights Try.prog 70, x ≤ 140737488351232 := fun x hx => by
    have := List.all_eq_true.1 hsz x (DataW.weights_mem_each (j := 0) (t := 70) rfl rfl x hx)
    simp only [reachBytes] at this
    exact of_decide_eq_true this
  have hs1 : ∀ x ∈ d1.weights Try.prog 71, x ≤ 140737488351232 := fun x hx => by
    have := List.all_eq_true.1 hsz x (DataW.weights_mem_each (j := 1) (t := 71) rfl rfl x hx)
    simp only [reachBytes] at this
    exact of_decide_eq_true this
  obtain ⟨ao, so, cp, cs, ps, es, tt, rfl, r1, r2, n1, n2, l1, l2⟩ := openTabW (hval 0 70 v0 rfl rfl) h0 hs0
  obtain ⟨qo, qs, cq, hv1, hq, hql⟩ : ∃ (qo : Option Addr) (qs : List Rq) (c : Nat), v1 = .slice qo qs.length c ∧ RqRow W.heap.size W qo qs ∧ (qs.length : Int) ≤ 9000000000000000000 := by
    obtain ⟨b2, len2, cap2, rfl⟩ := okWide_slice Try.underlying71 (hval 1 71 v1 rfl rfl)
    obtain ⟨fuel, hf⟩ := h1
    simp only [Value.cells] at hf
    exact reqsIn hf hs1
  subst hv1
  obtain ⟨ix, rfl, rfl, rfl, _⟩ := open_int Try.underlying3 (hval 2 3 v2 rfl rfl) h2
  have hw := sessionExact_any cp cs cq tt ix ao so qo ps es qs W r1 r2 n1 n2 l1 l2 hq hql
  clear hA0 hval0
  refine hw.mono fun e W' ⟨he, hkk⟩ => ?_
  subst he
  have bel := hkk.below (B := W.heap.size) (fun _ _ x => x.elim) (Nat.le_refl _)
  exact ⟨_, rfl, _, _, _, [], p0 ++ (p1 ++ []), [], hW', trodAll_mk1 (shut_bool Try.underlying4 _), trodAll_mk3 (Below.trod Try.laidOutE (by kernel_rfl) (of_decide_eq_true (by kernel_rfl)) k0 bel lt0) (Below.trod Try.laidOutE (by kernel_rfl) (of_decide_eq_true (by kernel_rfl)) k1 bel lt1) (Below.trod Try.laidOutE (by kernel_rfl) (of_decide_eq_true (by kernel_rfl)) k2 bel lt2), rfl, bel.frame _, fun h => by cases h⟩

theorem sessionExact_holds : Rows.SessionExactSaid :=
  OpenClaim.holds_of_wide 7 Try.f7 rfl rfl rfl rfl rfl rfl rfl ⟨rfl, rfl, rfl, rfl, rfl⟩ rfl rfl rfl rfl rfl (by kernel_rfl) Try.func7 (by kernel_rfl)
    (of_decide_eq_true (by kernel_rfl)) (by unfold Func.isWrapper; first | (rw [if_pos (by decide +kernel)]; kernel_rfl) | (rw [if_neg (by decide +kernel)]; exact ⟨rfl, rfl⟩))
    (fun os started H enc _ => sessionExact_lifted os started H enc)
#print axioms sessionExact_holds

end Go.Proofs.Ytblmmbghnkplkaa
