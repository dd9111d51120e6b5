/-
  ClientExact holds for all nodes, all patience and all scripts: the client of the program answers what the document's answer does, step by step, what is handed in stays as it is, also when what came out, and the lists that went in, are overwritten, and a client of one node asks first for a session.
  Conditions: none (each string and slice takes at most 2^47 - 4096 bytes, as the form itself says).
-/
import Derived.Test.YtbfleeilpccmcaaRows
import Derived.Test.YtbfleeilpccmcaaWCx2
import Derived.ProofKit
import Derived.OpenShut
import Derived.ShutString
import Derived.ChangeOld
import Derived.SizedLaws
import Derived.ChangeSlices
import Derived.Lib.SmallJoins
import Derived.Carry
import Derived.Deep.Strs
import Derived.Deep.Slices
namespace Go.Proofs.Ytbfleeilpccmcaa
open Go.ChangeShapes Go.WideShapes Go.ChangeAt Go.RowKit
open Go.ChangeMaps (open_string shut_string)

theorem Try.ownE : ownKnob Try.prog.godebug = none := by kernel_rfl
theorem Try.laidOutE : laidOutB Try.prog = true := by kernel_rfl
theorem Try.cellsIntE : Try.prog.cellsOf 3 = 1 := by kernel_rfl
theorem Try.cellsStrE : Try.prog.cellsOf 9 = 1 := by kernel_rfl
theorem Try.cellsErE : Try.prog.cellsOf 25 = 1 := by kernel_rfl
theorem Try.cellsRsE : Try.prog.cellsOf 45 = 4 := by kernel_rfl
theorem Try.cellsStE : Try.prog.cellsOf 43 = 1 := by kernel_rfl
theorem Try.bytesStE : Try.prog.bytesOf 9 = 16 := by kernel_rfl
theorem add_pos (a : Addr) {i : Nat} (h : 0 < i) : a.add i = ⟨a.block, a.off + i, none⟩ := by unfold Addr.add; rw [if_neg (by omega)]
theorem add_zero (a : Addr) : a.add 0 = a := rfl
theorem wAll {H : Type} {e : TypeId} {d : DataW H} {x : Nat} : ∀ {l : List (DataW H)}, d ∈ l → x ∈ d.weights Try.prog e → x ∈ DataW.weightsAll Try.prog e l
  | [], h, _ => by simp at h
  | c :: r, h, hx => by
    rw [DataW.weightsAll]
    rcases List.mem_cons.1 h with rfl | h
    · exact List.mem_append_left _ hx
    · exact List.mem_append_right _ (wAll h hx)
theorem Try.cellsCmE : Try.prog.cellsOf 30 = 4 := by kernel_rfl
theorem Try.cellsCsE : Try.prog.cellsOf 47 = 11 := by kernel_rfl
theorem Try.bytesCsE : Try.prog.bytesOf 47 = 128 := by kernel_rfl
theorem Try.bytesIntE : Try.prog.bytesOf 3 = 8 := by kernel_rfl
theorem list5 {α : Type} {cs : List α} (h : cs.length = 5) : ∃ a0 a1 a2 a3 a4, cs = [a0, a1, a2, a3, a4] := by
  match cs, h with
  | [a0, a1, a2, a3, a4], _ => exact ⟨a0, a1, a2, a3, a4, rfl⟩
theorem list11 {α : Type} {cs : List α} (h : cs.length = 11) : ∃ a0 a1 a2 a3 a4 a5 a6 a7 a8 a9 a10, cs = [a0, a1, a2, a3, a4, a5, a6, a7, a8, a9, a10] := by
  match cs, h with
  | [a0, a1, a2, a3, a4, a5, a6, a7, a8, a9, a10], _ => exact ⟨a0, a1, a2, a3, a4, a5, a6, a7, a8, a9, a10, rfl⟩
instance : Inhabited St := ⟨⟨0, 0, 0, [], [], 0, 0, 0, [], 0, [], none, 0⟩⟩

set_option maxRecDepth 100000 in
theorem keysInW {H : Type} {enc : TypeId × Value → H} {W : World} {fuel : Nat} {v : Value} {y : DataW H × List MemPlace} (hf : DataW.trod enc Try.prog W 0 (fun _ => true) true fuel 43 [v] = some y) (hw : ∀ x ∈ y.1.weights Try.prog 43, x ≤ 140737488351232) :
    ∃ (ao : Option Addr) (ks : List (List UInt8)) (cap : Nat), v = .slice ao ks.length cap ∧ KIn (fun k => k < W.heap.size) W ao cap ks := by
  rcases Go.Deep.open_strs Try.underlying43 Try.underlying9 Try.cellsStrE hf with ⟨h1, _⟩ | ⟨a, len, cap, m, Sx, h1, _, hl, hm, hmm, hy, hx⟩
  · simp at h1
    subst h1
    exact ⟨none, [], 0, rfl, KIn.none⟩
  · simp at h1
    subst h1
    simp only [if_true] at hmm
    have hlen : ((List.range len).map fun i => (Sx i).data.toList).length = len := by simp
    have hb9 : len ≤ 8796093022200 := by
      have := hw ((len + (m - len)) * 16) (by rw [hy]; simp only [DataW.weights, Try.underlying43, Try.bytesStE, List.length_map, List.length_range]; exact List.mem_cons_self)
      omega
    have hrow : StrRow W.heap.size W (some a) ((List.range len).map fun i => (Sx i).data.toList) := by
      intro j hj
      rw [hlen] at hj
      obtain ⟨h1, h2⟩ := hx j (by omega)
      have e : (a.add j).block = a.block := by unfold Addr.add; split <;> rfl
      have hb := World.block_lt_of_cell? W _ h1
      refine ⟨a, rfl, by omega, ?_, ?_⟩
      · rw [h1]; simp [bs_self]
      · have : (Sx j).data.toList.length = (Sx j).size := by rw [← bs_size, bs_self]
        simp only [List.getElem_map, List.getElem_range]
        omega
    refine ⟨some a, (List.range len).map fun i => (Sx i).data.toList, cap, by rw [hlen], hrow, fun a' ha hn => ?_, (fun e => by cases e), by rw [hlen]; exact hb9⟩
    obtain ⟨a2, ha2, hb2, _⟩ := hrow 0 (by omega)
    rw [ha] at ha2
    cases ha2
    exact hb2

set_option maxRecDepth 100000 in
theorem intsIn {H : Type} {enc : TypeId × Value → H} {W : World} {fuel : Nat} {v : Value} {y : DataW H × List MemPlace} (hf : DataW.trod enc Try.prog W 0 (fun _ => true) true fuel 22 [v] = some y) (hw : ∀ x ∈ y.1.weights Try.prog 22, x ≤ 140737488351232) :
    ∃ (ao : Option Addr) (zs : List Int) (cap : Nat), v = .slice ao zs.length cap ∧ IntRow W.heap.size W ao zs ∧ (zs.length + 1) * 8 ≤ 140737488355328 := by
  rcases open_ints Try.underlying22 Try.underlying3 Try.cellsIntE hf with ⟨h1, _⟩ | ⟨a', len, cap, zs, h1, _, hl, hm, hz, hy, hc, _⟩
  · simp at h1
    subst h1
    exact ⟨none, [], 0, rfl, intRow_nil _ _ _, by simp⟩
  · simp at h1
    subst h1
    simp only [if_true] at hz
    have hlen : (zs.take len).length = len := by rw [List.length_take]; omega
    have hb9 : (len + 1) * 8 ≤ 140737488355328 := by
      rw [hy] at hw
      simp only [DataW.weights, Try.underlying22, Try.bytesIntE] at hw
      have := hw _ List.mem_cons_self
      simp only [lits, List.length_map, List.length_take] at this
      omega
    refine ⟨some a', zs.take len, cap, by rw [hlen], ?_, by rw [hlen]; exact hb9⟩
    intro j hj
    rw [hlen] at hj
    have hcj := hc j (by omega)
    have e : (a'.add j).block = a'.block := by unfold Addr.add; split <;> rfl
    have hb := World.block_lt_of_cell? W _ hcj
    refine ⟨a', rfl, by omega, ?_⟩
    rw [hcj]
    simp [List.getD_eq_getElem?_getD, show j < zs.length by omega]

set_option maxRecDepth 100000 in
theorem stepsIn {H : Type} {enc : TypeId × Value → H} {W : World} {fuel : Nat} {v : Value} {y : DataW H × List MemPlace} (hf : DataW.trod enc Try.prog W 0 (fun _ => true) true fuel 23 [v] = some y) (hw : ∀ x ∈ y.1.weights Try.prog 23, x ≤ 140737488351232) :
    ∃ (ao : Option Addr) (ss : List St) (cap : Nat), v = .slice ao ss.length cap ∧ StRow W.heap.size W ao ss ∧ (ss.length : Int) ≤ 4611686018427380000 := by
  rcases Go.Deep.open_slice Try.underlying23 hf with ⟨h1, _⟩ | ⟨a, len, cap, m, n, D, Pl, h1, _, hl, hm, hmm, hy, hx⟩
  · simp at h1
    subst h1
    exact ⟨none, [], 0, rfl, fun j hj => by simp at hj, by simp⟩
  · simp at h1
    subst h1
    simp only [if_true] at hmm
    have hwt : y.1.weights Try.prog 23 = (len + (m - len)) * 128 :: (DataW.weightsAll Try.prog 47 ((List.range len).map D) ++ DataW.weightsAll Try.prog 47 ((List.range (m - len)).map fun j => D (len + j))) := by
      rw [hy]
      simp only [DataW.weights, Try.underlying23, Try.bytesCsE, List.length_map, List.length_range]
    have hb9 : len ≤ 1099511627776 := by
      have := hw ((len + (m - len)) * 128) (by rw [hwt]; exact List.mem_cons_self)
      omega
    have hwD : ∀ j, j < len → ∀ x ∈ (D j).weights Try.prog 47, x ≤ 140737488351232 := fun j hj x hx => hw x (by
      rw [hwt]
      exact List.mem_cons_of_mem _ (List.mem_append_left _ (wAll (List.mem_map_of_mem (List.mem_range.2 hj)) hx)))
    obtain ⟨f, hF⟩ := Go.Deep.choose_lt (α := St) (n := len) (p := fun j s => a.block < W.heap.size ∧ (W.cell? (a.add (j * 11)) = some (.int .i64 s.kd) ∧ W.cell? ⟨(a.add (j * 11)).block, (a.add (j * 11)).off + 1, none⟩ = some (.int .i64 s.id) ∧ W.cell? ⟨(a.add (j * 11)).block, (a.add (j * 11)).off + 2, none⟩ = some (.int .i64 s.ck) ∧ W.cell? ⟨(a.add (j * 11)).block, (a.add (j * 11)).off + 3, none⟩ = some (.string (bs s.ckey)) ∧ W.cell? ⟨(a.add (j * 11)).block, (a.add (j * 11)).off + 4, none⟩ = some (.string (bs s.cval)) ∧ W.cell? ⟨(a.add (j * 11)).block, (a.add (j * 11)).off + 5, none⟩ = some (.int .i64 s.ci) ∧ W.cell? ⟨(a.add (j * 11)).block, (a.add (j * 11)).off + 6, none⟩ = some (.int .i64 s.er) ∧ W.cell? ⟨(a.add (j * 11)).block, (a.add (j * 11)).off + 7, none⟩ = some (.int .i64 s.rk) ∧ W.cell? ⟨(a.add (j * 11)).block, (a.add (j * 11)).off + 8, none⟩ = some (.string (bs s.rval)) ∧ W.cell? ⟨(a.add (j * 11)).block, (a.add (j * 11)).off + 9, none⟩ = some (.int .i64 s.rver) ∧ W.cell? ⟨(a.add (j * 11)).block, (a.add (j * 11)).off + 10, none⟩ = some (.slice s.ao s.ks.length s.cc)) ∧ s.ckey.length ≤ maxLen ∧ s.cval.length ≤ maxLen ∧ KIn (fun k => k < W.heap.size) W s.ao s.cc s.ks) (fun j hj => by
      obtain ⟨cs, h1, h2⟩ := hx j (by omega)
      rw [Try.cellsCsE] at h1
      obtain ⟨_, hlen, hc⟩ := World.cells?_some h1
      obtain ⟨c0, c1, c2, c3, c4, c5, c6, c7, c8, c9, c10, rfl⟩ := list11 hlen
      obtain ⟨ys, n', _, hD, _, hyl, hg⟩ := DataW.trod_struct Try.underlying47 h2
      obtain ⟨y0, y1, y2, y3, y4, rfl⟩ := list5 hyl
      have g0 := hg 0 _ rfl
      have g1 := hg 1 _ rfl
      have g2 := hg 2 _ rfl
      have g3 := hg 3 _ rfl
      have g4 := hg 4 _ rfl
      simp [Try.cellsIntE, Try.cellsErE, Try.cellsCmE, Try.cellsRsE] at g0 g1 g2 g3 g4
      obtain ⟨kd, e0, _, _⟩ := DataW.trod_int Try.underlying3 g0
      obtain ⟨id, e1, _, _⟩ := DataW.trod_int Try.underlying3 g1
      obtain ⟨er, e6, _, _⟩ := DataW.trod_int Try.underlying25 g3
      obtain ⟨x0, x1, x2, x3, n2, _, _, k0, k1, k2, k3⟩ := Joins.trod_struct4 Try.underlying30 g2
      obtain ⟨ck, e2, _, _⟩ := DataW.trod_int Try.underlying3 k0
      obtain ⟨key, e3, _, hk⟩ := DataW.trod_string Try.underlying9 k1
      obtain ⟨val, e4, _, hv⟩ := DataW.trod_string Try.underlying9 k2
      obtain ⟨ci, e5, _, _⟩ := DataW.trod_int Try.underlying3 k3
      obtain ⟨z0, z1, z2, z3, n3, hR, _, j0, j1, j2, j3⟩ := Joins.trod_struct4 Try.underlying45 g4
      obtain ⟨rk, e7, _, _⟩ := DataW.trod_int Try.underlying3 j0
      obtain ⟨rval, e8, _, _⟩ := DataW.trod_string Try.underlying9 j1
      obtain ⟨rver, e9, _, _⟩ := DataW.trod_int Try.underlying3 j2
      simp [Try.cellsIntE, Try.cellsStrE, Try.cellsStE] at e0 e1 e2 e3 e4 e5 e6 e7 e8 e9 j3
      have hD1 : D j = .agg [y0.1, y1.1, y2.1, y3.1, y4.1] := congrArg Prod.fst hD
      have hR1 : y4.1 = .agg [z0.1, z1.1, z2.1, z3.1] := congrArg Prod.fst hR
      obtain ⟨ao2, ks, cp2, rfl, hkin⟩ := keysInW j3 (fun x hx => hwD j hj x (by
        rw [hD1]
        simp only [DataW.weights, Try.underlying47]
        refine DataW.weights_mem_each (j := 4) (t := 45) rfl rfl x ?_
        rw [hR1]
        simp only [DataW.weights, Try.underlying45]
        exact DataW.weights_mem_each (j := 3) (t := 43) rfl rfl x hx))
      subst e0 e1 e2 e3 e4 e5 e6 e7 e8 e9
      have q0 := hc 0 (by omega)
      have q1 := hc 1 (by omega)
      have q2 := hc 2 (by omega)
      have q3 := hc 3 (by omega)
      have q4 := hc 4 (by omega)
      have q5 := hc 5 (by omega)
      have q6 := hc 6 (by omega)
      have q7 := hc 7 (by omega)
      have q8 := hc 8 (by omega)
      have q9 := hc 9 (by omega)
      have q10 := hc 10 (by omega)
      rw [add_zero] at q0
      rw [add_pos _ (by omega)] at q1 q2 q3 q4 q5 q6 q7 q8 q9 q10
      have e : (a.add (j * 11)).block = a.block := by unfold Addr.add; split <;> rfl
      have hb := World.block_lt_of_cell? W _ q0
      exact ⟨⟨kd, id, ck, key.data.toList, val.data.toList, ci, er, rk, rval.data.toList, rver, ks, ao2, cp2⟩, by omega, ⟨q0, q1, q2, by rw [bs_self]; exact q3, by rw [bs_self]; exact q4, q5, q6, q7, by rw [bs_self]; exact q8, q9, q10⟩, by rw [← bs_size, bs_self]; exact hk, by rw [← bs_size, bs_self]; exact hv, hkin⟩)
    have hlen : ((List.range len).map f).length = len := by simp
    refine ⟨some a, (List.range len).map f, cap, by rw [hlen], ?_, by rw [hlen]; omega⟩
    intro j hj
    rw [hlen] at hj
    obtain ⟨h0, h⟩ := hF j hj
    simp only [List.getElem_map, List.getElem_range]
    exact ⟨a, rfl, h0, h⟩

set_option maxRecDepth 100000 in
theorem clientExact_lifted (os : Os) (started : os.Started) (H : Type) (enc : TypeId × Value → H) :
    ReturnsInHanded {} Try.checked os 3 .any (Rows.clientExactSpec.pre6 enc Try.prog Try.f3 Rows.clientExactRow.domain false) (Rows.clientExactSpec.post enc Try.prog Try.f3 false true false false) := by
  refine returnsInHanded_of_change_sized (C := Try.checked) Try.ownE started (by kernel_rfl) Try.func3
    (ChangeSpec.witness6 (enc := enc) (C := Try.checked) false ⟨#[], #[.slice none 0 0, .int .i64 0, .slice none 0 0], []⟩ 8 (by kernel_rfl) (by kernel_rfl) (by kernel_rfl) (by kernel_rfl)) ?_
  intro W base args ds gs before hval0 hW _ hsz0 _
  have hsz : (DataW.weightsEach Try.prog (Try.f3.params.toList ++ Rows.clientExactSpec.plain.varTypes Try.prog) (ds ++ gs)).all (· ≤ reachBytes) = true := hsz0
  clear hsz0
  have hval : ∀ (j : Nat) t v, Try.f3.params[j]? = some t → args[j]? = some v → Value.okWide Try.prog W .any base t v := hval0
  have hW' := hW
  obtain ⟨p, q, hA0, hV, rfl, _, _⟩ := hW
  have hA : DataW.TrodAll enc Try.prog W 0 (fun _ => true) true Try.f3.params.toList args.toList ds p := hA0
  rw [Try.params3] at hA hval hsz
  obtain ⟨v0, v1, v2, d0, d1, d2, p0, p1, p2, hargs, rfl, rfl, h0, h1, h2⟩ := trodAll_three hA
  obtain rfl : args = #[v0, v1, v2] := by cases args; simp_all
  obtain ⟨rfl, rfl⟩ := trodVars_none hV
  have k0 := h0
  have k1 := h1
  have k2 := h2
  have lt0 : ∀ x ∈ p0, x.block < W.heap.size := by obtain ⟨m, hm⟩ := k0; exact DataW.trod_lt m _ _ _ hm
  have lt1 : ∀ x ∈ p1, x.block < W.heap.size := by obtain ⟨m, hm⟩ := k1; exact DataW.trod_lt m _ _ _ hm
  have lt2 : ∀ x ∈ p2, x.block < W.heap.size := by obtain ⟨m, hm⟩ := k2; exact DataW.trod_lt m _ _ _ hm
  have hs0 : ∀ x ∈ d0.weights Try.prog 22, x ≤ 140737488351232 := fun x hx => by
    have := List.all_eq_true.1 hsz x (DataW.weights_mem_each (j := 0) (t := 22) rfl rfl x hx)
    simp only [reachBytes] at this
    exact of_decide_eq_true this
  have hs2 : ∀ x ∈ d2.weights Try.prog 23, x ≤ 140737488351232 := fun x hx => by
    have := List.all_eq_true.1 hsz x (DataW.weights_mem_each (j := 2) (t := 23) rfl rfl x hx)
    simp only [reachBytes] at this
    exact of_decide_eq_true this
  obtain ⟨ao, zs, cz, hv0, r0, l0⟩ : ∃ (ao : Option Addr) (zs : List Int) (c : Nat), v0 = .slice ao zs.length c ∧ IntRow W.heap.size W ao zs ∧ (zs.length + 1) * 8 ≤ 140737488355328 := by
    obtain ⟨bb, len, cap, rfl⟩ := okWide_slice Try.underlying22 (hval 0 22 v0 rfl rfl)
    obtain ⟨fuel, hf⟩ := h0
    simp only [Value.cells] at hf
    exact intsIn hf hs0
  subst hv0
  obtain ⟨pat, rfl, rfl, rfl, _⟩ := open_int Try.underlying3 (hval 1 3 v1 rfl rfl) h1
  obtain ⟨so, ss, cs, hv2, r2, l2⟩ : ∃ (so : Option Addr) (ss : List St) (c : Nat), v2 = .slice so ss.length c ∧ StRow W.heap.size W so ss ∧ (ss.length : Int) ≤ 4611686018427380000 := by
    obtain ⟨bb, len, cap, rfl⟩ := okWide_slice Try.underlying23 (hval 2 23 v2 rfl rfl)
    obtain ⟨fuel, hf⟩ := h2
    simp only [Value.cells] at hf
    exact stepsIn hf hs2
  subst hv2
  have hw := clientExact_any cz cs ao so zs pat ss W r0 l0 r2 l2
  clear hA0 hval0
  refine hw.mono fun e W' ⟨he, hkk⟩ => ?_
  subst he
  have bel := hkk.below (B := W.heap.size) (fun _ _ x => x.elim) (Nat.le_refl _)
  exact ⟨_, rfl, _, _, _, [], p0 ++ ([] ++ p2), [], hW', trodAll_mk1 (shut_bool Try.underlying4 _), trodAll_mk3 (Below.trod Try.laidOutE (by kernel_rfl) (of_decide_eq_true (by kernel_rfl)) k0 bel lt0) (Below.trod Try.laidOutE (by kernel_rfl) (of_decide_eq_true (by kernel_rfl)) k1 bel lt1) (Below.trod Try.laidOutE (by kernel_rfl) (of_decide_eq_true (by kernel_rfl)) k2 bel lt2), rfl, bel.frame _, fun h => by cases h⟩

theorem clientExact_holds : Rows.ClientExactSaid :=
  OpenClaim.holds_of_wide 3 Try.f3 rfl rfl rfl rfl rfl rfl rfl ⟨rfl, rfl, rfl, rfl, rfl⟩ rfl rfl rfl rfl rfl (by kernel_rfl) Try.func3 (by kernel_rfl)
    (of_decide_eq_true (by kernel_rfl)) (by unfold Func.isWrapper; first | (rw [if_pos (by decide +kernel)]; kernel_rfl) | (rw [if_neg (by decide +kernel)]; exact ⟨rfl, rfl⟩))
    (fun os started H enc _ => clientExact_lifted os started H enc)
#print axioms clientExact_holds

end Go.Proofs.Ytbfleeilpccmcaa
