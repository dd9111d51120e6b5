/-
  ClientOnce holds for all numbers and all answers: whatever is answered, and when, the numbers under which the client asks in one session never fall, go on by one behind each result, and are never asked with another command; it waits for one thing at a time; what is wanted is asked whenever it does not wait, and an answer to what was asked last is the result.
  Conditions: none (each string and slice takes at most 2^47 - 4096 bytes, as the form itself says).
-/
import Derived.Test.YtbfleeilpccmcaaRows
import Derived.Test.YtbfleeilpccmcaaWCo2
import Derived.ProofKit
import Derived.OpenShut
import Derived.ShutString
import Derived.ChangeOld
import Derived.SizedLaws
import Derived.ChangeSlices
import Derived.Lib.SmallJoins
import Derived.Carry
import Derived.Deep.Strs
import Derived.Deep.Slices
namespace Go.Proofs.Ytbfleeilpccmcaa
open Go.ChangeShapes Go.WideShapes Go.ChangeAt Go.RowKit
open Go.ChangeMaps (open_string shut_string)

theorem Try.ownE : ownKnob Try.prog.godebug = none := by kernel_rfl
theorem Try.laidOutE : laidOutB Try.prog = true := by kernel_rfl
theorem Try.cellsIntE : Try.prog.cellsOf 3 = 1 := by kernel_rfl
theorem Try.cellsStrE : Try.prog.cellsOf 9 = 1 := by kernel_rfl
theorem Try.cellsErE : Try.prog.cellsOf 25 = 1 := by kernel_rfl
theorem Try.cellsRsE : Try.prog.cellsOf 45 = 4 := by kernel_rfl
theorem Try.cellsStE : Try.prog.cellsOf 43 = 1 := by kernel_rfl
theorem Try.bytesStE : Try.prog.bytesOf 9 = 16 := by kernel_rfl
theorem add_pos (a : Addr) {i : Nat} (h : 0 < i) : a.add i = ⟨a.block, a.off + i, none⟩ := by unfold Addr.add; rw [if_neg (by omega)]
theorem add_zero (a : Addr) : a.add 0 = a := rfl
theorem wAll {H : Type} {e : TypeId} {d : DataW H} {x : Nat} : ∀ {l : List (DataW H)}, d ∈ l → x ∈ d.weights Try.prog e → x ∈ DataW.weightsAll Try.prog e l
  | [], h, _ => by simp at h
  | c :: r, h, hx => by
    rw [DataW.weightsAll]
    rcases List.mem_cons.1 h with rfl | h
    · exact List.mem_append_left _ hx
    · exact List.mem_append_right _ (wAll h hx)
theorem Try.cellsAnE : Try.prog.cellsOf 56 = 6 := by kernel_rfl
theorem Try.bytesAnE : Try.prog.bytesOf 56 = 72 := by kernel_rfl
theorem list6 {α : Type} {cs : List α} (h : cs.length = 6) : ∃ a0 a1 a2 a3 a4 a5, cs = [a0, a1, a2, a3, a4, a5] := by
  match cs, h with
  | [a0, a1, a2, a3, a4, a5], _ => exact ⟨a0, a1, a2, a3, a4, a5, rfl⟩
instance : Inhabited An := ⟨⟨0, 0, 0, [], 0, [], none, 0⟩⟩

set_option maxRecDepth 100000 in
theorem keysInW {H : Type} {enc : TypeId × Value → H} {W : World} {fuel : Nat} {v : Value} {y : DataW H × List MemPlace} (hf : DataW.trod enc Try.prog W 0 (fun _ => true) true fuel 43 [v] = some y) (hw : ∀ x ∈ y.1.weights Try.prog 43, x ≤ 140737488351232) :
    ∃ (ao : Option Addr) (ks : List (List UInt8)) (cap : Nat), v = .slice ao ks.length cap ∧ KIn (fun k => k < W.heap.size) W ao cap ks := by
  rcases Go.Deep.open_strs Try.underlying43 Try.underlying9 Try.cellsStrE hf with ⟨h1, _⟩ | ⟨a, len, cap, m, Sx, h1, _, hl, hm, hmm, hy, hx⟩
  · simp at h1
    subst h1
    exact ⟨none, [], 0, rfl, KIn.none⟩
  · simp at h1
    subst h1
    simp only [if_true] at hmm
    have hlen : ((List.range len).map fun i => (Sx i).data.toList).length = len := by simp
    have hb9 : len ≤ 8796093022200 := by
      have := hw ((len + (m - len)) * 16) (by rw [hy]; simp only [DataW.weights, Try.underlying43, Try.bytesStE, List.length_map, List.length_range]; exact List.mem_cons_self)
      omega
    have hrow : StrRow W.heap.size W (some a) ((List.range len).map fun i => (Sx i).data.toList) := by
      intro j hj
      rw [hlen] at hj
      obtain ⟨h1, h2⟩ := hx j (by omega)
      have e : (a.add j).block = a.block := by unfold Addr.add; split <;> rfl
      have hb := World.block_lt_of_cell? W _ h1
      refine ⟨a, rfl, by omega, ?_, ?_⟩
      · rw [h1]; simp [bs_self]
      · have : (Sx j).data.toList.length = (Sx j).size := by rw [← bs_size, bs_self]
        simp only [List.getElem_map, List.getElem_range]
        omega
    refine ⟨some a, (List.range len).map fun i => (Sx i).data.toList, cap, by rw [hlen], hrow, fun a' ha hn => ?_, (fun e => by cases e), by rw [hlen]; exact hb9⟩
    obtain ⟨a2, ha2, hb2, _⟩ := hrow 0 (by omega)
    rw [ha] at ha2
    cases ha2
    exact hb2

set_option maxRecDepth 100000 in
theorem answersIn {H : Type} {enc : TypeId × Value → H} {W : World} {fuel : Nat} {v : Value} {y : DataW H × List MemPlace} (hf : DataW.trod enc Try.prog W 0 (fun _ => true) true fuel 52 [v] = some y) (hw : ∀ x ∈ y.1.weights Try.prog 52, x ≤ 140737488351232) :
    ∃ (ao : Option Addr) (ss : List An) (cap : Nat), v = .slice ao ss.length cap ∧ AnRow W.heap.size W ao ss ∧ (ss.length : Int) ≤ 9223372036854775807 := by
  rcases Go.Deep.open_slice Try.underlying52 hf with ⟨h1, _⟩ | ⟨a, len, cap, m, n, D, Pl, h1, _, hl, hm, hmm, hy, hx⟩
  · simp at h1
    subst h1
    exact ⟨none, [], 0, rfl, fun j hj => by simp at hj, by simp⟩
  · simp at h1
    subst h1
    simp only [if_true] at hmm
    have hwt : y.1.weights Try.prog 52 = (len + (m - len)) * 72 :: (DataW.weightsAll Try.prog 56 ((List.range len).map D) ++ DataW.weightsAll Try.prog 56 ((List.range (m - len)).map fun j => D (len + j))) := by
      rw [hy]
      simp only [DataW.weights, Try.underlying52, Try.bytesAnE, List.length_map, List.length_range]
    have hb9 : len ≤ 1954687338213 := by
      have := hw ((len + (m - len)) * 72) (by rw [hwt]; exact List.mem_cons_self)
      omega
    have hwD : ∀ j, j < len → ∀ x ∈ (D j).weights Try.prog 56, x ≤ 140737488351232 := fun j hj x hx => hw x (by
      rw [hwt]
      exact List.mem_cons_of_mem _ (List.mem_append_left _ (wAll (List.mem_map_of_mem (List.mem_range.2 hj)) hx)))
    obtain ⟨f, hF⟩ := Go.Deep.choose_lt (α := An) (n := len) (p := fun j s => a.block < W.heap.size ∧ (W.cell? (a.add (j * 6)) = some (.int .i64 s.tk) ∧ W.cell? ⟨(a.add (j * 6)).block, (a.add (j * 6)).off + 1, none⟩ = some (.int .i64 s.er) ∧ W.cell? ⟨(a.add (j * 6)).block, (a.add (j * 6)).off + 2, none⟩ = some (.int .i64 s.rk) ∧ W.cell? ⟨(a.add (j * 6)).block, (a.add (j * 6)).off + 3, none⟩ = some (.string (bs s.rval)) ∧ W.cell? ⟨(a.add (j * 6)).block, (a.add (j * 6)).off + 4, none⟩ = some (.int .i64 s.rver) ∧ W.cell? ⟨(a.add (j * 6)).block, (a.add (j * 6)).off + 5, none⟩ = some (.slice s.ao s.ks.length s.cc)) ∧ KIn (fun k => k < W.heap.size) W s.ao s.cc s.ks) (fun j hj => by
      obtain ⟨cs, h1, h2⟩ := hx j (by omega)
      rw [Try.cellsAnE] at h1
      obtain ⟨_, hlen, hc⟩ := World.cells?_some h1
      obtain ⟨c0, c1, c2, c3, c4, c5, rfl⟩ := list6 hlen
      obtain ⟨y0, y1, y2, n', hD, _, g0, g1, g2⟩ := Go.Deep.trod_struct3 Try.underlying56 h2
      obtain ⟨tk, e0, _, _⟩ := DataW.trod_int Try.underlying3 g0
      obtain ⟨er, e1, _, _⟩ := DataW.trod_int Try.underlying25 g1
      simp [Try.cellsIntE, Try.cellsErE, Try.cellsRsE] at e0 e1 g2
      obtain ⟨z0, z1, z2, z3, n3, hR, _, j0, j1, j2, j3⟩ := Joins.trod_struct4 Try.underlying45 g2
      obtain ⟨rk, e2, _, _⟩ := DataW.trod_int Try.underlying3 j0
      obtain ⟨rval, e3, _, _⟩ := DataW.trod_string Try.underlying9 j1
      obtain ⟨rver, e4, _, _⟩ := DataW.trod_int Try.underlying3 j2
      simp [Try.cellsIntE, Try.cellsStrE, Try.cellsStE] at e2 e3 e4 j3
      have hD1 : D j = .agg [y0.1, y1.1, y2.1] := congrArg Prod.fst hD
      have hR1 : y2.1 = .agg [z0.1, z1.1, z2.1, z3.1] := congrArg Prod.fst hR
      obtain ⟨ao2, ks, cp2, rfl, hkin⟩ := keysInW j3 (fun x hx => hwD j hj x (by
        rw [hD1]
        simp only [DataW.weights, Try.underlying56]
        refine DataW.weights_mem_each (j := 2) (t := 45) rfl rfl x ?_
        rw [hR1]
        simp only [DataW.weights, Try.underlying45]
        exact DataW.weights_mem_each (j := 3) (t := 43) rfl rfl x hx))
      subst e0 e1 e2 e3 e4
      have q0 := hc 0 (by omega)
      have q1 := hc 1 (by omega)
      have q2 := hc 2 (by omega)
      have q3 := hc 3 (by omega)
      have q4 := hc 4 (by omega)
      have q5 := hc 5 (by omega)
      rw [add_zero] at q0
      rw [add_pos _ (by omega)] at q1 q2 q3 q4 q5
      have e : (a.add (j * 6)).block = a.block := by unfold Addr.add; split <;> rfl
      have hb := World.block_lt_of_cell? W _ q0
      exact ⟨⟨tk, er, rk, rval.data.toList, rver, ks, ao2, cp2⟩, by omega, ⟨q0, q1, q2, by rw [bs_self]; exact q3, q4, q5⟩, hkin⟩)
    have hlen : ((List.range len).map f).length = len := by simp
    refine ⟨some a, (List.range len).map f, cap, by rw [hlen], ?_, by rw [hlen]; omega⟩
    intro j hj
    rw [hlen] at hj
    obtain ⟨h0, h⟩ := hF j hj
    simp only [List.getElem_map, List.getElem_range]
    exact ⟨a, rfl, h0, h⟩

set_option maxRecDepth 100000 in
theorem clientOnce_lifted (os : Os) (started : os.Started) (H : Type) (enc : TypeId × Value → H) :
    ReturnsInHanded {} Try.checked os 4 .any (Rows.clientOnceSpec.pre6 enc Try.prog Try.f4 Rows.clientOnceRow.domain false) (Rows.clientOnceSpec.post enc Try.prog Try.f4 false true false false) := by
  refine returnsInHanded_of_change_sized (C := Try.checked) Try.ownE started (by kernel_rfl) Try.func4
    (ChangeSpec.witness6 (enc := enc) (C := Try.checked) false ⟨#[], #[.int .i64 0, .slice none 0 0], []⟩ 8 (by kernel_rfl) (by kernel_rfl) (by kernel_rfl) (by kernel_rfl)) ?_
  intro W base args ds gs before hval0 hW _ hsz0 _
  have hsz : (DataW.weightsEach Try.prog (Try.f4.params.toList ++ Rows.clientOnceSpec.plain.varTypes Try.prog) (ds ++ gs)).all (· ≤ reachBytes) = true := hsz0
  clear hsz0
  have hval : ∀ (j : Nat) t v, Try.f4.params[j]? = some t → args[j]? = some v → Value.okWide Try.prog W .any base t v := hval0
  have hW' := hW
  obtain ⟨p, q, hA0, hV, rfl, _, _⟩ := hW
  have hA : DataW.TrodAll enc Try.prog W 0 (fun _ => true) true Try.f4.params.toList args.toList ds p := hA0
  rw [Try.params4] at hA hval hsz
  obtain ⟨v0, vs0, d0, ds0, p0, q0, hargs, rfl, rfl, h0, hr0⟩ := trodAll_cons hA
  obtain ⟨v1, vs1, d1, ds1, p1, q1, rfl, rfl, rfl, h1, hr1⟩ := trodAll_cons hr0
  obtain ⟨rfl, rfl, rfl⟩ := trodAll_nil hr1
  obtain rfl : args = #[v0, v1] := by cases args; simp_all
  obtain ⟨rfl, rfl⟩ := trodVars_none hV
  have k0 := h0
  have k1 := h1
  have lt0 : ∀ x ∈ p0, x.block < W.heap.size := by obtain ⟨m, hm⟩ := k0; exact DataW.trod_lt m _ _ _ hm
  have lt1 : ∀ x ∈ p1, x.block < W.heap.size := by obtain ⟨m, hm⟩ := k1; exact DataW.trod_lt m _ _ _ hm
  have hs1 : ∀ x ∈ d1.weights Try.prog 52, x ≤ 140737488351232 := fun x hx => by
    have := List.all_eq_true.1 hsz x (DataW.weights_mem_each (j := 1) (t := 52) rfl rfl x hx)
    simp only [reachBytes] at this
    exact of_decide_eq_true this
  obtain ⟨nodes, rfl, rfl, rfl, _⟩ := open_int Try.underlying3 (hval 0 3 v0 rfl rfl) h0
  obtain ⟨so, ss, cs, hv1, r1, l1⟩ : ∃ (so : Option Addr) (ss : List An) (c : Nat), v1 = .slice so ss.length c ∧ AnRow W.heap.size W so ss ∧ (ss.length : Int) ≤ 9223372036854775807 := by
    obtain ⟨bb, len, cap, rfl⟩ := okWide_slice Try.underlying52 (hval 1 52 v1 rfl rfl)
    obtain ⟨fuel, hf⟩ := h1
    simp only [Value.cells] at hf
    exact answersIn hf hs1
  subst hv1
  have hw := clientOnce_any nodes cs so ss W r1 l1
  clear hA0 hval0
  refine hw.mono fun e W' ⟨he, hkk⟩ => ?_
  subst he
  have bel := hkk.below (B := W.heap.size) (fun _ _ x => x.elim) (Nat.le_refl _)
  exact ⟨_, rfl, _, _, _, [], [] ++ (p1 ++ []), [], hW', trodAll_mk1 (shut_bool Try.underlying4 _), trodAll_cons_mk (Below.trod Try.laidOutE (by kernel_rfl) (of_decide_eq_true (by kernel_rfl)) k0 bel lt0) (trodAll_cons_mk (Below.trod Try.laidOutE (by kernel_rfl) (of_decide_eq_true (by kernel_rfl)) k1 bel lt1) trodAll_mk0), rfl, bel.frame _, fun h => by cases h⟩

theorem clientOnce_holds : Rows.ClientOnceSaid :=
  OpenClaim.holds_of_wide 4 Try.f4 rfl rfl rfl rfl rfl rfl rfl ⟨rfl, rfl, rfl, rfl, rfl⟩ rfl rfl rfl rfl rfl (by kernel_rfl) Try.func4 (by kernel_rfl)
    (of_decide_eq_true (by kernel_rfl)) (by unfold Func.isWrapper; first | (rw [if_pos (by decide +kernel)]; kernel_rfl) | (rw [if_neg (by decide +kernel)]; exact ⟨rfl, rfl⟩))
    (fun os started H enc _ => clientOnce_lifted os started H enc)
#print axioms clientOnce_holds

end Go.Proofs.Ytbfleeilpccmcaa
