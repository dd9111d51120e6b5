/-
  ConfigExact holds for every configuration, all operations and every list of nodes whose values together number at most 1,048,576: Begin, Finish, Members, Valid, Quorum, Lost and Votes answer what the document's answer does, and what is handed in stays as it is, also when what came out is overwritten.
  Conditions: the arguments are together of bulk at most 1,048,576 (the given 'Upto' form).
-/
import Derived.Test.YtijklginabipgaaRows
import Derived.Test.YtijklginabipgaaWExactQA
import Derived.Test.YtijklginabipgaaWExactQB
import Derived.Test.YtijklginabipgaaWExactQC
import Derived.Test.YtijklginabipgaaWExactQD
import Derived.ProofKit
import Derived.OpenShut
import Derived.ShutString
import Derived.ChangeOld
import Derived.SizedLaws
import Derived.ChangeSlices
import Derived.JoinedCond
import Derived.Lib.SmallJoins
import Derived.Carry
import Derived.Deep.Slices
import Derived.Deep.Strs
namespace Go.Proofs.Ytijklginabipgaa
open Go.ChangeShapes Go.WideShapes Go.ChangeAt Go.RowKit

theorem Try.ownE : ownKnob Try.prog.godebug = none := by kernel_rfl
theorem Try.laidOutE : laidOutB Try.prog = true := by kernel_rfl
theorem Try.cellsIntE : Try.prog.cellsOf 3 = 1 := by kernel_rfl
theorem Try.cellsOpE : Try.prog.cellsOf 32 = 2 := by kernel_rfl
theorem Try.cellsCfgE : Try.prog.cellsOf 24 = 3 := by kernel_rfl
theorem Try.cellsIsE : Try.prog.cellsOf 22 = 1 := by kernel_rfl
theorem list2 {α : Type} {cs : List α} (h : cs.length = 2) : ∃ a b, cs = [a, b] := by
  match cs, h with
  | [a, b], _ => exact ⟨a, b, rfl⟩
theorem array3 {α : Type} {cs : Array α} (h : cs.size = 3) : ∃ a b c, cs = #[a, b, c] := by
  obtain ⟨l⟩ := cs
  match l, h with
  | [a, b, c], _ => exact ⟨a, b, c, rfl⟩
theorem add_pos (a : Addr) {i : Nat} (h : 0 < i) : a.add i = ⟨a.block, a.off + i, none⟩ := by unfold Addr.add; rw [if_neg (by omega)]
theorem add_zero (a : Addr) : a.add 0 = a := rfl

/-! how much a datum holds -/
theorem bulk_pos {H : Type} (d : DataW H) : 0 < Rows.uptoBulk d := by
  cases d with
  | lit l => cases l <;> simp [Rows.uptoBulk]
  | _ => simp [Rows.uptoBulk]
theorem bulk_all {H : Type} : ∀ l : List (DataW H), l.length ≤ Rows.uptoBulkAll l
  | [] => Nat.zero_le _
  | d :: l => by
    have h1 := bulk_pos d
    have h2 := bulk_all l
    simp only [Rows.uptoBulkAll, List.length_cons]
    omega
theorem bulk_slice {H α : Type} {zs : List α} {d : DataW H} (h : zs = [] ∨ ∃ sp el : List (DataW H), d = .slice el sp ∧ el.length = zs.length) {k : Nat} (hk : Rows.uptoBulk d ≤ k) : zs.length ≤ k := by
  rcases h with rfl | ⟨sp, el, rfl, hl⟩
  · simp
  · have := bulk_all el
    simp only [Rows.uptoBulk] at hk
    omega

section
variable {H : Type} {enc : TypeId × Value → H} {W : World} {fuel : Nat} {v : Value} {y : DataW H × List MemPlace}

set_option maxRecDepth 100000 in
theorem intsIn (hf : DataW.trod enc Try.prog W 0 (fun _ => true) true fuel 22 [v] = some y) :
    ∃ (ao : Option Addr) (zs : List Int) (cap : Nat), v = .slice ao zs.length cap ∧ IntRow W.heap.size W ao zs ∧ (zs = [] ∨ ∃ sp el : List (DataW H), y.1 = .slice el sp ∧ el.length = zs.length) := by
  rcases open_ints Try.underlying22 Try.underlying3 Try.cellsIntE hf with ⟨h1, _⟩ | ⟨a', len, cap, zs, h1, _, hl, hm, hz, hy, hc, _⟩
  · simp at h1
    subst h1
    exact ⟨none, [], 0, rfl, intRow_nil _ _ _, .inl rfl⟩
  · simp at h1
    subst h1
    simp only [if_true] at hz
    have hlen : (zs.take len).length = len := by rw [List.length_take]; omega
    refine ⟨some a', zs.take len, cap, by rw [hlen], ?_, .inr ⟨_, _, by rw [hy], by simp [lits]⟩⟩
    intro j hj
    rw [hlen] at hj
    have hcj := hc j (by omega)
    have e : (a'.add j).block = a'.block := by unfold Addr.add; split <;> rfl
    have hb := World.block_lt_of_cell? W _ hcj
    refine ⟨a', rfl, by omega, ?_⟩
    rw [hcj]
    simp [List.getD_eq_getElem?_getD, show j < zs.length by omega]

set_option maxRecDepth 100000 in
theorem opsIn (hf : DataW.trod enc Try.prog W 0 (fun _ => true) true fuel 25 [v] = some y) :
    ∃ (ao : Option Addr) (os : List (Int × Int)) (cap : Nat), v = .slice ao os.length cap ∧ OpRow W.heap.size W ao os ∧ (os = [] ∨ ∃ sp el : List (DataW H), y.1 = .slice el sp ∧ el.length = os.length) := by
  rcases Go.Deep.open_slice Try.underlying25 hf with ⟨h1, _⟩ | ⟨a, len, cap, m, n, D, Pl, h1, _, hl, hm, hmm, hy, hx⟩
  · simp at h1
    subst h1
    exact ⟨none, [], 0, rfl, fun j hj => by simp at hj, .inl rfl⟩
  · simp at h1
    subst h1
    simp only [if_true] at hmm
    obtain ⟨f, hF⟩ := Go.Deep.choose_lt (α := Int × Int) (n := len) (p := fun j p => a.block < W.heap.size ∧ W.cell? (a.add (j * 2)) = some (.int .i64 p.1) ∧ W.cell? ⟨(a.add (j * 2)).block, (a.add (j * 2)).off + 1, none⟩ = some (.int .i64 p.2)) (fun j hj => by
      obtain ⟨cs, h1, h2⟩ := hx j (by omega)
      rw [Try.cellsOpE] at h1
      obtain ⟨_, hlen, hc⟩ := World.cells?_some h1
      obtain ⟨c0, c1, rfl⟩ := list2 hlen
      obtain ⟨y0, y1, n', _, _, g0, g1⟩ := trod_struct2 Try.underlying32 h2
      obtain ⟨z0, e0, _, _⟩ := DataW.trod_int Try.underlying3 g0
      obtain ⟨z1, e1, _, _⟩ := DataW.trod_int Try.underlying3 g1
      simp [Try.cellsIntE] at e0 e1
      subst e0 e1
      have q0 := hc 0 (by omega)
      have q1 := hc 1 (by omega)
      rw [add_zero] at q0
      rw [add_pos _ (by omega)] at q1
      have e : (a.add (j * 2)).block = a.block := by unfold Addr.add; split <;> rfl
      have hb := World.block_lt_of_cell? W _ q0
      exact ⟨(z0, z1), by omega, q0, q1⟩)
    have hlen : ((List.range len).map f).length = len := by simp
    refine ⟨some a, (List.range len).map f, cap, by rw [hlen], ?_, .inr ⟨_, _, by rw [hy], by simp⟩⟩
    intro j hj
    rw [hlen] at hj
    obtain ⟨h0, h1, h2⟩ := hF j hj
    simp only [List.getElem_map, List.getElem_range]
    exact ⟨a, rfl, h0, h1, h2⟩
end

set_option maxRecDepth 100000 in
theorem openCfg {H : Type} {enc : TypeId × Value → H} {W : World} {b0 : Nat} {v : Value} {d : DataW H} {p : List MemPlace} {r : Reach}
    (hv : Value.okWide Try.prog W r b0 24 v) (h : DataW.Trod enc Try.prog W 0 (fun _ => true) true 24 v d p) :
    ∃ (a1 a2 a3 : Option Addr) (c1 c2 c3 : Nat) (v1 v2 v3 : List Int), v = .agg #[.slice a1 v1.length c1, .slice a2 v2.length c2, .slice a3 v3.length c3] ∧ CfRows W.heap.size W a1 a2 a3 v1 v2 v3 ∧ v1.length ≤ Rows.uptoBulk d ∧ v2.length ≤ Rows.uptoBulk d ∧ v3.length ≤ Rows.uptoBulk d := by
  obtain ⟨cs, rfl, hsize⟩ := okWide_struct Try.underlying24 hv
  obtain ⟨c0, c1, c2, rfl⟩ := array3 (hsize.trans Try.cellsCfgE)
  obtain ⟨fuel, hf⟩ := h
  obtain ⟨z0, z1, z2, n2, hd, _, k0, k1, k2⟩ := Go.Deep.trod_struct3 Try.underlying24 hf
  simp [Value.cells, Try.cellsIsE] at k0 k1 k2
  obtain ⟨a1, v1, d1, rfl, r1, s1⟩ := intsIn k0
  obtain ⟨a2, v2, d2, rfl, r2, s2⟩ := intsIn k1
  obtain ⟨a3, v3, d3, rfl, r3, s3⟩ := intsIn k2
  have hd1 : d = .agg [z0.1, z1.1, z2.1] := (Prod.mk.inj hd).1
  subst hd1
  refine ⟨a1, a2, a3, d1, d2, d3, v1, v2, v3, rfl, ⟨r1, r2, r3⟩, bulk_slice s1 ?_, bulk_slice s2 ?_, bulk_slice s3 ?_⟩ <;> simp only [Rows.uptoBulk, Rows.uptoBulkAll] <;> omega

set_option maxRecDepth 100000 in
theorem configExact_lifted (os : Os) (started : os.Started) (H : Type) (enc : TypeId × Value → H) (F : Stop.Interp) :
    ReturnsInHanded {} Try.checked os 3 .any ((Rows.OpenSpec.upto Rows.configExactSpec).pre6 enc Try.prog Try.f3 Rows.configExactUptoRow.domain false) (((Rows.OpenSpec.upto Rows.configExactSpec).at F).post enc Try.prog Try.f3 false true false false) := by
  refine returnsInHanded_of_cond (C := Try.checked) (s := Rows.OpenSpec.upto Rows.configExactSpec) (k := Rows.uptoSmall) rfl Try.ownE started (by kernel_rfl) Try.func3
    (OpenSpec.witness (enc := enc) (C := Try.checked) (s := Rows.OpenSpec.upto Rows.configExactSpec) (k := Rows.uptoSmall) rfl false ⟨#[], #[.agg #[.slice none 0 0, .slice none 0 0, .slice none 0 0], .slice none 0 0, .slice none 0 0], []⟩ 8 (by kernel_rfl) (by kernel_rfl) (by kernel_rfl)
      (x := ([.agg [.nil, .nil, .nil], .nil, .nil], [], [])) (by kernel_rfl) rfl (by kernel_rfl)) ?_
  intro W base args ds gs before hval0 hW _ hk0 _
  have hk : Rows.uptoBulkAll (ds ++ gs) ≤ 1048576 := of_decide_eq_true hk0
  clear hk0
  have hval : ∀ (j : Nat) t v, Try.f3.params[j]? = some t → args[j]? = some v → Value.okWide Try.prog W .any base t v := hval0
  have hW' := hW
  obtain ⟨p, q, hA0, hV, rfl, _, _⟩ := hW
  have hA : DataW.TrodAll enc Try.prog W 0 (fun _ => true) true Try.f3.params.toList args.toList ds p := hA0
  rw [Try.params3] at hA hval
  obtain ⟨v0, vs0, d0, ds0, p0, q0, hargs, rfl, rfl, h0, hr0⟩ := trodAll_cons hA
  obtain ⟨v1, vs1, d1, ds1, p1, q1, rfl, rfl, rfl, h1, hr1⟩ := trodAll_cons hr0
  obtain ⟨v2, vs2, d2, ds2, p2, q2, rfl, rfl, rfl, h2, hr2⟩ := trodAll_cons hr1
  obtain ⟨rfl, rfl, rfl⟩ := trodAll_nil hr2
  obtain rfl : args = #[v0, v1, v2] := by cases args; simp_all
  obtain ⟨rfl, rfl⟩ := trodVars_none hV
  have k0 := h0
  have k1 := h1
  have k2 := h2
  have lt0 : ∀ x ∈ p0, x.block < W.heap.size := by obtain ⟨m, hm⟩ := k0; exact DataW.trod_lt m _ _ _ hm
  have lt1 : ∀ x ∈ p1, x.block < W.heap.size := by obtain ⟨m, hm⟩ := k1; exact DataW.trod_lt m _ _ _ hm
  have lt2 : ∀ x ∈ p2, x.block < W.heap.size := by obtain ⟨m, hm⟩ := k2; exact DataW.trod_lt m _ _ _ hm
  simp only [List.cons_append, List.nil_append, Rows.uptoBulkAll] at hk
  obtain ⟨a1, a2, a3, c1, c2, c3, x1, x2, x3, rfl, hr, s1, s2, s3⟩ := openCfg (hval 0 24 v0 rfl rfl) h0
  obtain ⟨ro, raw, ck, hv1, hr1', hl1⟩ : ∃ (ro : Option Addr) (raw : List (Int × Int)) (c : Nat), v1 = .slice ro raw.length c ∧ OpRow W.heap.size W ro raw ∧ raw.length ≤ Rows.uptoBulk d1 := by
    obtain ⟨b2, len2, cap2, rfl⟩ := okWide_slice Try.underlying25 (hval 1 25 v1 rfl rfl)
    obtain ⟨fuel, hf⟩ := h1
    simp only [Value.cells] at hf
    obtain ⟨ro, raw, c, e1, e2, e3⟩ := opsIn hf
    exact ⟨ro, raw, c, e1, e2, bulk_slice e3 (Nat.le_refl _)⟩
  subst hv1
  obtain ⟨mo, hs, cm, hv2, hr2', hl2⟩ : ∃ (mo : Option Addr) (hs : List Int) (c : Nat), v2 = .slice mo hs.length c ∧ IntRow W.heap.size W mo hs ∧ hs.length ≤ Rows.uptoBulk d2 := by
    obtain ⟨b2, len2, cap2, rfl⟩ := okWide_slice Try.underlying22 (hval 2 22 v2 rfl rfl)
    obtain ⟨fuel, hf⟩ := h2
    simp only [Value.cells] at hf
    obtain ⟨mo, hs, c, e1, e2, e3⟩ := intsIn hf
    exact ⟨mo, hs, c, e1, e2, bulk_slice e3 (Nat.le_refl _)⟩
  subst hv2
  have hw := configExact_walk (xpartB (xpartC xpartD)) _ c1 c2 c3 ck cm a1 a2 a3 ro mo x1 x2 x3 hs raw W hr hr1' hr2' (Nat.le_refl _) (by omega) (by omega) (by omega) (by omega) (by omega)
  clear hA0 hval0
  refine hw.mono fun e W' ⟨he, hkk⟩ => ?_
  subst he
  have bel := hkk.below (B := W.heap.size) (fun _ _ x => x.elim) (Nat.le_refl _)
  exact ⟨_, rfl, _, _, _, [], p0 ++ (p1 ++ (p2 ++ [])), [], hW', trodAll_mk1 (shut_bool Try.underlying4 _), trodAll_cons_mk (Below.trod Try.laidOutE (by kernel_rfl) (of_decide_eq_true (by kernel_rfl)) k0 bel lt0) (trodAll_cons_mk (Below.trod Try.laidOutE (by kernel_rfl) (of_decide_eq_true (by kernel_rfl)) k1 bel lt1) (trodAll_cons_mk (Below.trod Try.laidOutE (by kernel_rfl) (of_decide_eq_true (by kernel_rfl)) k2 bel lt2) trodAll_mk0)), rfl, bel.frame _, fun h => by cases h⟩

theorem configExact_holds : Rows.ConfigExactUptoSaid :=
  OpenClaim.holds_of_cond 3 Try.f3 rfl rfl rfl rfl rfl rfl rfl ⟨rfl, rfl, rfl, rfl, rfl⟩ rfl rfl rfl rfl rfl (by kernel_rfl) Try.func3 (by kernel_rfl)
    (of_decide_eq_true (by kernel_rfl)) (by unfold Func.isWrapper; first | (rw [if_pos (by decide +kernel)]; kernel_rfl) | (rw [if_neg (by decide +kernel)]; exact ⟨rfl, rfl⟩))
    (fun os started H enc _ F => configExact_lifted os started H enc F)
#print axioms configExact_holds

end Go.Proofs.Ytijklginabipgaa
