/-
  WireEntries holds for every entry, every configuration and every text: PutEntry, GetEntry, PutConfig and GetConfig answer what the document's answer does; and the entry of index 1 and term 1 is written as the document writes it.
  Conditions: none (each string and slice takes at most 2^47 - 4096 bytes, as the form itself says).
-/
import Derived.Test.YtijklginabipgaaRows
import Derived.Test.YtijklginabipgaaWEnts
import Derived.ProofKit
import Derived.OpenShut
import Derived.ShutString
import Derived.ChangeOld
import Derived.SizedLaws
import Derived.ChangeSlices
import Derived.Lib.SmallJoins
namespace Go.Proofs.Ytijklginabipgaa
open Go.ChangeShapes Go.WideShapes Go.ChangeAt Go.RowKit
open Go.ChangeMaps (open_string shut_string)

theorem Try.ownE : ownKnob Try.prog.godebug = none := by kernel_rfl
theorem Try.laidOutE : laidOutB Try.prog = true := by kernel_rfl
theorem Try.cellsIntE : Try.prog.cellsOf 3 = 1 := by kernel_rfl
theorem Try.cellsStrE : Try.prog.cellsOf 9 = 1 := by kernel_rfl
theorem Try.cellsEntE : Try.prog.cellsOf 52 = 4 := by kernel_rfl
theorem Try.cellsCfgE : Try.prog.cellsOf 24 = 3 := by kernel_rfl
theorem Try.bytesIntE : Try.prog.bytesOf 3 = 8 := by kernel_rfl

theorem array4 {α : Type} {cs : Array α} (h : cs.size = 4) : ∃ a b c d, cs = #[a, b, c, d] := by
  obtain ⟨l⟩ := cs
  match l, h with
  | [a, b, c, d], _ => exact ⟨a, b, c, d, rfl⟩
theorem array3 {α : Type} {cs : Array α} (h : cs.size = 3) : ∃ a b c, cs = #[a, b, c] := by
  obtain ⟨l⟩ := cs
  match l, h with
  | [a, b, c], _ => exact ⟨a, b, c, rfl⟩

set_option maxRecDepth 100000 in
theorem openEnt {H : Type} {enc : TypeId × Value → H} {W : World} {b0 base : Nat} {sp : Nat → Bool} {hd : Bool} {v : Value} {d : DataW H} {p : List MemPlace} {r : Reach}
    (hv : Value.okWide Try.prog W r b0 52 v) (h : DataW.Trod enc Try.prog W base sp hd 52 v d p) :
    ∃ (ix tm kd : Int) (dt : ByteArray), v = .agg #[.int .i64 ix, .int .i64 tm, .int .i64 kd, .string dt] ∧ dt.size ≤ maxLen := by
  obtain ⟨cs, rfl, hsz⟩ := okWide_struct Try.underlying52 hv
  obtain ⟨c0, c1, c2, c3, rfl⟩ := array4 (hsz.trans Try.cellsEntE)
  obtain ⟨fuel, hf⟩ := h
  obtain ⟨y0, y1, y2, y3, n, _, _, g0, g1, g2, g3⟩ := Joins.trod_struct4 Try.underlying52 hf
  obtain ⟨ix, e0, _, _⟩ := DataW.trod_int Try.underlying3 g0
  obtain ⟨tm, e1, _, _⟩ := DataW.trod_int Try.underlying3 g1
  obtain ⟨kd, e2, _, _⟩ := DataW.trod_int Try.underlying3 g2
  obtain ⟨dt, e3, _, hk⟩ := DataW.trod_string Try.underlying9 g3
  simp [Value.cells, Try.cellsIntE, Try.cellsStrE] at e0 e1 e2 e3
  subst e0 e1 e2 e3
  exact ⟨ix, tm, kd, dt, rfl, hk⟩

set_option maxRecDepth 100000 in
/-- A row of numbers, as it was handed in within something. -/
theorem rowIn {H : Type} {enc : TypeId × Value → H} {W : World} {fuel : Nat} {v : Value} {y : DataW H × List MemPlace}
    (hf : DataW.trod enc Try.prog W 0 (fun _ => true) true fuel 22 [v] = some y) :
    ∃ (ao : Option Addr) (zs : List Int) (cap : Nat), v = .slice ao zs.length cap ∧ IntRow W.heap.size W ao zs ∧ (zs = [] ∨ ∃ sp : List (DataW H), ∃ el : List (DataW H), y.1 = .slice el sp ∧ el.length = zs.length) := by
  rcases open_ints Try.underlying22 Try.underlying3 Try.cellsIntE hf with ⟨h1, _⟩ | ⟨a', len, cap, zs, h1, _, hl, hm, hz, hy, hc, _⟩
  · simp at h1
    subst h1
    exact ⟨none, [], 0, rfl, intRow_nil _ _ _, .inl rfl⟩
  · simp at h1
    subst h1
    simp only [if_true] at hz
    have hlen : (zs.take len).length = len := by rw [List.length_take]; omega
    refine ⟨some a', zs.take len, cap, by rw [hlen], ?_, .inr ⟨_, _, by rw [hy], ?_⟩⟩
    · intro j hj
      rw [hlen] at hj
      have hcj := hc j (by omega)
      have e : (a'.add j).block = a'.block := by unfold Addr.add; split <;> rfl
      have hb := World.block_lt_of_cell? W _ hcj
      refine ⟨a', rfl, by omega, ?_⟩
      rw [hcj]
      simp [List.getD_eq_getElem?_getD, show j < zs.length by omega]
    · simp only [lits, List.length_map]

set_option maxRecDepth 100000 in
theorem openCfg {H : Type} {enc : TypeId × Value → H} {W : World} {b0 : Nat} {v : Value} {d : DataW H} {p : List MemPlace} {r : Reach}
    (hv : Value.okWide Try.prog W r b0 24 v) (h : DataW.Trod enc Try.prog W 0 (fun _ => true) true 24 v d p) (hsz : ∀ x ∈ d.weights Try.prog 24, x ≤ 140737488351232) :
    ∃ (a1 a2 a3 : Option Addr) (c1 c2 c3 : Nat) (v1 v2 v3 : List Int), v = .agg #[.slice a1 v1.length c1, .slice a2 v2.length c2, .slice a3 v3.length c3] ∧ CfRows W.heap.size W a1 a2 a3 v1 v2 v3 ∧ v1.length * 8 ≤ 140737488351232 ∧ v2.length * 8 ≤ 140737488351232 ∧ v3.length * 8 ≤ 140737488351232 := by
  obtain ⟨cs, rfl, hsize⟩ := okWide_struct Try.underlying24 hv
  obtain ⟨c0, c1, c2, rfl⟩ := array3 (hsize.trans Try.cellsCfgE)
  obtain ⟨fuel, hf⟩ := h
  obtain ⟨xs, n, _, hx, _, hlen, hg⟩ := DataW.trod_struct Try.underlying24 hf
  have e0 := hg 0 _ rfl
  have e1 := hg 1 _ rfl
  have e2 := hg 2 _ rfl
  simp only [Value.cells] at e0 e1 e2
  obtain ⟨y0, y1, y2, rfl⟩ : ∃ y0 y1 y2, xs = [y0, y1, y2] := by
    match xs, hlen with
    | [y0, y1, y2], _ => exact ⟨y0, y1, y2, rfl⟩
  obtain ⟨a1, v1, d1, rfl, r1, s1⟩ := rowIn e0
  obtain ⟨a2, v2, d2, rfl, r2, s2⟩ := rowIn e1
  obtain ⟨a3, v3, d3, rfl, r3, s3⟩ := rowIn e2
  simp only [Prod.mk.injEq] at hx
  have hw : d.weights Try.prog 24 = y0.1.weights Try.prog 22 ++ (y1.1.weights Try.prog 22 ++ (y2.1.weights Try.prog 22 ++ [])) := by
    rw [hx.1]
    simp only [DataW.weights, Try.underlying24, List.map_cons, List.map_nil, DataW.weightsEach]
  rw [hw] at hsz
  have size : ∀ (zs : List Int) (y : DataW H × List MemPlace), (zs = [] ∨ ∃ sp : List (DataW H), ∃ el : List (DataW H), y.1 = .slice el sp ∧ el.length = zs.length) → (∀ x ∈ y.1.weights Try.prog 22, x ≤ 140737488351232) → zs.length * 8 ≤ 140737488351232 := by
    intro zs y h hy
    rcases h with rfl | ⟨sp, el, he, hl⟩
    · simp
    · have := hy ((el.length + sp.length) * 8) (by rw [he]; simp only [DataW.weights, Try.underlying22, Try.bytesIntE]; exact List.mem_cons_self)
      omega
  refine ⟨a1, a2, a3, d1, d2, d3, v1, v2, v3, rfl, ⟨r1, r2, r3⟩, size v1 y0 s1 (fun x hx => hsz x (by simp [hx])), size v2 y1 s2 (fun x hx => hsz x (by simp [hx])), size v3 y2 s3 (fun x hx => hsz x (by simp [hx]))⟩

set_option maxRecDepth 100000 in
theorem wireEntries_lifted (os : Os) (started : os.Started) (H : Type) (enc : TypeId × Value → H) :
    ReturnsInHanded {} Try.checked os 5 .any (Rows.wireEntriesSpec.pre6 enc Try.prog Try.f5 Rows.wireEntriesRow.domain false) (Rows.wireEntriesSpec.post enc Try.prog Try.f5 false true false false) := by
  refine returnsInHanded_of_change_sized (C := Try.checked) Try.ownE started (by kernel_rfl) Try.func5
    (ChangeSpec.witness6 (enc := enc) (C := Try.checked) false ⟨#[], #[.agg #[.int .i64 0, .int .i64 0, .int .i64 0, .string ByteArray.empty], .agg #[.slice none 0 0, .slice none 0 0, .slice none 0 0], .string ByteArray.empty], []⟩ 8 (by kernel_rfl) (by kernel_rfl) (by kernel_rfl) (by kernel_rfl)) ?_
  intro W base args ds gs before hval0 hW _ hsz0 _
  have hsz : (DataW.weightsEach Try.prog (Try.f5.params.toList ++ Rows.wireEntriesSpec.plain.varTypes Try.prog) (ds ++ gs)).all (· ≤ reachBytes) = true := hsz0
  clear hsz0
  have hval : ∀ (j : Nat) t v, Try.f5.params[j]? = some t → args[j]? = some v → Value.okWide Try.prog W .any base t v := hval0
  have hW' := hW
  obtain ⟨p, q, hA0, hV, rfl, _, _⟩ := hW
  have hA : DataW.TrodAll enc Try.prog W 0 (fun _ => true) true Try.f5.params.toList args.toList ds p := hA0
  rw [Try.params5] at hA hval hsz
  obtain ⟨v0, v1, v2, d0, d1, d2, p0, p1, p2, hargs, rfl, rfl, h0, h1, h2⟩ := trodAll_three hA
  obtain rfl : args = #[v0, v1, v2] := by cases args; simp_all
  obtain ⟨rfl, rfl⟩ := trodVars_none hV
  have k0 := h0
  have lt0 : ∀ x ∈ p0, x.block < W.heap.size := by obtain ⟨m, hm⟩ := k0; exact DataW.trod_lt m _ _ _ hm
  have k1 := h1
  have lt1 : ∀ x ∈ p1, x.block < W.heap.size := by obtain ⟨m, hm⟩ := k1; exact DataW.trod_lt m _ _ _ hm
  obtain ⟨ix, tm, kd, dt, rfl, hd⟩ := openEnt (hval 0 52 v0 rfl rfl) h0
  obtain ⟨a1, a2, a3, c1, c2, c3, x1, x2, x3, rfl, hr, s1, s2, s3⟩ := openCfg (hval 1 24 v1 rfl rfl) h1 (fun x hx => by
    have := List.all_eq_true.1 hsz x (DataW.weights_mem_each (j := 1) (t := 24) rfl rfl x hx)
    simp only [reachBytes] at this
    exact of_decide_eq_true this)
  obtain ⟨b2, rfl, rfl, rfl, w2⟩ := open_string Try.underlying9 (hval 2 9 v2 rfl rfl) h2
  have z2 : b2.data.toList.length ≤ 140737488351232 := by
    have := sized_string hsz (j := 2) (t := 9) rfl rfl
    simpa only [reachBytes] using this
  have hw := wireEntries_walk ix tm kd dt.data.toList _ c1 c2 c3 a1 a2 a3 x1 x2 x3 b2.data.toList W (by rw [← bs_size, bs_self]; exact hd) hr (by omega) (by omega) (by omega) z2
  rw [bs_self, bs_self] at hw
  clear hA0 hval0
  refine hw.mono fun e W' ⟨he, hkk⟩ => ?_
  subst he
  have bel := hkk.below (B := W.heap.size) (fun _ _ x => x.elim) (Nat.le_refl _)
  exact ⟨_, rfl, _, _, _, [], p0 ++ (p1 ++ []), [], hW', trodAll_mk1 (shut_bool Try.underlying4 _), trodAll_mk3 (Below.trod Try.laidOutE (by kernel_rfl) (of_decide_eq_true (by kernel_rfl)) k0 bel lt0) (Below.trod Try.laidOutE (by kernel_rfl) (of_decide_eq_true (by kernel_rfl)) k1 bel lt1) (shut_string Try.underlying9 w2), rfl, bel.frame _, fun h => by cases h⟩

theorem wireEntries_holds : Rows.WireEntriesSaid :=
  OpenClaim.holds_of_wide 5 Try.f5 rfl rfl rfl rfl rfl rfl rfl ⟨rfl, rfl, rfl, rfl, rfl⟩ rfl rfl rfl rfl rfl (by kernel_rfl) Try.func5 (by kernel_rfl)
    (of_decide_eq_true (by kernel_rfl)) (by unfold Func.isWrapper; first | (rw [if_pos (by decide +kernel)]; kernel_rfl) | (rw [if_neg (by decide +kernel)]; exact ⟨rfl, rfl⟩))
    (fun os started H enc _ => wireEntries_lifted os started H enc)
#print axioms wireEntries_holds

end Go.Proofs.Ytijklginabipgaa
