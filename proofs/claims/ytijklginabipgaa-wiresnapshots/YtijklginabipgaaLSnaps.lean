/-
  WireSnapshots holds for every snapshot, every table and every text: PutSnapshot, GetSnapshot, PutTable and GetTable answer what the document's answer does, and what is handed in stays as it is; and the table of nothing is written as the document writes it.
  Conditions: none (each string and slice takes at most 2^47 - 4096 bytes, as the form itself says).
-/
import Derived.Test.YtijklginabipgaaRows
import Derived.Test.YtijklginabipgaaWSnaps
import Derived.ProofKit
import Derived.OpenShut
import Derived.ShutString
import Derived.ChangeOld
import Derived.SizedLaws
import Derived.ChangeSlices
import Derived.Lib.SmallJoins
import Derived.Deep.Strs
namespace Go.Proofs.Ytijklginabipgaa
open Go.ChangeShapes Go.WideShapes Go.ChangeAt Go.RowKit
open Go.ChangeMaps (open_string shut_string)

theorem Try.ownE : ownKnob Try.prog.godebug = none := by kernel_rfl
theorem Try.laidOutE : laidOutB Try.prog = true := by kernel_rfl
theorem Try.cellsIntE : Try.prog.cellsOf 3 = 1 := by kernel_rfl
theorem Try.cellsStrE : Try.prog.cellsOf 9 = 1 := by kernel_rfl
theorem Try.cellsCfgE : Try.prog.cellsOf 24 = 3 := by kernel_rfl
theorem Try.cellsSnE : Try.prog.cellsOf 61 = 6 := by kernel_rfl
theorem Try.cellsPrE : Try.prog.cellsOf 128 = 3 := by kernel_rfl
theorem Try.cellsSsE : Try.prog.cellsOf 133 = 7 := by kernel_rfl
theorem Try.cellsRsE : Try.prog.cellsOf 131 = 4 := by kernel_rfl
theorem Try.cellsTbE : Try.prog.cellsOf 65 = 3 := by kernel_rfl
theorem Try.cellsIsE : Try.prog.cellsOf 22 = 1 := by kernel_rfl
theorem Try.cellsPsE : Try.prog.cellsOf 62 = 1 := by kernel_rfl
theorem Try.cellsStE : Try.prog.cellsOf 129 = 1 := by kernel_rfl
theorem Try.cellsSeE : Try.prog.cellsOf 63 = 1 := by kernel_rfl

theorem array3 {α : Type} {cs : Array α} (h : cs.size = 3) : ∃ a b c, cs = #[a, b, c] := by
  obtain ⟨l⟩ := cs
  match l, h with
  | [a, b, c], _ => exact ⟨a, b, c, rfl⟩
theorem array6 {α : Type} {cs : Array α} (h : cs.size = 6) : ∃ a b c d e f, cs = #[a, b, c, d, e, f] := by
  obtain ⟨l⟩ := cs
  match l, h with
  | [a, b, c, d, e, f], _ => exact ⟨a, b, c, d, e, f, rfl⟩
theorem list3 {α : Type} {cs : List α} (h : cs.length = 3) : ∃ a b c, cs = [a, b, c] := by
  match cs, h with
  | [a, b, c], _ => exact ⟨a, b, c, rfl⟩
theorem list7 {α : Type} {cs : List α} (h : cs.length = 7) : ∃ a b c d e f g, cs = [a, b, c, d, e, f, g] := by
  match cs, h with
  | [a, b, c, d, e, f, g], _ => exact ⟨a, b, c, d, e, f, g, rfl⟩

section
variable {H : Type} {enc : TypeId × Value → H} {W : World} {fuel : Nat} {v : Value} {y : DataW H × List MemPlace}

theorem add_pos (a : Addr) {i : Nat} (h : 0 < i) : a.add i = ⟨a.block, a.off + i, none⟩ := by unfold Addr.add; rw [if_neg (by omega)]
theorem add_zero (a : Addr) : a.add 0 = a := rfl

set_option maxRecDepth 100000 in
theorem intsIn (hf : DataW.trod enc Try.prog W 0 (fun _ => true) true fuel 22 [v] = some y) :
    ∃ (ao : Option Addr) (zs : List Int) (cap : Nat), v = .slice ao zs.length cap ∧ IntRow W.heap.size W ao zs ∧ zs.length ≤ maxLen := by
  rcases open_ints Try.underlying22 Try.underlying3 Try.cellsIntE hf with ⟨h1, _⟩ | ⟨a', len, cap, zs, h1, _, hl, hm, hz, hy, hc, _⟩
  · simp at h1
    subst h1
    exact ⟨none, [], 0, rfl, intRow_nil _ _ _, by simp⟩
  · simp at h1
    subst h1
    simp only [if_true] at hz
    have hlen : (zs.take len).length = len := by rw [List.length_take]; omega
    refine ⟨some a', zs.take len, cap, by rw [hlen], ?_, by rw [hlen]; omega⟩
    intro j hj
    rw [hlen] at hj
    have hcj := hc j (by omega)
    have e : (a'.add j).block = a'.block := by unfold Addr.add; split <;> rfl
    have hb := World.block_lt_of_cell? W _ hcj
    refine ⟨a', rfl, by omega, ?_⟩
    rw [hcj]
    simp [List.getD_eq_getElem?_getD, show j < zs.length by omega]

set_option maxRecDepth 100000 in
theorem keysIn (hf : DataW.trod enc Try.prog W 0 (fun _ => true) true fuel 129 [v] = some y) :
    ∃ (ao : Option Addr) (ks : List (List UInt8)) (cap : Nat), v = .slice ao ks.length cap ∧ StrRow W.heap.size W ao ks ∧ ks.length ≤ maxLen := by
  rcases Go.Deep.open_strs Try.underlying129 Try.underlying9 Try.cellsStrE hf with ⟨h1, _⟩ | ⟨a, len, cap, m, Sx, h1, _, hl, hm, hmm, _, hx⟩
  · simp at h1
    subst h1
    exact ⟨none, [], 0, rfl, fun j hj => by simp at hj, by simp⟩
  · simp at h1
    subst h1
    simp only [if_true] at hmm
    have hlen : ((List.range len).map fun i => (Sx i).data.toList).length = len := by simp
    refine ⟨some a, (List.range len).map fun i => (Sx i).data.toList, cap, by rw [hlen], ?_, by rw [hlen]; omega⟩
    intro j hj
    rw [hlen] at hj
    obtain ⟨h1, h2⟩ := hx j (by omega)
    have e : (a.add j).block = a.block := by unfold Addr.add; split <;> rfl
    have hb := World.block_lt_of_cell? W _ h1
    refine ⟨a, rfl, by omega, ?_, ?_⟩
    · rw [h1]; simp [bs_self]
    · have : (Sx j).data.toList.length = (Sx j).size := by rw [← bs_size, bs_self]
      simp only [List.getElem_map, List.getElem_range]
      omega

instance : Inhabited Pr := ⟨⟨[], [], 0⟩⟩
instance : Inhabited Ss := ⟨⟨0, 0, 0, [], 0, [], 0⟩⟩

set_option maxRecDepth 100000 in
theorem pairsIn (hf : DataW.trod enc Try.prog W 0 (fun _ => true) true fuel 62 [v] = some y) :
    ∃ (ao : Option Addr) (ps : List Pr) (cap : Nat), v = .slice ao ps.length cap ∧ PairRow W.heap.size W ao ps ∧ ps.length ≤ maxLen := by
  rcases Go.Deep.open_slice Try.underlying62 hf with ⟨h1, _⟩ | ⟨a, len, cap, m, n, D, Pl, h1, _, hl, hm, hmm, _, hx⟩
  · simp at h1
    subst h1
    exact ⟨none, [], 0, rfl, pairRow_nil _ _ _, by simp⟩
  · simp at h1
    subst h1
    simp only [if_true] at hmm
    obtain ⟨f, hF⟩ := Go.Deep.choose_lt (α := Pr) (n := len) (p := fun j p => a.block < W.heap.size ∧ W.cell? (a.add (j * 3)) = some (.string (bs p.k)) ∧ W.cell? ⟨(a.add (j * 3)).block, (a.add (j * 3)).off + 1, none⟩ = some (.string (bs p.v)) ∧ W.cell? ⟨(a.add (j * 3)).block, (a.add (j * 3)).off + 2, none⟩ = some (.int .i64 p.n) ∧ p.k.length ≤ maxLen ∧ p.v.length ≤ maxLen) (fun j hj => by
      obtain ⟨cs, h1, h2⟩ := hx j (by omega)
      rw [Try.cellsPrE] at h1
      obtain ⟨_, hlen, hc⟩ := World.cells?_some h1
      obtain ⟨c0, c1, c2, rfl⟩ := list3 hlen
      obtain ⟨y0, y1, y2, n', _, _, g0, g1, g2⟩ := Go.Deep.trod_struct3 Try.underlying128 h2
      obtain ⟨s0, e0, _, k0⟩ := DataW.trod_string Try.underlying9 g0
      obtain ⟨s1, e1, _, k1⟩ := DataW.trod_string Try.underlying9 g1
      obtain ⟨z, e2, _, _⟩ := DataW.trod_int Try.underlying3 g2
      simp [Try.cellsIntE, Try.cellsStrE] at e0 e1 e2
      subst e0 e1 e2
      have q0 := hc 0 (by omega)
      have q1 := hc 1 (by omega)
      have q2 := hc 2 (by omega)
      rw [add_zero] at q0
      rw [add_pos _ (by omega)] at q1 q2
      have e : (a.add (j * 3)).block = a.block := by unfold Addr.add; split <;> rfl
      have hb := World.block_lt_of_cell? W _ q0
      exact ⟨⟨s0.data.toList, s1.data.toList, z⟩, by omega, by rw [bs_self]; exact q0, by rw [bs_self]; exact q1, q2, by rw [← bs_size, bs_self]; exact k0, by rw [← bs_size, bs_self]; exact k1⟩)
    have hlen : ((List.range len).map f).length = len := by simp
    refine ⟨some a, (List.range len).map f, cap, by rw [hlen], ?_, by rw [hlen]; omega⟩
    intro j hj
    rw [hlen] at hj
    obtain ⟨h0, h1, h2, h3, h4, h5⟩ := hF j hj
    simp only [List.getElem_map, List.getElem_range]
    exact ⟨a, rfl, h0, h1, h2, h3, h4, h5⟩

set_option maxRecDepth 100000 in
theorem sessIn (hf : DataW.trod enc Try.prog W 0 (fun _ => true) true fuel 63 [v] = some y) :
    ∃ (ao : Option Addr) (ss : List Ss) (cap : Nat), v = .slice ao ss.length cap ∧ SessRow W.heap.size W ao ss ∧ ss.length ≤ maxLen := by
  rcases Go.Deep.open_slice Try.underlying63 hf with ⟨h1, _⟩ | ⟨a, len, cap, m, n, D, Pl, h1, _, hl, hm, hmm, _, hx⟩
  · simp at h1
    subst h1
    exact ⟨none, [], 0, rfl, sessRow_nil _ _ _, by simp⟩
  · simp at h1
    subst h1
    simp only [if_true] at hmm
    obtain ⟨f, hF⟩ := Go.Deep.choose_lt (α := Ss) (n := len) (p := fun j s => ∃ ao2 c2, a.block < W.heap.size ∧ W.cell? (a.add (j * 7)) = some (.int .i64 s.cl) ∧ W.cell? ⟨(a.add (j * 7)).block, (a.add (j * 7)).off + 1, none⟩ = some (.int .i64 s.ls) ∧ W.cell? ⟨(a.add (j * 7)).block, (a.add (j * 7)).off + 2, none⟩ = some (.int .i64 s.kd) ∧ W.cell? ⟨(a.add (j * 7)).block, (a.add (j * 7)).off + 3, none⟩ = some (.string (bs s.val)) ∧ W.cell? ⟨(a.add (j * 7)).block, (a.add (j * 7)).off + 4, none⟩ = some (.int .i64 s.ver) ∧ W.cell? ⟨(a.add (j * 7)).block, (a.add (j * 7)).off + 5, none⟩ = some (.slice ao2 s.ks.length c2) ∧ W.cell? ⟨(a.add (j * 7)).block, (a.add (j * 7)).off + 6, none⟩ = some (.int .i64 s.sn) ∧ StrRow W.heap.size W ao2 s.ks ∧ (s.ks.length : Int) ≤ 9223372036854775807 ∧ s.val.length ≤ maxLen) (fun j hj => by
      obtain ⟨cs, h1, h2⟩ := hx j (by omega)
      rw [Try.cellsSsE] at h1
      obtain ⟨_, hlen, hc⟩ := World.cells?_some h1
      obtain ⟨c0, c1, c2, c3, c4, c5, c6, rfl⟩ := list7 hlen
      obtain ⟨y0, y1, y2, y3, n', _, _, g0, g1, g2, g3⟩ := Joins.trod_struct4 Try.underlying133 h2
      obtain ⟨cl, e0, _, _⟩ := DataW.trod_int Try.underlying3 g0
      obtain ⟨ls, e1, _, _⟩ := DataW.trod_int Try.underlying3 g1
      obtain ⟨sn, e6, _, _⟩ := DataW.trod_int Try.underlying3 g3
      simp [Try.cellsIntE, Try.cellsRsE] at e0 e1 e6 g2
      obtain ⟨x0, x1, x2, x3, n2, _, _, k0, k1, k2, k3⟩ := Joins.trod_struct4 Try.underlying131 g2
      obtain ⟨kd, e2, _, _⟩ := DataW.trod_int Try.underlying3 k0
      obtain ⟨val, e3, _, hv⟩ := DataW.trod_string Try.underlying9 k1
      obtain ⟨ver, e4, _, _⟩ := DataW.trod_int Try.underlying3 k2
      simp [Try.cellsIntE, Try.cellsStrE, Try.cellsStE] at e2 e3 e4 k3
      obtain ⟨ao2, ks, cp2, rfl, hrow, hkl⟩ := keysIn k3
      subst e0 e1 e2 e3 e4 e6
      have q0 := hc 0 (by omega)
      have q1 := hc 1 (by omega)
      have q2 := hc 2 (by omega)
      have q3 := hc 3 (by omega)
      have q4 := hc 4 (by omega)
      have q5 := hc 5 (by omega)
      have q6 := hc 6 (by omega)
      rw [add_zero] at q0
      rw [add_pos _ (by omega)] at q1 q2 q3 q4 q5 q6
      have e : (a.add (j * 7)).block = a.block := by unfold Addr.add; split <;> rfl
      have hb := World.block_lt_of_cell? W _ q0
      exact ⟨⟨cl, ls, kd, val.data.toList, ver, ks, sn⟩, ao2, cp2, by omega, q0, q1, q2, by rw [bs_self]; exact q3, q4, q5, q6, hrow, by unfold maxLen at hkl; show (ks.length : Int) ≤ _; omega, by rw [← bs_size, bs_self]; exact hv⟩)
    have hlen : ((List.range len).map f).length = len := by simp
    refine ⟨some a, (List.range len).map f, cap, by rw [hlen], ?_, by rw [hlen]; omega⟩
    intro j hj
    rw [hlen] at hj
    obtain ⟨ao2, c2, h0, h⟩ := hF j hj
    simp only [List.getElem_map, List.getElem_range]
    exact ⟨a, ao2, c2, rfl, h0, h⟩
end

set_option maxRecDepth 100000 in
theorem openSnap {H : Type} {enc : TypeId × Value → H} {W : World} {b0 : Nat} {v : Value} {d : DataW H} {p : List MemPlace} {r : Reach}
    (hv : Value.okWide Try.prog W r b0 61 v) (h : DataW.Trod enc Try.prog W 0 (fun _ => true) true 61 v d p) :
    ∃ (ix tm : Int) (a1 a2 a3 : Option Addr) (c1 c2 c3 : Nat) (v1 v2 v3 : List Int) (dt : ByteArray), v = .agg #[.int .i64 ix, .int .i64 tm, .slice a1 v1.length c1, .slice a2 v2.length c2, .slice a3 v3.length c3, .string dt] ∧ CfRows W.heap.size W a1 a2 a3 v1 v2 v3 ∧ v1.length ≤ maxLen ∧ v2.length ≤ maxLen ∧ v3.length ≤ maxLen ∧ dt.size ≤ maxLen := by
  obtain ⟨cs, rfl, hsize⟩ := okWide_struct Try.underlying61 hv
  obtain ⟨c0, c1, c2, c3, c4, c5, rfl⟩ := array6 (hsize.trans Try.cellsSnE)
  obtain ⟨fuel, hf⟩ := h
  obtain ⟨y0, y1, y2, y3, n, _, _, g0, g1, g2, g3⟩ := Joins.trod_struct4 Try.underlying61 hf
  obtain ⟨ix, e0, _, _⟩ := DataW.trod_int Try.underlying3 g0
  obtain ⟨tm, e1, _, _⟩ := DataW.trod_int Try.underlying3 g1
  obtain ⟨dt, e5, _, hk⟩ := DataW.trod_string Try.underlying9 g3
  simp [Value.cells, Try.cellsIntE, Try.cellsStrE, Try.cellsCfgE] at e0 e1 e5 g2
  obtain ⟨z0, z1, z2, n2, _, _, k0, k1, k2⟩ := Go.Deep.trod_struct3 Try.underlying24 g2
  simp [Try.cellsIsE] at k0 k1 k2
  obtain ⟨a1, v1, d1, rfl, r1, s1⟩ := intsIn k0
  obtain ⟨a2, v2, d2, rfl, r2, s2⟩ := intsIn k1
  obtain ⟨a3, v3, d3, rfl, r3, s3⟩ := intsIn k2
  subst e0 e1 e5
  exact ⟨ix, tm, a1, a2, a3, d1, d2, d3, v1, v2, v3, dt, rfl, ⟨r1, r2, r3⟩, s1, s2, s3, hk⟩

set_option maxRecDepth 100000 in
theorem openTab {H : Type} {enc : TypeId × Value → H} {W : World} {b0 : Nat} {v : Value} {d : DataW H} {p : List MemPlace} {r : Reach}
    (hv : Value.okWide Try.prog W r b0 65 v) (h : DataW.Trod enc Try.prog W 0 (fun _ => true) true 65 v d p) :
    ∃ (ao so : Option Addr) (cp cs : Nat) (ps : List Pr) (ss : List Ss) (tt : Int), v = .agg #[.slice ao ps.length cp, .slice so ss.length cs, .int .i64 tt] ∧ PairRow W.heap.size W ao ps ∧ SessRow W.heap.size W so ss ∧ ps.length ≤ maxLen ∧ ss.length ≤ maxLen := by
  obtain ⟨cs, rfl, hsize⟩ := okWide_struct Try.underlying65 hv
  obtain ⟨c0, c1, c2, rfl⟩ := array3 (hsize.trans Try.cellsTbE)
  obtain ⟨fuel, hf⟩ := h
  obtain ⟨y0, y1, y2, n, _, _, g0, g1, g2⟩ := Go.Deep.trod_struct3 Try.underlying65 hf
  obtain ⟨tt, e2, _, _⟩ := DataW.trod_int Try.underlying3 g2
  simp [Value.cells, Try.cellsIntE, Try.cellsPsE, Try.cellsSeE] at e2 g0 g1
  obtain ⟨ao, ps, cp, rfl, r1, s1⟩ := pairsIn g0
  obtain ⟨so, ss, cs, rfl, r2, s2⟩ := sessIn g1
  subst e2
  exact ⟨ao, so, cp, cs, ps, ss, tt, rfl, r1, r2, s1, s2⟩

set_option maxRecDepth 100000 in
theorem wireSnapshots_lifted (os : Os) (started : os.Started) (H : Type) (enc : TypeId × Value → H) :
    ReturnsInHanded {} Try.checked os 6 .any (Rows.wireSnapshotsSpec.pre6 enc Try.prog Try.f6 Rows.wireSnapshotsRow.domain false) (Rows.wireSnapshotsSpec.post enc Try.prog Try.f6 false true false false) := by
  refine returnsInHanded_of_change_sized (C := Try.checked) Try.ownE started (by kernel_rfl) Try.func6
    (ChangeSpec.witness6 (enc := enc) (C := Try.checked) false ⟨#[], #[.agg #[.int .i64 0, .int .i64 0, .slice none 0 0, .slice none 0 0, .slice none 0 0, .string ByteArray.empty], .agg #[.slice none 0 0, .slice none 0 0, .int .i64 0], .string ByteArray.empty], []⟩ 8 (by kernel_rfl) (by kernel_rfl) (by kernel_rfl) (by kernel_rfl)) ?_
  intro W base args ds gs before hval0 hW _ hsz0 _
  have hsz : (DataW.weightsEach Try.prog (Try.f6.params.toList ++ Rows.wireSnapshotsSpec.plain.varTypes Try.prog) (ds ++ gs)).all (· ≤ reachBytes) = true := hsz0
  clear hsz0
  have hval : ∀ (j : Nat) t v, Try.f6.params[j]? = some t → args[j]? = some v → Value.okWide Try.prog W .any base t v := hval0
  have hW' := hW
  obtain ⟨p, q, hA0, hV, rfl, _, _⟩ := hW
  have hA : DataW.TrodAll enc Try.prog W 0 (fun _ => true) true Try.f6.params.toList args.toList ds p := hA0
  rw [Try.params6] at hA hval hsz
  obtain ⟨v0, v1, v2, d0, d1, d2, p0, p1, p2, hargs, rfl, rfl, h0, h1, h2⟩ := trodAll_three hA
  obtain rfl : args = #[v0, v1, v2] := by cases args; simp_all
  obtain ⟨rfl, rfl⟩ := trodVars_none hV
  have k0 := h0
  have lt0 : ∀ x ∈ p0, x.block < W.heap.size := by obtain ⟨m, hm⟩ := k0; exact DataW.trod_lt m _ _ _ hm
  have k1 := h1
  have lt1 : ∀ x ∈ p1, x.block < W.heap.size := by obtain ⟨m, hm⟩ := k1; exact DataW.trod_lt m _ _ _ hm
  obtain ⟨ix, tm, a1, a2, a3, c1, c2, c3, x1, x2, x3, dt, rfl, hr, s1, s2, s3, hd⟩ := openSnap (hval 0 61 v0 rfl rfl) h0
  obtain ⟨ao, so, cp, cs, ps, ss, tt, rfl, hp, hq, l1, l2⟩ := openTab (hval 1 65 v1 rfl rfl) h1
  obtain ⟨b2, rfl, rfl, rfl, w2⟩ := open_string Try.underlying9 (hval 2 9 v2 rfl rfl) h2
  have z2 : b2.data.toList.length ≤ 140737488351232 := by
    have := sized_string hsz (j := 2) (t := 9) rfl rfl
    simpa only [reachBytes] using this
  unfold maxLen at s1 s2 s3 l1 l2
  have hw := wireSnapshots_walk ix tm _ c1 c2 c3 a1 a2 a3 x1 x2 x3 dt.data.toList cp cs tt ao so ps ss b2.data.toList W hr (by omega) (by omega) (by omega) (by rw [← bs_size, bs_self]; exact hd) hp hq (by omega) (by omega) z2
  rw [bs_self, bs_self] at hw
  clear hA0 hval0
  refine hw.mono fun e W' ⟨he, hkk⟩ => ?_
  subst he
  have bel := hkk.below (B := W.heap.size) (fun _ _ x => x.elim) (Nat.le_refl _)
  exact ⟨_, rfl, _, _, _, [], p0 ++ (p1 ++ []), [], hW', trodAll_mk1 (shut_bool Try.underlying4 _), trodAll_mk3 (Below.trod Try.laidOutE (by kernel_rfl) (of_decide_eq_true (by kernel_rfl)) k0 bel lt0) (Below.trod Try.laidOutE (by kernel_rfl) (of_decide_eq_true (by kernel_rfl)) k1 bel lt1) (shut_string Try.underlying9 w2), rfl, bel.frame _, fun h => by cases h⟩

theorem wireSnapshots_holds : Rows.WireSnapshotsSaid :=
  OpenClaim.holds_of_wide 6 Try.f6 rfl rfl rfl rfl rfl rfl rfl ⟨rfl, rfl, rfl, rfl, rfl⟩ rfl rfl rfl rfl rfl (by kernel_rfl) Try.func6 (by kernel_rfl)
    (of_decide_eq_true (by kernel_rfl)) (by unfold Func.isWrapper; first | (rw [if_pos (by decide +kernel)]; kernel_rfl) | (rw [if_neg (by decide +kernel)]; exact ⟨rfl, rfl⟩))
    (fun os started H enc _ => wireSnapshots_lifted os started H enc)
#print axioms wireSnapshots_holds

end Go.Proofs.Ytijklginabipgaa
