/-
  WireTorn holds for every list of bodies, every place and all masks: frames one behind the other, cut anywhere, are read back as far as they are whole, and then there is none; and a frame of which up to four bytes of the body that stand together are turned has another sum.
  Conditions: none (each string and slice takes at most 2^47 - 4096 bytes, as the form itself says).
-/
import Derived.Test.YtihgefdpnokoeaaRows
import Derived.Test.YtihgefdpnokoeaaWTorn3
import Derived.ProofKit
import Derived.OpenShut
import Derived.ShutString
import Derived.ChangeOld
import Derived.SizedLaws
import Derived.Deep.Slices
namespace Go.Proofs.Ytihgefdpnokoeaa
open Go.ChangeShapes Go.WideShapes Go.ChangeAt Go.RowKit Go.Deep

theorem Try.ownT : ownKnob Try.prog.godebug = none := by kernel_rfl
theorem Try.laidOutT : laidOutB Try.prog = true := by kernel_rfl
theorem Try.cellsStrT : Try.prog.cellsOf 9 = 1 := by kernel_rfl
theorem Try.cellsIntT : Try.prog.cellsOf 3 = 1 := by kernel_rfl
theorem Try.cellsArrT : Try.prog.cellsOf 86 = 4 := by kernel_rfl
theorem Try.bytesStrT : Try.prog.bytesOf 9 = 16 := by kernel_rfl

set_option maxRecDepth 100000 in
/-- A list of texts as it was handed in. -/
theorem openTexts {H : Type} {enc : TypeId × Value → H} {W : World} {b0 : Nat} {v : Value} {d : DataW H} {p : List MemPlace} {r : Reach}
    (hv : Value.okWide Try.prog W r b0 85 v) (h : DataW.Trod enc Try.prog W 0 (fun _ => true) true 85 v d p)
    (hsz : ∀ elems spare : List (DataW H), d = .slice elems spare → elems.length * 16 ≤ 140737488351232) :
    ∃ (ao : Option Addr) (bl : List (List UInt8)) (cap : Nat), v = .slice ao bl.length cap ∧ bl.length ≤ 8796093022208 ∧ ∀ j, (hj : j < bl.length) → ∃ a, ao = some a ∧ W.cell? (a.add j) = some (.string (bs bl[j])) ∧ bl[j].length ≤ maxLen := by
  obtain ⟨a, len, cap, rfl⟩ := okWide_slice Try.underlying85 hv
  obtain ⟨fuel, hf⟩ := h
  rcases open_slice1 Try.underlying85 Try.cellsStrT hf with ⟨h1, _⟩ | ⟨a', len', cap', m, n, V, D, Pl, h1, _, hl, hm, hmm, hx, hc⟩
  · simp [Value.cells] at h1
    obtain ⟨rfl, rfl, rfl⟩ := h1
    exact ⟨none, [], 0, rfl, by simp, fun j hj => by simp at hj⟩
  · simp [Value.cells] at h1
    obtain ⟨rfl, rfl, rfl⟩ := h1
    simp only [if_true] at hmm
    simp only [Prod.mk.injEq] at hx
    have hs := hsz _ _ hx.1
    simp only [List.length_map, List.length_range] at hs
    have each : ∀ i, i < len → ∃ s : ByteArray, V i = .string s ∧ s.size ≤ maxLen := fun i hi => by
      obtain ⟨s, hs, _, hz⟩ := DataW.trod_string Try.underlying9 (hc i (by omega)).2
      simp at hs
      exact ⟨s, hs, hz⟩
    have hlen : ((List.range len).map fun i => match V i with | .string s => s.data.toList | _ => []).length = len := by simp
    refine ⟨some a', (List.range len).map fun i => match V i with | .string s => s.data.toList | _ => [], cap, by rw [hlen], by rw [hlen]; omega, fun j hj => ⟨a', rfl, ?_⟩⟩
    rw [hlen] at hj
    obtain ⟨s, hs2, hz⟩ := each j hj
    have hcell := (hc j (by omega)).1
    simp only [List.getElem_map, List.getElem_range, hs2] at hcell ⊢
    rw [bs_self]
    exact ⟨hcell, hz⟩

theorem quad {cs : Array Value} (h : cs.size = 4) : ∃ a b c d, cs = #[a, b, c, d] := by
  match cs, h with
  | ⟨[a, b, c, d]⟩, _ => exact ⟨a, b, c, d, rfl⟩

set_option maxRecDepth 100000 in
theorem openQuad {H : Type} {enc : TypeId × Value → H} {W : World} {b0 base : Nat} {sp : Nat → Bool} {hd : Bool} {v : Value} {d : DataW H} {p : List MemPlace} {r : Reach}
    (hv : Value.okWide Try.prog W r b0 86 v) (h : DataW.Trod enc Try.prog W base sp hd 86 v d p) :
    ∃ m0 m1 m2 m3 : Int, v = .agg #[.int .i64 m0, .int .i64 m1, .int .i64 m2, .int .i64 m3] := by
  have hv' := hv
  simp only [Value.okWide, Try.underlying86] at hv'
  obtain ⟨cs, rfl, hsz, _⟩ := hv'
  obtain ⟨c0, c1, c2, c3, rfl⟩ := quad (hsz.trans Try.cellsArrT)
  obtain ⟨fuel, hf⟩ := h
  obtain ⟨xs, m, _, ex, hlen, hl, hel⟩ := DataW.trod_array Try.underlying86 hf
  have each : ∀ i, i < 4 → ∃ y, DataW.trod enc Try.prog W base sp hd m 3 (([c0, c1, c2, c3].drop i).take 1) = some y := fun i hi => by
    have := hel i hi
    rw [Try.cellsIntT, Nat.mul_one, List.getElem?_eq_getElem (by omega)] at this
    exact ⟨_, this⟩
  obtain ⟨y0, e0⟩ := each 0 (by decide)
  obtain ⟨y1, e1⟩ := each 1 (by decide)
  obtain ⟨y2, e2⟩ := each 2 (by decide)
  obtain ⟨y3, e3⟩ := each 3 (by decide)
  obtain ⟨m0, q0, _⟩ := DataW.trod_int Try.underlying3 e0
  obtain ⟨m1, q1, _⟩ := DataW.trod_int Try.underlying3 e1
  obtain ⟨m2, q2, _⟩ := DataW.trod_int Try.underlying3 e2
  obtain ⟨m3, q3, _⟩ := DataW.trod_int Try.underlying3 e3
  simp at q0 q1 q2 q3
  subst q0 q1 q2 q3
  exact ⟨m0, m1, m2, m3, rfl⟩

set_option maxRecDepth 100000 in
theorem wireTorn_lifted (os : Os) (started : os.Started) (H : Type) (enc : TypeId × Value → H) :
    ReturnsInHanded {} Try.checked os 9 .any (Rows.wireTornSpec.pre6 enc Try.prog Try.f9 Rows.wireTornRow.domain false) (Rows.wireTornSpec.post enc Try.prog Try.f9 false true false false) := by
  refine returnsInHanded_of_change_sized (C := Try.checked) Try.ownT started (by kernel_rfl) Try.func9
    (ChangeSpec.witness6 (enc := enc) (C := Try.checked) false ⟨#[], #[.slice none 0 0, .int .i64 0, .agg #[.int .i64 0, .int .i64 0, .int .i64 0, .int .i64 0]], []⟩ 8 (by kernel_rfl) (by kernel_rfl) (by kernel_rfl) (by kernel_rfl)) ?_
  intro W base args ds gs before hval0 hW _ hsz0 _
  have hsz : (DataW.weightsEach Try.prog (Try.f9.params.toList ++ Rows.wireTornSpec.plain.varTypes Try.prog) (ds ++ gs)).all (· ≤ reachBytes) = true := hsz0
  clear hsz0
  have hval : ∀ (j : Nat) t v, Try.f9.params[j]? = some t → args[j]? = some v → Value.okWide Try.prog W .any base t v := hval0
  have hW' := hW
  obtain ⟨p, q, hA0, hV, rfl, _, _⟩ := hW
  have hA : DataW.TrodAll enc Try.prog W 0 (fun _ => true) true Try.f9.params.toList args.toList ds p := hA0
  rw [Try.params9] at hA hval hsz
  obtain ⟨v0, v1, v2, d0, d1, d2, p0, p1, p2, hargs, rfl, rfl, h0, h1, h2⟩ := trodAll_three hA
  obtain rfl : args = #[v0, v1, v2] := by cases args; simp_all
  obtain ⟨rfl, rfl⟩ := trodVars_none hV
  have k0 := h0
  have lt0 : ∀ x ∈ p0, x.block < W.heap.size := by obtain ⟨m, hm⟩ := k0; exact DataW.trod_lt m _ _ _ hm
  have k2 := h2
  have lt2 : ∀ x ∈ p2, x.block < W.heap.size := by obtain ⟨m, hm⟩ := k2; exact DataW.trod_lt m _ _ _ hm
  obtain ⟨ao, bl, cap, rfl, hlen, hc⟩ := openTexts (hval 0 85 v0 rfl rfl) h0 (fun elems spare hd => by
    have := sized_slice hsz (j := 0) (t := 85) (elems := elems) (spare := spare) rfl (by simp [hd]) Try.underlying85
    rw [Try.bytesStrT] at this
    simp only [reachBytes] at this
    omega)
  obtain ⟨n, rfl, rfl, rfl, w1⟩ := open_int Try.underlying3 (hval 1 3 v1 rfl rfl) h1
  obtain ⟨m0, m1, m2, m3, rfl⟩ := openQuad (hval 2 86 v2 rfl rfl) h2
  have hw := wireTorn_walk ao bl cap n m0 m1 m2 m3 W hlen hc
  clear hA0 hval0
  refine hw.mono fun e W' ⟨he, hkk⟩ => ?_
  subst he
  have bel := hkk.below (B := W.heap.size) (fun _ _ x => x.elim) (Nat.le_refl _)
  exact ⟨_, rfl, _, _, _, [], p0 ++ ([] ++ p2), [], hW', trodAll_mk1 (shut_bool Try.underlying4 _), trodAll_mk3 (Below.trod Try.laidOutT (by kernel_rfl) (of_decide_eq_true (by kernel_rfl)) k0 bel lt0) (shut_int Try.underlying3 w1) (Below.trod Try.laidOutT (by kernel_rfl) (of_decide_eq_true (by kernel_rfl)) k2 bel lt2), rfl, bel.frame _, fun h => by cases h⟩

theorem wireTorn_holds : Rows.WireTornSaid :=
  OpenClaim.holds_of_wide 9 Try.f9 rfl rfl rfl rfl rfl rfl rfl ⟨rfl, rfl, rfl, rfl, rfl⟩ rfl rfl rfl rfl rfl (by kernel_rfl) Try.func9 (by kernel_rfl)
    (of_decide_eq_true (by kernel_rfl)) (by unfold Func.isWrapper; first | (rw [if_pos (by decide +kernel)]; kernel_rfl) | (rw [if_neg (by decide +kernel)]; exact ⟨rfl, rfl⟩))
    (fun os started H enc _ => wireTorn_lifted os started H enc)
#print axioms wireTorn_holds

end Go.Proofs.Ytihgefdpnokoeaa
