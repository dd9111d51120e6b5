/-
  WireBack holds for all six numbers and all three texts: the request, the entry, the configuration and the message that it makes of them, written and read, are what they were; and a frame of the message, with any bytes behind it, gives the message and those bytes.
  Conditions: none (each string takes at most 2^47 - 4096 bytes, as the form itself says).
-/
import Derived.Test.YtijklginabipgaaRows
import Derived.Test.YtijklginabipgaaWBk
import Derived.ProofKit
import Derived.OpenShut
import Derived.ShutString
import Derived.ChangeOld
import Derived.SizedLaws
import Derived.Deep.Slices
import Derived.Carry
namespace Go.Proofs.Ytijklginabipgaa
open Go.ChangeShapes Go.WideShapes Go.ChangeAt Go.RowKit Go.Deep
open Go.ChangeMaps (open_string shut_string)

theorem Try.ownB : ownKnob Try.prog.godebug = none := by kernel_rfl
theorem Try.laidOutB : laidOutB Try.prog = true := by kernel_rfl
theorem Try.cellsIntB : Try.prog.cellsOf 3 = 1 := by kernel_rfl
theorem Try.cellsArrB : Try.prog.cellsOf 75 = 6 := by kernel_rfl

theorem hexa {cs : Array Value} (h : cs.size = 6) : ∃ a b c d e f, cs = #[a, b, c, d, e, f] := by
  match cs, h with
  | ⟨[a, b, c, d, e, f]⟩, _ => exact ⟨a, b, c, d, e, f, rfl⟩

set_option maxRecDepth 100000 in
theorem openHexa {H : Type} {enc : TypeId × Value → H} {W : World} {b0 base : Nat} {sp : Nat → Bool} {hd : Bool} {v : Value} {d : DataW H} {p : List MemPlace} {r : Reach}
    (hv : Value.okWide Try.prog W r b0 75 v) (h : DataW.Trod enc Try.prog W base sp hd 75 v d p) :
    ∃ m0 m1 m2 m3 m4 m5 : Int, v = .agg #[.int .i64 m0, .int .i64 m1, .int .i64 m2, .int .i64 m3, .int .i64 m4, .int .i64 m5] := by
  have hv' := hv
  simp only [Value.okWide, Try.underlying75] at hv'
  obtain ⟨cs, rfl, hsz, _⟩ := hv'
  obtain ⟨c0, c1, c2, c3, c4, c5, rfl⟩ := hexa (hsz.trans Try.cellsArrB)
  obtain ⟨fuel, hf⟩ := h
  obtain ⟨xs, m, _, ex, hlen, hl, hel⟩ := DataW.trod_array Try.underlying75 hf
  have each : ∀ i, i < 6 → ∃ y, DataW.trod enc Try.prog W base sp hd m 3 (([c0, c1, c2, c3, c4, c5].drop i).take 1) = some y := fun i hi => by
    have := hel i hi
    rw [Try.cellsIntB, Nat.mul_one, List.getElem?_eq_getElem (by omega)] at this
    exact ⟨_, this⟩
  obtain ⟨y0, e0⟩ := each 0 (by decide)
  obtain ⟨y1, e1⟩ := each 1 (by decide)
  obtain ⟨y2, e2⟩ := each 2 (by decide)
  obtain ⟨y3, e3⟩ := each 3 (by decide)
  obtain ⟨y4, e4⟩ := each 4 (by decide)
  obtain ⟨y5, e5⟩ := each 5 (by decide)
  obtain ⟨m0, q0, _⟩ := DataW.trod_int Try.underlying3 e0
  obtain ⟨m1, q1, _⟩ := DataW.trod_int Try.underlying3 e1
  obtain ⟨m2, q2, _⟩ := DataW.trod_int Try.underlying3 e2
  obtain ⟨m3, q3, _⟩ := DataW.trod_int Try.underlying3 e3
  obtain ⟨m4, q4, _⟩ := DataW.trod_int Try.underlying3 e4
  obtain ⟨m5, q5, _⟩ := DataW.trod_int Try.underlying3 e5
  simp at q0 q1 q2 q3 q4 q5
  subst q0 q1 q2 q3 q4 q5
  exact ⟨m0, m1, m2, m3, m4, m5, rfl⟩

set_option maxRecDepth 100000 in
theorem wireBack_lifted (os : Os) (started : os.Started) (H : Type) (enc : TypeId × Value → H) :
    ReturnsInHanded {} Try.checked os 7 .any (Rows.wireBackSpec.pre6 enc Try.prog Try.f7 Rows.wireBackRow.domain false) (Rows.wireBackSpec.post enc Try.prog Try.f7 false true false false) := by
  refine returnsInHanded_of_change_sized (C := Try.checked) Try.ownB started (by kernel_rfl) Try.func7
    (ChangeSpec.witness6 (enc := enc) (C := Try.checked) false ⟨#[], #[.agg #[.int .i64 0, .int .i64 0, .int .i64 0, .int .i64 0, .int .i64 0, .int .i64 0], .string ByteArray.empty, .string ByteArray.empty, .string ByteArray.empty], []⟩ 8 (by kernel_rfl) (by kernel_rfl) (by kernel_rfl) (by kernel_rfl)) ?_
  intro W base args ds gs before hval0 hW _ hsz0 _
  have hsz : (DataW.weightsEach Try.prog (Try.f7.params.toList ++ Rows.wireBackSpec.plain.varTypes Try.prog) (ds ++ gs)).all (· ≤ reachBytes) = true := hsz0
  clear hsz0
  have hval : ∀ (j : Nat) t v, Try.f7.params[j]? = some t → args[j]? = some v → Value.okWide Try.prog W .any base t v := hval0
  have hW' := hW
  obtain ⟨p, q, hA0, hV, rfl, _, _⟩ := hW
  have hA : DataW.TrodAll enc Try.prog W 0 (fun _ => true) true Try.f7.params.toList args.toList ds p := hA0
  rw [Try.params7] at hA hval hsz
  obtain ⟨v0, v1, v2, v3, d0, d1, d2, d3, p0, p1, p2, p3, hargs, rfl, rfl, h0, h1, h2, h3⟩ := trodAll_four hA
  obtain rfl : args = #[v0, v1, v2, v3] := by cases args; simp_all
  obtain ⟨rfl, rfl⟩ := trodVars_none hV
  have k0 := h0
  have lt0 : ∀ x ∈ p0, x.block < W.heap.size := by obtain ⟨m, hm⟩ := k0; exact DataW.trod_lt m _ _ _ hm
  obtain ⟨m0, m1, m2, m3, m4, m5, rfl⟩ := openHexa (hval 0 75 v0 rfl rfl) h0
  obtain ⟨a1, rfl, rfl, rfl, w1⟩ := open_string Try.underlying9 (hval 1 9 v1 rfl rfl) h1
  obtain ⟨a2, rfl, rfl, rfl, w2⟩ := open_string Try.underlying9 (hval 2 9 v2 rfl rfl) h2
  obtain ⟨a3, rfl, rfl, rfl, w3⟩ := open_string Try.underlying9 (hval 3 9 v3 rfl rfl) h3
  have z1 : a1.data.toList.length ≤ 140737488351232 := by
    have := sized_string hsz (j := 1) (t := 9) rfl rfl
    simpa only [reachBytes] using this
  have z2 : a2.data.toList.length ≤ 140737488351232 := by
    have := sized_string hsz (j := 2) (t := 9) rfl rfl
    simpa only [reachBytes] using this
  have z3 : a3.data.toList.length ≤ 140737488351232 := by
    have := sized_string hsz (j := 3) (t := 9) rfl rfl
    simpa only [reachBytes] using this
  have hw := wireBack_walk m0 m1 m2 m3 m4 m5 a1.data.toList a2.data.toList a3.data.toList W z1 z2 z3
  rw [bs_self, bs_self, bs_self] at hw
  clear hA0 hval0
  refine hw.mono fun e W' ⟨he, hkk⟩ => ?_
  subst he
  have bel := hkk.below (B := W.heap.size) (fun _ _ x => x.elim) (Nat.le_refl _)
  have t0 := Below.trod Try.laidOutB (by kernel_rfl) (of_decide_eq_true (by kernel_rfl)) k0 bel lt0
  exact ⟨_, rfl, _, _, _, [], p0 ++ ([] ++ ([] ++ [])), [], hW', trodAll_mk1 (shut_bool Try.underlying4 _), trodAll_mk4 t0 (shut_string Try.underlying9 w1) (shut_string Try.underlying9 w2) (shut_string Try.underlying9 w3), rfl, bel.frame _, fun h => by cases h⟩

theorem wireBack_holds : Rows.WireBackSaid :=
  OpenClaim.holds_of_wide 7 Try.f7 rfl rfl rfl rfl rfl rfl rfl ⟨rfl, rfl, rfl, rfl, rfl⟩ rfl rfl rfl rfl rfl (by kernel_rfl) Try.func7 (by kernel_rfl)
    (of_decide_eq_true (by kernel_rfl)) (by unfold Func.isWrapper; first | (rw [if_pos (by decide +kernel)]; kernel_rfl) | (rw [if_neg (by decide +kernel)]; exact ⟨rfl, rfl⟩))
    (fun os started H enc _ => wireBack_lifted os started H enc)
#print axioms wireBack_holds

end Go.Proofs.Ytijklginabipgaa
