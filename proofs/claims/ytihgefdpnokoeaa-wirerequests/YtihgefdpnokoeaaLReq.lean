/-
  WireRequests holds for every request and every text: PutRequest, GetRequest and IsCommand answer what the document's answer does, of the request, of the text, and of the request's bytes with the text behind them; and a request of number 300 is written as the document writes it.
  Conditions: none (each string takes at most 2^47 - 4096 bytes, as the form itself says).
-/
import Derived.Test.YtihgefdpnokoeaaRows
import Derived.Test.YtihgefdpnokoeaaWReq8
import Derived.ProofKit
import Derived.OpenShut
import Derived.ShutString
import Derived.ChangeOld
import Derived.SizedLaws
import Derived.Lib.SmallJoins
import Derived.Deep.RegionWith
namespace Go.Proofs.Ytihgefdpnokoeaa
open Go.ChangeShapes Go.WideShapes Go.ChangeAt Go.RowKit
open Go.ChangeMaps (open_string shut_string)

theorem hidTransR {X : Nat → Obj → Prop} {a b c : World} (h : Hid (Kept X a b)) (k : Kept X b c) : Hid (Kept X a c) := h.out.trans k
theorem hidDrew {X : Nat → Obj → Prop} {a b : World} (h : Hid (Kept X a b)) : Hid (Kept X a b.drew) := h.out.drew
theorem hidBlk2 {w v w' : World} {b : Nat} {o : Obj} (h : Hid (w.heap[b]? = some o)) (k : Kept Nil v w') (e : v.heap = w.heap) : Hid (w'.heap[b]? = some o) := k.block b o (by rw [e]; exact h) (fun x => x.elim)
theorem put300 : putReq ⟨0, 300, 0, [], [], 0, 0⟩ = ([0, 172, 2, 0], 0) := by
  rw [putReq_ok (by decide)]
  unfold encReq
  rw [enc3]
  have e0 : enc 0 = [0] := by rw [enc_small (by decide)]; rfl
  have e1 : enc 300 = [172, 2] := by rw [enc_big (by decide), enc_small (by decide)]; rfl
  show (enc 0 ++ enc 300 ++ enc 0 ++ _, (0 : Int)) = _
  rw [e0, e1]
  rfl

theorem putReq_len (q : Rq) : (putReq q).1.length ≤ 200 := by
  cases h : q.ok with
  | false => rw [putReq_no h]; simp
  | true =>
    rw [putReq_ok h]
    obtain ⟨a1, a2, a3, a4, a5, a6, a7⟩ := ok_facts h
    have l1 := enc_len6 (isNum_nat a1).2
    have l2 := enc_len6 (isNum_nat a2).2
    have l3 := enc_len6 (isNum_nat a3).2
    have l4 := enc_len6 (isNum_nat a4).2
    have l5 := enc_len6 (isNum_nat a5).2
    have l6 := encText_len (l := q.key) (by omega)
    have l7 := encText_len (l := q.val) (by omega)
    simp only [encReq, enc3, encCmd, List.length_append]
    split
    · simp only [List.length_nil]; omega
    · simp only [List.length_append]; omega

set_option maxRecDepth 100000 in
set_option maxHeartbeats 8000000 in
theorem wireRequests_walk (cl nm kd ifv tm : Int) (key val s : List UInt8) (w : World) (hk : key.length ≤ maxLen) (hv : val.length ≤ maxLen) (hs : s.length ≤ 140737488351232) :
    Calls Try.prog 5 #[.agg #[.int .i64 cl, .int .i64 nm, .int .i64 kd, .string (bs key), .string (bs val), .int .i64 ifv, .int .i64 tm], .string (bs s)] w fun e w' => e = .returned (.bool true) ∧ Kept Nil w w' := by
  have hpl := putReq_len ⟨cl, nm, kd, key, val, ifv, tm⟩
  have P1 := fun w => putRequest_any cl nm kd ifv tm key val w hk hv
  have R1 := fun w => refPutRequest_any cl nm kd ifv tm key val w hk hv
  have P3 := fun w => putRequest_any 0 300 0 0 0 [] [] w (by simp) (by simp)
  rw [put300] at P3
  have C1 := fun w => isCommand_any kd ifv key val w hk hv
  have C2 := fun w => refIsCommand_any kd ifv key val w hk hv
  have G1 := fun w => getRequest_any s w
  have D1 := fun w => refGetRequest_any s w (by unfold maxLen; omega)
  have G2 := fun w => getRequest_any ((putReq ⟨cl, nm, kd, key, val, ifv, tm⟩).1 ++ s) w
  have D2 := fun w => refGetRequest_any ((putReq ⟨cl, nm, kd, key, val, ifv, tm⟩).1 ++ s) w (by rw [List.length_append]; unfold maxLen; omega)
  generalize isCmd kd key val ifv = okb at C1 C2
  generalize getReq ((putReq ⟨cl, nm, kd, key, val, ifv, tm⟩).1 ++ s) = y at G2 D2
  obtain ⟨⟨y1, y2, y3, y4, y5, y6, y7⟩, y8⟩ := y
  generalize getReq s = x at G1 D1
  obtain ⟨⟨x1, x2, x3, x4, x5, x6, x7⟩, x8⟩ := x
  generalize putReq ⟨cl, nm, kd, key, val, ifv, tm⟩ = pq at P1 R1 G2 D2 hpl
  obtain ⟨p1, p2⟩ := pq
  simp only at P1 R1 P3 G1 D1 G2 D2 hpl
  have hap := bs_append
  have hz1 : (bs p1).size ≤ 200 := by rw [bs_size]; exact hpl
  have hz2 : (bs s).size ≤ 140737488351232 := by rw [bs_size]; exact hs
  have ht := bs_toList
  have HB0 : Hid (_) := blk_new w (.cells #[.int .i64 cl, .int .i64 nm, .int .i64 kd, .string (bs key), .string (bs val), .int .i64 ifv, .int .i64 tm] 41)
  clear hk hv hs hpl
  go_enter Try.func5, Try.ntmps5
  go_wp2_with fail
  refine (P1 _).mono ?_
  rintro e w1 ⟨rfl, k1⟩
  have B1 : Hid (_) := k1.block _ _ HB0.out (fun x => x.elim)
  have K1 : Hid (Kept Nil w w1) := ((Kept.refl _ _).alloc _).trans k1
  clear k1
  have q0 := blk_at B1.out 0 rfl
  have q1 := blk_at B1.out 1 rfl
  have q2 := blk_at B1.out 2 rfl
  have q3 := blk_at B1.out 3 rfl
  have q4 := blk_at B1.out 4 rfl
  have q5 := blk_at B1.out 5 rfl
  have q6 := blk_at B1.out 6 rfl
  go_wp2_with fail
  refine (R1 _).mono ?_
  rintro e w2 ⟨rfl, k2⟩
  have B2 : Hid (_) := k2.block _ _ B1.out (fun x => x.elim)
  have K2 : Hid (Kept Nil w w2) := K1.out.trans k2
  clear k2 q0 q1 q2 q3 q4 q5 q6
  go_wp2_with fail
  refine (G1 _).mono ?_
  rintro e w3 ⟨rfl, k3⟩
  have B3 : Hid (_) := blk_past (k3.block _ _ B2.out (fun x => x.elim)) (.cells #[.int .i64 x1, .int .i64 x2, .int .i64 x3, .string (bs x4), .string (bs x5), .int .i64 x6, .int .i64 x7] 41)
  have X3 : Hid (_) := blk_new w3 (.cells #[.int .i64 x1, .int .i64 x2, .int .i64 x3, .string (bs x4), .string (bs x5), .int .i64 x6, .int .i64 x7] 41)
  have K3 : Hid (Kept Nil w (w3.alloc (.cells #[.int .i64 x1, .int .i64 x2, .int .i64 x3, .string (bs x4), .string (bs x5), .int .i64 x6, .int .i64 x7] 41))) := (K2.out.trans k3).alloc _
  clear k3
  go_wp2_with fail
  refine (D1 _).mono ?_
  rintro e w4 ⟨rfl, k4⟩
  have B4 : Hid (_) := blk_past (k4.block _ _ B3.out (fun x => x.elim)) (.cells #[.int .i64 x1, .int .i64 x2, .int .i64 x3, .string (bs x4), .string (bs x5), .int .i64 x6, .int .i64 x7] 41)
  have X4 : Hid (_) := blk_past (k4.block _ _ X3.out (fun x => x.elim)) (.cells #[.int .i64 x1, .int .i64 x2, .int .i64 x3, .string (bs x4), .string (bs x5), .int .i64 x6, .int .i64 x7] 41)
  have Z4 : Hid (_) := blk_new w4 (.cells #[.int .i64 x1, .int .i64 x2, .int .i64 x3, .string (bs x4), .string (bs x5), .int .i64 x6, .int .i64 x7] 41)
  have K4 : Hid (Kept Nil w (w4.alloc (.cells #[.int .i64 x1, .int .i64 x2, .int .i64 x3, .string (bs x4), .string (bs x5), .int .i64 x6, .int .i64 x7] 41))) := (K3.out.trans k4).alloc _
  clear k4
  go_wp2_with fail
  refine (G2 _).mono ?_
  rintro e w5 ⟨rfl, k5⟩
  have B5 : Hid (_) := blk_past (k5.block _ _ B4.out (fun x => x.elim)) (.cells #[.int .i64 y1, .int .i64 y2, .int .i64 y3, .string (bs y4), .string (bs y5), .int .i64 y6, .int .i64 y7] 41)
  have X5 : Hid (_) := blk_past (k5.block _ _ X4.out (fun x => x.elim)) (.cells #[.int .i64 y1, .int .i64 y2, .int .i64 y3, .string (bs y4), .string (bs y5), .int .i64 y6, .int .i64 y7] 41)
  have Z5 : Hid (_) := blk_past (k5.block _ _ Z4.out (fun x => x.elim)) (.cells #[.int .i64 y1, .int .i64 y2, .int .i64 y3, .string (bs y4), .string (bs y5), .int .i64 y6, .int .i64 y7] 41)
  have U5 : Hid (_) := blk_new w5 (.cells #[.int .i64 y1, .int .i64 y2, .int .i64 y3, .string (bs y4), .string (bs y5), .int .i64 y6, .int .i64 y7] 41)
  have K5 : Hid (Kept Nil w (w5.alloc (.cells #[.int .i64 y1, .int .i64 y2, .int .i64 y3, .string (bs y4), .string (bs y5), .int .i64 y6, .int .i64 y7] 41))) := (K4.out.trans k5).alloc _
  clear k5
  go_wp2_with fail
  refine (D2 _).mono ?_
  rintro e w6 ⟨rfl, k6⟩
  have B6 : Hid (_) := blk_past (k6.block _ _ B5.out (fun x => x.elim)) (.cells #[.int .i64 y1, .int .i64 y2, .int .i64 y3, .string (bs y4), .string (bs y5), .int .i64 y6, .int .i64 y7] 41)
  have X6 : Hid (_) := blk_past (k6.block _ _ X5.out (fun x => x.elim)) (.cells #[.int .i64 y1, .int .i64 y2, .int .i64 y3, .string (bs y4), .string (bs y5), .int .i64 y6, .int .i64 y7] 41)
  have Z6 : Hid (_) := blk_past (k6.block _ _ Z5.out (fun x => x.elim)) (.cells #[.int .i64 y1, .int .i64 y2, .int .i64 y3, .string (bs y4), .string (bs y5), .int .i64 y6, .int .i64 y7] 41)
  have U6 : Hid (_) := blk_past (k6.block _ _ U5.out (fun x => x.elim)) (.cells #[.int .i64 y1, .int .i64 y2, .int .i64 y3, .string (bs y4), .string (bs y5), .int .i64 y6, .int .i64 y7] 41)
  have V6 : Hid (_) := blk_new w6 (.cells #[.int .i64 y1, .int .i64 y2, .int .i64 y3, .string (bs y4), .string (bs y5), .int .i64 y6, .int .i64 y7] 41)
  have K6 : Hid (Kept Nil w (w6.alloc (.cells #[.int .i64 y1, .int .i64 y2, .int .i64 y3, .string (bs y4), .string (bs y5), .int .i64 y6, .int .i64 y7] 41))) := (K5.out.trans k6).alloc _
  clear k6
  go_wp2_with fail
  refine (P3 _).mono ?_
  rintro e w7 ⟨rfl, k7⟩
  have B7 : Hid (_) := k7.block _ _ B6.out (fun x => x.elim)
  have X7 : Hid (_) := k7.block _ _ X6.out (fun x => x.elim)
  have Z7 : Hid (_) := k7.block _ _ Z6.out (fun x => x.elim)
  have U7 : Hid (_) := k7.block _ _ U6.out (fun x => x.elim)
  have V7 : Hid (_) := k7.block _ _ V6.out (fun x => x.elim)
  have K7 : Hid (Kept Nil w w7) := K6.out.trans k7
  clear k7
  have q2 := blk_at B7.out 2 rfl
  have q3 := blk_at B7.out 3 rfl
  have q4 := blk_at B7.out 4 rfl
  have q5 := blk_at B7.out 5 rfl
  go_wp2
  go_region_with (first | (go_at_call 25; go_must (refine (C1 _).mono ?_); rintro e wn ⟨rfl, kk⟩; replace B7 := hidBlk2 B7 kk rfl; replace X7 := hidBlk2 X7 kk rfl; replace Z7 := hidBlk2 Z7 kk rfl; replace U7 := hidBlk2 U7 kk rfl; replace V7 := hidBlk2 V7 kk rfl; (first | replace K7 := hidTransR K7 kk | replace K7 := hidTransR (hidDrew K7) kk); clear kk q2 q3 q4 q5; have q2 := blk_at B7.out 2 rfl; have q3 := blk_at B7.out 3 rfl; have q4 := blk_at B7.out 4 rfl; have q5 := blk_at B7.out 5 rfl) | (go_at_call 26; go_must (refine (C2 _).mono ?_); rintro e wn ⟨rfl, kk⟩; replace B7 := hidBlk2 B7 kk rfl; replace X7 := hidBlk2 X7 kk rfl; replace Z7 := hidBlk2 Z7 kk rfl; replace U7 := hidBlk2 U7 kk rfl; replace V7 := hidBlk2 V7 kk rfl; (first | replace K7 := hidTransR K7 kk | replace K7 := hidTransR (hidDrew K7) kk); clear kk q2 q3 q4 q5; have q2 := blk_at B7.out 2 rfl; have q3 := blk_at B7.out 3 rfl; have q4 := blk_at B7.out 4 rfl; have q5 := blk_at B7.out 5 rfl))
  all_goals have x_0 := blk_at X7.out 0 rfl
  all_goals have x_1 := blk_at X7.out 1 rfl
  all_goals have x_2 := blk_at X7.out 2 rfl
  all_goals have x_3 := blk_at X7.out 3 rfl
  all_goals have x_4 := blk_at X7.out 4 rfl
  all_goals have x_5 := blk_at X7.out 5 rfl
  all_goals have x_6 := blk_at X7.out 6 rfl
  all_goals have z_0 := blk_at Z7.out 0 rfl
  all_goals have z_1 := blk_at Z7.out 1 rfl
  all_goals have z_2 := blk_at Z7.out 2 rfl
  all_goals have z_3 := blk_at Z7.out 3 rfl
  all_goals have z_4 := blk_at Z7.out 4 rfl
  all_goals have z_5 := blk_at Z7.out 5 rfl
  all_goals have z_6 := blk_at Z7.out 6 rfl
  all_goals have u_0 := blk_at U7.out 0 rfl
  all_goals have u_1 := blk_at U7.out 1 rfl
  all_goals have u_2 := blk_at U7.out 2 rfl
  all_goals have u_3 := blk_at U7.out 3 rfl
  all_goals have u_4 := blk_at U7.out 4 rfl
  all_goals have u_5 := blk_at U7.out 5 rfl
  all_goals have u_6 := blk_at U7.out 6 rfl
  all_goals have v_0 := blk_at V7.out 0 rfl
  all_goals have v_1 := blk_at V7.out 1 rfl
  all_goals have v_2 := blk_at V7.out 2 rfl
  all_goals have v_3 := blk_at V7.out 3 rfl
  all_goals have v_4 := blk_at V7.out 4 rfl
  all_goals have v_5 := blk_at V7.out 5 rfl
  all_goals have v_6 := blk_at V7.out 6 rfl
  all_goals go_wp2
  all_goals go_ret
  all_goals exact ⟨rfl, K7.out⟩

theorem Try.ownQ : ownKnob Try.prog.godebug = none := by kernel_rfl
theorem Try.laidOutQ : laidOutB Try.prog = true := by kernel_rfl
theorem Try.cellsInt : Try.prog.cellsOf 3 = 1 := by kernel_rfl
theorem Try.cellsStr : Try.prog.cellsOf 9 = 1 := by kernel_rfl
theorem Try.cellsCmd : Try.prog.cellsOf 39 = 4 := by kernel_rfl
theorem Try.cellsReq : Try.prog.cellsOf 41 = 7 := by kernel_rfl

theorem array7 {α : Type} {cs : Array α} (h : cs.size = 7) : ∃ a b c d e f g, cs = #[a, b, c, d, e, f, g] := by
  obtain ⟨l⟩ := cs
  match l, h with
  | [a, b, c, d, e, f, g], _ => exact ⟨a, b, c, d, e, f, g, rfl⟩

set_option maxRecDepth 100000 in
theorem openReq {H : Type} {enc : TypeId × Value → H} {W : World} {b0 base : Nat} {sp : TypeId → Bool} {hd : Bool} {v : Value} {d : DataW H} {p : List MemPlace} {r : Reach}
    (hv : Value.okWide Try.prog W r b0 41 v) (h : DataW.Trod enc Try.prog W base sp hd 41 v d p) :
    ∃ (cl nm kd ifv tm : Int) (key val : ByteArray), v = .agg #[.int .i64 cl, .int .i64 nm, .int .i64 kd, .string key, .string val, .int .i64 ifv, .int .i64 tm] ∧ key.size ≤ maxLen ∧ val.size ≤ maxLen := by
  obtain ⟨cs, rfl, hsz⟩ := okWide_struct Try.underlying41 hv
  obtain ⟨c0, c1, c2, c3, c4, c5, c6, rfl⟩ := array7 (hsz.trans Try.cellsReq)
  obtain ⟨fuel, hf⟩ := h
  obtain ⟨y0, y1, y2, y3, n, _, _, g0, g1, g2, g3⟩ := Joins.trod_struct4 Try.underlying41 hf
  obtain ⟨z0, z1, z2, z3, m, _, _, u0, u1, u2, u3⟩ := Joins.trod_struct4 Try.underlying39 g2
  obtain ⟨cl, e0, _, _⟩ := DataW.trod_int Try.underlying3 g0
  obtain ⟨nm, e1, _, _⟩ := DataW.trod_int Try.underlying3 g1
  obtain ⟨tm, e6, _, _⟩ := DataW.trod_int Try.underlying3 g3
  obtain ⟨kd, e2, _, _⟩ := DataW.trod_int Try.underlying3 u0
  obtain ⟨key, e3, _, hk⟩ := DataW.trod_string Try.underlying9 u1
  obtain ⟨val, e4, _, hv2⟩ := DataW.trod_string Try.underlying9 u2
  obtain ⟨ifv, e5, _, _⟩ := DataW.trod_int Try.underlying3 u3
  simp [Value.cells, Try.cellsInt, Try.cellsStr, Try.cellsCmd] at e0 e1 e2 e3 e4 e5 e6
  subst e0 e1 e2 e3 e4 e5 e6
  exact ⟨cl, nm, kd, ifv, tm, key, val, rfl, hk, hv2⟩

set_option maxRecDepth 100000 in
theorem wireRequests_lifted (os : Os) (started : os.Started) (H : Type) (enc : TypeId × Value → H) :
    ReturnsInHanded {} Try.checked os 5 .any (Rows.wireRequestsSpec.pre6 enc Try.prog Try.f5 Rows.wireRequestsRow.domain false) (Rows.wireRequestsSpec.post enc Try.prog Try.f5 false true false false) := by
  refine returnsInHanded_of_change_sized (C := Try.checked) Try.ownQ started (by kernel_rfl) Try.func5
    (ChangeSpec.witness6 (enc := enc) (C := Try.checked) false ⟨#[], #[.agg #[.int .i64 0, .int .i64 0, .int .i64 0, .string ByteArray.empty, .string ByteArray.empty, .int .i64 0, .int .i64 0], .string ByteArray.empty], []⟩ 8 (by kernel_rfl) (by kernel_rfl) (by kernel_rfl) (by kernel_rfl)) ?_
  intro W base args ds gs before hval0 hW _ hsz0 _
  have hsz : (DataW.weightsEach Try.prog (Try.f5.params.toList ++ Rows.wireRequestsSpec.plain.varTypes Try.prog) (ds ++ gs)).all (· ≤ reachBytes) = true := hsz0
  clear hsz0
  have hval : ∀ (j : Nat) t v, Try.f5.params[j]? = some t → args[j]? = some v → Value.okWide Try.prog W .any base t v := hval0
  have hW' := hW
  obtain ⟨p, q, hA0, hV, rfl, _, _⟩ := hW
  have hA : DataW.TrodAll enc Try.prog W 0 (fun _ => true) true Try.f5.params.toList args.toList ds p := hA0
  rw [Try.params5] at hA hval hsz
  obtain ⟨v0, v1, d0, d1, p0, p1, hargs, rfl, rfl, h0, h1⟩ := trodAll_two hA
  obtain rfl : args = #[v0, v1] := by cases args; simp_all
  obtain ⟨rfl, rfl⟩ := trodVars_none hV
  have k0 := h0
  have lt0 : ∀ x ∈ p0, x.block < W.heap.size := by obtain ⟨m, hm⟩ := k0; exact DataW.trod_lt m _ _ _ hm
  obtain ⟨cl, nm, kd, ifv, tm, key, val, rfl, hk, hv⟩ := openReq (hval 0 41 v0 rfl rfl) h0
  obtain ⟨a1, rfl, rfl, rfl, w1⟩ := open_string Try.underlying9 (hval 1 9 v1 rfl rfl) h1
  have z1 : a1.data.toList.length ≤ 140737488351232 := by
    have := sized_string hsz (j := 1) (t := 9) rfl rfl
    simpa only [reachBytes] using this
  have hw := wireRequests_walk cl nm kd ifv tm key.data.toList val.data.toList a1.data.toList W (by rw [← bs_size, bs_self]; exact hk) (by rw [← bs_size, bs_self]; exact hv) z1
  rw [bs_self, bs_self, bs_self] at hw
  clear hA0 hval0
  refine hw.mono fun e W' ⟨he, hkk⟩ => ?_
  subst he
  have bel := hkk.below (B := W.heap.size) (fun _ _ x => x.elim) (Nat.le_refl _)
  exact ⟨_, rfl, _, _, _, [], p0 ++ [], [], hW', trodAll_mk1 (shut_bool Try.underlying4 _), trodAll_mk2 (Below.trod Try.laidOutQ (by kernel_rfl) (of_decide_eq_true (by kernel_rfl)) k0 bel lt0) (shut_string Try.underlying9 w1), rfl, bel.frame _, fun h => by cases h⟩

theorem wireRequests_holds : Rows.WireRequestsSaid :=
  OpenClaim.holds_of_wide 5 Try.f5 rfl rfl rfl rfl rfl rfl rfl ⟨rfl, rfl, rfl, rfl, rfl⟩ rfl rfl rfl rfl rfl (by kernel_rfl) Try.func5 (by kernel_rfl)
    (of_decide_eq_true (by kernel_rfl)) (by unfold Func.isWrapper; first | (rw [if_pos (by decide +kernel)]; kernel_rfl) | (rw [if_neg (by decide +kernel)]; exact ⟨rfl, rfl⟩))
    (fun os started H enc _ => wireRequests_lifted os started H enc)
#print axioms wireRequests_holds

end Go.Proofs.Ytihgefdpnokoeaa
