/-
  The walk through the law of entries and configurations: it answers true, whatever the entry, the configuration and the text are.
-/
import Derived.Test.YtijklginabipgaaWOle
import Derived.Test.YtijklginabipgaaWCfg5
import Derived.Test.YtijklginabipgaaWOlc
namespace Go.Proofs.Ytijklginabipgaa
open Go.RowKit

theorem putOne : putEnt ⟨1, 1, 0, []⟩ = ([1, 1, 0, 0], 0) := by
  unfold putEnt
  rw [if_pos (by decide)]
  show (encEnt 1 1 0 [], (0 : Int)) = _
  rw [encEnt_eq]
  unfold encText
  rw [enc_small (n := 1) (by decide), enc_small (n := 0) (by decide)]
  show ([UInt8.ofNat 1] ++ [UInt8.ofNat 1] ++ [UInt8.ofNat 0] ++ (enc 0 ++ []), (0 : Int)) = _
  rw [enc_small (n := 0) (by decide)]
  rfl

set_option maxRecDepth 100000 in
set_option maxHeartbeats 8000000 in
theorem wireEntries_walk (ix tm kd : Int) (dt : List UInt8) (B c1 c2 c3 : Nat) (a1 a2 a3 : Option Addr) (v n l : List Int) (s : List UInt8) (w : World) (hd : dt.length ≤ maxLen) (hr : CfRows B w a1 a2 a3 v n l)
    (h1 : (v.length + 1) * 8 ≤ 140737488355328) (h2 : (n.length + 1) * 8 ≤ 140737488355328) (h3 : (l.length + 1) * 8 ≤ 140737488355328) (hs : s.length ≤ 140737488351232) :
    Calls Try.prog 5 #[.agg #[.int .i64 ix, .int .i64 tm, .int .i64 kd, .string (bs dt)], .agg #[.slice a1 v.length c1, .slice a2 n.length c2, .slice a3 l.length c3], .string (bs s)] w fun e w' => e = .returned (.bool true) ∧ Kept Nil w w' := by
  have HR : Hid (CfRows B w a1 a2 a3 v n l) := hr
  have P1 := fun w => putEntry_any ix tm kd dt w hd
  have P2 := fun w => refPutEntry_any ix tm kd dt w hd
  have P3 := fun w => putEntry_any 1 1 0 [] w (by simp)
  rw [putOne] at P3
  have G1 := fun w => getEntry_any s w
  have G2 := fun w => refGetEntry_any s w (by unfold maxLen; omega)
  have G3 := fun w => getConfig_any s w
  have G4 := fun w => refGetConfig_any s w (by unfold maxLen; omega)
  have l1 : (v.length : Int) ≤ 9223372036854775807 := by omega
  have l2 : (n.length : Int) ≤ 9223372036854775807 := by omega
  have l3 : (l.length : Int) ≤ 9223372036854775807 := by omega
  have CF := fun w' (hk : Kept Nil w w') => conf_any B c1 c2 c3 a1 a2 a3 v n l w' (HR.out.nil hk) h1 h2 h3
  have Q1 := fun b1 b2 b3 d1 d2 d3 (w' : World) h => putConfig_any w'.heap.size d1 d2 d3 b1 b2 b3 v n l w' h l1 l2 l3
  have Q2 := fun w' (hk : Kept Nil w w') => refPutConfig_any B c1 c2 c3 a1 a2 a3 v n l w' (HR.out.nil hk) l1 l2 l3
  have SC := fun (x : Cf) B1 B2 e1 e2 e3 d1 d2 d3 p1 p2 p3 q1 q2 q3 (w' : World) h1 h2 hv hn hl => refSameConfig_yes B1 B2 e1 e2 e3 d1 d2 d3 p1 p2 p3 q1 q2 q3 (intsOf x.v) (intsOf x.n) (intsOf x.l) w' h1 h2 hv hn hl
  simp only [intsOf_len] at SC
  have ht := bs_toList
  have HX0 : Hid (_) := blk_past (blk_new w (.cells #[.int .i64 ix, .int .i64 tm, .int .i64 kd, .string (bs dt)] 52)) (.cells #[.slice a1 v.length c1, .slice a2 n.length c2, .slice a3 l.length c3] 24)
  have HC0 : Hid (((w.alloc (.cells #[.int .i64 ix, .int .i64 tm, .int .i64 kd, .string (bs dt)] 52)).alloc (.cells #[.slice a1 v.length c1, .slice a2 n.length c2, .slice a3 l.length c3] 24)).heap[w.heap.size + 1]? = some (.cells #[.slice a1 v.length c1, .slice a2 n.length c2, .slice a3 l.length c3] 24 (0, 0))) := by
    have := blk_new (w.alloc (.cells #[.int .i64 ix, .int .i64 tm, .int .i64 kd, .string (bs dt)] 52)) (.cells #[.slice a1 v.length c1, .slice a2 n.length c2, .slice a3 l.length c3] 24)
    rwa [show (w.alloc (.cells #[.int .i64 ix, .int .i64 tm, .int .i64 kd, .string (bs dt)] 52)).heap.size = w.heap.size + 1 by simp] at this
  generalize putEnt ⟨ix, tm, kd, dt⟩ = pe at P1 P2
  obtain ⟨pe1, pe2⟩ := pe
  generalize putCfg v n l = pc at Q1 Q2
  obtain ⟨pc1, pc2⟩ := pc
  generalize getAll zEn (rdEnt s) = ge at G1 G2
  obtain ⟨x, ec⟩ := ge
  generalize getAll zCf (rdCfg s) = gc at G3 G4
  obtain ⟨y, fc⟩ := gc
  simp only at P1 P2 P3 Q1 Q2
  clear hr hd h1 h2 h3 hs l1 l2 l3
  go_enter Try.func5, Try.ntmps5
  go_wp2_with fail
  refine (P1 _).mono ?_
  rintro e w1 ⟨rfl, k1⟩
  have K1 : Hid (Kept Nil w w1) := (((Kept.refl _ _).alloc _).alloc _).trans k1
  have HC1 : Hid _ := k1.block _ _ HC0.out (fun x => x.elim)
  have X1 := k1.block _ _ HX0.out (fun x => x.elim)
  have p0 := blk_at X1 0 rfl
  have p1 := blk_at X1 1 rfl
  have p2 := blk_at X1 2 rfl
  have p3 := blk_at X1 3 rfl
  clear k1 HC0 HX0 X1
  go_wp2_with fail
  refine (P2 _).mono ?_
  rintro e w2 ⟨rfl, k2⟩
  have K2 : Hid (Kept Nil w w2) := K1.out.trans k2
  have HC2 : Hid _ := k2.block _ _ HC1.out (fun x => x.elim)
  clear k2 HC1 K1 p0 p1 p2 p3
  go_wp2_with fail
  refine (G1 _).mono ?_
  rintro e w3 ⟨v3, rfl, hv3, k3⟩
  unfold EnV at hv3
  subst hv3
  have K3 : Hid (Kept Nil w w3) := K2.out.trans k3
  have HC3 : Hid _ := k3.block _ _ HC2.out (fun x => x.elim)
  clear k3 HC2 K2
  go_wp2_with fail
  refine (G2 _).mono ?_
  rintro e w4 ⟨v4, rfl, hv4, k4⟩
  unfold EnV at hv4
  subst hv4
  have K4 : Hid (Kept Nil w w4) := (K3.out.alloc _).trans k4
  have HC4 : Hid _ := k4.block _ _ (blk_past HC3.out _) (fun x => x.elim)
  have HE4 : Hid _ := k4.block _ _ (blk_new w3 _) (fun x => x.elim)
  have c40 := blk_at (blk_past HC4.out (.cells #[.int .i64 x.ix, .int .i64 x.tm, .int .i64 x.kd, .string (bs x.dt)] 52)) 0 rfl
  have c41 := blk_at (blk_past HC4.out (.cells #[.int .i64 x.ix, .int .i64 x.tm, .int .i64 x.kd, .string (bs x.dt)] 52)) 1 rfl
  have c42 := blk_at (blk_past HC4.out (.cells #[.int .i64 x.ix, .int .i64 x.tm, .int .i64 x.kd, .string (bs x.dt)] 52)) 2 rfl
  clear k4 K3
  go_wp2_with fail
  refine (CF _ (K4.out.alloc _)).mono ?_
  rintro e w5 ⟨b1, b2, b3, d1, d2, d3, rfl, r5, k5⟩
  have K5 : Hid (Kept Nil w w5) := (K4.out.alloc _).trans k5
  have HC5 : Hid _ := k5.block _ _ (blk_past HC4.out _) (fun x => x.elim)
  have HE5 : Hid _ := k5.block _ _ (blk_past HE4.out _) (fun x => x.elim)
  have HF5 : Hid _ := k5.block _ _ (blk_new w4 _) (fun x => x.elim)
  clear k5 K4 HC4 HE4 HC3 c40 c41 c42
  go_wp2_with fail
  refine (Q1 _ _ _ _ _ _ _ r5).mono ?_
  rintro e w6 ⟨rfl, k6⟩
  have K6 : Hid (Kept Nil w w6) := K5.out.trans k6
  have HC6 : Hid _ := k6.block _ _ HC5.out (fun x => x.elim)
  have HE6 : Hid _ := k6.block _ _ HE5.out (fun x => x.elim)
  have HF6 : Hid _ := k6.block _ _ HF5.out (fun x => x.elim)
  have c60 := blk_at HC6.out 0 rfl
  have c61 := blk_at HC6.out 1 rfl
  have c62 := blk_at HC6.out 2 rfl
  clear k6 K5 HC5 HE5 HF5 r5
  go_wp2_with fail
  refine (Q2 _ K6.out).mono ?_
  rintro e w7 ⟨rfl, k7⟩
  have K7 : Hid (Kept Nil w w7) := K6.out.trans k7
  have HE7 : Hid _ := k7.block _ _ HE6.out (fun x => x.elim)
  have HF7 : Hid _ := k7.block _ _ HF6.out (fun x => x.elim)
  clear k7 K6 HC6 HE6 HF6 c60 c61 c62
  go_wp2_with fail
  refine (G3 _).mono ?_
  rintro e w8 ⟨v8, rfl, hv8, k8⟩
  obtain ⟨m1, m2, m3, e1, e2, e3, rfl, o1, o2, o3⟩ := hv8
  have K8 : Hid (Kept Nil w w8) := K7.out.trans k8
  have HE8 : Hid _ := k8.block _ _ HE7.out (fun x => x.elim)
  have HF8 : Hid _ := k8.block _ _ HF7.out (fun x => x.elim)
  have O8 : Hid _ := And.intro o1 (And.intro o2 o3)
  clear k8 K7 HE7 HF7 o1 o2 o3
  simp only
  go_wp2_with fail
  refine (G4 _).mono ?_
  rintro e w9 ⟨v9, rfl, hv9, k9⟩
  obtain ⟨n1, n2, n3, f1, f2, f3, rfl, o1, o2, o3⟩ := hv9
  have K9 : Hid (Kept Nil w w9) := (K8.out.alloc _).trans k9
  have HE9 : Hid _ := k9.block _ _ (blk_past HE8.out _) (fun x => x.elim)
  have HF9 : Hid _ := k9.block _ _ (blk_past HF8.out _) (fun x => x.elim)
  have HG9 : Hid _ := k9.block _ _ (blk_new w8 _) (fun x => x.elim)
  have RA : Hid (CfRows w9.heap.size w9 m1 m2 m3 (intsOf y.v) (intsOf y.n) (intsOf y.l)) := cf_rows (own_kept (World.ownsRow.alloc O8.out.1 _) k9 (fun _ _ _ x => x.elim)) (own_kept (World.ownsRow.alloc O8.out.2.1 _) k9 (fun _ _ _ x => x.elim)) (own_kept (World.ownsRow.alloc O8.out.2.2 _) k9 (fun _ _ _ x => x.elim))
  have RB : Hid (CfRows w9.heap.size w9 n1 n2 n3 (intsOf y.v) (intsOf y.n) (intsOf y.l)) := cf_rows o1 o2 o3
  have LN : Hid ((y.v.length : Int) ≤ 9223372036854775807 ∧ (y.n.length : Int) ≤ 9223372036854775807 ∧ (y.l.length : Int) ≤ 9223372036854775807) := by
    have q1 : y.v.length ≤ 9223372036854775807 := own_len o1
    have q2 : y.n.length ≤ 9223372036854775807 := own_len o2
    have q3 : y.l.length ≤ 9223372036854775807 := own_len o3
    refine ⟨?_, ?_, ?_⟩ <;> omega
  have g0 := blk_at (blk_past HG9.out (.cells #[.slice n1 y.v.length f1, .slice n2 y.n.length f2, .slice n3 y.l.length f3] 24)) 0 rfl
  have g1 := blk_at (blk_past HG9.out (.cells #[.slice n1 y.v.length f1, .slice n2 y.n.length f2, .slice n3 y.l.length f3] 24)) 1 rfl
  have g2 := blk_at (blk_past HG9.out (.cells #[.slice n1 y.v.length f1, .slice n2 y.n.length f2, .slice n3 y.l.length f3] 24)) 2 rfl
  clear k9 K8 HE8 HF8 O8 o1 o2 o3
  simp only
  go_wp2_with fail
  refine (SC y _ _ _ _ _ _ _ _ _ _ _ _ _ _ _ (RA.out.alloc _) (RB.out.alloc _) LN.out.1 LN.out.2.1 LN.out.2.2).mono ?_
  rintro e w10 ⟨rfl, k10⟩
  have K10 : Hid (Kept Nil w w10) := (K9.out.alloc _).trans k10
  have HE10 : Hid _ := k10.block _ _ (blk_past HE9.out _) (fun x => x.elim)
  have HF10 : Hid _ := k10.block _ _ (blk_past HF9.out _) (fun x => x.elim)
  clear k10 K9 HE9 HF9 HG9 RA RB LN g0 g1 g2
  go_wp2_with fail
  refine (P3 _).mono ?_
  rintro e w11 ⟨rfl, k11⟩
  have K11 : Hid (Kept Nil w w11) := K10.out.trans k11
  have HE11 := k11.block _ _ HE10.out (fun x => x.elim)
  have HF11 := k11.block _ _ HF10.out (fun x => x.elim)
  have u0 := blk_at HE11 0 rfl
  have u1 := blk_at HE11 1 rfl
  have u2 := blk_at HE11 2 rfl
  have u3 := blk_at HE11 3 rfl
  have x0 := blk_at HF11 0 rfl
  have x1 := blk_at HF11 1 rfl
  have x2 := blk_at HF11 2 rfl
  have x3 := blk_at HF11 3 rfl
  clear k11 K10 HE10 HF10 HE11 HF11
  go_wp2
  go_ret
  exact ⟨rfl, K11.out⟩

end Go.Proofs.Ytijklginabipgaa
