/-
  The walk through the law of snapshots and tables: it answers true, whatever the snapshot, the table and the text are.
-/
import Derived.Test.YtijklginabipgaaWSnap5
import Derived.Test.YtijklginabipgaaWTab10
import Derived.Test.YtijklginabipgaaWTabS
import Derived.Test.YtijklginabipgaaWTabG
namespace Go.Proofs.Ytijklginabipgaa
open Go.RowKit

theorem putNone : putTab 0 [] [] = ([0, 0, 0], 0) := by
  unfold putTab
  rw [if_pos (by decide)]
  show (encTab 0 [] [], (0 : Int)) = _
  unfold encTab encList
  show (enc 0 ++ (enc 0 ++ []) ++ (enc 0 ++ []), (0 : Int)) = _
  rw [enc_small (n := 0) (by decide)]
  rfl
theorem getTab_small (l : List UInt8) : ((getAll zTb (rdTab l)).1.ps.length ≤ 32 ∧ ∀ p ∈ (getAll zTb (rdTab l)).1.ps, PSmall p) ∧ (getAll zTb (rdTab l)).1.ss.length ≤ 8 ∧ ∀ s ∈ (getAll zTb (rdTab l)).1.ss, SSmall s := by
  have hz : (zTb.ps.length ≤ 32 ∧ ∀ p ∈ zTb.ps, PSmall p) ∧ zTb.ss.length ≤ 8 ∧ ∀ s ∈ zTb.ss, SSmall s := by
    refine ⟨⟨by decide, fun p h => ?_⟩, by decide, fun p h => ?_⟩ <;> (simp [zTb] at h)
  cases hr : rdTab l with
  | error c => rw [getAll_err rfl]; exact hz
  | ok x =>
    obtain ⟨x, t⟩ := x
    cases t with
    | cons y t => rw [getAll_left rfl]; exact hz
    | nil =>
      rw [getAll_ok rfl]
      obtain ⟨tm, l1, h1, h⟩ := rdThen_inv hr
      obtain ⟨ps, l2, h2, h⟩ := rdThen_inv h
      obtain ⟨ss, l3, h3, h⟩ := rdThen_inv h
      unfold rdTabEnd at h
      split at h
      · simp only [Except.ok.injEq, Prod.mk.injEq] at h
        rw [← h.1]
        exact ⟨rdPrs_small h2, rdSss_small h3⟩
      · cases h
theorem sameTabN (x : Tb) (a1 a2 s1 s2 : Option Addr) (p1 p2 q1 q2 : Nat) (e1 e2 : List Es) (B1 B2 : Nat) (w : World) (h1 : e1.map Es.s = x.ss) (h2 : e2.map Es.s = x.ss) (o1 : OwnPrs B1 w a1 p1 x.ps) (o2 : OwnPrs B2 w a2 p2 x.ps) (o3 : OwnSss B1 w s1 q1 e1) (o4 : OwnSss B2 w s2 q2 e2) (hp : x.ps.length ≤ 32 ∧ ∀ p ∈ x.ps, PSmall p) (hs : x.ss.length ≤ 8 ∧ ∀ s ∈ x.ss, SSmall s) :
    Calls Try.prog 55 #[.agg #[.slice a1 x.ps.length p1, .slice s1 e1.length q1, .int .i64 x.tm], .agg #[.slice a2 x.ps.length p2, .slice s2 e2.length q2, .int .i64 x.tm]] w fun e w' => e = .returned (.bool true) ∧ Kept Nil w w' := by
  have r3 := sss_row o3 (by rw [h1]; exact hs.2)
  have r4 := sss_row o4 (by rw [h2]; exact hs.2)
  rw [h1] at r3
  rw [h2] at r4
  have l1 : e1.length = x.ss.length := by rw [← h1, List.length_map]
  have l2 : e2.length = x.ss.length := by rw [← h2, List.length_map]
  rw [l1, l2]
  exact sameTable_any w.heap.size p1 p2 q1 q2 x.tm a1 a2 s1 s2 x.ps x.ss w (prs_row o1 hp.2) (prs_row o2 hp.2) r3 r4 (by have := hp.1; omega) (by have := hs.1; omega)

set_option maxRecDepth 100000 in
set_option maxHeartbeats 4000000 in
theorem sameSnapshot_yes (x : Sn) (B1 B2 c1 c2 c3 d1 d2 d3 : Nat) (a1 a2 a3 b1 b2 b3 : Option Addr) (w : World) (h1 : OwnNats B1 w a1 c1 x.c.v ∧ OwnNats B1 w a2 c2 x.c.n ∧ OwnNats B1 w a3 c3 x.c.l) (h2 : OwnNats B2 w b1 d1 x.c.v ∧ OwnNats B2 w b2 d2 x.c.n ∧ OwnNats B2 w b3 d3 x.c.l) :
    Calls Try.prog 51 #[.agg #[.int .i64 x.ix, .int .i64 x.tm, .slice a1 x.c.v.length c1, .slice a2 x.c.n.length c2, .slice a3 x.c.l.length c3, .string (bs x.dt)], .agg #[.int .i64 x.ix, .int .i64 x.tm, .slice b1 x.c.v.length d1, .slice b2 x.c.n.length d2, .slice b3 x.c.l.length d3, .string (bs x.dt)]] w fun e w' => e = .returned (.bool true) ∧ Kept Nil w w' := by
  have q1 := own_len h1.1
  have q2 := own_len h1.2.1
  have q3 := own_len h1.2.2
  have SC := fun (w' : World) (k : Kept Nil w w') => refSameConfig_yes w'.heap.size w'.heap.size c1 c2 c3 d1 d2 d3 a1 a2 a3 b1 b2 b3 (intsOf x.c.v) (intsOf x.c.n) (intsOf x.c.l) w' (cf_rows (own_kept h1.1 k (fun _ _ _ x => x.elim)) (own_kept h1.2.1 k (fun _ _ _ x => x.elim)) (own_kept h1.2.2 k (fun _ _ _ x => x.elim))) (cf_rows (own_kept h2.1 k (fun _ _ _ x => x.elim)) (own_kept h2.2.1 k (fun _ _ _ x => x.elim)) (own_kept h2.2.2 k (fun _ _ _ x => x.elim))) (by rw [intsOf_len]; omega) (by rw [intsOf_len]; omega) (by rw [intsOf_len]; omega)
  simp only [intsOf_len] at SC
  have ht := bs_toList
  have HA : Hid (_) := blk_past (blk_new w (.cells #[.int .i64 x.ix, .int .i64 x.tm, .slice a1 x.c.v.length c1, .slice a2 x.c.n.length c2, .slice a3 x.c.l.length c3, .string (bs x.dt)] 61)) (.cells #[.int .i64 x.ix, .int .i64 x.tm, .slice b1 x.c.v.length d1, .slice b2 x.c.n.length d2, .slice b3 x.c.l.length d3, .string (bs x.dt)] 61)
  have HB : Hid (((w.alloc (.cells #[.int .i64 x.ix, .int .i64 x.tm, .slice a1 x.c.v.length c1, .slice a2 x.c.n.length c2, .slice a3 x.c.l.length c3, .string (bs x.dt)] 61)).alloc (.cells #[.int .i64 x.ix, .int .i64 x.tm, .slice b1 x.c.v.length d1, .slice b2 x.c.n.length d2, .slice b3 x.c.l.length d3, .string (bs x.dt)] 61)).heap[w.heap.size + 1]? = some (.cells #[.int .i64 x.ix, .int .i64 x.tm, .slice b1 x.c.v.length d1, .slice b2 x.c.n.length d2, .slice b3 x.c.l.length d3, .string (bs x.dt)] 61 (0, 0))) := by
    have := blk_new (w.alloc (.cells #[.int .i64 x.ix, .int .i64 x.tm, .slice a1 x.c.v.length c1, .slice a2 x.c.n.length c2, .slice a3 x.c.l.length c3, .string (bs x.dt)] 61)) (.cells #[.int .i64 x.ix, .int .i64 x.tm, .slice b1 x.c.v.length d1, .slice b2 x.c.n.length d2, .slice b3 x.c.l.length d3, .string (bs x.dt)] 61)
    rwa [show (w.alloc (.cells #[.int .i64 x.ix, .int .i64 x.tm, .slice a1 x.c.v.length c1, .slice a2 x.c.n.length c2, .slice a3 x.c.l.length c3, .string (bs x.dt)] 61)).heap.size = w.heap.size + 1 by simp] at this
  clear h1 h2 q1 q2 q3
  go_enter Try.func51, Try.ntmps51
  go_wp2_with fail
  refine (SC _ (((Kept.refl _ _).alloc _).alloc _)).mono ?_
  rintro e w1 ⟨rfl, k1⟩
  have A1 := k1.block _ _ HA.out (fun x => x.elim)
  have B1 := k1.block _ _ HB.out (fun x => x.elim)
  have p0 := blk_at A1 0 rfl
  have p1 := blk_at A1 1 rfl
  have p5 := blk_at A1 5 rfl
  have r0 := blk_at B1 0 rfl
  have r1 := blk_at B1 1 rfl
  have r5 := blk_at B1 5 rfl
  have KK : Hid (Kept Nil w w1) := (((Kept.refl _ _).alloc _).alloc _).trans k1
  clear A1 B1 k1
  go_wp2
  go_ret
  exact ⟨rfl, KK.out⟩

set_option maxRecDepth 100000 in
set_option maxHeartbeats 8000000 in
theorem wireSnapshots_walk (ix tm : Int) (B c1 c2 c3 : Nat) (a1 a2 a3 : Option Addr) (v n l : List Int) (dt : List UInt8) (cp cs : Nat) (tt : Int) (ao so : Option Addr) (ps : List Pr) (ss : List Ss) (s : List UInt8) (w : World) (hr : CfRows B w a1 a2 a3 v n l)
    (h1 : (v.length : Int) ≤ 9223372036854775807) (h2 : (n.length : Int) ≤ 9223372036854775807) (h3 : (l.length : Int) ≤ 9223372036854775807) (hd : dt.length ≤ maxLen) (hp : PairRow B w ao ps) (hq : SessRow B w so ss) (hl : (ps.length : Int) ≤ 9223372036854775807) (hl2 : (ss.length : Int) ≤ 9223372036854775807) (hs : s.length ≤ 140737488351232) :
    Calls Try.prog 6 #[.agg #[.int .i64 ix, .int .i64 tm, .slice a1 v.length c1, .slice a2 n.length c2, .slice a3 l.length c3, .string (bs dt)], .agg #[.slice ao ps.length cp, .slice so ss.length cs, .int .i64 tt], .string (bs s)] w fun e w' => e = .returned (.bool true) ∧ Kept Nil w w' := by
  have P1 := fun w' (hk : Kept Nil w w') => putSnapshot_any ix tm B c1 c2 c3 a1 a2 a3 v n l dt w' (hr.nil hk) h1 h2 h3 hd
  have P2 := fun w' (hk : Kept Nil w w') => refPutSnapshot_any ix tm B c1 c2 c3 a1 a2 a3 v n l dt w' (hr.nil hk) h1 h2 h3 hd
  have Q1 := fun w' (hk : Kept Nil w w') => putTable_any B cp cs tt ao so ps ss w' (hp.nil hk) (hq.nil hk) hl hl2
  have Q2 := fun w' (hk : Kept Nil w w') => refPutTable_any B cp cs tt ao so ps ss w' (hp.nil hk) (hq.nil hk) hl hl2
  have P3 := fun w' => putTable_any 0 0 0 0 none none [] [] w' (pairRow_nil _ _ _) (sessRow_nil _ _ _) (by simp) (by simp)
  rw [putNone] at P3
  have G1 := fun w => getSnapshot_any s w
  have G2 := fun w => refGetSnapshot_any s w (by unfold maxLen; omega)
  have G3 := fun w => getTable_any s w
  have G4 := fun w => refGetTable_any s w (by unfold maxLen; omega)
  have SM := getTab_small s
  have ht := bs_toList
  have HX0 : Hid (_) := blk_past (blk_new w (.cells #[.int .i64 ix, .int .i64 tm, .slice a1 v.length c1, .slice a2 n.length c2, .slice a3 l.length c3, .string (bs dt)] 61)) (.cells #[.slice ao ps.length cp, .slice so ss.length cs, .int .i64 tt] 65)
  have HT0 : Hid (((w.alloc (.cells #[.int .i64 ix, .int .i64 tm, .slice a1 v.length c1, .slice a2 n.length c2, .slice a3 l.length c3, .string (bs dt)] 61)).alloc (.cells #[.slice ao ps.length cp, .slice so ss.length cs, .int .i64 tt] 65)).heap[w.heap.size + 1]? = some (.cells #[.slice ao ps.length cp, .slice so ss.length cs, .int .i64 tt] 65 (0, 0))) := by
    have := blk_new (w.alloc (.cells #[.int .i64 ix, .int .i64 tm, .slice a1 v.length c1, .slice a2 n.length c2, .slice a3 l.length c3, .string (bs dt)] 61)) (.cells #[.slice ao ps.length cp, .slice so ss.length cs, .int .i64 tt] 65)
    rwa [show (w.alloc (.cells #[.int .i64 ix, .int .i64 tm, .slice a1 v.length c1, .slice a2 n.length c2, .slice a3 l.length c3, .string (bs dt)] 61)).heap.size = w.heap.size + 1 by simp] at this
  generalize putSnap ix tm v n l dt = pe at P1 P2
  obtain ⟨pe1, pe2⟩ := pe
  generalize putTab tt ps ss = pc at Q1 Q2
  obtain ⟨pc1, pc2⟩ := pc
  generalize getAll zSn (rdSnap s) = ge at G1 G2
  obtain ⟨x, ec⟩ := ge
  generalize getAll zTb (rdTab s) = gc at G3 G4 SM
  obtain ⟨y, fc⟩ := gc
  have HSM : Hid ((y.ps.length ≤ 32 ∧ ∀ p ∈ y.ps, PSmall p) ∧ y.ss.length ≤ 8 ∧ ∀ s ∈ y.ss, SSmall s) := SM
  simp only at P1 P2 P3 Q1 Q2
  clear hr hd h1 h2 h3 hs hp hq hl hl2 SM
  have K0 : Hid (Kept Nil w ((w.alloc (.cells #[.int .i64 ix, .int .i64 tm, .slice a1 v.length c1, .slice a2 n.length c2, .slice a3 l.length c3, .string (bs dt)] 61)).alloc (.cells #[.slice ao ps.length cp, .slice so ss.length cs, .int .i64 tt] 65))) := ((Kept.refl _ _).alloc _).alloc _
  go_enter Try.func6, Try.ntmps6
  go_wp2_with fail
  refine (P2 _ K0.out).mono ?_
  rintro e w1 ⟨rfl, k1⟩
  have K1 : Hid (Kept Nil w w1) := K0.out.trans k1
  have HX1 : Hid _ := k1.block _ _ HX0.out (fun x => x.elim)
  have HT1 : Hid _ := k1.block _ _ HT0.out (fun x => x.elim)
  clear k1 K0 HX0 HT0
  have t0 := blk_at HT1.out 0 rfl
  have t1 := blk_at HT1.out 1 rfl
  have t2 := blk_at HT1.out 2 rfl
  go_wp2_with fail
  refine (Q2 _ K1.out).mono ?_
  rintro e w2 ⟨rfl, k2⟩
  clear t0 t1 t2
  have K2 : Hid (Kept Nil w w2) := K1.out.trans k2
  have HX2 : Hid _ := k2.block _ _ HX1.out (fun x => x.elim)
  have HT2 : Hid _ := k2.block _ _ HT1.out (fun x => x.elim)
  clear k2 K1 HX1 HT1
  have p0 := blk_at HX2.out 0 rfl
  have p1 := blk_at HX2.out 1 rfl
  have p2 := blk_at HX2.out 2 rfl
  have p3 := blk_at HX2.out 3 rfl
  have p4 := blk_at HX2.out 4 rfl
  have p5 := blk_at HX2.out 5 rfl
  go_wp2_with fail
  refine (P1 _ K2.out).mono ?_
  rintro e w3 ⟨rfl, k3⟩
  clear p0 p1 p2 p3 p4 p5
  have K3 : Hid (Kept Nil w w3) := K2.out.trans k3
  have HX3 : Hid _ := k3.block _ _ HX2.out (fun x => x.elim)
  have HT3 : Hid _ := k3.block _ _ HT2.out (fun x => x.elim)
  clear k3 K2 HX2 HT2
  go_wp2_with fail
  refine (G1 _).mono ?_
  rintro e w4 ⟨v4, rfl, hv4, k4⟩
  obtain ⟨m1, m2, m3, e1, e2, e3, rfl, o1, o2, o3⟩ := hv4
  have K4 : Hid (Kept Nil w w4) := K3.out.trans k4
  have HX4 : Hid _ := k4.block _ _ HX3.out (fun x => x.elim)
  have HT4 : Hid _ := k4.block _ _ HT3.out (fun x => x.elim)
  have O4 : Hid _ := And.intro o1 (And.intro o2 o3)
  clear k4 K3 HX3 HT3 o1 o2 o3
  simp only
  go_wp2_with fail
  refine (G2 _).mono ?_
  rintro e w5 ⟨v5, rfl, hv5, k5⟩
  obtain ⟨n1, n2, n3, f1, f2, f3, rfl, o1, o2, o3⟩ := hv5
  have K5 : Hid (Kept Nil w w5) := (K4.out.alloc _).trans k5
  have HX5 : Hid _ := k5.block _ _ (blk_past HX4.out _) (fun x => x.elim)
  have HT5 : Hid _ := k5.block _ _ (blk_past HT4.out _) (fun x => x.elim)
  have HY5 : Hid _ := k5.block _ _ (blk_new w4 _) (fun x => x.elim)
  have O5 : Hid _ := And.intro (own_kept (World.ownsRow.alloc O4.out.1 _) k5 (fun _ _ _ x => x.elim)) (And.intro (own_kept (World.ownsRow.alloc O4.out.2.1 _) k5 (fun _ _ _ x => x.elim)) (own_kept (World.ownsRow.alloc O4.out.2.2 _) k5 (fun _ _ _ x => x.elim)))
  have U5 : Hid _ := And.intro o1 (And.intro o2 o3)
  clear k5 K4 HX4 HT4 O4 o1 o2 o3
  simp only
  have g0 := blk_at (blk_past HY5.out (.cells #[.int .i64 x.ix, .int .i64 x.tm, .slice n1 x.c.v.length f1, .slice n2 x.c.n.length f2, .slice n3 x.c.l.length f3, .string (bs x.dt)] 61)) 0 rfl
  have g1 := blk_at (blk_past HY5.out (.cells #[.int .i64 x.ix, .int .i64 x.tm, .slice n1 x.c.v.length f1, .slice n2 x.c.n.length f2, .slice n3 x.c.l.length f3, .string (bs x.dt)] 61)) 1 rfl
  have g2 := blk_at (blk_past HY5.out (.cells #[.int .i64 x.ix, .int .i64 x.tm, .slice n1 x.c.v.length f1, .slice n2 x.c.n.length f2, .slice n3 x.c.l.length f3, .string (bs x.dt)] 61)) 2 rfl
  have g3 := blk_at (blk_past HY5.out (.cells #[.int .i64 x.ix, .int .i64 x.tm, .slice n1 x.c.v.length f1, .slice n2 x.c.n.length f2, .slice n3 x.c.l.length f3, .string (bs x.dt)] 61)) 3 rfl
  have g4 := blk_at (blk_past HY5.out (.cells #[.int .i64 x.ix, .int .i64 x.tm, .slice n1 x.c.v.length f1, .slice n2 x.c.n.length f2, .slice n3 x.c.l.length f3, .string (bs x.dt)] 61)) 4 rfl
  have g5 := blk_at (blk_past HY5.out (.cells #[.int .i64 x.ix, .int .i64 x.tm, .slice n1 x.c.v.length f1, .slice n2 x.c.n.length f2, .slice n3 x.c.l.length f3, .string (bs x.dt)] 61)) 5 rfl
  go_wp2_with fail
  refine (sameSnapshot_yes x _ _ _ _ _ _ _ _ _ _ _ _ _ _ _ ⟨World.ownsRow.alloc O5.out.1 _, World.ownsRow.alloc O5.out.2.1 _, World.ownsRow.alloc O5.out.2.2 _⟩ ⟨World.ownsRow.alloc U5.out.1 _, World.ownsRow.alloc U5.out.2.1 _, World.ownsRow.alloc U5.out.2.2 _⟩).mono ?_
  rintro e w6 ⟨rfl, k6⟩
  have K6 : Hid (Kept Nil w w6) := (K5.out.alloc _).trans k6
  have HX6 : Hid _ := k6.block _ _ (blk_past HX5.out _) (fun x => x.elim)
  have HT6 : Hid _ := k6.block _ _ (blk_past HT5.out _) (fun x => x.elim)
  clear k6 K5 HX5 HT5 HY5 O5 U5 g0 g1 g2 g3 g4 g5
  have t0 := blk_at HT6.out 0 rfl
  have t1 := blk_at HT6.out 1 rfl
  have t2 := blk_at HT6.out 2 rfl
  go_wp2_with fail
  refine (Q1 _ K6.out).mono ?_
  rintro e w7 ⟨rfl, k7⟩
  clear t0 t1 t2
  have K7 : Hid (Kept Nil w w7) := K6.out.trans k7
  have HX7 : Hid _ := k7.block _ _ HX6.out (fun x => x.elim)
  have HT7 : Hid _ := k7.block _ _ HT6.out (fun x => x.elim)
  clear k7 K6 HX6 HT6
  have p0 := blk_at HX7.out 0 rfl
  have p1 := blk_at HX7.out 1 rfl
  have p2 := blk_at HX7.out 2 rfl
  have p3 := blk_at HX7.out 3 rfl
  have p4 := blk_at HX7.out 4 rfl
  have p5 := blk_at HX7.out 5 rfl
  go_wp2_with fail
  refine (P2 _ K7.out).mono ?_
  rintro e w8 ⟨rfl, k8⟩
  clear p0 p1 p2 p3 p4 p5
  have K8 : Hid (Kept Nil w w8) := K7.out.trans k8
  have HX8 : Hid _ := k8.block _ _ HX7.out (fun x => x.elim)
  have HT8 : Hid _ := k8.block _ _ HT7.out (fun x => x.elim)
  clear k8 K7 HX7 HT7
  have t0 := blk_at HT8.out 0 rfl
  have t1 := blk_at HT8.out 1 rfl
  have t2 := blk_at HT8.out 2 rfl
  go_wp2_with fail
  refine (Q2 _ K8.out).mono ?_
  rintro e w9 ⟨rfl, k9⟩
  clear t0 t1 t2
  have K9 : Hid (Kept Nil w w9) := K8.out.trans k9
  clear k9 K8 HX8 HT8
  go_wp2_with fail
  refine (G3 _).mono ?_
  rintro e w10 ⟨v10, rfl, hv10, k10⟩
  obtain ⟨b1, d1, b2, d2, es1, hes1, rfl, o1, o2⟩ := hv10
  have K10 : Hid (Kept Nil w w10) := K9.out.trans k10
  have O10 : Hid _ := And.intro o1 o2
  have ES1 : Hid (es1.map Es.s = y.ss) := hes1
  clear k10 K9 o1 o2 hes1
  simp only
  go_wp2_with fail
  refine (G4 _).mono ?_
  rintro e w11 ⟨v11, rfl, hv11, k11⟩
  obtain ⟨b3, d3, b4, d4, es2, hes2, rfl, o1, o2⟩ := hv11
  have K11 : Hid (Kept Nil w w11) := (K10.out.alloc _).trans k11
  have HY11 : Hid _ := k11.block _ _ (blk_new w10 _) (fun x => x.elim)
  have O11 : Hid _ := And.intro (own_kept (World.ownsRow.alloc O10.out.1 _) k11 (fun _ _ _ x => x.elim)) (OwnSss.kept (OwnSss.alloc O10.out.2 _) k11 (fun _ _ _ x => x.elim))
  have U11 : Hid _ := And.intro o1 o2
  have ES2 : Hid (es2.map Es.s = y.ss) := hes2
  clear k11 K10 O10 o1 o2 hes2
  simp only
  have g0 := blk_at (blk_past HY11.out (.cells #[.slice b3 y.ps.length d3, .slice b4 es2.length d4, .int .i64 y.tm] 65)) 0 rfl
  have g1 := blk_at (blk_past HY11.out (.cells #[.slice b3 y.ps.length d3, .slice b4 es2.length d4, .int .i64 y.tm] 65)) 1 rfl
  have g2 := blk_at (blk_past HY11.out (.cells #[.slice b3 y.ps.length d3, .slice b4 es2.length d4, .int .i64 y.tm] 65)) 2 rfl
  go_wp2_with fail
  refine (sameTabN y _ _ _ _ _ _ _ _ _ _ _ _ _ ES1.out ES2.out (World.ownsRow.alloc O11.out.1 _) (World.ownsRow.alloc U11.out.1 _) (OwnSss.alloc O11.out.2 _) (OwnSss.alloc U11.out.2 _) HSM.out.1 HSM.out.2).mono ?_
  rintro e w12 ⟨rfl, k12⟩
  have K12 : Hid (Kept Nil w w12) := (K11.out.alloc _).trans k12
  clear k12 K11 HY11 O11 U11 g0 g1 g2
  go_wp2_with fail
  refine (P3 _).mono ?_
  rintro e w13 ⟨rfl, k13⟩
  have K13 : Hid (Kept Nil w w13) := K12.out.trans k13
  clear k13 K12
  go_wp2
  go_ret
  exact ⟨rfl, K13.out⟩

end Go.Proofs.Ytijklginabipgaa
