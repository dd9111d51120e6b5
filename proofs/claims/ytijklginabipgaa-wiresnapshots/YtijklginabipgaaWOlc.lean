/-
  Joined: WCfg7, WCfg8, WGetC, WCfg9, WSnapR, WMsgM.
-/
import Derived.Test.YtijklginabipgaaWCfg6
import Derived.Test.YtijklginabipgaaWOlf
import Derived.Test.YtijklginabipgaaWMsgE
/-
  A configuration read by the program's reader.
-/
namespace Go.Proofs.Ytijklginabipgaa
open Go.RowKit

/-- A configuration, plainly: its three rows. -/
structure Cf where
  v : List Nat
  n : List Nat
  l : List Nat
def Cf.ok (c : Cf) : Bool := isCfg (intsOf c.v) (intsOf c.n) (intsOf c.l)
def rdCfgEnd (c : Cf) (l : List UInt8) : Except Int (Cf × List UInt8) := if c.ok then .ok (c, l) else .error 8
def rdCfg (l : List UInt8) : Except Int (Cf × List UInt8) := rdThen (rdNums 9 l) fun v l => rdThen (rdNums 9 l) fun n l => rdThen (rdNums 9 l) fun ls l => rdCfgEnd ⟨v, n, ls⟩ l
/-- A configuration whose rows are its own, behind block B. -/
def CfV (B : Nat) : Cf → World → Value → Prop := fun c w v => ∃ a1 a2 a3 c1 c2 c3, v = .agg #[.slice a1 c.v.length c1, .slice a2 c.n.length c2, .slice a3 c.l.length c3] ∧ OwnNats B w a1 c1 c.v ∧ OwnNats B w a2 c2 c.n ∧ OwnNats B w a3 c3 c.l

theorem rdNums_len {most : Nat} {l t : List UInt8} {ns : List Nat} (h : rdNums most l = .ok (ns, t)) : ns.length ≤ most := by
  unfold rdNums at h
  cases r1 : rdUpTo most l with
  | error c => rw [rdThen_no r1] at h; cases h
  | ok x =>
    obtain ⟨n, l1⟩ := x
    rw [rdThen_ok r1] at h
    rw [rdTimes_len h]
    exact (rdUpTo_ok r1).1
theorem validN_any (c1 c2 c3 : Nat) (a1 a2 a3 : Option Addr) (v n l : List Nat) (w : World) (h : CfRows w.heap.size w a1 a2 a3 (intsOf v) (intsOf n) (intsOf l)) (h1 : v.length ≤ 9223372036854775807) (h2 : n.length ≤ 9223372036854775807) (h3 : l.length ≤ 9223372036854775807) :
    Calls Try.prog 20 #[.agg #[.slice a1 v.length c1, .slice a2 n.length c2, .slice a3 l.length c3]] w fun e w' => e = .returned (.bool (Cf.ok ⟨v, n, l⟩)) ∧ Kept Nil w w' := by
  have H := valid_any w.heap.size c1 c2 c3 a1 a2 a3 (intsOf v) (intsOf n) (intsOf l) w h (by rw [intsOf_len]; omega) (by rw [intsOf_len]; omega) (by rw [intsOf_len]; omega)
  rw [intsOf_len, intsOf_len, intsOf_len] at H
  exact H
theorem refIsConfigN_any (c1 c2 c3 : Nat) (a1 a2 a3 : Option Addr) (v n l : List Nat) (w : World) (h : CfRows w.heap.size w a1 a2 a3 (intsOf v) (intsOf n) (intsOf l)) (h1 : v.length ≤ 9223372036854775807) (h2 : n.length ≤ 9223372036854775807) (h3 : l.length ≤ 9223372036854775807) :
    Calls Try.prog 21 #[.agg #[.slice a1 v.length c1, .slice a2 n.length c2, .slice a3 l.length c3]] w fun e w' => e = .returned (.bool (Cf.ok ⟨v, n, l⟩)) ∧ Kept Nil w w' := by
  have H := refIsConfig_any w.heap.size c1 c2 c3 a1 a2 a3 (intsOf v) (intsOf n) (intsOf l) w h (by rw [intsOf_len]; omega) (by rw [intsOf_len]; omega) (by rw [intsOf_len]; omega)
  rw [intsOf_len, intsOf_len, intsOf_len] at H
  exact H
theorem own_len {B c : Nat} {w : World} {ao : Option Addr} {ns : List Nat} (h : OwnNats B w ao c ns) : ns.length ≤ 9223372036854775807 := by
  rcases h.2 with ⟨_, h0⟩ | ⟨g, cap, cur, _, _, _, h1, h2, _⟩
  · omega
  · unfold maxLen at h2; omega
theorem cf_rows {B c1 c2 c3 : Nat} {w : World} {a1 a2 a3 : Option Addr} {v n l : List Nat} (h1 : OwnNats B w a1 c1 v) (h2 : OwnNats B w a2 c2 n) (h3 : OwnNats B w a3 c3 l) : CfRows w.heap.size w a1 a2 a3 (intsOf v) (intsOf n) (intsOf l) := ⟨nats_row h1, nats_row h2, nats_row h3⟩

set_option maxRecDepth 100000 in
set_option maxHeartbeats 4000000 in
theorem rConfig_any (p : Addr) (l : List UInt8) (w : World) (hl : Left p w l) :
    Calls Try.prog 94 #[.pointer (some p)] w (RdPost p w (rdCfg l) (CfV w.heap.size)) := by
  have HB : Hid (p.block < w.heap.size) := cell_lt hl.cell
  have HN : Hid (_) := blk_new w (.cells #[.slice none 0 0, .slice none 0 0, .slice none 0 0] 24)
  have HX : Hid (¬ One p.block w.heap.size (.cells #[.slice none 0 0, .slice none 0 0, .slice none 0 0] 24 (0, 0))) := fun (e : w.heap.size = p.block) => by have := HB.out; omega
  have hla := hl.alloc (.cells #[.slice none 0 0, .slice none 0 0, .slice none 0 0] 24)
  clear hl
  cases r1 : rdNums 9 l with
  | error c =>
    have HR : Hid (rdCfg l = .error c) := rdThen_no r1
    go_enter Try.func94, Try.ntmps94
    go_wp2_with fail
    refine (RdPost.no (rNodes_any p l _ hla) r1).mono ?_
    rintro e w1 ⟨rfl, k1⟩
    go_wp2
    unfold bodyPost RdPost
    rw [HR.out]
    exact ⟨rfl, rfl, (((Kept.refl _ _).alloc _).trans k1)⟩
  | ok x1 =>
  obtain ⟨vs, l1⟩ := x1
  cases r2 : rdNums 9 l1 with
  | error c =>
    have HR : Hid (rdCfg l = .error c) := (rdThen_ok r1).trans (rdThen_no r2)
    go_enter Try.func94, Try.ntmps94
    go_wp2_with fail
    refine (RdPost.ok (rNodes_any p l _ hla) r1).mono ?_
    rintro e w1 ⟨v1, rfl, hv1, c1, z1, k1⟩
    obtain ⟨ao1, cp1, rfl, ho1⟩ := hv1
    have HO1 : Hid (OwnNats (w.heap.size + 1) w1 ao1 cp1 vs) := own_mono ho1 (by simp)
    clear ho1
    go_wp2_with fail
    refine (RdPost.no (rNodes_any p l1 w1 ⟨c1, z1⟩) r2).mono ?_
    rintro e w2 ⟨rfl, k2⟩
    go_wp2
    unfold bodyPost RdPost
    rw [HR.out]
    exact ⟨rfl, rfl, ((((Kept.refl _ _).alloc _).trans k1).trans k2)⟩
  | ok x2 =>
  obtain ⟨nx, l2⟩ := x2
  cases r3 : rdNums 9 l2 with
  | error c =>
    have HR : Hid (rdCfg l = .error c) := (rdThen_ok r1).trans ((rdThen_ok r2).trans (rdThen_no r3))
    go_enter Try.func94, Try.ntmps94
    go_wp2_with fail
    refine (RdPost.ok (rNodes_any p l _ hla) r1).mono ?_
    rintro e w1 ⟨v1, rfl, hv1, c1, z1, k1⟩
    obtain ⟨ao1, cp1, rfl, ho1⟩ := hv1
    have HO1 : Hid (OwnNats (w.heap.size + 1) w1 ao1 cp1 vs) := own_mono ho1 (by simp)
    clear ho1
    go_wp2_with fail
    refine (RdPost.ok (rNodes_any p l1 w1 ⟨c1, z1⟩) r2).mono ?_
    rintro e w2 ⟨v2, rfl, hv2, c2, z2, k2⟩
    obtain ⟨ao2, cp2, rfl, ho2⟩ := hv2
    have HO2 : Hid (OwnNats (w.heap.size + 1) w2 ao2 cp2 nx) := own_mono ho2 (by have := k1.size; simp at *; omega)
    clear ho2
    go_wp2_with fail
    refine (RdPost.no (rNodes_any p l2 w2 ⟨c2, z2⟩) r3).mono ?_
    rintro e w3 ⟨rfl, k3⟩
    go_wp2
    unfold bodyPost RdPost
    rw [HR.out]
    exact ⟨rfl, rfl, (((((Kept.refl _ _).alloc _).trans k1).trans k2).trans k3)⟩
  | ok x3 =>
  obtain ⟨ls, l3⟩ := x3
  have HI := fun w a1 a2 a3 c1 c2 c3 hr => validN_any c1 c2 c3 a1 a2 a3 vs nx ls w hr (by have := rdNums_len r1; omega) (by have := rdNums_len r2; omega) (by have := rdNums_len r3; omega)
  cases hok : Cf.ok ⟨vs, nx, ls⟩ with
  | false =>
    rw [hok] at HI
    have HR : Hid (rdCfg l = .error 8) := (rdThen_ok r1).trans ((rdThen_ok r2).trans ((rdThen_ok r3).trans (if_neg (by rw [hok]; decide))))
    clear hok
    go_enter Try.func94, Try.ntmps94
    go_wp2_with fail
    refine (RdPost.ok (rNodes_any p l _ hla) r1).mono ?_
    rintro e w1 ⟨v1, rfl, hv1, c1, z1, k1⟩
    obtain ⟨ao1, cp1, rfl, ho1⟩ := hv1
    have HO1 : Hid (OwnNats (w.heap.size + 1) w1 ao1 cp1 vs) := own_mono ho1 (by simp)
    clear ho1
    go_wp2_with fail
    refine (RdPost.ok (rNodes_any p l1 w1 ⟨c1, z1⟩) r2).mono ?_
    rintro e w2 ⟨v2, rfl, hv2, c2, z2, k2⟩
    obtain ⟨ao2, cp2, rfl, ho2⟩ := hv2
    have HO2 : Hid (OwnNats (w.heap.size + 1) w2 ao2 cp2 nx) := own_mono ho2 (by have := k1.size; simp at *; omega)
    clear ho2
    go_wp2_with fail
    refine (RdPost.ok (rNodes_any p l2 w2 ⟨c2, z2⟩) r3).mono ?_
    rintro e w3 ⟨v3, rfl, hv3, c3, z3, k3⟩
    obtain ⟨ao3, cp3, rfl, ho3⟩ := hv3
    have HO3 : Hid (OwnNats (w.heap.size + 1) w3 ao3 cp3 ls) := own_mono ho3 (by have := k1.size; have := k2.size; simp at *; omega)
    clear ho3
    have hXp : ∀ k cs, w.heap.size + 1 ≤ k → ¬ One p.block k (.cells cs 3 (0, 0)) := fun k cs hb hx => by have := HB.out; have : k = p.block := hx; omega
    have P1 : Hid (OwnNats (w.heap.size + 1) w3 ao1 cp1 vs) := own_kept (own_kept HO1.out k2 hXp) k3 hXp
    have P2 : Hid (OwnNats (w.heap.size + 1) w3 ao2 cp2 nx) := own_kept HO2.out k3 hXp
    have P3 : Hid (OwnNats (w.heap.size + 1) w3 ao3 cp3 ls) := HO3.out
    clear hXp
    have hkk : Kept (One p.block) w w3 := (((((Kept.refl _ _).alloc _).trans k1).trans k2).trans k3)
    go_wp2_with fail
    refine (HI _ _ _ _ _ _ _ (cf_rows (World.ownsRow.alloc P1.out _) (World.ownsRow.alloc P2.out _) (World.ownsRow.alloc P3.out _))).mono ?_
    rintro e wi ⟨rfl, ki⟩
    go_wp2_with (go_at_call 145; go_must (refine (must_no _ _).mono ?_); rintro e w99 ⟨rfl, rfl⟩)
    unfold bodyPost RdPost
    rw [HR.out]
    exact ⟨rfl, rfl, (hkk.alloc _).trans (ki.mono (fun _ _ x => x.elim))⟩
  | true =>
    rw [hok] at HI
    have HR : Hid (rdCfg l = .ok (⟨vs, nx, ls⟩, l3)) := (rdThen_ok r1).trans ((rdThen_ok r2).trans ((rdThen_ok r3).trans (if_pos hok)))
    clear hok
    go_enter Try.func94, Try.ntmps94
    go_wp2_with fail
    refine (RdPost.ok (rNodes_any p l _ hla) r1).mono ?_
    rintro e w1 ⟨v1, rfl, hv1, c1, z1, k1⟩
    obtain ⟨ao1, cp1, rfl, ho1⟩ := hv1
    have HO1 : Hid (OwnNats (w.heap.size + 1) w1 ao1 cp1 vs) := own_mono ho1 (by simp)
    clear ho1
    go_wp2_with fail
    refine (RdPost.ok (rNodes_any p l1 w1 ⟨c1, z1⟩) r2).mono ?_
    rintro e w2 ⟨v2, rfl, hv2, c2, z2, k2⟩
    obtain ⟨ao2, cp2, rfl, ho2⟩ := hv2
    have HO2 : Hid (OwnNats (w.heap.size + 1) w2 ao2 cp2 nx) := own_mono ho2 (by have := k1.size; simp at *; omega)
    clear ho2
    go_wp2_with fail
    refine (RdPost.ok (rNodes_any p l2 w2 ⟨c2, z2⟩) r3).mono ?_
    rintro e w3 ⟨v3, rfl, hv3, c3, z3, k3⟩
    obtain ⟨ao3, cp3, rfl, ho3⟩ := hv3
    have HO3 : Hid (OwnNats (w.heap.size + 1) w3 ao3 cp3 ls) := own_mono ho3 (by have := k1.size; have := k2.size; simp at *; omega)
    clear ho3
    have hXp : ∀ k cs, w.heap.size + 1 ≤ k → ¬ One p.block k (.cells cs 3 (0, 0)) := fun k cs hb hx => by have := HB.out; have : k = p.block := hx; omega
    have P1 : Hid (OwnNats (w.heap.size + 1) w3 ao1 cp1 vs) := own_kept (own_kept HO1.out k2 hXp) k3 hXp
    have P2 : Hid (OwnNats (w.heap.size + 1) w3 ao2 cp2 nx) := own_kept HO2.out k3 hXp
    have P3 : Hid (OwnNats (w.heap.size + 1) w3 ao3 cp3 ls) := HO3.out
    clear hXp
    have HNn : Hid (_) := k3.block _ _ (k2.block _ _ (k1.block _ _ (HN.out) HX.out) HX.out) HX.out
    have hkk : Kept (One p.block) w w3 := (((((Kept.refl _ _).alloc _).trans k1).trans k2).trans k3)
    have hln : Left p w3 l3 := ⟨c3, z3⟩
    go_wp2_with fail
    refine (HI _ _ _ _ _ _ _ (cf_rows (World.ownsRow.alloc P1.out _) (World.ownsRow.alloc P2.out _) (World.ownsRow.alloc P3.out _))).mono ?_
    rintro e wi ⟨rfl, ki⟩
    have hq := ki.block _ _ (blk_new w3 _) (fun x => x.elim)
    have hbr := ki.block _ _ (blk_past HNn.out _) (fun x => x.elim)
    have q0 := blk_at hq 0 rfl
    have q1 := blk_at hq 1 rfl
    have q2 := blk_at hq 2 rfl
    have g0 := blk_at hbr 0 rfl
    have g1 := blk_at hbr 1 rfl
    have g2 := blk_at hbr 2 rfl
    have f0 := blk_free hbr 0
    have f1 := blk_free hbr 1
    have f2 := blk_free hbr 2
    go_wp2_with (go_at_call 145; go_must (refine (must_ok _ _).mono ?_); rintro e w99 ⟨rfl, rfl⟩)
    go_wp2
    refine bodyPost_ret (v := .agg #[.slice ao1 vs.length cp1, .slice ao2 nx.length cp2, .slice ao3 ls.length cp3]) (by simp [results, Try.results94, go_sem, g0, g1, g2]) rfl ?_
    unfold RdPost
    rw [HR.out]
    have hl9 : Left p w99 l3 := (hln.alloc _).kept ki
    have hk9 : Kept (One p.block) w w99 := (hkk.alloc _).trans (ki.mono (fun _ _ x => x.elim))
    have hne : p.block ≠ w.heap.size := Nat.ne_of_lt HB.out
    have Q1 : OwnNats (w.heap.size + 1) w99 ao1 cp1 vs := own_kept (World.ownsRow.alloc P1.out _) ki (fun _ _ _ x => x.elim)
    have Q2 : OwnNats (w.heap.size + 1) w99 ao2 cp2 nx := own_kept (World.ownsRow.alloc P2.out _) ki (fun _ _ _ x => x.elim)
    have Q3 : OwnNats (w.heap.size + 1) w99 ao3 cp3 ls := own_kept (World.ownsRow.alloc P3.out _) ki (fun _ _ _ x => x.elim)
    exact ⟨⟨_, rfl, ⟨ao1, ao2, ao3, cp1, cp2, cp3, rfl, own_mono (ownsRow_setCell_below (ownsRow_setCell_below (ownsRow_setCell_below Q1 (Nat.lt_succ_self _) _) (Nat.lt_succ_self _) _) (Nat.lt_succ_self _) _) (Nat.le_succ _), own_mono (ownsRow_setCell_below (ownsRow_setCell_below (ownsRow_setCell_below Q2 (Nat.lt_succ_self _) _) (Nat.lt_succ_self _) _) (Nat.lt_succ_self _) _) (Nat.le_succ _), own_mono (ownsRow_setCell_below (ownsRow_setCell_below (ownsRow_setCell_below Q3 (Nat.lt_succ_self _) _) (Nat.lt_succ_self _) _) (Nat.lt_succ_self _) _) (Nat.le_succ _)⟩⟩, (((hl9.other hne _).other hne _).other hne _), (((hk9.setNew (Nat.le_refl _) _).setNew (Nat.le_refl _) _).setNew (Nat.le_refl _) _)⟩

end Go.Proofs.Ytijklginabipgaa

/-
  A configuration read by the document's reader.
-/
namespace Go.Proofs.Ytijklginabipgaa
open Go.RowKit


set_option maxRecDepth 100000 in
set_option maxHeartbeats 4000000 in
theorem refRConfig_any (b : Nat) (st : Except Int (List UInt8)) (w : World) (h : RSt b w st) :
    Calls Try.prog 95 #[.pointer (some ⟨b, 0, none⟩)] w (RefPost b w rdCfg st (CfV w.heap.size)) := by
  have HBL : Hid (b < w.heap.size) := h.lt
  have HBw : Hid (b ≠ w.heap.size ∧ b ≠ w.heap.size + 1) := by have := HBL.out; constructor <;> omega
  have M0 : Hid (((w.alloc (.cells #[.slice none 0 0, .slice none 0 0, .slice none 0 0] 24)).alloc (.cells #[.slice none 0 0, .slice none 0 0, .slice none 0 0] 24)).heap[w.heap.size + 1]? = some (.cells #[.slice none 0 0, .slice none 0 0, .slice none 0 0] 24 (0, 0))) := by
    have := blk_new (w.alloc (.cells #[.slice none 0 0, .slice none 0 0, .slice none 0 0] 24)) (.cells #[.slice none 0 0, .slice none 0 0, .slice none 0 0] 24)
    rwa [show (w.alloc (.cells #[.slice none 0 0, .slice none 0 0, .slice none 0 0] 24)).heap.size = w.heap.size + 1 by simp] at this
  have N0 : Hid (_) := blk_past (blk_new w (.cells #[.slice none 0 0, .slice none 0 0, .slice none 0 0] 24)) (.cells #[.slice none 0 0, .slice none 0 0, .slice none 0 0] 24)
  have T0 := (h.past (.cells #[.slice none 0 0, .slice none 0 0, .slice none 0 0] 24)).past (.cells #[.slice none 0 0, .slice none 0 0, .slice none 0 0] 24)
  have K0 : Hid (Kept (One b) w ((w.alloc (.cells #[.slice none 0 0, .slice none 0 0, .slice none 0 0] 24)).alloc (.cells #[.slice none 0 0, .slice none 0 0, .slice none 0 0] 24))) := ((Kept.refl _ _).alloc _).alloc _
  have hMb : ¬ w.heap.size + 1 = b := fun e => HBw.out.2 e.symm
  have hNb : ¬ w.heap.size = b := fun e => HBw.out.1 e.symm
  have hbM : b ≠ w.heap.size + 1 := HBw.out.2
  have hbN : b ≠ w.heap.size := HBw.out.1
  have hNM : w.heap.size ≠ w.heap.size + 1 := by omega
  clear h
  have hXb : ∀ k cs, w.heap.size + 2 ≤ k → ¬ One b k (.cells cs 3 (0, 0)) := fun k cs hb hx => by have := HBL.out; have : k = b := hx; omega
  go_enter Try.func95, Try.ntmps95
  go_wp2_with fail
  refine (refRNumbers_any b 9 st _ T0 (by decide)).mono ?_
  rintro e w1 ⟨⟨v1, vs, rfl, hv1, hg1⟩, t1, k1⟩
  obtain ⟨s1, hs1⟩ : ∃ s, stAfter (rdNums 9) st = s := ⟨_, rfl⟩
  have H1 : Hid (stRun (rdNums 9) vs st = (vs, s1)) := by show _ = _; rw [hg1.run, hs1]
  rw [hs1] at t1
  clear hs1 hg1
  obtain ⟨ao1, cp1, rfl, ho1⟩ := hv1
  have m1 := k1.block _ _ M0.out hMb
  have o1 := k1.block _ _ N0.out hNb
  have a1_0 := blk_at m1 0 rfl
  have f1_0 := blk_free m1 0
  have M1 : Hid ((w1.setCell ⟨w.heap.size + 1, 0, none⟩ (.slice ao1 vs.length cp1)).heap[w.heap.size + 1]? = some (.cells #[.slice ao1 vs.length cp1, .slice none 0 0, .slice none 0 0] 24 (0, 0))) := blk_set m1 0 _
  have N1 : Hid (_) := blk_other o1 hNM (a := ⟨w.heap.size + 1, 0, none⟩) (.slice ao1 vs.length cp1)
  have T1 := t1.other hbM (a := ⟨w.heap.size + 1, 0, none⟩) (.slice ao1 vs.length cp1)
  have K1 : Hid (Kept (One b) w (w1.setCell ⟨w.heap.size + 1, 0, none⟩ (.slice ao1 vs.length cp1))) := (K0.out.trans k1).setNew (show w.heap.size ≤ w.heap.size + 1 by omega) _
  have O1_1 : Hid (OwnNats (w.heap.size + 2) (w1.setCell ⟨w.heap.size + 1, 0, none⟩ (.slice ao1 vs.length cp1)) ao1 cp1 vs) := ownsRow_setCell_below (own_mono ho1 (by simp)) (show w.heap.size + 1 < w.heap.size + 2 by omega) _
  clear ho1
  clear m1 o1
  go_wp2_with fail
  refine (refRNumbers_any b 9 s1 _ T1 (by decide)).mono ?_
  rintro e w2 ⟨⟨v2, nx, rfl, hv2, hg2⟩, t2, k2⟩
  obtain ⟨s2, hs2⟩ : ∃ s, stAfter (rdNums 9) s1 = s := ⟨_, rfl⟩
  have H2 : Hid (stRun (rdNums 9) nx s1 = (nx, s2)) := by show _ = _; rw [hg2.run, hs2]
  rw [hs2] at t2
  clear hs2 hg2
  obtain ⟨ao2, cp2, rfl, ho2⟩ := hv2
  have m2 := k2.block _ _ M1.out hMb
  have o2 := k2.block _ _ N1.out hNb
  have a2_0 := blk_at m2 1 rfl
  have f2_0 := blk_free m2 1
  have M2 : Hid ((w2.setCell ⟨w.heap.size + 1, 1, none⟩ (.slice ao2 nx.length cp2)).heap[w.heap.size + 1]? = some (.cells #[.slice ao1 vs.length cp1, .slice ao2 nx.length cp2, .slice none 0 0] 24 (0, 0))) := blk_set m2 1 _
  have N2 : Hid (_) := blk_other o2 hNM (a := ⟨w.heap.size + 1, 1, none⟩) (.slice ao2 nx.length cp2)
  have T2 := t2.other hbM (a := ⟨w.heap.size + 1, 1, none⟩) (.slice ao2 nx.length cp2)
  have K2 : Hid (Kept (One b) w (w2.setCell ⟨w.heap.size + 1, 1, none⟩ (.slice ao2 nx.length cp2))) := (K1.out.trans k2).setNew (show w.heap.size ≤ w.heap.size + 1 by omega) _
  have O1_2 : Hid (OwnNats (w.heap.size + 2) (w2.setCell ⟨w.heap.size + 1, 1, none⟩ (.slice ao2 nx.length cp2)) ao1 cp1 vs) := ownsRow_setCell_below (own_kept O1_1.out k2 hXb) (show w.heap.size + 1 < w.heap.size + 2 by omega) _
  have O2_2 : Hid (OwnNats (w.heap.size + 2) (w2.setCell ⟨w.heap.size + 1, 1, none⟩ (.slice ao2 nx.length cp2)) ao2 cp2 nx) := ownsRow_setCell_below (own_mono ho2 (by have := lt_of_block M1.out; omega)) (show w.heap.size + 1 < w.heap.size + 2 by omega) _
  clear ho2
  clear m2 o2
  go_wp2_with fail
  refine (refRNumbers_any b 9 s2 _ T2 (by decide)).mono ?_
  rintro e w3 ⟨⟨v3, ls, rfl, hv3, hg3⟩, t3, k3⟩
  obtain ⟨s3, hs3⟩ : ∃ s, stAfter (rdNums 9) s2 = s := ⟨_, rfl⟩
  have H3 : Hid (stRun (rdNums 9) ls s2 = (ls, s3)) := by show _ = _; rw [hg3.run, hs3]
  rw [hs3] at t3
  clear hs3 hg3
  obtain ⟨ao3, cp3, rfl, ho3⟩ := hv3
  have m3 := k3.block _ _ M2.out hMb
  have o3 := k3.block _ _ N2.out hNb
  have a3_0 := blk_at m3 2 rfl
  have f3_0 := blk_free m3 2
  have M3 : Hid ((w3.setCell ⟨w.heap.size + 1, 2, none⟩ (.slice ao3 ls.length cp3)).heap[w.heap.size + 1]? = some (.cells #[.slice ao1 vs.length cp1, .slice ao2 nx.length cp2, .slice ao3 ls.length cp3] 24 (0, 0))) := blk_set m3 2 _
  have N3 : Hid (_) := blk_other o3 hNM (a := ⟨w.heap.size + 1, 2, none⟩) (.slice ao3 ls.length cp3)
  have T3 := t3.other hbM (a := ⟨w.heap.size + 1, 2, none⟩) (.slice ao3 ls.length cp3)
  have K3 : Hid (Kept (One b) w (w3.setCell ⟨w.heap.size + 1, 2, none⟩ (.slice ao3 ls.length cp3))) := (K2.out.trans k3).setNew (show w.heap.size ≤ w.heap.size + 1 by omega) _
  have O1_3 : Hid (OwnNats (w.heap.size + 2) (w3.setCell ⟨w.heap.size + 1, 2, none⟩ (.slice ao3 ls.length cp3)) ao1 cp1 vs) := ownsRow_setCell_below (own_kept O1_2.out k3 hXb) (show w.heap.size + 1 < w.heap.size + 2 by omega) _
  have O2_3 : Hid (OwnNats (w.heap.size + 2) (w3.setCell ⟨w.heap.size + 1, 2, none⟩ (.slice ao3 ls.length cp3)) ao2 cp2 nx) := ownsRow_setCell_below (own_kept O2_2.out k3 hXb) (show w.heap.size + 1 < w.heap.size + 2 by omega) _
  have O3_3 : Hid (OwnNats (w.heap.size + 2) (w3.setCell ⟨w.heap.size + 1, 2, none⟩ (.slice ao3 ls.length cp3)) ao3 cp3 ls) := ownsRow_setCell_below (own_mono ho3 (by have := lt_of_block M2.out; omega)) (show w.heap.size + 1 < w.heap.size + 2 by omega) _
  clear ho3
  clear m3 o3
  have HI := fun (w : World) a1 a2 a3 c1 c2 c3 hr => refIsConfigN_any c1 c2 c3 a1 a2 a3 vs nx ls w hr (own_len O1_3.out) (own_len O2_3.out) (own_len O3_3.out)
  cases hok : Cf.ok ⟨vs, nx, ls⟩ with
  | true =>
    rw [hok] at HI
    have HOK : Hid (Cf.ok ⟨vs, nx, ls⟩ = true) := hok
    clear hok
    have e0 := blk_at M3.out 0 rfl
    have e1 := blk_at M3.out 1 rfl
    have e2 := blk_at M3.out 2 rfl
    go_wp2_with fail
    refine (HI _ _ _ _ _ _ _ (cf_rows O1_3.out O2_3.out O3_3.out)).mono ?_
    rintro e wi ⟨rfl, ki⟩
    have Mi := ki.block _ _ M3.out (fun x => x.elim)
    have Ni := ki.block _ _ N3.out (fun x => x.elim)
    have Ti := T3.keptN ki
    have Ki : Hid (Kept (One b) w wi) := K3.out.trans (ki.mono (fun _ _ x => x.elim))
    have F1 : Hid (OwnNats (w.heap.size + 2) wi ao1 cp1 vs) := own_kept O1_3.out ki (fun _ _ _ x => x.elim)
    have F2 : Hid (OwnNats (w.heap.size + 2) wi ao2 cp2 nx) := own_kept O2_3.out ki (fun _ _ _ x => x.elim)
    have F3 : Hid (OwnNats (w.heap.size + 2) wi ao3 cp3 ls) := own_kept O3_3.out ki (fun _ _ _ x => x.elim)
    have p0 := blk_at Mi 0 rfl
    have p1 := blk_at Mi 1 rfl
    have p2 := blk_at Mi 2 rfl
    have g0 := blk_at Ni 0 rfl
    have g1 := blk_at Ni 1 rfl
    have g2 := blk_at Ni 2 rfl
    have u0 := blk_free Ni 0
    have u1 := blk_free Ni 1
    have u2 := blk_free Ni 2
    go_wp2
    refine bodyPost_ret (v := .agg #[.slice ao1 vs.length cp1, .slice ao2 nx.length cp2, .slice ao3 ls.length cp3]) (by simp [results, Try.results95, go_sem, g0, g1, g2]) rfl ?_
    have hS : stAfter rdCfg st = s3 := by refine (stAfter_then (rdNums 9) _ vs st).trans ?_; rw [H1.out]; refine (stAfter_then (rdNums 9) _ nx s1).trans ?_; rw [H2.out]; refine (stAfter_then (rdNums 9) _ ls s2).trans ?_; rw [H3.out]; refine (stAfter_end _ _ _ _).trans ?_; exact if_pos HOK.out
    have hG : GoodV rdCfg st ⟨vs, nx, ls⟩ := by refine GoodV_then (rdNums 9) _ vs st _ ?_; rw [H1.out]; refine GoodV_then (rdNums 9) _ nx s1 _ ?_; rw [H2.out]; refine GoodV_then (rdNums 9) _ ls s2 _ ?_; rw [H3.out]; exact GoodV_end _ _ _ _
    unfold RefPost
    rw [hS]
    exact ⟨⟨_, ⟨vs, nx, ls⟩, rfl, ⟨ao1, ao2, ao3, cp1, cp2, cp3, rfl, own_mono (ownsRow_setCell_below (ownsRow_setCell_below (ownsRow_setCell_below F1.out (show w.heap.size < w.heap.size + 2 by omega) _) (show w.heap.size < w.heap.size + 2 by omega) _) (show w.heap.size < w.heap.size + 2 by omega) _) (show w.heap.size ≤ w.heap.size + 2 by omega), own_mono (ownsRow_setCell_below (ownsRow_setCell_below (ownsRow_setCell_below F2.out (show w.heap.size < w.heap.size + 2 by omega) _) (show w.heap.size < w.heap.size + 2 by omega) _) (show w.heap.size < w.heap.size + 2 by omega) _) (show w.heap.size ≤ w.heap.size + 2 by omega), own_mono (ownsRow_setCell_below (ownsRow_setCell_below (ownsRow_setCell_below F3.out (show w.heap.size < w.heap.size + 2 by omega) _) (show w.heap.size < w.heap.size + 2 by omega) _) (show w.heap.size < w.heap.size + 2 by omega) _) (show w.heap.size ≤ w.heap.size + 2 by omega)⟩, hG⟩, (((Ti.other hbN _).other hbN _).other hbN _), (((Ki.out.setNew (Nat.le_refl _) _).setNew (Nat.le_refl _) _).setNew (Nat.le_refl _) _)⟩
  | false =>
    rw [hok] at HI
    have HOK : Hid (Cf.ok ⟨vs, nx, ls⟩ = false) := hok
    clear hok
    have e0 := blk_at M3.out 0 rfl
    have e1 := blk_at M3.out 1 rfl
    have e2 := blk_at M3.out 2 rfl
    go_wp2_with fail
    refine (HI _ _ _ _ _ _ _ (cf_rows O1_3.out O2_3.out O3_3.out)).mono ?_
    rintro e wi ⟨rfl, ki⟩
    have Mi := ki.block _ _ M3.out (fun x => x.elim)
    have Ni := ki.block _ _ N3.out (fun x => x.elim)
    have Ti := T3.keptN ki
    have Ki : Hid (Kept (One b) w wi) := K3.out.trans (ki.mono (fun _ _ x => x.elim))
    have F1 : Hid (OwnNats (w.heap.size + 2) wi ao1 cp1 vs) := own_kept O1_3.out ki (fun _ _ _ x => x.elim)
    have F2 : Hid (OwnNats (w.heap.size + 2) wi ao2 cp2 nx) := own_kept O2_3.out ki (fun _ _ _ x => x.elim)
    have F3 : Hid (OwnNats (w.heap.size + 2) wi ao3 cp3 ls) := own_kept O3_3.out ki (fun _ _ _ x => x.elim)
    go_wp2_with fail
    refine (badSt_any b s3 8 _ Ti (by decide)).mono ?_
    rintro e wb ⟨rfl, tb, kb⟩
    have Mb := kb.block _ _ Mi hMb
    have Nb := kb.block _ _ Ni hNb
    have Kb : Hid (Kept (One b) w wb) := Ki.out.trans kb
    have F1 : Hid (OwnNats (w.heap.size + 2) wb ao1 cp1 vs) := own_kept F1.out kb hXb
    have F2 : Hid (OwnNats (w.heap.size + 2) wb ao2 cp2 nx) := own_kept F2.out kb hXb
    have F3 : Hid (OwnNats (w.heap.size + 2) wb ao3 cp3 ls) := own_kept F3.out kb hXb
    have p0 := blk_at Mb 0 rfl
    have p1 := blk_at Mb 1 rfl
    have p2 := blk_at Mb 2 rfl
    have g0 := blk_at Nb 0 rfl
    have g1 := blk_at Nb 1 rfl
    have g2 := blk_at Nb 2 rfl
    have u0 := blk_free Nb 0
    have u1 := blk_free Nb 1
    have u2 := blk_free Nb 2
    go_wp2
    refine bodyPost_ret (v := .agg #[.slice ao1 vs.length cp1, .slice ao2 nx.length cp2, .slice ao3 ls.length cp3]) (by simp [results, Try.results95, go_sem, g0, g1, g2]) rfl ?_
    have hS : stAfter rdCfg st = stBad 8 s3 := by refine (stAfter_then (rdNums 9) _ vs st).trans ?_; rw [H1.out]; refine (stAfter_then (rdNums 9) _ nx s1).trans ?_; rw [H2.out]; refine (stAfter_then (rdNums 9) _ ls s2).trans ?_; rw [H3.out]; refine (stAfter_end _ _ _ _).trans ?_; exact if_neg (by rw [HOK.out]; decide)
    have hG : GoodV rdCfg st ⟨vs, nx, ls⟩ := by refine GoodV_then (rdNums 9) _ vs st _ ?_; rw [H1.out]; refine GoodV_then (rdNums 9) _ nx s1 _ ?_; rw [H2.out]; refine GoodV_then (rdNums 9) _ ls s2 _ ?_; rw [H3.out]; exact GoodV_end _ _ _ _
    unfold RefPost
    rw [hS]
    exact ⟨⟨_, ⟨vs, nx, ls⟩, rfl, ⟨ao1, ao2, ao3, cp1, cp2, cp3, rfl, own_mono (ownsRow_setCell_below (ownsRow_setCell_below (ownsRow_setCell_below F1.out (show w.heap.size < w.heap.size + 2 by omega) _) (show w.heap.size < w.heap.size + 2 by omega) _) (show w.heap.size < w.heap.size + 2 by omega) _) (show w.heap.size ≤ w.heap.size + 2 by omega), own_mono (ownsRow_setCell_below (ownsRow_setCell_below (ownsRow_setCell_below F2.out (show w.heap.size < w.heap.size + 2 by omega) _) (show w.heap.size < w.heap.size + 2 by omega) _) (show w.heap.size < w.heap.size + 2 by omega) _) (show w.heap.size ≤ w.heap.size + 2 by omega), own_mono (ownsRow_setCell_below (ownsRow_setCell_below (ownsRow_setCell_below F3.out (show w.heap.size < w.heap.size + 2 by omega) _) (show w.heap.size < w.heap.size + 2 by omega) _) (show w.heap.size < w.heap.size + 2 by omega) _) (show w.heap.size ≤ w.heap.size + 2 by omega)⟩, hG⟩, (((tb.other hbN _).other hbN _).other hbN _), (((Kb.out.setNew (Nat.le_refl _) _).setNew (Nat.le_refl _) _).setNew (Nat.le_refl _) _)⟩

end Go.Proofs.Ytijklginabipgaa

/-
  The program's read at a configuration: caught or not.
-/
namespace Go.Proofs.Ytijklginabipgaa
open Go.RowKit

theorem blk_drewC {w : World} {b : Nat} {o : Obj} (h : w.heap[b]? = some o) : w.drew.heap[b]? = some o := h
theorem setsC {w : World} {A : Nat} {t : TypeId} {x0 x1 x2 : Value} (hA : w.heap[A]? = some (.cells #[x0, x1, x2] t (0, 0))) (v0 v1 v2 : Value) :
    (((w.setCell ⟨A, 0, none⟩ v0).setCell ⟨A, 1, none⟩ v1).setCell ⟨A, 2, none⟩ v2).heap[A]? = some (.cells #[v0, v1, v2] t (0, 0)) := by
  have s0 : (w.setCell ⟨A, 0, none⟩ v0).heap[A]? = some (.cells #[v0, x1, x2] t (0, 0)) := blk_set hA 0 v0
  have s1 : ((w.setCell ⟨A, 0, none⟩ v0).setCell ⟨A, 1, none⟩ v1).heap[A]? = some (.cells #[v0, v1, x2] t (0, 0)) := blk_set s0 1 v1
  have s2 : (((w.setCell ⟨A, 0, none⟩ v0).setCell ⟨A, 1, none⟩ v1).setCell ⟨A, 2, none⟩ v2).heap[A]? = some (.cells #[v0, v1, v2] t (0, 0)) := blk_set s1 2 v2
  exact s2

set_option maxRecDepth 100000 in
set_option maxHeartbeats 2000000 in
theorem catchC_panic (A E : Nat) (c : Int) (x0 x1 x2 z : Value) (w : World) (hA : w.heap[A]? = some (.cells #[x0, x1, x2] 24 (0, 0))) (hE : w.heap[E]? = some (.cells #[z] 28 (0, 0))) (hne : A ≠ E) :
    CallsD Try.prog 151 #[.pointer (some ⟨A, 0, none⟩), .pointer (some ⟨E, 0, none⟩)] (.panicking (up c)) w fun e u' w' =>
      e = .returned (.tuple #[]) ∧ u' = .panicking [{ v := .iface 187 (.agg #[.int .i64 c]), recovered := true }] ∧
      w'.heap[A]? = some (.cells #[.slice none 0 0, .slice none 0 0, .slice none 0 0] 24 (0, 0)) ∧ w'.heap[E]? = some (.cells #[.int .i64 c] 28 (0, 0)) ∧ Kept (fun k _ => k = A ∨ k = E) w w' := by
  have a0 := blk_at hA 0 rfl
  have a1 := blk_at hA 1 rfl
  have a2 := blk_at hA 2 rfl
  have e0 := blk_at hE 0 rfl
  have fa0 := blk_free hA 0
  have fa1 := blk_free hA 1
  have fa2 := blk_free hA 2
  have fe0 := blk_free hE 0
  refine callsD_of_wpS Try.func151 rfl fun c₀ cs hu => ?_
  unfold up at hu
  apply wpS_seq
  apply wpS_region
  simp [wpOpsS, go_sem, recoverD, hu, Try.ntmps151, Exit.thenS]
  refine wpS_of_wp ?_
  rw [catch_slots]
  clear hu
  have hta := assert_up
  have hAl := lt_of_block hA
  have hEl := lt_of_block hE
  go_wp2
  go_region
  refine ⟨rfl, _, rfl, .tuple #[], by simp [results, Try.results151], rfl, rfl, ?_⟩
  refine ⟨?_, ?_, ?_⟩
  · exact blk_drewC (blk_past (blk_past (blk_other (setsC hA _ _ _) hne _) _) _)
  · exact blk_drewC (blk_past (blk_past (blk_set (blk_other (blk_other (blk_other (hE) hne.symm _) hne.symm _) hne.symm _) 0 _) _) _)
  · exact Kept.drew (Kept.alloc (Kept.alloc (((((Kept.refl _ _).setCell (fun _ => .inl rfl) _).setCell (fun _ => .inl rfl) _).setCell (fun _ => .inl rfl) _).setCell (fun _ => .inr rfl) _) _) _)

set_option maxRecDepth 100000 in
set_option maxHeartbeats 600000 in
theorem catchC_idle (A E : Addr) (w : World) :
    CallsD Try.prog 151 #[.pointer (some A), .pointer (some E)] .returning w fun e u' w' => e = .returned (.tuple #[]) ∧ u' = .returning ∧ w' = w := by
  refine callsD_of_wpS Try.func151 rfl fun c₀ cs hu => ?_
  apply wpS_seq
  apply wpS_region
  simp [wpOpsS, go_sem, recoverD, hu, Try.ntmps151, Exit.thenS]
  refine wpS_of_wp ?_
  rw [catch_slots]
  go_wp2
  refine ⟨rfl, .returning, ?_, .tuple #[], by simp [results, Try.results151], rfl, rfl, rfl⟩
  cases c₀
  simp_all

set_option maxRecDepth 100000 in
set_option maxHeartbeats 2000000 in
theorem readC_err (l : List UInt8) (c : Int) (w : World) (hr : rdCfg l = .error c) :
    Calls Try.prog 93 #[.string (bs l), .func (.func 94) #[] #[]] w fun e w' => e = .returned (.tuple #[.agg #[.slice none 0 0, .slice none 0 0, .slice none 0 0], .int .i64 c]) ∧ Kept Nil w w' := by
  have hmf : ∀ (fn : Fn) (first cap : Array Value) (w : World), (Instr.makeFunc fn first cap).run Try.prog w = .ok (.func fn first cap) w := fun _ _ _ _ => rfl
  obtain ⟨hA, hE, hR⟩ := three w (.cells #[.slice none 0 0, .slice none 0 0, .slice none 0 0] 24) (.cells #[.int .i64 0] 28) (.cells #[.string (bs l)] 190)
  have H := RdPost.no (rConfig_any _ l _ (Left.ofBlk hR)) hr
  have HA : Hid _ := hA
  have HE : Hid _ := hE
  clear hA hE hR hr
  go_enter_defers Try.func93, Try.ntmps93
  go_wp2_with (first | (go_at_call 94; go_must (refine H.mono ?_); rintro e w1 ⟨rfl, hk⟩))
  have hA1 := hk.block _ _ HA.out (show ¬ w.heap.size = w.heap.size + 2 by omega)
  have hE1 := hk.block _ _ HE.out (show ¬ w.heap.size + 1 = w.heap.size + 2 by omega)
  refine leaves_cons (f := 151) (args := #[.pointer (some ⟨w.heap.size, 0, none⟩), .pointer (some ⟨w.heap.size + 1, 0, none⟩)]) (by simp) (by simp [go_sem]) ?_
  refine (catchC_panic w.heap.size (w.heap.size + 1) c _ _ _ _ w1 hA1 hE1 (by omega)).mono ?_
  rintro e u' w2 ⟨rfl, rfl, hA2, hE2, hk2⟩
  have a0 := blk_at hA2 0 rfl
  have a1 := blk_at hA2 1 rfl
  have a2 := blk_at hA2 2 rfl
  have e0 := blk_at hE2 0 rfl
  simp [Leaves, settle, results, Try.results93, go_sem, a0, a1, a2, e0]
  exact Kept.ofNew (Kept.ofNew ((((Kept.refl _ _).alloc _).alloc _).alloc _) hk (fun k _ h => by have : k = w.heap.size + 2 := h; omega)) hk2 (fun k _ h => by rcases h with rfl | rfl <;> omega)

set_option maxRecDepth 100000 in
set_option maxHeartbeats 2000000 in
theorem readC_ok (l : List UInt8) (x : Cf) (w : World) (hr : rdCfg l = .ok (x, [])) :
    Calls Try.prog 93 #[.string (bs l), .func (.func 94) #[] #[]] w (GotPost (CfV w.heap.size) (x, 0) w) := by
  have hmf : ∀ (fn : Fn) (first cap : Array Value) (w : World), (Instr.makeFunc fn first cap).run Try.prog w = .ok (.func fn first cap) w := fun _ _ _ _ => rfl
  obtain ⟨hA, hE, hR⟩ := three w (.cells #[.slice none 0 0, .slice none 0 0, .slice none 0 0] 24) (.cells #[.int .i64 0] 28) (.cells #[.string (bs l)] 190)
  have H := RdPost.ok (rConfig_any _ l _ (Left.ofBlk hR)) hr
  have HA : Hid _ := hA
  have HE : Hid _ := hE
  have hq := bs_toList []
  clear hA hE hR hr
  go_enter_defers Try.func93, Try.ntmps93
  go_wp2_with (first | (go_at_call 94; go_must (refine H.mono ?_); rintro e w1 ⟨v, rfl, hv, hc, hz, hk⟩; unfold CfV at hv; obtain ⟨ra1, ra2, ra3, rc1, rc2, rc3, rfl, hP⟩ := hv; have HP : Hid _ := hP; clear hP; have hA1 := hk.block _ _ HA.out (show ¬ w.heap.size = w.heap.size + 2 by omega); have hE1 := hk.block _ _ HE.out (show ¬ w.heap.size + 1 = w.heap.size + 2 by omega); have a0 := blk_at hA1 0 rfl; have a1 := blk_at hA1 1 rfl; have a2 := blk_at hA1 2 rfl; have fa0 := blk_free hA1 0; have fa1 := blk_free hA1 1; have fa2 := blk_free hA1 2; have e0 := blk_at hE1 0 rfl; have fe0 := blk_free hE1 0) | (go_at_call 145; go_must (refine (must_ok _ _).mono ?_); rintro e w4 ⟨rfl, rfl⟩))
  refine leaves_cons (f := 151) (args := #[.pointer (some ⟨w.heap.size, 0, none⟩), .pointer (some ⟨w.heap.size + 1, 0, none⟩)]) (by simp) (by simp [go_sem]) ?_
  refine (catchC_idle ⟨w.heap.size, 0, none⟩ ⟨w.heap.size + 1, 0, none⟩ _).mono ?_
  rintro e u' w2 ⟨rfl, rfl, hw2⟩
  have hne : w.heap.size ≠ w.heap.size + 1 := by omega
  have hA3 : w2.heap[w.heap.size]? = some (.cells #[.slice ra1 x.v.length rc1, .slice ra2 x.n.length rc2, .slice ra3 x.l.length rc3] 24 (0, 0)) := by rw [hw2]; exact blk_other (setsC (setsC hA1 _ _ _) _ _ _) hne _
  have hE3 : w2.heap[w.heap.size + 1]? = some (.cells #[.int .i64 0] 28 (0, 0)) := by rw [hw2]; exact blk_set (blk_other (blk_other (blk_other (blk_other (blk_other (blk_other (hE1) hne.symm _) hne.symm _) hne.symm _) hne.symm _) hne.symm _) hne.symm _) 0 _
  have hk3 : Kept (fun k _ => k = w.heap.size ∨ k = w.heap.size + 1) w1 w2 := by rw [hw2]; exact ((((((((Kept.refl _ _).setCell (fun _ => .inl rfl) _).setCell (fun _ => .inl rfl) _).setCell (fun _ => .inl rfl) _).setCell (fun _ => .inl rfl) _).setCell (fun _ => .inl rfl) _).setCell (fun _ => .inl rfl) _).setCell (fun _ => .inr rfl) _)
  clear hw2
  have b0 := blk_at hA3 0 rfl
  have b1 := blk_at hA3 1 rfl
  have b2 := blk_at hA3 2 rfl
  have c0 := blk_at hE3 0 rfl
  simp [Leaves, settle, results, Try.results93, go_sem, b0, b1, b2, c0]
  have HKN : Kept Nil w w2 := Kept.ofNew (Kept.ofNew ((((Kept.refl _ _).alloc _).alloc _).alloc _) hk (fun k _ h => by have : k = w.heap.size + 2 := h; omega)) hk3 (fun k _ h => by rcases h with rfl | rfl <;> omega)
  exact ⟨_, rfl, ⟨ra1, ra2, ra3, rc1, rc2, rc3, rfl, OwnNats.through HP.out.1 hk3, OwnNats.through HP.out.2.1 hk3, OwnNats.through HP.out.2.2 hk3⟩, HKN⟩

set_option maxRecDepth 100000 in
set_option maxHeartbeats 2000000 in
theorem readC_left (l : List UInt8) (x : Cf) (y : UInt8) (t : List UInt8) (w : World) (hr : rdCfg l = .ok (x, y :: t)) :
    Calls Try.prog 93 #[.string (bs l), .func (.func 94) #[] #[]] w fun e w' => e = .returned (.tuple #[.agg #[.slice none 0 0, .slice none 0 0, .slice none 0 0], .int .i64 1]) ∧ Kept Nil w w' := by
  have hmf : ∀ (fn : Fn) (first cap : Array Value) (w : World), (Instr.makeFunc fn first cap).run Try.prog w = .ok (.func fn first cap) w := fun _ _ _ _ => rfl
  obtain ⟨hA, hE, hR⟩ := three w (.cells #[.slice none 0 0, .slice none 0 0, .slice none 0 0] 24) (.cells #[.int .i64 0] 28) (.cells #[.string (bs l)] 190)
  have H := RdPost.ok (rConfig_any _ l _ (Left.ofBlk hR)) hr
  have HA : Hid _ := hA
  have HE : Hid _ := hE
  have hq := bs_toList (y :: t)
  clear hA hE hR hr
  go_enter_defers Try.func93, Try.ntmps93
  go_wp2_with (first | (go_at_call 94; go_must (refine H.mono ?_); rintro e w1 ⟨v, rfl, hv, hc, hz, hk⟩; unfold CfV at hv; obtain ⟨ra1, ra2, ra3, rc1, rc2, rc3, rfl, hP⟩ := hv; have HP : Hid _ := hP; clear hP; have hA1 := hk.block _ _ HA.out (show ¬ w.heap.size = w.heap.size + 2 by omega); have hE1 := hk.block _ _ HE.out (show ¬ w.heap.size + 1 = w.heap.size + 2 by omega); have a0 := blk_at hA1 0 rfl; have a1 := blk_at hA1 1 rfl; have a2 := blk_at hA1 2 rfl; have fa0 := blk_free hA1 0; have fa1 := blk_free hA1 1; have fa2 := blk_free hA1 2; have e0 := blk_at hE1 0 rfl; have fe0 := blk_free hE1 0) | (go_at_call 145; go_must (refine (must_no _ _).mono ?_); rintro e w4 ⟨rfl, rfl⟩))
  refine leaves_cons (f := 151) (args := #[.pointer (some ⟨w.heap.size, 0, none⟩), .pointer (some ⟨w.heap.size + 1, 0, none⟩)]) (by simp) (by simp [go_sem]) ?_
  refine (catchC_panic w.heap.size (w.heap.size + 1) 1 _ _ _ _ _ (setsC hA1 _ _ _) (blk_other (blk_other (blk_other (hE1) (show w.heap.size + 1 ≠ w.heap.size by omega) _) (show w.heap.size + 1 ≠ w.heap.size by omega) _) (show w.heap.size + 1 ≠ w.heap.size by omega) _) (by omega)).mono ?_
  rintro e u' w2 ⟨rfl, rfl, hA2, hE2, hk2⟩
  have b0 := blk_at hA2 0 rfl
  have b1 := blk_at hA2 1 rfl
  have b2 := blk_at hA2 2 rfl
  have c0 := blk_at hE2 0 rfl
  simp [Leaves, settle, results, Try.results93, go_sem, b0, b1, b2, c0]
  refine Kept.ofNew (Kept.ofNew (Kept.ofNew ((((Kept.refl _ _).alloc _).alloc _).alloc _) hk (fun k _ h => by have : k = w.heap.size + 2 := h; omega)) (X := fun k _ => w.heap.size ≤ k) ((((Kept.refl _ _).setCell (fun _ => Nat.le_refl _) _).setCell (fun _ => Nat.le_refl _) _).setCell (fun _ => Nat.le_refl _) _) (fun k _ h => h)) hk2 (fun k _ h => by rcases h with rfl | rfl <;> omega)


end Go.Proofs.Ytijklginabipgaa

/-
  GetConfig, and the document's: the same plain answer.
-/
namespace Go.Proofs.Ytijklginabipgaa
open Go.RowKit

def zCf : Cf := ⟨[], [], []⟩
theorem noZero_cfg : NoZero rdCfg := (noZero_nums 9).then fun _ => (noZero_nums 9).then fun _ => (noZero_nums 9).then fun _ => NoZero.end _ _ _ (by decide)

theorem readC_any (l : List UInt8) (w : World) :
    Calls Try.prog 93 #[.string (bs l), .func (.func 94) #[] #[]] w (GotPost (CfV w.heap.size) (getAll zCf (rdCfg l)) w) := by
  cases hr : rdCfg l with
  | error c =>
    rw [getAll_err rfl]
    refine (readC_err l c w hr).mono ?_
    rintro e w' ⟨rfl, hk⟩
    exact ⟨_, rfl, ⟨none, none, none, 0, 0, 0, rfl, World.ownsRow_nil _ _ _ _, World.ownsRow_nil _ _ _ _, World.ownsRow_nil _ _ _ _⟩, hk⟩
  | ok x =>
    obtain ⟨x, t⟩ := x
    cases t with
    | nil =>
      rw [getAll_ok rfl]
      refine (readC_ok l x w hr).mono ?_
      exact fun e w' h => h
    | cons y t =>
      rw [getAll_left rfl]
      refine (readC_left l x y t w hr).mono ?_
      rintro e w' ⟨rfl, hk⟩
      exact ⟨_, rfl, ⟨none, none, none, 0, 0, 0, rfl, World.ownsRow_nil _ _ _ _, World.ownsRow_nil _ _ _ _, World.ownsRow_nil _ _ _ _⟩, hk⟩

set_option maxRecDepth 100000 in
set_option maxHeartbeats 2000000 in
theorem getConfig_any (l : List UInt8) (w : World) :
    Calls Try.prog 44 #[.string (bs l)] w (GotPost (CfV w.heap.size) (getAll zCf (rdCfg l)) w) := by
  have H := fun w => readC_any l w
  generalize getAll zCf (rdCfg l) = g at H ⊢
  obtain ⟨x, c⟩ := g
  go_enter Try.func44, Try.ntmps44
  go_wp2_with fail
  refine (H _).mono ?_
  rintro e w1 ⟨v, rfl, hv, hk⟩
  obtain ⟨a1, a2, a3, c1, c2, c3, rfl, o1, o2, o3⟩ := hv
  have O1 : Hid (OwnNats (w.heap.size + 1) w1 a1 c1 x.v) := own_mono o1 (by simp)
  have O2 : Hid (OwnNats (w.heap.size + 1) w1 a2 c2 x.n) := own_mono o2 (by simp)
  have O3 : Hid (OwnNats (w.heap.size + 1) w1 a3 c3 x.l) := own_mono o3 (by simp)
  clear o1 o2 o3
  have hb := hk.block _ _ (blk_new w (.cells #[.slice none 0 0, .slice none 0 0, .slice none 0 0] 24)) (fun x => x.elim)
  have g0 := blk_at hb 0 rfl
  have g1 := blk_at hb 1 rfl
  have g2 := blk_at hb 2 rfl
  have f0 := blk_free hb 0
  have f1 := blk_free hb 1
  have f2 := blk_free hb 2
  simp only
  go_wp2
  refine bodyPost_ret (v := .tuple #[.agg #[.slice a1 x.v.length c1, .slice a2 x.n.length c2, .slice a3 x.l.length c3], .int .i64 c]) (by simp [results, Try.results44, go_sem, g0, g1, g2]) rfl ?_
  have hkk : Kept Nil w w1 := ((Kept.refl _ _).alloc _).trans hk
  exact ⟨_, rfl, ⟨a1, a2, a3, c1, c2, c3, rfl, own_mono (ownsRow_setCell_below (ownsRow_setCell_below (ownsRow_setCell_below O1.out (show w.heap.size < w.heap.size + 1 by omega) _) (show w.heap.size < w.heap.size + 1 by omega) _) (show w.heap.size < w.heap.size + 1 by omega) _) (Nat.le_of_lt (show w.heap.size < w.heap.size + 1 by omega)), own_mono (ownsRow_setCell_below (ownsRow_setCell_below (ownsRow_setCell_below O2.out (show w.heap.size < w.heap.size + 1 by omega) _) (show w.heap.size < w.heap.size + 1 by omega) _) (show w.heap.size < w.heap.size + 1 by omega) _) (Nat.le_of_lt (show w.heap.size < w.heap.size + 1 by omega)), own_mono (ownsRow_setCell_below (ownsRow_setCell_below (ownsRow_setCell_below O3.out (show w.heap.size < w.heap.size + 1 by omega) _) (show w.heap.size < w.heap.size + 1 by omega) _) (show w.heap.size < w.heap.size + 1 by omega) _) (Nat.le_of_lt (show w.heap.size < w.heap.size + 1 by omega))⟩, (((hkk.setNew (Nat.le_refl _) _).setNew (Nat.le_refl _) _).setNew (Nat.le_refl _) _)⟩

set_option maxRecDepth 100000 in
set_option maxHeartbeats 4000000 in
theorem refGetConfig_any (l : List UInt8) (w : World) (hlen : l.length ≤ maxLen) :
    Calls Try.prog 45 #[.string (bs l)] w (GotPost (CfV w.heap.size) (getAll zCf (rdCfg l)) w) := by
  have hR0 : ((w.alloc (.cells #[.slice none 0 0, .slice none 0 0, .slice none 0 0] 24)).alloc (.cells #[.string (bs l), .int .i64 0] 115)).heap[w.heap.size + 1]? = some (.cells #[.string (bs l), .int .i64 0] 115 (0, 0)) := by
    have := blk_new (w.alloc (.cells #[.slice none 0 0, .slice none 0 0, .slice none 0 0] 24)) (.cells #[.string (bs l), .int .i64 0] 115)
    rwa [show (w.alloc (.cells #[.slice none 0 0, .slice none 0 0, .slice none 0 0] 24)).heap.size = w.heap.size + 1 by simp] at this
  have hst : RSt (w.heap.size + 1) _ (.ok l) := ⟨hlen, hR0⟩
  have H := refRConfig_any (w.heap.size + 1) _ _ hst
  have HN : Hid (_) := blk_past (blk_new w (.cells #[.slice none 0 0, .slice none 0 0, .slice none 0 0] 24)) (.cells #[.string (bs l), .int .i64 0] 115)
  have hNR : ¬ w.heap.size = w.heap.size + 1 := by omega
  clear hR0 hst hlen
  go_enter Try.func45, Try.ntmps45
  go_wp2_with fail
  refine H.mono ?_
  rintro e w1 ⟨⟨v, x, rfl, hv, hg⟩, t1, k1⟩
  have HQ : Hid (refAll zCf x (stAfter rdCfg (.ok l)) = getAll zCf (rdCfg l)) := refAll_eq _ x _ l hg (fun c h => noZero_cfg l c h)
  obtain ⟨a1, a2, a3, c1, c2, c3, rfl, o1, o2, o3⟩ := hv
  have O1 : Hid (OwnNats (w.heap.size + 2) w1 a1 c1 x.v) := own_mono o1 (by simp)
  have O2 : Hid (OwnNats (w.heap.size + 2) w1 a2 c2 x.n) := own_mono o2 (by simp)
  have O3 : Hid (OwnNats (w.heap.size + 2) w1 a3 c3 x.l) := own_mono o3 (by simp)
  clear o1 o2 o3
  have o1 := k1.block _ _ HN.out hNR
  have K1 : Hid (Kept Nil w w1) := Kept.ofNew (((Kept.refl _ _).alloc _).alloc _) k1 (fun k _ h => by have : k = w.heap.size + 1 := h; omega)
  generalize stAfter rdCfg (.ok l) = s1 at t1 HQ
  have E := refEnd_any (w.heap.size + 1) s1 _ (t1.past (.cells #[.slice a1 x.v.length c1, .slice a2 x.n.length c2, .slice a3 x.l.length c3] 24))
  have L1 := blk_new w1 (.cells #[.slice a1 x.v.length c1, .slice a2 x.n.length c2, .slice a3 x.l.length c3] 24)
  have hL1 : w1.heap.size ≠ w.heap.size + 1 := Nat.ne_of_gt t1.lt
  have HL1 : Hid (_) := L1
  have HO1 : Hid (_) := blk_past o1 (.cells #[.slice a1 x.v.length c1, .slice a2 x.n.length c2, .slice a3 x.l.length c3] 24)
  clear H HN t1 hg L1 o1
  by_cases hz : stEnd s1 = 0
  · have HZ : Hid (refAll zCf x s1 = (x, 0)) := if_pos hz
    rw [hz] at E
    clear hz
    go_wp2_with fail
    refine E.mono ?_
    rintro e w9 ⟨rfl, k9⟩
    have m9 := k9.block _ _ HL1.out hL1
    have o9 := k9.block _ _ HO1.out hNR
    have p0 := blk_at m9 0 rfl
    have p1 := blk_at m9 1 rfl
    have p2 := blk_at m9 2 rfl
    have g0 := blk_at o9 0 rfl
    have g1 := blk_at o9 1 rfl
    have g2 := blk_at o9 2 rfl
    have u0 := blk_free o9 0
    have u1 := blk_free o9 1
    have u2 := blk_free o9 2
    have K9 : Hid (Kept Nil w w9) := Kept.ofNew (K1.out.alloc _) k9 (fun k _ h => by have : k = w.heap.size + 1 := h; omega)
    clear m9 o9
    go_wp2
    refine bodyPost_ret (v := .tuple #[.agg #[.slice a1 x.v.length c1, .slice a2 x.n.length c2, .slice a3 x.l.length c3], .int .i64 0]) (by simp [results, Try.results45, go_sem, g0, g1, g2]) rfl ?_
    rw [← HQ.out, HZ.out]
    have hXr : ∀ k cs, w.heap.size + 2 ≤ k → ¬ One (w.heap.size + 1) k (.cells cs 3 (0, 0)) := fun k cs hb hx => by have : k = w.heap.size + 1 := hx; omega
    have Q1 := own_kept (World.ownsRow.alloc O1.out (.cells #[.slice a1 x.v.length c1, .slice a2 x.n.length c2, .slice a3 x.l.length c3] 24)) k9 hXr
    have Q2 := own_kept (World.ownsRow.alloc O2.out (.cells #[.slice a1 x.v.length c1, .slice a2 x.n.length c2, .slice a3 x.l.length c3] 24)) k9 hXr
    have Q3 := own_kept (World.ownsRow.alloc O3.out (.cells #[.slice a1 x.v.length c1, .slice a2 x.n.length c2, .slice a3 x.l.length c3] 24)) k9 hXr
    exact ⟨_, rfl, ⟨a1, a2, a3, c1, c2, c3, rfl, own_mono (ownsRow_setCell_below (ownsRow_setCell_below (ownsRow_setCell_below Q1 (show w.heap.size < w.heap.size + 2 by omega) _) (show w.heap.size < w.heap.size + 2 by omega) _) (show w.heap.size < w.heap.size + 2 by omega) _) (Nat.le_of_lt (show w.heap.size < w.heap.size + 2 by omega)), own_mono (ownsRow_setCell_below (ownsRow_setCell_below (ownsRow_setCell_below Q2 (show w.heap.size < w.heap.size + 2 by omega) _) (show w.heap.size < w.heap.size + 2 by omega) _) (show w.heap.size < w.heap.size + 2 by omega) _) (Nat.le_of_lt (show w.heap.size < w.heap.size + 2 by omega)), own_mono (ownsRow_setCell_below (ownsRow_setCell_below (ownsRow_setCell_below Q3 (show w.heap.size < w.heap.size + 2 by omega) _) (show w.heap.size < w.heap.size + 2 by omega) _) (show w.heap.size < w.heap.size + 2 by omega) _) (Nat.le_of_lt (show w.heap.size < w.heap.size + 2 by omega))⟩, (((K9.out.setNew (Nat.le_refl _) _).setNew (Nat.le_refl _) _).setNew (Nat.le_refl _) _)⟩
  · have HZ : Hid (refAll zCf x s1 = (zCf, stEnd s1)) := if_neg hz
    generalize stEnd s1 = z at E hz HZ
    have hz' : (z != 0) = true := by simpa using hz
    clear hz
    go_wp2_with fail
    refine E.mono ?_
    rintro e w9 ⟨rfl, k9⟩
    have o9 := k9.block _ _ HO1.out hNR
    have g0 := blk_at o9 0 rfl
    have g1 := blk_at o9 1 rfl
    have g2 := blk_at o9 2 rfl
    have u0 := blk_free o9 0
    have u1 := blk_free o9 1
    have u2 := blk_free o9 2
    have K9 : Hid (Kept Nil w w9) := Kept.ofNew (K1.out.alloc _) k9 (fun k _ h => by have : k = w.heap.size + 1 := h; omega)
    clear o9
    go_wp2
    refine bodyPost_ret (v := .tuple #[.agg #[.slice none 0 0, .slice none 0 0, .slice none 0 0], .int .i64 z]) (by simp [results, Try.results45, go_sem, g0, g1, g2]) rfl ?_
    rw [← HQ.out, HZ.out]
    exact ⟨_, rfl, ⟨none, none, none, 0, 0, 0, rfl, World.ownsRow_nil _ _ _ _, World.ownsRow_nil _ _ _ _, World.ownsRow_nil _ _ _ _⟩, (((K9.out.setNew (Nat.le_refl _) _).setNew (Nat.le_refl _) _).setNew (Nat.le_refl _) _)⟩


end Go.Proofs.Ytijklginabipgaa

/-
  A snapshot read by the program's reader (its configuration alone is judged).
  A whole snapshot read by the program's reader.
-/
namespace Go.Proofs.Ytijklginabipgaa
open Go.RowKit

/-- A snapshot, plainly. -/
structure Sn where
  ix : Nat
  tm : Nat
  c : Cf
  dt : List UInt8
def rdSn (l : List UInt8) : Except Int (Sn × List UInt8) := rdThen (rdNum l) fun ix l => rdThen (rdNum l) fun tm l => rdThen (rdCfg l) fun c l => rdThen (rdText 8192 l) fun dt l => .ok (⟨ix, tm, c, dt⟩, l)
def SnV (B : Nat) : Sn → World → Value → Prop := fun x w v => ∃ a1 a2 a3 c1 c2 c3, v = .agg #[.int .i64 x.ix, .int .i64 x.tm, .slice a1 x.c.v.length c1, .slice a2 x.c.n.length c2, .slice a3 x.c.l.length c3, .string (bs x.dt)] ∧ OwnNats B w a1 c1 x.c.v ∧ OwnNats B w a2 c2 x.c.n ∧ OwnNats B w a3 c3 x.c.l
theorem own_setB {B : Nat} {w : World} {ao : Option Addr} {c : Nat} {ns : List Nat} (h : OwnNats B w ao c ns) {a : Addr} (ha : a.block < B) (u : Value) : OwnNats B (w.setCell a u) ao c ns := ownsRow_setCell_below h ha u

set_option maxRecDepth 100000 in
set_option maxHeartbeats 4000000 in
theorem rSnapshot_any (p : Addr) (l : List UInt8) (w : World) (hl : Left p w l) :
    Calls Try.prog 157 #[.pointer (some p)] w (RdPost p w (rdSn l) (SnV w.heap.size)) := by
  have HB : Hid (p.block < w.heap.size) := cell_lt hl.cell
  have HN : Hid (_) := blk_new w (.cells #[.int .i64 0, .int .i64 0, .slice none 0 0, .slice none 0 0, .slice none 0 0, .string (bs [])] 61)
  have HX : Hid (¬ One p.block w.heap.size (.cells #[.int .i64 0, .int .i64 0, .slice none 0 0, .slice none 0 0, .slice none 0 0, .string (bs [])] 61 (0, 0))) := fun (e : w.heap.size = p.block) => by have := HB.out; omega
  have hla := hl.alloc (.cells #[.int .i64 0, .int .i64 0, .slice none 0 0, .slice none 0 0, .slice none 0 0, .string (bs [])] 61)
  clear hl
  cases r1 : rdNum l with
  | error c =>
    have HR : Hid (rdSn l = .error c) := rdThen_no r1
    go_enter Try.func157, Try.ntmps157
    go_wp2_with fail
    refine (number_no hla r1).mono ?_
    rintro e w1 ⟨rfl, k1⟩
    go_wp2
    unfold bodyPost RdPost
    rw [HR.out]
    exact ⟨rfl, rfl, (((Kept.refl _ _).alloc _).trans k1)⟩
  | ok x1 =>
  obtain ⟨ix, l1⟩ := x1
  cases r2 : rdNum l1 with
  | error c =>
    have HR : Hid (rdSn l = .error c) := (rdThen_ok r1).trans (rdThen_no r2)
    go_enter Try.func157, Try.ntmps157
    go_wp2_with fail
    refine (number_ok hla r1).mono ?_
    rintro e w1 ⟨rfl, c1, z1, k1⟩
    go_wp2_with fail
    refine (number_no ⟨c1, z1⟩ r2).mono ?_
    rintro e w2 ⟨rfl, k2⟩
    go_wp2
    unfold bodyPost RdPost
    rw [HR.out]
    exact ⟨rfl, rfl, ((((Kept.refl _ _).alloc _).trans k1).trans k2)⟩
  | ok x2 =>
  obtain ⟨tm, l2⟩ := x2
  cases r3 : rdCfg l2 with
  | error c =>
    have HR : Hid (rdSn l = .error c) := (rdThen_ok r1).trans ((rdThen_ok r2).trans (rdThen_no r3))
    go_enter Try.func157, Try.ntmps157
    go_wp2_with fail
    refine (number_ok hla r1).mono ?_
    rintro e w1 ⟨rfl, c1, z1, k1⟩
    go_wp2_with fail
    refine (number_ok ⟨c1, z1⟩ r2).mono ?_
    rintro e w2 ⟨rfl, c2, z2, k2⟩
    go_wp2_with fail
    refine (RdPost.no (rConfig_any p l2 w2 ⟨c2, z2⟩) r3).mono ?_
    rintro e w3 ⟨rfl, k3⟩
    go_wp2
    unfold bodyPost RdPost
    rw [HR.out]
    exact ⟨rfl, rfl, (((((Kept.refl _ _).alloc _).trans k1).trans k2).trans k3)⟩
  | ok x3 =>
  obtain ⟨cf, l3⟩ := x3
  cases r4 : rdText 8192 l3 with
  | error c =>
    have HR : Hid (rdSn l = .error c) := (rdThen_ok r1).trans ((rdThen_ok r2).trans ((rdThen_ok r3).trans (rdThen_no r4)))
    go_enter Try.func157, Try.ntmps157
    go_wp2_with fail
    refine (number_ok hla r1).mono ?_
    rintro e w1 ⟨rfl, c1, z1, k1⟩
    go_wp2_with fail
    refine (number_ok ⟨c1, z1⟩ r2).mono ?_
    rintro e w2 ⟨rfl, c2, z2, k2⟩
    go_wp2_with fail
    refine (RdPost.ok (rConfig_any p l2 w2 ⟨c2, z2⟩) r3).mono ?_
    rintro e w3 ⟨v3, rfl, hv3, c3, z3, k3⟩
    obtain ⟨ao1, ao2, ao3, cp1, cp2, cp3, rfl, o1, o2, o3⟩ := hv3
    have HO3 : Hid (OwnNats (w.heap.size + 1) w3 ao1 cp1 cf.v ∧ OwnNats (w.heap.size + 1) w3 ao2 cp2 cf.n ∧ OwnNats (w.heap.size + 1) w3 ao3 cp3 cf.l) := by { have s1 := k1.size; have s2 := k2.size; have hb : w.heap.size + 1 ≤ w2.heap.size := (by simp at s1; omega); exact ⟨own_mono o1 hb, own_mono o2 hb, own_mono o3 hb⟩ }
    clear o1 o2 o3
    go_wp2_with fail
    refine (text_no ⟨c3, z3⟩ r4).mono ?_
    rintro e w4 ⟨rfl, k4⟩
    go_wp2
    unfold bodyPost RdPost
    rw [HR.out]
    exact ⟨rfl, rfl, ((((((Kept.refl _ _).alloc _).trans k1).trans k2).trans k3).trans k4)⟩
  | ok x4 =>
  obtain ⟨dt, l4⟩ := x4
  have HR : Hid (rdSn l = .ok (⟨ix, tm, cf, dt⟩, l4)) := (rdThen_ok r1).trans ((rdThen_ok r2).trans ((rdThen_ok r3).trans (rdThen_ok r4)))
  go_enter Try.func157, Try.ntmps157
  go_wp2_with fail
  refine (number_ok hla r1).mono ?_
  rintro e w1 ⟨rfl, c1, z1, k1⟩
  go_wp2_with fail
  refine (number_ok ⟨c1, z1⟩ r2).mono ?_
  rintro e w2 ⟨rfl, c2, z2, k2⟩
  go_wp2_with fail
  refine (RdPost.ok (rConfig_any p l2 w2 ⟨c2, z2⟩) r3).mono ?_
  rintro e w3 ⟨v3, rfl, hv3, c3, z3, k3⟩
  obtain ⟨ao1, ao2, ao3, cp1, cp2, cp3, rfl, o1, o2, o3⟩ := hv3
  have HO3 : Hid (OwnNats (w.heap.size + 1) w3 ao1 cp1 cf.v ∧ OwnNats (w.heap.size + 1) w3 ao2 cp2 cf.n ∧ OwnNats (w.heap.size + 1) w3 ao3 cp3 cf.l) := by { have s1 := k1.size; have s2 := k2.size; have hb : w.heap.size + 1 ≤ w2.heap.size := (by simp at s1; omega); exact ⟨own_mono o1 hb, own_mono o2 hb, own_mono o3 hb⟩ }
  clear o1 o2 o3
  go_wp2_with fail
  refine (text_ok ⟨c3, z3⟩ r4).mono ?_
  rintro e w4 ⟨rfl, c4, z4, k4⟩
  have hbr := k4.block _ _ (k3.block _ _ (k2.block _ _ (k1.block _ _ (HN.out) HX.out) HX.out) HX.out) HX.out
  have g0 := blk_at hbr 0 rfl
  have g1 := blk_at hbr 1 rfl
  have g2 := blk_at hbr 2 rfl
  have g3 := blk_at hbr 3 rfl
  have g4 := blk_at hbr 4 rfl
  have g5 := blk_at hbr 5 rfl
  have f0 := blk_free hbr 0
  have f1 := blk_free hbr 1
  have f2 := blk_free hbr 2
  have f3 := blk_free hbr 3
  have f4 := blk_free hbr 4
  have f5 := blk_free hbr 5
  have hkk : Kept (One p.block) w w4 := ((((((Kept.refl _ _).alloc _).trans k1).trans k2).trans k3).trans k4)
  have hln : Left p w4 l4 := ⟨c4, z4⟩
  go_wp2
  refine bodyPost_ret (v := .agg #[.int .i64 ix, .int .i64 tm, .slice ao1 cf.v.length cp1, .slice ao2 cf.n.length cp2, .slice ao3 cf.l.length cp3, .string (bs dt)]) (by simp [results, Try.results157, go_sem, g0, g1, g2, g3, g4, g5]) rfl ?_
  unfold RdPost
  rw [HR.out]
  have hne : p.block ≠ w.heap.size := Nat.ne_of_lt HB.out
  have hXp : ∀ k cs, w.heap.size + 1 ≤ k → ¬ One p.block k (.cells cs 3 (0, 0)) := fun k cs hb hx => by have := HB.out; have : k = p.block := hx; omega
  have Q1 := own_kept HO3.out.1 k4 hXp
  have Q2 := own_kept HO3.out.2.1 k4 hXp
  have Q3 := own_kept HO3.out.2.2 k4 hXp
  exact ⟨⟨_, rfl, ⟨ao1, ao2, ao3, cp1, cp2, cp3, rfl, own_mono (own_setB (own_setB (own_setB (own_setB (own_setB (own_setB Q1 (Nat.lt_succ_self _) _) (Nat.lt_succ_self _) _) (Nat.lt_succ_self _) _) (Nat.lt_succ_self _) _) (Nat.lt_succ_self _) _) (Nat.lt_succ_self _) _) (Nat.le_succ _), own_mono (own_setB (own_setB (own_setB (own_setB (own_setB (own_setB Q2 (Nat.lt_succ_self _) _) (Nat.lt_succ_self _) _) (Nat.lt_succ_self _) _) (Nat.lt_succ_self _) _) (Nat.lt_succ_self _) _) (Nat.lt_succ_self _) _) (Nat.le_succ _), own_mono (own_setB (own_setB (own_setB (own_setB (own_setB (own_setB Q3 (Nat.lt_succ_self _) _) (Nat.lt_succ_self _) _) (Nat.lt_succ_self _) _) (Nat.lt_succ_self _) _) (Nat.lt_succ_self _) _) (Nat.lt_succ_self _) _) (Nat.le_succ _)⟩⟩, ((((((hln.other hne _).other hne _).other hne _).other hne _).other hne _).other hne _), ((((((hkk.setNew (Nat.le_refl _) _).setNew (Nat.le_refl _) _).setNew (Nat.le_refl _) _).setNew (Nat.le_refl _) _).setNew (Nat.le_refl _) _).setNew (Nat.le_refl _) _)⟩

end Go.Proofs.Ytijklginabipgaa

namespace Go.Proofs.Ytijklginabipgaa
open Go.RowKit

def Sn.ok (x : Sn) : Bool := snOk x.ix x.tm (intsOf x.c.v) (intsOf x.c.n) (intsOf x.c.l) x.dt
def rdSnap (l : List UInt8) : Except Int (Sn × List UInt8) := rdThen (rdSn l) fun x l => if x.ok then .ok (x, l) else .error 6
theorem isSnapN_any (x : Sn) (c1 c2 c3 : Nat) (a1 a2 a3 : Option Addr) (w : World) (h : CfRows w.heap.size w a1 a2 a3 (intsOf x.c.v) (intsOf x.c.n) (intsOf x.c.l)) (h1 : x.c.v.length ≤ 9223372036854775807) (h2 : x.c.n.length ≤ 9223372036854775807) (h3 : x.c.l.length ≤ 9223372036854775807) (hd : x.dt.length ≤ 9223372036854775807) :
    Calls Try.prog 102 #[.agg #[.int .i64 x.ix, .int .i64 x.tm, .slice a1 x.c.v.length c1, .slice a2 x.c.n.length c2, .slice a3 x.c.l.length c3, .string (bs x.dt)]] w fun e w' => e = .returned (.bool x.ok) ∧ Kept Nil w w' := by
  have H := isSnapshot_any x.ix x.tm w.heap.size c1 c2 c3 a1 a2 a3 (intsOf x.c.v) (intsOf x.c.n) (intsOf x.c.l) x.dt w h (by rw [intsOf_len]; omega) (by rw [intsOf_len]; omega) (by rw [intsOf_len]; omega) (by unfold maxLen; omega)
  rw [intsOf_len, intsOf_len, intsOf_len] at H
  exact H
theorem refIsSnapN_any (x : Sn) (c1 c2 c3 : Nat) (a1 a2 a3 : Option Addr) (w : World) (h : CfRows w.heap.size w a1 a2 a3 (intsOf x.c.v) (intsOf x.c.n) (intsOf x.c.l)) (h1 : x.c.v.length ≤ 9223372036854775807) (h2 : x.c.n.length ≤ 9223372036854775807) (h3 : x.c.l.length ≤ 9223372036854775807) (hd : x.dt.length ≤ 9223372036854775807) :
    Calls Try.prog 96 #[.agg #[.int .i64 x.ix, .int .i64 x.tm, .slice a1 x.c.v.length c1, .slice a2 x.c.n.length c2, .slice a3 x.c.l.length c3, .string (bs x.dt)]] w fun e w' => e = .returned (.bool x.ok) ∧ Kept Nil w w' := by
  have H := refIsSnapshot_any x.ix x.tm w.heap.size c1 c2 c3 a1 a2 a3 (intsOf x.c.v) (intsOf x.c.n) (intsOf x.c.l) x.dt w h (by rw [intsOf_len]; omega) (by rw [intsOf_len]; omega) (by rw [intsOf_len]; omega) (by unfold maxLen; omega)
  rw [intsOf_len, intsOf_len, intsOf_len] at H
  exact H
theorem rdSn_len {l t : List UInt8} {x : Sn} (h : rdSn l = .ok (x, t)) : x.dt.length ≤ 8192 := by
  unfold rdSn at h
  cases r1 : rdNum l with
  | error e => rw [rdThen_no r1] at h; cases h
  | ok x1 =>
    obtain ⟨y1, l1⟩ := x1
    rw [rdThen_ok r1] at h
    cases r2 : rdNum l1 with
    | error e => rw [rdThen_no r2] at h; cases h
    | ok x2 =>
      obtain ⟨y2, l2⟩ := x2
      rw [rdThen_ok r2] at h
      cases r3 : rdCfg l2 with
      | error e => rw [rdThen_no r3] at h; cases h
      | ok x3 =>
        obtain ⟨y3, l3⟩ := x3
        rw [rdThen_ok r3] at h
        cases r4 : rdText 8192 l3 with
        | error e => rw [rdThen_no r4] at h; cases h
        | ok x4 =>
          obtain ⟨y4, l4⟩ := x4
          rw [rdThen_ok r4] at h
          simp only [Except.ok.injEq, Prod.mk.injEq] at h
          rw [← h.1]
          exact rdText_le r4

set_option maxRecDepth 100000 in
set_option maxHeartbeats 4000000 in
theorem rWhole_any (p : Addr) (l : List UInt8) (w : World) (hl : Left p w l) :
    Calls Try.prog 105 #[.pointer (some p)] w (RdPost p w (rdSnap l) (SnV w.heap.size)) := by
  have HB : Hid (p.block < w.heap.size) := cell_lt hl.cell
  have HN : Hid (_) := blk_new w (.cells #[.int .i64 0, .int .i64 0, .slice none 0 0, .slice none 0 0, .slice none 0 0, .string (bs [])] 61)
  have HX : Hid (¬ One p.block w.heap.size (.cells #[.int .i64 0, .int .i64 0, .slice none 0 0, .slice none 0 0, .slice none 0 0, .string (bs [])] 61 (0, 0))) := fun (e : w.heap.size = p.block) => by have := HB.out; omega
  have hla := hl.alloc (.cells #[.int .i64 0, .int .i64 0, .slice none 0 0, .slice none 0 0, .slice none 0 0, .string (bs [])] 61)
  clear hl
  cases r1 : rdSn l with
  | error c =>
    have HR : Hid (rdSnap l = .error c) := rdThen_no r1
    go_enter Try.func105, Try.ntmps105
    go_wp2_with fail
    refine (RdPost.no (rSnapshot_any p l _ hla) r1).mono ?_
    rintro e w1 ⟨rfl, k1⟩
    go_wp2
    unfold bodyPost RdPost
    rw [HR.out]
    exact ⟨rfl, rfl, (((Kept.refl _ _).alloc _).trans k1)⟩
  | ok x1 =>
  obtain ⟨x, l1⟩ := x1
  have HI := fun w b1 b2 b3 d1 d2 d3 hr g1 g2 g3 => isSnapN_any x d1 d2 d3 b1 b2 b3 w hr g1 g2 g3 (by have := rdSn_len r1; omega)
  cases hok : x.ok with
  | false =>
    rw [hok] at HI
    have HR : Hid (rdSnap l = .error 6) := (rdThen_ok r1).trans (if_neg (by rw [hok]; decide))
    clear hok
    go_enter Try.func105, Try.ntmps105
    go_wp2_with fail
    refine (RdPost.ok (rSnapshot_any p l _ hla) r1).mono ?_
    rintro e w1 ⟨v1, rfl, hv1, c1, z1, k1⟩
    obtain ⟨ao1, ao2, ao3, cp1, cp2, cp3, rfl, o1, o2, o3⟩ := hv1
    have HO1 : Hid (OwnNats (w.heap.size + 1) w1 ao1 cp1 x.c.v ∧ OwnNats (w.heap.size + 1) w1 ao2 cp2 x.c.n ∧ OwnNats (w.heap.size + 1) w1 ao3 cp3 x.c.l) := ⟨own_mono o1 (by simp), own_mono o2 (by simp), own_mono o3 (by simp)⟩
    clear o1 o2 o3
    have hkk : Kept (One p.block) w w1 := (((Kept.refl _ _).alloc _).trans k1)
    go_wp2_with fail
    refine (HI _ _ _ _ _ _ _ (cf_rows (World.ownsRow.alloc HO1.out.1 _) (World.ownsRow.alloc HO1.out.2.1 _) (World.ownsRow.alloc HO1.out.2.2 _)) (own_len HO1.out.1) (own_len HO1.out.2.1) (own_len HO1.out.2.2)).mono ?_
    rintro e wi ⟨rfl, ki⟩
    go_wp2_with (go_at_call 145; go_must (refine (must_no _ _).mono ?_); rintro e w99 ⟨rfl, rfl⟩)
    unfold bodyPost RdPost
    rw [HR.out]
    exact ⟨rfl, rfl, (hkk.alloc _).trans (ki.mono (fun _ _ x => x.elim))⟩
  | true =>
    rw [hok] at HI
    have HR : Hid (rdSnap l = .ok (x, l1)) := (rdThen_ok r1).trans (if_pos hok)
    clear hok
    go_enter Try.func105, Try.ntmps105
    go_wp2_with fail
    refine (RdPost.ok (rSnapshot_any p l _ hla) r1).mono ?_
    rintro e w1 ⟨v1, rfl, hv1, c1, z1, k1⟩
    obtain ⟨ao1, ao2, ao3, cp1, cp2, cp3, rfl, o1, o2, o3⟩ := hv1
    have HO1 : Hid (OwnNats (w.heap.size + 1) w1 ao1 cp1 x.c.v ∧ OwnNats (w.heap.size + 1) w1 ao2 cp2 x.c.n ∧ OwnNats (w.heap.size + 1) w1 ao3 cp3 x.c.l) := ⟨own_mono o1 (by simp), own_mono o2 (by simp), own_mono o3 (by simp)⟩
    clear o1 o2 o3
    have HNn : Hid (_) := k1.block _ _ (HN.out) HX.out
    have hkk : Kept (One p.block) w w1 := (((Kept.refl _ _).alloc _).trans k1)
    have hln : Left p w1 l1 := ⟨c1, z1⟩
    go_wp2_with fail
    refine (HI _ _ _ _ _ _ _ (cf_rows (World.ownsRow.alloc HO1.out.1 _) (World.ownsRow.alloc HO1.out.2.1 _) (World.ownsRow.alloc HO1.out.2.2 _)) (own_len HO1.out.1) (own_len HO1.out.2.1) (own_len HO1.out.2.2)).mono ?_
    rintro e wi ⟨rfl, ki⟩
    have hq := ki.block _ _ (blk_new w1 _) (fun x => x.elim)
    have hbr := ki.block _ _ (blk_past HNn.out _) (fun x => x.elim)
    have q0 := blk_at hq 0 rfl
    have q1 := blk_at hq 1 rfl
    have q2 := blk_at hq 2 rfl
    have q3 := blk_at hq 3 rfl
    have q4 := blk_at hq 4 rfl
    have q5 := blk_at hq 5 rfl
    have g0 := blk_at hbr 0 rfl
    have g1 := blk_at hbr 1 rfl
    have g2 := blk_at hbr 2 rfl
    have g3 := blk_at hbr 3 rfl
    have g4 := blk_at hbr 4 rfl
    have g5 := blk_at hbr 5 rfl
    have f0 := blk_free hbr 0
    have f1 := blk_free hbr 1
    have f2 := blk_free hbr 2
    have f3 := blk_free hbr 3
    have f4 := blk_free hbr 4
    have f5 := blk_free hbr 5
    go_wp2_with (go_at_call 145; go_must (refine (must_ok _ _).mono ?_); rintro e w99 ⟨rfl, rfl⟩)
    go_wp2
    refine bodyPost_ret (v := .agg #[.int .i64 x.ix, .int .i64 x.tm, .slice ao1 x.c.v.length cp1, .slice ao2 x.c.n.length cp2, .slice ao3 x.c.l.length cp3, .string (bs x.dt)]) (by simp [results, Try.results105, go_sem, g0, g1, g2, g3, g4, g5]) rfl ?_
    unfold RdPost
    rw [HR.out]
    have hl9 : Left p w99 l1 := (hln.alloc _).kept ki
    have hk9 : Kept (One p.block) w w99 := (hkk.alloc _).trans (ki.mono (fun _ _ x => x.elim))
    have hne : p.block ≠ w.heap.size := Nat.ne_of_lt HB.out
    have Q1 : OwnNats (w.heap.size + 1) w99 ao1 cp1 x.c.v := own_kept (World.ownsRow.alloc HO1.out.1 _) ki (fun _ _ _ x => x.elim)
    have Q2 : OwnNats (w.heap.size + 1) w99 ao2 cp2 x.c.n := own_kept (World.ownsRow.alloc HO1.out.2.1 _) ki (fun _ _ _ x => x.elim)
    have Q3 : OwnNats (w.heap.size + 1) w99 ao3 cp3 x.c.l := own_kept (World.ownsRow.alloc HO1.out.2.2 _) ki (fun _ _ _ x => x.elim)
    exact ⟨⟨_, rfl, ⟨ao1, ao2, ao3, cp1, cp2, cp3, rfl, own_mono (own_setB (own_setB (own_setB (own_setB (own_setB (own_setB Q1 (Nat.lt_succ_self _) _) (Nat.lt_succ_self _) _) (Nat.lt_succ_self _) _) (Nat.lt_succ_self _) _) (Nat.lt_succ_self _) _) (Nat.lt_succ_self _) _) (Nat.le_succ _), own_mono (own_setB (own_setB (own_setB (own_setB (own_setB (own_setB Q2 (Nat.lt_succ_self _) _) (Nat.lt_succ_self _) _) (Nat.lt_succ_self _) _) (Nat.lt_succ_self _) _) (Nat.lt_succ_self _) _) (Nat.lt_succ_self _) _) (Nat.le_succ _), own_mono (own_setB (own_setB (own_setB (own_setB (own_setB (own_setB Q3 (Nat.lt_succ_self _) _) (Nat.lt_succ_self _) _) (Nat.lt_succ_self _) _) (Nat.lt_succ_self _) _) (Nat.lt_succ_self _) _) (Nat.lt_succ_self _) _) (Nat.le_succ _)⟩⟩, ((((((hl9.other hne _).other hne _).other hne _).other hne _).other hne _).other hne _), ((((((hk9.setNew (Nat.le_refl _) _).setNew (Nat.le_refl _) _).setNew (Nat.le_refl _) _).setNew (Nat.le_refl _) _).setNew (Nat.le_refl _) _).setNew (Nat.le_refl _) _)⟩

end Go.Proofs.Ytijklginabipgaa

/-
  Messages, plainly: which may be, as a reader makes them; read, and written.
-/
namespace Go.Proofs.Ytijklginabipgaa
open Go.RowKit

def Sn.zero : Sn := ⟨0, 0, ⟨[], [], []⟩, []⟩
/-- A message, plainly. -/
structure Mg where
  kd : Nat
  fr : Nat
  td : Nat
  tm : Nat
  ix : Nat
  lg : Nat
  cm : Nat
  es : List En
  sn : Sn
  rj : Bool
  hn : Nat
  cx : Nat
def Mg.head (kd fr td tm : Nat) : Mg := ⟨kd, fr, td, tm, 0, 0, 0, [], Sn.zero, false, 0, 0⟩
/-- Entries that could stand behind an index and a term, in a log of a term. -/
def followB (mt : Int) : Int → Int → List En → Bool
  | _, _, [] => true
  | ix, tm, e :: es => e.ok && (e.ix == ix + 1) && decide (tm ≤ e.tm) && decide (e.tm ≤ mt) && followB mt e.ix e.tm es
def fitsB (m : Mg) : Bool :=
  if m.kd = 5 then decide (m.lg ≤ m.tm) && (decide (m.es.length ≤ 8) && followB m.tm m.ix m.lg m.es) && ((m.ix == 0) == (m.lg == 0))
  else if m.kd = 1 ∨ m.kd = 3 then ((m.ix == 0) == (m.lg == 0))
  else if m.kd = 7 then m.sn.ok && decide (m.sn.tm ≤ m.tm)
  else if m.kd = 2 ∨ m.kd = 4 ∨ m.kd = 6 then true else false
def headB (m : Mg) : Bool := isNd m.fr && isNd m.td && !(m.fr == m.td) && !((m.tm == 0) && (!(m.kd == 2) || !m.rj))
def Mg.ok (m : Mg) : Bool := headB m && fitsB m
/-- What a reader reads of a kind. -/
def rdBody (kd fr td tm : Nat) (l : List UInt8) : Except Int (Mg × List UInt8) :=
  if kd = 1 ∨ kd = 3 then rdThen (rdNum l) fun ix l => rdThen (rdNum l) fun lg l => .ok ({ Mg.head kd fr td tm with ix := ix, lg := lg }, l)
  else if kd = 2 ∨ kd = 4 then rdThen (rdFlag l) fun rj l => .ok ({ Mg.head kd fr td tm with rj := rj }, l)
  else if kd = 5 then rdThen (rdNum l) fun ix l => rdThen (rdNum l) fun lg l => rdThen (rdNum l) fun cm l => rdThen (rdNum l) fun cx l => rdThen (rdEns 8 l) fun es l => .ok ({ Mg.head kd fr td tm with ix := ix, lg := lg, cm := cm, cx := cx, es := es }, l)
  else if kd = 6 then rdThen (rdNum l) fun ix l => rdThen (rdFlag l) fun rj l => rdThen (rdNum l) fun hn l => rdThen (rdNum l) fun cx l => .ok ({ Mg.head kd fr td tm with ix := ix, rj := rj, hn := hn, cx := cx }, l)
  else if kd = 7 then rdThen (rdNum l) fun cx l => rdThen (rdSn l) fun sn l => .ok ({ Mg.head kd fr td tm with cx := cx, sn := sn }, l)
  else .ok (Mg.head kd fr td tm, l)
def rdMsg (l : List UInt8) : Except Int (Mg × List UInt8) :=
  rdThen (rdNum l) fun kd l => rdThen (rdNum l) fun fr l => rdThen (rdNum l) fun td l => rdThen (rdNum l) fun tm l =>
  rdThen (rdBody kd fr td tm l) fun m l => if m.ok then .ok (m, l) else .error 7
/-- As bytes. -/
def encBody (m : Mg) : List UInt8 :=
  if m.kd = 1 ∨ m.kd = 3 then encAll [m.ix, m.lg]
  else if m.kd = 2 ∨ m.kd = 4 then encFlag m.rj
  else if m.kd = 5 then encAll [m.ix, m.lg, m.cm, m.cx] ++ encList encEn m.es
  else if m.kd = 6 then enc m.ix ++ encFlag m.rj ++ encAll [m.hn, m.cx]
  else if m.kd = 7 then enc m.cx ++ encSnap m.sn.ix m.sn.tm m.sn.c.v m.sn.c.n m.sn.c.l m.sn.dt
  else []
def encMsg (m : Mg) : List UInt8 := encAll [m.kd, m.fr, m.td, m.tm] ++ encBody m

theorem rdNum_max {l t : List UInt8} {n : Nat} (h : rdNum l = .ok (n, t)) : n ≤ 1099511627775 := by have := (rdNum_ok h).1; unfold maxNum at this; exact this

end Go.Proofs.Ytijklginabipgaa
