/-
  A configuration read by the program's reader.
-/
import Derived.Test.YtcbeonhohbgnmaaWCfg6
namespace Go.Proofs.Ytcbeonhohbgnmaa
open Go.RowKit

/-- A configuration, plainly: its three rows. -/
structure Cf where
  v : List Nat
  n : List Nat
  l : List Nat
def Cf.ok (c : Cf) : Bool := isCfg (intsOf c.v) (intsOf c.n) (intsOf c.l)
def rdCfgEnd (c : Cf) (l : List UInt8) : Except Int (Cf × List UInt8) := if c.ok then .ok (c, l) else .error 8
def rdCfg (l : List UInt8) : Except Int (Cf × List UInt8) := rdThen (rdNums 9 l) fun v l => rdThen (rdNums 9 l) fun n l => rdThen (rdNums 9 l) fun ls l => rdCfgEnd ⟨v, n, ls⟩ l
/-- A configuration whose rows are its own, behind block B. -/
def CfV (B : Nat) : Cf → World → Value → Prop := fun c w v => ∃ a1 a2 a3 c1 c2 c3, v = .agg #[.slice a1 c.v.length c1, .slice a2 c.n.length c2, .slice a3 c.l.length c3] ∧ OwnNats B w a1 c1 c.v ∧ OwnNats B w a2 c2 c.n ∧ OwnNats B w a3 c3 c.l

theorem rdNums_len {most : Nat} {l t : List UInt8} {ns : List Nat} (h : rdNums most l = .ok (ns, t)) : ns.length ≤ most := by
  unfold rdNums at h
  cases r1 : rdUpTo most l with
  | error c => rw [rdThen_no r1] at h; cases h
  | ok x =>
    obtain ⟨n, l1⟩ := x
    rw [rdThen_ok r1] at h
    rw [rdTimes_len h]
    exact (rdUpTo_ok r1).1
theorem validN_any (c1 c2 c3 : Nat) (a1 a2 a3 : Option Addr) (v n l : List Nat) (w : World) (h : CfRows w.heap.size w a1 a2 a3 (intsOf v) (intsOf n) (intsOf l)) (h1 : v.length ≤ 9223372036854775807) (h2 : n.length ≤ 9223372036854775807) (h3 : l.length ≤ 9223372036854775807) :
    Calls Try.prog 117 #[.agg #[.slice a1 v.length c1, .slice a2 n.length c2, .slice a3 l.length c3]] w fun e w' => e = .returned (.bool (Cf.ok ⟨v, n, l⟩)) ∧ Kept Nil w w' := by
  have H := valid_any w.heap.size c1 c2 c3 a1 a2 a3 (intsOf v) (intsOf n) (intsOf l) w h (by rw [intsOf_len]; omega) (by rw [intsOf_len]; omega) (by rw [intsOf_len]; omega)
  rw [intsOf_len, intsOf_len, intsOf_len] at H
  exact H
theorem refIsConfigN_any (c1 c2 c3 : Nat) (a1 a2 a3 : Option Addr) (v n l : List Nat) (w : World) (h : CfRows w.heap.size w a1 a2 a3 (intsOf v) (intsOf n) (intsOf l)) (h1 : v.length ≤ 9223372036854775807) (h2 : n.length ≤ 9223372036854775807) (h3 : l.length ≤ 9223372036854775807) :
    Calls Try.prog 120 #[.agg #[.slice a1 v.length c1, .slice a2 n.length c2, .slice a3 l.length c3]] w fun e w' => e = .returned (.bool (Cf.ok ⟨v, n, l⟩)) ∧ Kept Nil w w' := by
  have H := refIsConfig_any w.heap.size c1 c2 c3 a1 a2 a3 (intsOf v) (intsOf n) (intsOf l) w h (by rw [intsOf_len]; omega) (by rw [intsOf_len]; omega) (by rw [intsOf_len]; omega)
  rw [intsOf_len, intsOf_len, intsOf_len] at H
  exact H
theorem own_len {B c : Nat} {w : World} {ao : Option Addr} {ns : List Nat} (h : OwnNats B w ao c ns) : ns.length ≤ 9223372036854775807 := by
  rcases h.2 with ⟨_, h0⟩ | ⟨g, cap, cur, _, _, _, h1, h2, _⟩
  · omega
  · unfold maxLen at h2; omega
theorem cf_rows {B c1 c2 c3 : Nat} {w : World} {a1 a2 a3 : Option Addr} {v n l : List Nat} (h1 : OwnNats B w a1 c1 v) (h2 : OwnNats B w a2 c2 n) (h3 : OwnNats B w a3 c3 l) : CfRows w.heap.size w a1 a2 a3 (intsOf v) (intsOf n) (intsOf l) := ⟨nats_row h1, nats_row h2, nats_row h3⟩

set_option maxRecDepth 100000 in
set_option maxHeartbeats 4000000 in
theorem rConfig_any (p : Addr) (l : List UInt8) (w : World) (hl : Left p w l) :
    Calls Try.prog 123 #[.pointer (some p)] w (RdPost p w (rdCfg l) (CfV w.heap.size)) := by
  have HB : Hid (p.block < w.heap.size) := cell_lt hl.cell
  have HN : Hid (_) := blk_new w (.cells #[.slice none 0 0, .slice none 0 0, .slice none 0 0] 50)
  have HX : Hid (¬ One p.block w.heap.size (.cells #[.slice none 0 0, .slice none 0 0, .slice none 0 0] 50 (0, 0))) := fun (e : w.heap.size = p.block) => by have := HB.out; omega
  have hla := hl.alloc (.cells #[.slice none 0 0, .slice none 0 0, .slice none 0 0] 50)
  clear hl
  cases r1 : rdNums 9 l with
  | error c =>
    have HR : Hid (rdCfg l = .error c) := rdThen_no r1
    go_enter Try.func123, Try.ntmps123
    go_wp2_with fail
    refine (RdPost.no (rNodes_any p l _ hla) r1).mono ?_
    rintro e w1 ⟨rfl, k1⟩
    go_wp2
    unfold bodyPost RdPost
    rw [HR.out]
    exact ⟨rfl, rfl, (((Kept.refl _ _).alloc _).trans k1)⟩
  | ok x1 =>
  obtain ⟨vs, l1⟩ := x1
  cases r2 : rdNums 9 l1 with
  | error c =>
    have HR : Hid (rdCfg l = .error c) := (rdThen_ok r1).trans (rdThen_no r2)
    go_enter Try.func123, Try.ntmps123
    go_wp2_with fail
    refine (RdPost.ok (rNodes_any p l _ hla) r1).mono ?_
    rintro e w1 ⟨v1, rfl, hv1, c1, z1, k1⟩
    obtain ⟨ao1, cp1, rfl, ho1⟩ := hv1
    have HO1 : Hid (OwnNats (w.heap.size + 1) w1 ao1 cp1 vs) := own_mono ho1 (by simp)
    clear ho1
    go_wp2_with fail
    refine (RdPost.no (rNodes_any p l1 w1 ⟨c1, z1⟩) r2).mono ?_
    rintro e w2 ⟨rfl, k2⟩
    go_wp2
    unfold bodyPost RdPost
    rw [HR.out]
    exact ⟨rfl, rfl, ((((Kept.refl _ _).alloc _).trans k1).trans k2)⟩
  | ok x2 =>
  obtain ⟨nx, l2⟩ := x2
  cases r3 : rdNums 9 l2 with
  | error c =>
    have HR : Hid (rdCfg l = .error c) := (rdThen_ok r1).trans ((rdThen_ok r2).trans (rdThen_no r3))
    go_enter Try.func123, Try.ntmps123
    go_wp2_with fail
    refine (RdPost.ok (rNodes_any p l _ hla) r1).mono ?_
    rintro e w1 ⟨v1, rfl, hv1, c1, z1, k1⟩
    obtain ⟨ao1, cp1, rfl, ho1⟩ := hv1
    have HO1 : Hid (OwnNats (w.heap.size + 1) w1 ao1 cp1 vs) := own_mono ho1 (by simp)
    clear ho1
    go_wp2_with fail
    refine (RdPost.ok (rNodes_any p l1 w1 ⟨c1, z1⟩) r2).mono ?_
    rintro e w2 ⟨v2, rfl, hv2, c2, z2, k2⟩
    obtain ⟨ao2, cp2, rfl, ho2⟩ := hv2
    have HO2 : Hid (OwnNats (w.heap.size + 1) w2 ao2 cp2 nx) := own_mono ho2 (by have := k1.size; simp at *; omega)
    clear ho2
    go_wp2_with fail
    refine (RdPost.no (rNodes_any p l2 w2 ⟨c2, z2⟩) r3).mono ?_
    rintro e w3 ⟨rfl, k3⟩
    go_wp2
    unfold bodyPost RdPost
    rw [HR.out]
    exact ⟨rfl, rfl, (((((Kept.refl _ _).alloc _).trans k1).trans k2).trans k3)⟩
  | ok x3 =>
  obtain ⟨ls, l3⟩ := x3
  have HI := fun w a1 a2 a3 c1 c2 c3 hr => validN_any c1 c2 c3 a1 a2 a3 vs nx ls w hr (by have := rdNums_len r1; omega) (by have := rdNums_len r2; omega) (by have := rdNums_len r3; omega)
  cases hok : Cf.ok ⟨vs, nx, ls⟩ with
  | false =>
    rw [hok] at HI
    have HR : Hid (rdCfg l = .error 8) := (rdThen_ok r1).trans ((rdThen_ok r2).trans ((rdThen_ok r3).trans (if_neg (by rw [hok]; decide))))
    clear hok
    go_enter Try.func123, Try.ntmps123
    go_wp2_with fail
    refine (RdPost.ok (rNodes_any p l _ hla) r1).mono ?_
    rintro e w1 ⟨v1, rfl, hv1, c1, z1, k1⟩
    obtain ⟨ao1, cp1, rfl, ho1⟩ := hv1
    have HO1 : Hid (OwnNats (w.heap.size + 1) w1 ao1 cp1 vs) := own_mono ho1 (by simp)
    clear ho1
    go_wp2_with fail
    refine (RdPost.ok (rNodes_any p l1 w1 ⟨c1, z1⟩) r2).mono ?_
    rintro e w2 ⟨v2, rfl, hv2, c2, z2, k2⟩
    obtain ⟨ao2, cp2, rfl, ho2⟩ := hv2
    have HO2 : Hid (OwnNats (w.heap.size + 1) w2 ao2 cp2 nx) := own_mono ho2 (by have := k1.size; simp at *; omega)
    clear ho2
    go_wp2_with fail
    refine (RdPost.ok (rNodes_any p l2 w2 ⟨c2, z2⟩) r3).mono ?_
    rintro e w3 ⟨v3, rfl, hv3, c3, z3, k3⟩
    obtain ⟨ao3, cp3, rfl, ho3⟩ := hv3
    have HO3 : Hid (OwnNats (w.heap.size + 1) w3 ao3 cp3 ls) := own_mono ho3 (by have := k1.size; have := k2.size; simp at *; omega)
    clear ho3
    have hXp : ∀ k cs, w.heap.size + 1 ≤ k → ¬ One p.block k (.cells cs 3 (0, 0)) := fun k cs hb hx => by have := HB.out; have : k = p.block := hx; omega
    have P1 : Hid (OwnNats (w.heap.size + 1) w3 ao1 cp1 vs) := own_kept (own_kept HO1.out k2 hXp) k3 hXp
    have P2 : Hid (OwnNats (w.heap.size + 1) w3 ao2 cp2 nx) := own_kept HO2.out k3 hXp
    have P3 : Hid (OwnNats (w.heap.size + 1) w3 ao3 cp3 ls) := HO3.out
    clear hXp
    have hkk : Kept (One p.block) w w3 := (((((Kept.refl _ _).alloc _).trans k1).trans k2).trans k3)
    go_wp2_with fail
    refine (HI _ _ _ _ _ _ _ (cf_rows (World.ownsRow.alloc P1.out _) (World.ownsRow.alloc P2.out _) (World.ownsRow.alloc P3.out _))).mono ?_
    rintro e wi ⟨rfl, ki⟩
    go_wp2_with (go_at_call 170; go_must (refine (must_no _ _).mono ?_); rintro e w99 ⟨rfl, rfl⟩)
    unfold bodyPost RdPost
    rw [HR.out]
    exact ⟨rfl, rfl, (hkk.alloc _).trans (ki.mono (fun _ _ x => x.elim))⟩
  | true =>
    rw [hok] at HI
    have HR : Hid (rdCfg l = .ok (⟨vs, nx, ls⟩, l3)) := (rdThen_ok r1).trans ((rdThen_ok r2).trans ((rdThen_ok r3).trans (if_pos hok)))
    clear hok
    go_enter Try.func123, Try.ntmps123
    go_wp2_with fail
    refine (RdPost.ok (rNodes_any p l _ hla) r1).mono ?_
    rintro e w1 ⟨v1, rfl, hv1, c1, z1, k1⟩
    obtain ⟨ao1, cp1, rfl, ho1⟩ := hv1
    have HO1 : Hid (OwnNats (w.heap.size + 1) w1 ao1 cp1 vs) := own_mono ho1 (by simp)
    clear ho1
    go_wp2_with fail
    refine (RdPost.ok (rNodes_any p l1 w1 ⟨c1, z1⟩) r2).mono ?_
    rintro e w2 ⟨v2, rfl, hv2, c2, z2, k2⟩
    obtain ⟨ao2, cp2, rfl, ho2⟩ := hv2
    have HO2 : Hid (OwnNats (w.heap.size + 1) w2 ao2 cp2 nx) := own_mono ho2 (by have := k1.size; simp at *; omega)
    clear ho2
    go_wp2_with fail
    refine (RdPost.ok (rNodes_any p l2 w2 ⟨c2, z2⟩) r3).mono ?_
    rintro e w3 ⟨v3, rfl, hv3, c3, z3, k3⟩
    obtain ⟨ao3, cp3, rfl, ho3⟩ := hv3
    have HO3 : Hid (OwnNats (w.heap.size + 1) w3 ao3 cp3 ls) := own_mono ho3 (by have := k1.size; have := k2.size; simp at *; omega)
    clear ho3
    have hXp : ∀ k cs, w.heap.size + 1 ≤ k → ¬ One p.block k (.cells cs 3 (0, 0)) := fun k cs hb hx => by have := HB.out; have : k = p.block := hx; omega
    have P1 : Hid (OwnNats (w.heap.size + 1) w3 ao1 cp1 vs) := own_kept (own_kept HO1.out k2 hXp) k3 hXp
    have P2 : Hid (OwnNats (w.heap.size + 1) w3 ao2 cp2 nx) := own_kept HO2.out k3 hXp
    have P3 : Hid (OwnNats (w.heap.size + 1) w3 ao3 cp3 ls) := HO3.out
    clear hXp
    have HNn : Hid (_) := k3.block _ _ (k2.block _ _ (k1.block _ _ (HN.out) HX.out) HX.out) HX.out
    have hkk : Kept (One p.block) w w3 := (((((Kept.refl _ _).alloc _).trans k1).trans k2).trans k3)
    have hln : Left p w3 l3 := ⟨c3, z3⟩
    go_wp2_with fail
    refine (HI _ _ _ _ _ _ _ (cf_rows (World.ownsRow.alloc P1.out _) (World.ownsRow.alloc P2.out _) (World.ownsRow.alloc P3.out _))).mono ?_
    rintro e wi ⟨rfl, ki⟩
    have hq := ki.block _ _ (blk_new w3 _) (fun x => x.elim)
    have hbr := ki.block _ _ (blk_past HNn.out _) (fun x => x.elim)
    have q0 := blk_at hq 0 rfl
    have q1 := blk_at hq 1 rfl
    have q2 := blk_at hq 2 rfl
    have g0 := blk_at hbr 0 rfl
    have g1 := blk_at hbr 1 rfl
    have g2 := blk_at hbr 2 rfl
    have f0 := blk_free hbr 0
    have f1 := blk_free hbr 1
    have f2 := blk_free hbr 2
    go_wp2_with (go_at_call 170; go_must (refine (must_ok _ _).mono ?_); rintro e w99 ⟨rfl, rfl⟩)
    go_wp2
    refine bodyPost_ret (v := .agg #[.slice ao1 vs.length cp1, .slice ao2 nx.length cp2, .slice ao3 ls.length cp3]) (by simp [results, Try.results123, go_sem, g0, g1, g2]) rfl ?_
    unfold RdPost
    rw [HR.out]
    have hl9 : Left p w99 l3 := (hln.alloc _).kept ki
    have hk9 : Kept (One p.block) w w99 := (hkk.alloc _).trans (ki.mono (fun _ _ x => x.elim))
    have hne : p.block ≠ w.heap.size := Nat.ne_of_lt HB.out
    have Q1 : OwnNats (w.heap.size + 1) w99 ao1 cp1 vs := own_kept (World.ownsRow.alloc P1.out _) ki (fun _ _ _ x => x.elim)
    have Q2 : OwnNats (w.heap.size + 1) w99 ao2 cp2 nx := own_kept (World.ownsRow.alloc P2.out _) ki (fun _ _ _ x => x.elim)
    have Q3 : OwnNats (w.heap.size + 1) w99 ao3 cp3 ls := own_kept (World.ownsRow.alloc P3.out _) ki (fun _ _ _ x => x.elim)
    exact ⟨⟨_, rfl, ⟨ao1, ao2, ao3, cp1, cp2, cp3, rfl, own_mono (ownsRow_setCell_below (ownsRow_setCell_below (ownsRow_setCell_below Q1 (Nat.lt_succ_self _) _) (Nat.lt_succ_self _) _) (Nat.lt_succ_self _) _) (Nat.le_succ _), own_mono (ownsRow_setCell_below (ownsRow_setCell_below (ownsRow_setCell_below Q2 (Nat.lt_succ_self _) _) (Nat.lt_succ_self _) _) (Nat.lt_succ_self _) _) (Nat.le_succ _), own_mono (ownsRow_setCell_below (ownsRow_setCell_below (ownsRow_setCell_below Q3 (Nat.lt_succ_self _) _) (Nat.lt_succ_self _) _) (Nat.lt_succ_self _) _) (Nat.le_succ _)⟩⟩, (((hl9.other hne _).other hne _).other hne _), (((hk9.setNew (Nat.le_refl _) _).setNew (Nat.le_refl _) _).setNew (Nat.le_refl _) _)⟩

end Go.Proofs.Ytcbeonhohbgnmaa
