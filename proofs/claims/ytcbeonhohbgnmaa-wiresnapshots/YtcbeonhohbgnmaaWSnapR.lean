/-
  A snapshot read by the program's reader (its configuration alone is judged).
  A whole snapshot read by the program's reader.
-/
import Derived.Test.YtcbeonhohbgnmaaWSnap1
import Derived.Test.YtcbeonhohbgnmaaWCfg9
namespace Go.Proofs.Ytcbeonhohbgnmaa
open Go.RowKit

/-- A snapshot, plainly. -/
structure Sn where
  ix : Nat
  tm : Nat
  c : Cf
  dt : List UInt8
def rdSn (l : List UInt8) : Except Int (Sn × List UInt8) := rdThen (rdNum l) fun ix l => rdThen (rdNum l) fun tm l => rdThen (rdCfg l) fun c l => rdThen (rdText 8192 l) fun dt l => .ok (⟨ix, tm, c, dt⟩, l)
def SnV (B : Nat) : Sn → World → Value → Prop := fun x w v => ∃ a1 a2 a3 c1 c2 c3, v = .agg #[.int .i64 x.ix, .int .i64 x.tm, .slice a1 x.c.v.length c1, .slice a2 x.c.n.length c2, .slice a3 x.c.l.length c3, .string (bs x.dt)] ∧ OwnNats B w a1 c1 x.c.v ∧ OwnNats B w a2 c2 x.c.n ∧ OwnNats B w a3 c3 x.c.l
theorem own_setB {B : Nat} {w : World} {ao : Option Addr} {c : Nat} {ns : List Nat} (h : OwnNats B w ao c ns) {a : Addr} (ha : a.block < B) (u : Value) : OwnNats B (w.setCell a u) ao c ns := ownsRow_setCell_below h ha u

set_option maxRecDepth 100000 in
set_option maxHeartbeats 4000000 in
theorem rSnapshot_any (p : Addr) (l : List UInt8) (w : World) (hl : Left p w l) :
    Calls Try.prog 196 #[.pointer (some p)] w (RdPost p w (rdSn l) (SnV w.heap.size)) := by
  have HB : Hid (p.block < w.heap.size) := cell_lt hl.cell
  have HN : Hid (_) := blk_new w (.cells #[.int .i64 0, .int .i64 0, .slice none 0 0, .slice none 0 0, .slice none 0 0, .string (bs [])] 61)
  have HX : Hid (¬ One p.block w.heap.size (.cells #[.int .i64 0, .int .i64 0, .slice none 0 0, .slice none 0 0, .slice none 0 0, .string (bs [])] 61 (0, 0))) := fun (e : w.heap.size = p.block) => by have := HB.out; omega
  have hla := hl.alloc (.cells #[.int .i64 0, .int .i64 0, .slice none 0 0, .slice none 0 0, .slice none 0 0, .string (bs [])] 61)
  clear hl
  cases r1 : rdNum l with
  | error c =>
    have HR : Hid (rdSn l = .error c) := rdThen_no r1
    go_enter Try.func196, Try.ntmps196
    go_wp2_with fail
    refine (number_no hla r1).mono ?_
    rintro e w1 ⟨rfl, k1⟩
    go_wp2
    unfold bodyPost RdPost
    rw [HR.out]
    exact ⟨rfl, rfl, (((Kept.refl _ _).alloc _).trans k1)⟩
  | ok x1 =>
  obtain ⟨ix, l1⟩ := x1
  cases r2 : rdNum l1 with
  | error c =>
    have HR : Hid (rdSn l = .error c) := (rdThen_ok r1).trans (rdThen_no r2)
    go_enter Try.func196, Try.ntmps196
    go_wp2_with fail
    refine (number_ok hla r1).mono ?_
    rintro e w1 ⟨rfl, c1, z1, k1⟩
    go_wp2_with fail
    refine (number_no ⟨c1, z1⟩ r2).mono ?_
    rintro e w2 ⟨rfl, k2⟩
    go_wp2
    unfold bodyPost RdPost
    rw [HR.out]
    exact ⟨rfl, rfl, ((((Kept.refl _ _).alloc _).trans k1).trans k2)⟩
  | ok x2 =>
  obtain ⟨tm, l2⟩ := x2
  cases r3 : rdCfg l2 with
  | error c =>
    have HR : Hid (rdSn l = .error c) := (rdThen_ok r1).trans ((rdThen_ok r2).trans (rdThen_no r3))
    go_enter Try.func196, Try.ntmps196
    go_wp2_with fail
    refine (number_ok hla r1).mono ?_
    rintro e w1 ⟨rfl, c1, z1, k1⟩
    go_wp2_with fail
    refine (number_ok ⟨c1, z1⟩ r2).mono ?_
    rintro e w2 ⟨rfl, c2, z2, k2⟩
    go_wp2_with fail
    refine (RdPost.no (rConfig_any p l2 w2 ⟨c2, z2⟩) r3).mono ?_
    rintro e w3 ⟨rfl, k3⟩
    go_wp2
    unfold bodyPost RdPost
    rw [HR.out]
    exact ⟨rfl, rfl, (((((Kept.refl _ _).alloc _).trans k1).trans k2).trans k3)⟩
  | ok x3 =>
  obtain ⟨cf, l3⟩ := x3
  cases r4 : rdText 8192 l3 with
  | error c =>
    have HR : Hid (rdSn l = .error c) := (rdThen_ok r1).trans ((rdThen_ok r2).trans ((rdThen_ok r3).trans (rdThen_no r4)))
    go_enter Try.func196, Try.ntmps196
    go_wp2_with fail
    refine (number_ok hla r1).mono ?_
    rintro e w1 ⟨rfl, c1, z1, k1⟩
    go_wp2_with fail
    refine (number_ok ⟨c1, z1⟩ r2).mono ?_
    rintro e w2 ⟨rfl, c2, z2, k2⟩
    go_wp2_with fail
    refine (RdPost.ok (rConfig_any p l2 w2 ⟨c2, z2⟩) r3).mono ?_
    rintro e w3 ⟨v3, rfl, hv3, c3, z3, k3⟩
    obtain ⟨ao1, ao2, ao3, cp1, cp2, cp3, rfl, o1, o2, o3⟩ := hv3
    have HO3 : Hid (OwnNats (w.heap.size + 1) w3 ao1 cp1 cf.v ∧ OwnNats (w.heap.size + 1) w3 ao2 cp2 cf.n ∧ OwnNats (w.heap.size + 1) w3 ao3 cp3 cf.l) := by { have s1 := k1.size; have s2 := k2.size; have hb : w.heap.size + 1 ≤ w2.heap.size := (by simp at s1; omega); exact ⟨own_mono o1 hb, own_mono o2 hb, own_mono o3 hb⟩ }
    clear o1 o2 o3
    go_wp2_with fail
    refine (text_no ⟨c3, z3⟩ r4).mono ?_
    rintro e w4 ⟨rfl, k4⟩
    go_wp2
    unfold bodyPost RdPost
    rw [HR.out]
    exact ⟨rfl, rfl, ((((((Kept.refl _ _).alloc _).trans k1).trans k2).trans k3).trans k4)⟩
  | ok x4 =>
  obtain ⟨dt, l4⟩ := x4
  have HR : Hid (rdSn l = .ok (⟨ix, tm, cf, dt⟩, l4)) := (rdThen_ok r1).trans ((rdThen_ok r2).trans ((rdThen_ok r3).trans (rdThen_ok r4)))
  go_enter Try.func196, Try.ntmps196
  go_wp2_with fail
  refine (number_ok hla r1).mono ?_
  rintro e w1 ⟨rfl, c1, z1, k1⟩
  go_wp2_with fail
  refine (number_ok ⟨c1, z1⟩ r2).mono ?_
  rintro e w2 ⟨rfl, c2, z2, k2⟩
  go_wp2_with fail
  refine (RdPost.ok (rConfig_any p l2 w2 ⟨c2, z2⟩) r3).mono ?_
  rintro e w3 ⟨v3, rfl, hv3, c3, z3, k3⟩
  obtain ⟨ao1, ao2, ao3, cp1, cp2, cp3, rfl, o1, o2, o3⟩ := hv3
  have HO3 : Hid (OwnNats (w.heap.size + 1) w3 ao1 cp1 cf.v ∧ OwnNats (w.heap.size + 1) w3 ao2 cp2 cf.n ∧ OwnNats (w.heap.size + 1) w3 ao3 cp3 cf.l) := by { have s1 := k1.size; have s2 := k2.size; have hb : w.heap.size + 1 ≤ w2.heap.size := (by simp at s1; omega); exact ⟨own_mono o1 hb, own_mono o2 hb, own_mono o3 hb⟩ }
  clear o1 o2 o3
  go_wp2_with fail
  refine (text_ok ⟨c3, z3⟩ r4).mono ?_
  rintro e w4 ⟨rfl, c4, z4, k4⟩
  have hbr := k4.block _ _ (k3.block _ _ (k2.block _ _ (k1.block _ _ (HN.out) HX.out) HX.out) HX.out) HX.out
  have g0 := blk_at hbr 0 rfl
  have g1 := blk_at hbr 1 rfl
  have g2 := blk_at hbr 2 rfl
  have g3 := blk_at hbr 3 rfl
  have g4 := blk_at hbr 4 rfl
  have g5 := blk_at hbr 5 rfl
  have f0 := blk_free hbr 0
  have f1 := blk_free hbr 1
  have f2 := blk_free hbr 2
  have f3 := blk_free hbr 3
  have f4 := blk_free hbr 4
  have f5 := blk_free hbr 5
  have hkk : Kept (One p.block) w w4 := ((((((Kept.refl _ _).alloc _).trans k1).trans k2).trans k3).trans k4)
  have hln : Left p w4 l4 := ⟨c4, z4⟩
  go_wp2
  refine bodyPost_ret (v := .agg #[.int .i64 ix, .int .i64 tm, .slice ao1 cf.v.length cp1, .slice ao2 cf.n.length cp2, .slice ao3 cf.l.length cp3, .string (bs dt)]) (by simp [results, Try.results196, go_sem, g0, g1, g2, g3, g4, g5]) rfl ?_
  unfold RdPost
  rw [HR.out]
  have hne : p.block ≠ w.heap.size := Nat.ne_of_lt HB.out
  have hXp : ∀ k cs, w.heap.size + 1 ≤ k → ¬ One p.block k (.cells cs 3 (0, 0)) := fun k cs hb hx => by have := HB.out; have : k = p.block := hx; omega
  have Q1 := own_kept HO3.out.1 k4 hXp
  have Q2 := own_kept HO3.out.2.1 k4 hXp
  have Q3 := own_kept HO3.out.2.2 k4 hXp
  exact ⟨⟨_, rfl, ⟨ao1, ao2, ao3, cp1, cp2, cp3, rfl, own_mono (own_setB (own_setB (own_setB (own_setB (own_setB (own_setB Q1 (Nat.lt_succ_self _) _) (Nat.lt_succ_self _) _) (Nat.lt_succ_self _) _) (Nat.lt_succ_self _) _) (Nat.lt_succ_self _) _) (Nat.lt_succ_self _) _) (Nat.le_succ _), own_mono (own_setB (own_setB (own_setB (own_setB (own_setB (own_setB Q2 (Nat.lt_succ_self _) _) (Nat.lt_succ_self _) _) (Nat.lt_succ_self _) _) (Nat.lt_succ_self _) _) (Nat.lt_succ_self _) _) (Nat.lt_succ_self _) _) (Nat.le_succ _), own_mono (own_setB (own_setB (own_setB (own_setB (own_setB (own_setB Q3 (Nat.lt_succ_self _) _) (Nat.lt_succ_self _) _) (Nat.lt_succ_self _) _) (Nat.lt_succ_self _) _) (Nat.lt_succ_self _) _) (Nat.lt_succ_self _) _) (Nat.le_succ _)⟩⟩, ((((((hln.other hne _).other hne _).other hne _).other hne _).other hne _).other hne _), ((((((hkk.setNew (Nat.le_refl _) _).setNew (Nat.le_refl _) _).setNew (Nat.le_refl _) _).setNew (Nat.le_refl _) _).setNew (Nat.le_refl _) _).setNew (Nat.le_refl _) _)⟩

end Go.Proofs.Ytcbeonhohbgnmaa

namespace Go.Proofs.Ytcbeonhohbgnmaa
open Go.RowKit

def Sn.ok (x : Sn) : Bool := snOk x.ix x.tm (intsOf x.c.v) (intsOf x.c.n) (intsOf x.c.l) x.dt
def rdSnap (l : List UInt8) : Except Int (Sn × List UInt8) := rdThen (rdSn l) fun x l => if x.ok then .ok (x, l) else .error 6
theorem isSnapN_any (x : Sn) (c1 c2 c3 : Nat) (a1 a2 a3 : Option Addr) (w : World) (h : CfRows w.heap.size w a1 a2 a3 (intsOf x.c.v) (intsOf x.c.n) (intsOf x.c.l)) (h1 : x.c.v.length ≤ 9223372036854775807) (h2 : x.c.n.length ≤ 9223372036854775807) (h3 : x.c.l.length ≤ 9223372036854775807) (hd : x.dt.length ≤ 9223372036854775807) :
    Calls Try.prog 130 #[.agg #[.int .i64 x.ix, .int .i64 x.tm, .slice a1 x.c.v.length c1, .slice a2 x.c.n.length c2, .slice a3 x.c.l.length c3, .string (bs x.dt)]] w fun e w' => e = .returned (.bool x.ok) ∧ Kept Nil w w' := by
  have H := isSnapshot_any x.ix x.tm w.heap.size c1 c2 c3 a1 a2 a3 (intsOf x.c.v) (intsOf x.c.n) (intsOf x.c.l) x.dt w h (by rw [intsOf_len]; omega) (by rw [intsOf_len]; omega) (by rw [intsOf_len]; omega) (by unfold maxLen; omega)
  rw [intsOf_len, intsOf_len, intsOf_len] at H
  exact H
theorem refIsSnapN_any (x : Sn) (c1 c2 c3 : Nat) (a1 a2 a3 : Option Addr) (w : World) (h : CfRows w.heap.size w a1 a2 a3 (intsOf x.c.v) (intsOf x.c.n) (intsOf x.c.l)) (h1 : x.c.v.length ≤ 9223372036854775807) (h2 : x.c.n.length ≤ 9223372036854775807) (h3 : x.c.l.length ≤ 9223372036854775807) (hd : x.dt.length ≤ 9223372036854775807) :
    Calls Try.prog 126 #[.agg #[.int .i64 x.ix, .int .i64 x.tm, .slice a1 x.c.v.length c1, .slice a2 x.c.n.length c2, .slice a3 x.c.l.length c3, .string (bs x.dt)]] w fun e w' => e = .returned (.bool x.ok) ∧ Kept Nil w w' := by
  have H := refIsSnapshot_any x.ix x.tm w.heap.size c1 c2 c3 a1 a2 a3 (intsOf x.c.v) (intsOf x.c.n) (intsOf x.c.l) x.dt w h (by rw [intsOf_len]; omega) (by rw [intsOf_len]; omega) (by rw [intsOf_len]; omega) (by unfold maxLen; omega)
  rw [intsOf_len, intsOf_len, intsOf_len] at H
  exact H
theorem rdSn_len {l t : List UInt8} {x : Sn} (h : rdSn l = .ok (x, t)) : x.dt.length ≤ 8192 := by
  unfold rdSn at h
  cases r1 : rdNum l with
  | error e => rw [rdThen_no r1] at h; cases h
  | ok x1 =>
    obtain ⟨y1, l1⟩ := x1
    rw [rdThen_ok r1] at h
    cases r2 : rdNum l1 with
    | error e => rw [rdThen_no r2] at h; cases h
    | ok x2 =>
      obtain ⟨y2, l2⟩ := x2
      rw [rdThen_ok r2] at h
      cases r3 : rdCfg l2 with
      | error e => rw [rdThen_no r3] at h; cases h
      | ok x3 =>
        obtain ⟨y3, l3⟩ := x3
        rw [rdThen_ok r3] at h
        cases r4 : rdText 8192 l3 with
        | error e => rw [rdThen_no r4] at h; cases h
        | ok x4 =>
          obtain ⟨y4, l4⟩ := x4
          rw [rdThen_ok r4] at h
          simp only [Except.ok.injEq, Prod.mk.injEq] at h
          rw [← h.1]
          exact rdText_le r4

set_option maxRecDepth 100000 in
set_option maxHeartbeats 4000000 in
theorem rWhole_any (p : Addr) (l : List UInt8) (w : World) (hl : Left p w l) :
    Calls Try.prog 133 #[.pointer (some p)] w (RdPost p w (rdSnap l) (SnV w.heap.size)) := by
  have HB : Hid (p.block < w.heap.size) := cell_lt hl.cell
  have HN : Hid (_) := blk_new w (.cells #[.int .i64 0, .int .i64 0, .slice none 0 0, .slice none 0 0, .slice none 0 0, .string (bs [])] 61)
  have HX : Hid (¬ One p.block w.heap.size (.cells #[.int .i64 0, .int .i64 0, .slice none 0 0, .slice none 0 0, .slice none 0 0, .string (bs [])] 61 (0, 0))) := fun (e : w.heap.size = p.block) => by have := HB.out; omega
  have hla := hl.alloc (.cells #[.int .i64 0, .int .i64 0, .slice none 0 0, .slice none 0 0, .slice none 0 0, .string (bs [])] 61)
  clear hl
  cases r1 : rdSn l with
  | error c =>
    have HR : Hid (rdSnap l = .error c) := rdThen_no r1
    go_enter Try.func133, Try.ntmps133
    go_wp2_with fail
    refine (RdPost.no (rSnapshot_any p l _ hla) r1).mono ?_
    rintro e w1 ⟨rfl, k1⟩
    go_wp2
    unfold bodyPost RdPost
    rw [HR.out]
    exact ⟨rfl, rfl, (((Kept.refl _ _).alloc _).trans k1)⟩
  | ok x1 =>
  obtain ⟨x, l1⟩ := x1
  have HI := fun w b1 b2 b3 d1 d2 d3 hr g1 g2 g3 => isSnapN_any x d1 d2 d3 b1 b2 b3 w hr g1 g2 g3 (by have := rdSn_len r1; omega)
  cases hok : x.ok with
  | false =>
    rw [hok] at HI
    have HR : Hid (rdSnap l = .error 6) := (rdThen_ok r1).trans (if_neg (by rw [hok]; decide))
    clear hok
    go_enter Try.func133, Try.ntmps133
    go_wp2_with fail
    refine (RdPost.ok (rSnapshot_any p l _ hla) r1).mono ?_
    rintro e w1 ⟨v1, rfl, hv1, c1, z1, k1⟩
    obtain ⟨ao1, ao2, ao3, cp1, cp2, cp3, rfl, o1, o2, o3⟩ := hv1
    have HO1 : Hid (OwnNats (w.heap.size + 1) w1 ao1 cp1 x.c.v ∧ OwnNats (w.heap.size + 1) w1 ao2 cp2 x.c.n ∧ OwnNats (w.heap.size + 1) w1 ao3 cp3 x.c.l) := ⟨own_mono o1 (by simp), own_mono o2 (by simp), own_mono o3 (by simp)⟩
    clear o1 o2 o3
    have hkk : Kept (One p.block) w w1 := (((Kept.refl _ _).alloc _).trans k1)
    go_wp2_with fail
    refine (HI _ _ _ _ _ _ _ (cf_rows (World.ownsRow.alloc HO1.out.1 _) (World.ownsRow.alloc HO1.out.2.1 _) (World.ownsRow.alloc HO1.out.2.2 _)) (own_len HO1.out.1) (own_len HO1.out.2.1) (own_len HO1.out.2.2)).mono ?_
    rintro e wi ⟨rfl, ki⟩
    go_wp2_with (go_at_call 170; go_must (refine (must_no _ _).mono ?_); rintro e w99 ⟨rfl, rfl⟩)
    unfold bodyPost RdPost
    rw [HR.out]
    exact ⟨rfl, rfl, (hkk.alloc _).trans (ki.mono (fun _ _ x => x.elim))⟩
  | true =>
    rw [hok] at HI
    have HR : Hid (rdSnap l = .ok (x, l1)) := (rdThen_ok r1).trans (if_pos hok)
    clear hok
    go_enter Try.func133, Try.ntmps133
    go_wp2_with fail
    refine (RdPost.ok (rSnapshot_any p l _ hla) r1).mono ?_
    rintro e w1 ⟨v1, rfl, hv1, c1, z1, k1⟩
    obtain ⟨ao1, ao2, ao3, cp1, cp2, cp3, rfl, o1, o2, o3⟩ := hv1
    have HO1 : Hid (OwnNats (w.heap.size + 1) w1 ao1 cp1 x.c.v ∧ OwnNats (w.heap.size + 1) w1 ao2 cp2 x.c.n ∧ OwnNats (w.heap.size + 1) w1 ao3 cp3 x.c.l) := ⟨own_mono o1 (by simp), own_mono o2 (by simp), own_mono o3 (by simp)⟩
    clear o1 o2 o3
    have HNn : Hid (_) := k1.block _ _ (HN.out) HX.out
    have hkk : Kept (One p.block) w w1 := (((Kept.refl _ _).alloc _).trans k1)
    have hln : Left p w1 l1 := ⟨c1, z1⟩
    go_wp2_with fail
    refine (HI _ _ _ _ _ _ _ (cf_rows (World.ownsRow.alloc HO1.out.1 _) (World.ownsRow.alloc HO1.out.2.1 _) (World.ownsRow.alloc HO1.out.2.2 _)) (own_len HO1.out.1) (own_len HO1.out.2.1) (own_len HO1.out.2.2)).mono ?_
    rintro e wi ⟨rfl, ki⟩
    have hq := ki.block _ _ (blk_new w1 _) (fun x => x.elim)
    have hbr := ki.block _ _ (blk_past HNn.out _) (fun x => x.elim)
    have q0 := blk_at hq 0 rfl
    have q1 := blk_at hq 1 rfl
    have q2 := blk_at hq 2 rfl
    have q3 := blk_at hq 3 rfl
    have q4 := blk_at hq 4 rfl
    have q5 := blk_at hq 5 rfl
    have g0 := blk_at hbr 0 rfl
    have g1 := blk_at hbr 1 rfl
    have g2 := blk_at hbr 2 rfl
    have g3 := blk_at hbr 3 rfl
    have g4 := blk_at hbr 4 rfl
    have g5 := blk_at hbr 5 rfl
    have f0 := blk_free hbr 0
    have f1 := blk_free hbr 1
    have f2 := blk_free hbr 2
    have f3 := blk_free hbr 3
    have f4 := blk_free hbr 4
    have f5 := blk_free hbr 5
    go_wp2_with (go_at_call 170; go_must (refine (must_ok _ _).mono ?_); rintro e w99 ⟨rfl, rfl⟩)
    go_wp2
    refine bodyPost_ret (v := .agg #[.int .i64 x.ix, .int .i64 x.tm, .slice ao1 x.c.v.length cp1, .slice ao2 x.c.n.length cp2, .slice ao3 x.c.l.length cp3, .string (bs x.dt)]) (by simp [results, Try.results133, go_sem, g0, g1, g2, g3, g4, g5]) rfl ?_
    unfold RdPost
    rw [HR.out]
    have hl9 : Left p w99 l1 := (hln.alloc _).kept ki
    have hk9 : Kept (One p.block) w w99 := (hkk.alloc _).trans (ki.mono (fun _ _ x => x.elim))
    have hne : p.block ≠ w.heap.size := Nat.ne_of_lt HB.out
    have Q1 : OwnNats (w.heap.size + 1) w99 ao1 cp1 x.c.v := own_kept (World.ownsRow.alloc HO1.out.1 _) ki (fun _ _ _ x => x.elim)
    have Q2 : OwnNats (w.heap.size + 1) w99 ao2 cp2 x.c.n := own_kept (World.ownsRow.alloc HO1.out.2.1 _) ki (fun _ _ _ x => x.elim)
    have Q3 : OwnNats (w.heap.size + 1) w99 ao3 cp3 x.c.l := own_kept (World.ownsRow.alloc HO1.out.2.2 _) ki (fun _ _ _ x => x.elim)
    exact ⟨⟨_, rfl, ⟨ao1, ao2, ao3, cp1, cp2, cp3, rfl, own_mono (own_setB (own_setB (own_setB (own_setB (own_setB (own_setB Q1 (Nat.lt_succ_self _) _) (Nat.lt_succ_self _) _) (Nat.lt_succ_self _) _) (Nat.lt_succ_self _) _) (Nat.lt_succ_self _) _) (Nat.lt_succ_self _) _) (Nat.le_succ _), own_mono (own_setB (own_setB (own_setB (own_setB (own_setB (own_setB Q2 (Nat.lt_succ_self _) _) (Nat.lt_succ_self _) _) (Nat.lt_succ_self _) _) (Nat.lt_succ_self _) _) (Nat.lt_succ_self _) _) (Nat.lt_succ_self _) _) (Nat.le_succ _), own_mono (own_setB (own_setB (own_setB (own_setB (own_setB (own_setB Q3 (Nat.lt_succ_self _) _) (Nat.lt_succ_self _) _) (Nat.lt_succ_self _) _) (Nat.lt_succ_self _) _) (Nat.lt_succ_self _) _) (Nat.lt_succ_self _) _) (Nat.le_succ _)⟩⟩, ((((((hl9.other hne _).other hne _).other hne _).other hne _).other hne _).other hne _), ((((((hk9.setNew (Nat.le_refl _) _).setNew (Nat.le_refl _) _).setNew (Nat.le_refl _) _).setNew (Nat.le_refl _) _).setNew (Nat.le_refl _) _).setNew (Nat.le_refl _) _)⟩

end Go.Proofs.Ytcbeonhohbgnmaa
