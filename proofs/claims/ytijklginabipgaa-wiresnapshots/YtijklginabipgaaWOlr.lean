/-
  Joined: WMsR0, WMsR1, WMsR3, WMsR2, WMsR4, WMsR5, WMsR6, WMsR7, WMsRo, WMsR.
-/
import Derived.Test.YtijklginabipgaaWOlq
import Derived.Test.YtijklginabipgaaWOlw
import Derived.Test.YtijklginabipgaaWOlj
import Derived.Test.YtijklginabipgaaWOli
/-
  A message that was read: its value; what is common to all kinds.
-/
namespace Go.Proofs.Ytijklginabipgaa
open Go.RowKit

/-- The rows that a kind has not are nil. -/
def Nils (kd : Nat) (ae : Option Addr) (ce : Nat) (a1 a2 a3 : Option Addr) (c1 c2 c3 : Nat) : Prop := (kd ≠ 5 → ae = none ∧ ce = 0) ∧ (kd ≠ 7 → (a1 = none ∧ c1 = 0) ∧ (a2 = none ∧ c2 = 0) ∧ (a3 = none ∧ c3 = 0))
/-- A message whose rows are its own, behind block B. -/
def MgV (B : Nat) : Mg → World → Value → Prop := fun m w v => ∃ ae ce a1 a2 a3 c1 c2 c3, v = .agg #[.int .i64 m.kd, .int .i64 m.fr, .int .i64 m.td, .int .i64 m.tm, .int .i64 m.ix, .int .i64 m.lg, .int .i64 m.cm, .slice ae m.es.length ce, .int .i64 m.sn.ix, .int .i64 m.sn.tm, .slice a1 m.sn.c.v.length c1, .slice a2 m.sn.c.n.length c2, .slice a3 m.sn.c.l.length c3, .string (bs m.sn.dt), .bool m.rj, .int .i64 m.hn, .int .i64 m.cx] ∧ Nils m.kd ae ce a1 a2 a3 c1 c2 c3 ∧ OwnEs B w ae ce m.es ∧ OwnNats B w a1 c1 m.sn.c.v ∧ OwnNats B w a2 c2 m.sn.c.n ∧ OwnNats B w a3 c3 m.sn.c.l
theorem Kept.thenNew {X Y : Nat → Obj → Prop} {w w1 w' : World} (h1 : Kept X w w1) (h : Kept Y w1 w') (hY : ∀ k o, Y k o → w.heap.size ≤ k) : Kept X w w' :=
  ⟨h.os.trans h1.os, h.tape.trans h1.tape, h.output.trans h1.output, Nat.le_trans h1.size h.size, fun k o ho hx => h.block k o (h1.block k o ho hx) (fun hy => by have := hY k o hy; have := lt_of_block ho; omega)⟩
theorem Left.keptX {X : Nat → Obj → Prop} {p : Addr} {w w' : World} {l : List UInt8} (h : Left p w l) (k : Kept X w w') (hX : ∀ o, ¬ X p.block o) : Left p w' l := by
  have hlt := cell_lt h.cell
  have hb : w'.heap[p.block]? = w.heap[p.block]? := by rw [Array.getElem?_eq_getElem hlt]; exact k.block _ _ (Array.getElem?_eq_getElem hlt) (hX _)
  exact ⟨(World.cell?_of_block hb).trans h.cell, (World.frozen?_of_block hb).trans h.free⟩
theorem castEq (a b : Nat) : ((a : Int) == (b : Int)) = (a == b) := by rw [Bool.eq_iff_iff]; simp; omega
theorem castEq0 (a : Nat) : ((a : Int) == 0) = (a == 0) := castEq a 0
theorem castLe (a b : Nat) : decide ((a : Int) ≤ b) = decide (a ≤ b) := by rw [Bool.eq_iff_iff]; simp
theorem from0 {zs : List Int} (h : ∀ z ∈ zs, 0 ≤ z ∧ z ≤ 1099511627775) : fromTo 0 zs = true := by
  simp only [fromTo, List.all_eq_true, Bool.and_eq_true, decide_eq_true_eq]
  exact fun z hz => h z hz
theorem ens_small {es : List En} (h : ∀ e ∈ es, e.ok = true) : ∀ e ∈ es, e.dt.length ≤ maxLen := fun e he => by
  have := (En.facts (h e he)).2.2.2
  unfold maxLen; omega
theorem okOf_1 (fr td tm ix lg : Nat) : Mg.ok { Mg.head 1 fr td tm with ix := ix, lg := lg } = (isNd (fr : Int) && isNd (td : Int) && !((fr : Int) == (td : Int)) && !((tm : Int) == 0) && (((ix : Int) == 0) == ((lg : Int) == 0))) := by
  simp only [castEq, castEq0]
  simp [Mg.ok, headB, fitsB, Mg.head]
theorem okOf_3 (fr td tm ix lg : Nat) : Mg.ok { Mg.head 3 fr td tm with ix := ix, lg := lg } = (isNd (fr : Int) && isNd (td : Int) && !((fr : Int) == (td : Int)) && !((tm : Int) == 0) && (((ix : Int) == 0) == ((lg : Int) == 0))) := by
  simp only [castEq, castEq0]
  simp [Mg.ok, headB, fitsB, Mg.head]
theorem okOf_2 (fr td tm : Nat) (rj : Bool) : Mg.ok { Mg.head 2 fr td tm with rj := rj } = (isNd (fr : Int) && isNd (td : Int) && !((fr : Int) == (td : Int)) && !(((tm : Int) == 0) && !rj) && true) := by
  simp only [castEq, castEq0]
  simp [Mg.ok, headB, fitsB, Mg.head]
theorem okOf_4 (fr td tm : Nat) (rj : Bool) : Mg.ok { Mg.head 4 fr td tm with rj := rj } = (isNd (fr : Int) && isNd (td : Int) && !((fr : Int) == (td : Int)) && !((tm : Int) == 0) && true) := by
  simp only [castEq, castEq0]
  simp [Mg.ok, headB, fitsB, Mg.head]
theorem okOf_5 (fr td tm ix lg cm cx : Nat) (es : List En) : Mg.ok { Mg.head 5 fr td tm with ix := ix, lg := lg, cm := cm, cx := cx, es := es } = (isNd (fr : Int) && isNd (td : Int) && !((fr : Int) == (td : Int)) && !((tm : Int) == 0) && (decide ((lg : Int) ≤ (tm : Int)) && (decide (es.length ≤ 8) && followB (tm : Int) (ix : Int) (lg : Int) es) && (((ix : Int) == 0) == ((lg : Int) == 0)))) := by
  simp only [castEq, castEq0, castLe]
  (simp [Mg.ok, headB, fitsB, Mg.head]) <;> rfl
theorem okOf_6 (fr td tm ix hn cx : Nat) (rj : Bool) : Mg.ok { Mg.head 6 fr td tm with ix := ix, rj := rj, hn := hn, cx := cx } = (isNd (fr : Int) && isNd (td : Int) && !((fr : Int) == (td : Int)) && !((tm : Int) == 0) && true) := by
  simp only [castEq, castEq0]
  simp [Mg.ok, headB, fitsB, Mg.head]
theorem okOf_7 (fr td tm cx : Nat) (sn : Sn) : Mg.ok { Mg.head 7 fr td tm with cx := cx, sn := sn } = (isNd (fr : Int) && isNd (td : Int) && !((fr : Int) == (td : Int)) && !((tm : Int) == 0) && (sn.ok && decide ((sn.tm : Int) ≤ (tm : Int)))) := by
  simp only [castEq, castEq0, castLe]
  (simp [Mg.ok, headB, fitsB, Mg.head]) <;> rfl
theorem okOf_o (kd fr td tm : Nat) (hk : kd = 0 ∨ 7 < kd) : Mg.ok (Mg.head kd fr td tm) = (isNd (fr : Int) && isNd (td : Int) && !((fr : Int) == (td : Int)) && !((tm : Int) == 0) && false) := by
  unfold Mg.ok
  rw [show fitsB (Mg.head kd fr td tm) = false by unfold fitsB; have e : (Mg.head kd fr td tm).kd = kd := rfl; rw [if_neg (by rw [e]; omega), if_neg (by rw [e]; omega), if_neg (by rw [e]; omega), if_neg (by rw [e]; omega)]]
  simp
set_option maxRecDepth 100000 in
set_option maxHeartbeats 4000000 in
theorem isMsg7 (fr td tm cx : Int) (sn : Sn) (c1 c2 c3 : Nat) (a1 a2 a3 : Option Addr) (w : World) (hr : CfRows w.heap.size w a1 a2 a3 (intsOf sn.c.v) (intsOf sn.c.n) (intsOf sn.c.l)) (hc : sn.c.ok = true ∧ sn.dt.length ≤ 8192) (hnum : fromTo 0 [tm, 0, 0, 0, 0, cx] = true) :
    Calls Try.prog 124 #[.agg #[.int .i64 7, .int .i64 fr, .int .i64 td, .int .i64 tm, .int .i64 0, .int .i64 0, .int .i64 0, .slice none 0 0, .int .i64 sn.ix, .int .i64 sn.tm, .slice a1 sn.c.v.length c1, .slice a2 sn.c.n.length c2, .slice a3 sn.c.l.length c3, .string (bs sn.dt), .bool false, .int .i64 0, .int .i64 cx]] w fun e w' => e = .returned (.bool (isNd fr && isNd td && !(fr == td) && !(tm == 0) && (sn.ok && decide ((sn.tm : Int) ≤ tm)))) ∧ Kept Nil w w' := by
  obtain ⟨q1, q2, q3⟩ := isCfg_facts hc.1
  have l1 := (rise_few q1).2.1.len
  have l2 := (rise_few q2).2.1.len
  have l3 := (rise_few q3).2.1.len
  rw [natsOf_len, intsOf_len] at l1 l2 l3
  have H := isMessage_7 fr td tm cx sn.ix sn.tm w.heap.size c1 c2 c3 a1 a2 a3 (intsOf sn.c.v) (intsOf sn.c.n) (intsOf sn.c.l) sn.dt w hr (by rw [intsOf_len]; omega) (by rw [intsOf_len]; omega) (by rw [intsOf_len]; omega) (by have := hc.2; unfold maxLen; omega) hnum
  rw [intsOf_len, intsOf_len, intsOf_len] at H
  exact H

end Go.Proofs.Ytijklginabipgaa

/-
  A message read (kind 1).
-/
namespace Go.Proofs.Ytijklginabipgaa
open Go.RowKit

set_option maxRecDepth 100000 in
set_option maxHeartbeats 4000000 in
theorem rMsg_1 (p : Addr) (fr td tm : Nat) (l l1 l2 l3 l4 : List UInt8) (w : World) (hl : Left p w l) (r1 : rdNum l = .ok (1, l1)) (r2 : rdNum l1 = .ok (fr, l2)) (r3 : rdNum l2 = .ok (td, l3)) (r4 : rdNum l3 = .ok (tm, l4)) :
    Calls Try.prog 127 #[.pointer (some p)] w (RdPost p w (rdMsg l) (MgV w.heap.size)) := by
  have HB : Hid (p.block < w.heap.size) := cell_lt hl.cell
  have HZ : Hid (_) := blk_new w (.cells #[.int .i64 0, .int .i64 0, .int .i64 0, .int .i64 0, .int .i64 0, .int .i64 0, .int .i64 0, .slice none 0 0, .int .i64 0, .int .i64 0, .slice none 0 0, .slice none 0 0, .slice none 0 0, .string (bs []), .bool false, .int .i64 0, .int .i64 0] 85)
  have HX : Hid (¬ One p.block w.heap.size (.cells #[.int .i64 0, .int .i64 0, .int .i64 0, .int .i64 0, .int .i64 0, .int .i64 0, .int .i64 0, .slice none 0 0, .int .i64 0, .int .i64 0, .slice none 0 0, .slice none 0 0, .slice none 0 0, .string (bs []), .bool false, .int .i64 0, .int .i64 0] 85 (0, 0))) := fun (e : w.heap.size = p.block) => by have := HB.out; omega
  have hla := hl.alloc (.cells #[.int .i64 0, .int .i64 0, .int .i64 0, .int .i64 0, .int .i64 0, .int .i64 0, .int .i64 0, .slice none 0 0, .int .i64 0, .int .i64 0, .slice none 0 0, .slice none 0 0, .slice none 0 0, .string (bs []), .bool false, .int .i64 0, .int .i64 0] 85)
  have HD : Hid (rdMsg l = rdThen (rdBody 1 fr td tm l4) fun m l => if m.ok then .ok (m, l) else .error 7) := (rdThen_ok r1).trans ((rdThen_ok r2).trans ((rdThen_ok r3).trans (rdThen_ok r4)))
  have HM : Hid (fr ≤ 1099511627775 ∧ td ≤ 1099511627775 ∧ tm ≤ 1099511627775) := ⟨rdNum_max r2, rdNum_max r3, rdNum_max r4⟩
  clear hl
  go_enter Try.func127, Try.ntmps127
  go_wp2_with fail
  refine (number_ok hla r1).mono ?_
  rintro e w1 ⟨rfl, c1, z1, k1⟩
  go_wp2_with fail
  refine (number_ok ⟨c1, z1⟩ r2).mono ?_
  rintro e w2 ⟨rfl, c2, z2, k2⟩
  go_wp2_with fail
  refine (number_ok ⟨c2, z2⟩ r3).mono ?_
  rintro e w3 ⟨rfl, c3, z3, k3⟩
  go_wp2_with fail
  refine (number_ok ⟨c3, z3⟩ r4).mono ?_
  rintro e w4 ⟨rfl, c4, z4, k4⟩
  have HK4 : Hid (Kept (One p.block) w w4) := ((((Kept.refl _ _).alloc _).trans k1).trans k2).trans k3 |>.trans k4
  have HR4 : Hid (w4.heap[w.heap.size]? = some (.cells #[.int .i64 0, .int .i64 0, .int .i64 0, .int .i64 0, .int .i64 0, .int .i64 0, .int .i64 0, .slice none 0 0, .int .i64 0, .int .i64 0, .slice none 0 0, .slice none 0 0, .slice none 0 0, .string (bs []), .bool false, .int .i64 0, .int .i64 0] 85 (0, 0))) := k4.block _ _ (k3.block _ _ (k2.block _ _ (k1.block _ _ HZ.out HX.out) HX.out) HX.out) HX.out
  have HL4 : Hid (Left p w4 l4) := ⟨c4, z4⟩
  have hne : p.block ≠ w4.heap.size := by have := HB.out; have := HK4.out.size; omega
  have hnr : w.heap.size ≠ w4.heap.size := by have := lt_of_block HR4.out; omega
  have hge : w.heap.size ≤ w4.heap.size := HK4.out.size
  clear c1 z1 k1 c2 z2 k2 c3 z3 k3 c4 z4 k4 r1 r2 r3 r4 hla
  go_wp2_with ((with_reducible refine atStore 85 ?_); go_must (refine wpList_storeW rfl _ _ _ rfl _ #[.int .i64 1, .int .i64 fr, .int .i64 td, .int .i64 tm, .int .i64 0, .int .i64 0, .int .i64 0, .slice none 0 0, .int .i64 0, .int .i64 0, .slice none 0 0, .slice none 0 0, .slice none 0 0, .string (bs []), .bool false, .int .i64 0, .int .i64 0] _ _ rfl rfl (blk_new w4 _) rfl Try.sizeMsg rfl (one17 rfl rfl rfl rfl rfl rfl rfl rfl rfl rfl rfl rfl rfl rfl rfl rfl rfl) ?_; intro w5 hb5 hk5 hs5; have q5_0 := blk_at hb5 0 rfl; have HK5 : Hid (Kept (One p.block) w w5) := (by show Kept (One p.block) w w5; exact (HK4.out.alloc _).thenNew hk5 (fun k _ h => by have : k = w4.heap.size := h; omega)); have HR5 : Hid (w5.heap[w.heap.size]? = some (.cells #[.int .i64 0, .int .i64 0, .int .i64 0, .int .i64 0, .int .i64 0, .int .i64 0, .int .i64 0, .slice none 0 0, .int .i64 0, .int .i64 0, .slice none 0 0, .slice none 0 0, .slice none 0 0, .string (bs []), .bool false, .int .i64 0, .int .i64 0] 85 (0, 0))) := hk5.block _ _ (blk_past HR4.out _) (fun (e : w.heap.size = w4.heap.size) => hnr e); have HL5 : Hid (Left p w5 l4) := (HL4.out.alloc _).keptX hk5 (fun _ (e : p.block = w4.heap.size) => hne e); have HS5 : Hid (w4.heap.size < w5.heap.size) := lt_of_block hb5; have HA5 : Hid (w5.heap[w4.heap.size]? = some (.cells #[.int .i64 1, .int .i64 fr, .int .i64 td, .int .i64 tm, .int .i64 0, .int .i64 0, .int .i64 0, .slice none 0 0, .int .i64 0, .int .i64 0, .slice none 0 0, .slice none 0 0, .slice none 0 0, .string (bs []), .bool false, .int .i64 0, .int .i64 0] 85 (0, 0))) := hb5; clear hk5 hs5 hb5))
  cases r6 : rdNum l4 with
  | error c =>
    have HE : Hid (rdMsg l = .error c) := HD.out.trans (rdThen_no (rdThen_no r6))
    refine (number_no (HL5.out) r6).mono ?_
    rintro e wx ⟨rfl, kx⟩
    go_wp2
    unfold bodyPost RdPost
    rw [HE.out]
    exact ⟨rfl, rfl, (HK5.out).trans kx⟩
  | ok x =>
  obtain ⟨ix, l6⟩ := x
  refine (number_ok (HL5.out) r6).mono ?_
  rintro e w6 ⟨rfl, c6, z6, k6⟩
  have HK6 : Hid (Kept (One p.block) w w6) := (HK5.out).trans k6
  have HR6 : Hid (w6.heap[w.heap.size]? = some (.cells #[.int .i64 0, .int .i64 0, .int .i64 0, .int .i64 0, .int .i64 0, .int .i64 0, .int .i64 0, .slice none 0 0, .int .i64 0, .int .i64 0, .slice none 0 0, .slice none 0 0, .slice none 0 0, .string (bs []), .bool false, .int .i64 0, .int .i64 0] 85 (0, 0))) := k6.block _ _ (HR5.out) HX.out
  have HA6 : Hid (w6.heap[w4.heap.size]? = some (.cells #[.int .i64 1, .int .i64 fr, .int .i64 td, .int .i64 tm, .int .i64 0, .int .i64 0, .int .i64 0, .slice none 0 0, .int .i64 0, .int .i64 0, .slice none 0 0, .slice none 0 0, .slice none 0 0, .string (bs []), .bool false, .int .i64 0, .int .i64 0] 85 (0, 0))) := k6.block _ _ (HA5.out) (fun (e : w4.heap.size = p.block) => hne e.symm)
  have HL6 : Hid (Left p w6 l6) := ⟨c6, z6⟩
  have HP6 : Hid (ix ≤ 1099511627775) := rdNum_max r6
  clear c6 z6
  go_wp2_with fail
  cases r7 : rdNum l6 with
  | error c =>
    have HE : Hid (rdMsg l = .error c) := HD.out.trans (rdThen_no ((rdThen_ok r6).trans (rdThen_no r7)))
    refine (number_no (HL6.out) r7).mono ?_
    rintro e wx ⟨rfl, kx⟩
    go_wp2
    unfold bodyPost RdPost
    rw [HE.out]
    exact ⟨rfl, rfl, (HK6.out).trans kx⟩
  | ok x =>
  obtain ⟨lg, l7⟩ := x
  refine (number_ok (HL6.out) r7).mono ?_
  rintro e w7 ⟨rfl, c7, z7, k7⟩
  have HK7 : Hid (Kept (One p.block) w w7) := (HK6.out).trans k7
  have HR7 : Hid (w7.heap[w.heap.size]? = some (.cells #[.int .i64 0, .int .i64 0, .int .i64 0, .int .i64 0, .int .i64 0, .int .i64 0, .int .i64 0, .slice none 0 0, .int .i64 0, .int .i64 0, .slice none 0 0, .slice none 0 0, .slice none 0 0, .string (bs []), .bool false, .int .i64 0, .int .i64 0] 85 (0, 0))) := k7.block _ _ (HR6.out) HX.out
  have HA7 : Hid (w7.heap[w4.heap.size]? = some (.cells #[.int .i64 1, .int .i64 fr, .int .i64 td, .int .i64 tm, .int .i64 0, .int .i64 0, .int .i64 0, .slice none 0 0, .int .i64 0, .int .i64 0, .slice none 0 0, .slice none 0 0, .slice none 0 0, .string (bs []), .bool false, .int .i64 0, .int .i64 0] 85 (0, 0))) := k7.block _ _ (HA6.out) (fun (e : w4.heap.size = p.block) => hne e.symm)
  have HL7 : Hid (Left p w7 l7) := ⟨c7, z7⟩
  have HP7 : Hid (lg ≤ 1099511627775) := rdNum_max r7
  clear c7 z7
  have g7_4 := blk_at HA7.out 4 rfl
  have g7_5 := blk_at HA7.out 5 rfl
  have f7_4 := blk_free HA7.out 4
  have f7_5 := blk_free HA7.out 5
  have HA7s : Hid (((w7.setCell ⟨w4.heap.size, 4, none⟩ (.int .i64 ix)).setCell ⟨w4.heap.size, 5, none⟩ (.int .i64 lg)).heap[w4.heap.size]? = some (.cells #[.int .i64 1, .int .i64 fr, .int .i64 td, .int .i64 tm, .int .i64 ix, .int .i64 lg, .int .i64 0, .slice none 0 0, .int .i64 0, .int .i64 0, .slice none 0 0, .slice none 0 0, .slice none 0 0, .string (bs []), .bool false, .int .i64 0, .int .i64 0] 85 (0, 0))) := blk_set (blk_set (HA7.out) 4 _) 5 _
  have HR7s : Hid (((w7.setCell ⟨w4.heap.size, 4, none⟩ (.int .i64 ix)).setCell ⟨w4.heap.size, 5, none⟩ (.int .i64 lg)).heap[w.heap.size]? = some (.cells #[.int .i64 0, .int .i64 0, .int .i64 0, .int .i64 0, .int .i64 0, .int .i64 0, .int .i64 0, .slice none 0 0, .int .i64 0, .int .i64 0, .slice none 0 0, .slice none 0 0, .slice none 0 0, .string (bs []), .bool false, .int .i64 0, .int .i64 0] 85 (0, 0))) := blk_other (blk_other (HR7.out) hnr _) hnr _
  have HL7s : Hid (Left p ((w7.setCell ⟨w4.heap.size, 4, none⟩ (.int .i64 ix)).setCell ⟨w4.heap.size, 5, none⟩ (.int .i64 lg)) l7) := ((HL7.out).other hne _).other hne _
  have HK7s : Hid (Kept (One p.block) w ((w7.setCell ⟨w4.heap.size, 4, none⟩ (.int .i64 ix)).setCell ⟨w4.heap.size, 5, none⟩ (.int .i64 lg))) := ((HK7.out).setNew hge _).setNew hge _
  have HBo : Hid (rdBody 1 fr td tm l4 = .ok ({ Mg.head 1 fr td tm with ix := ix, lg := lg }, l7)) := (rdThen_ok r6).trans (rdThen_ok r7)
  have HI := isMessage_1 fr td tm ix lg ((w7.setCell ⟨w4.heap.size, 4, none⟩ (.int .i64 ix)).setCell ⟨w4.heap.size, 5, none⟩ (.int .i64 lg)) (from0 (by intro z hz; simp at hz; have := HM.out; have := HP6.out; have := HP7.out; omega))
  have HOK : Hid (Mg.ok { Mg.head 1 fr td tm with ix := ix, lg := lg } = _) := okOf_1 fr td tm ix lg
  rw [← HOK.out] at HI
  have HRd : Hid (rdMsg l = if Mg.ok { Mg.head 1 fr td tm with ix := ix, lg := lg } then .ok ({ Mg.head 1 fr td tm with ix := ix, lg := lg }, l7) else .error 7) := HD.out.trans (rdThen_ok HBo.out)
  generalize Mg.ok { Mg.head 1 fr td tm with ix := ix, lg := lg } = okb at HI HRd
  clear HOK
  go_wp2_with (first | ((with_reducible refine atLoad 85 ?_); go_must (refine wpList_loadW rfl _ _ rfl _ rfl _ _ _ (HA7s.out) Try.underlying85 rfl Try.sizeMsg rfl ?_)))
  refine HI.mono ?_
  rintro e wi ⟨rfl, ki⟩
  have HAi : Hid (wi.heap[w4.heap.size]? = some (.cells #[.int .i64 1, .int .i64 fr, .int .i64 td, .int .i64 tm, .int .i64 ix, .int .i64 lg, .int .i64 0, .slice none 0 0, .int .i64 0, .int .i64 0, .slice none 0 0, .slice none 0 0, .slice none 0 0, .string (bs []), .bool false, .int .i64 0, .int .i64 0] 85 (0, 0))) := ki.block _ _ (HA7s.out) (fun x => x.elim)
  have HRi : Hid (wi.heap[w.heap.size]? = some (.cells #[.int .i64 0, .int .i64 0, .int .i64 0, .int .i64 0, .int .i64 0, .int .i64 0, .int .i64 0, .slice none 0 0, .int .i64 0, .int .i64 0, .slice none 0 0, .slice none 0 0, .slice none 0 0, .string (bs []), .bool false, .int .i64 0, .int .i64 0] 85 (0, 0))) := ki.block _ _ (HR7s.out) (fun x => x.elim)
  have HKi : Hid (Kept (One p.block) w wi) := (HK7s.out).trans (ki.mono (fun _ _ x => x.elim))
  have HLi : Hid (Left p wi l7) := Left.kept (HL7s.out) ki
  cases okb with
  | false =>
    go_wp2_with (go_at_call 145; go_must (refine (must_no _ _).mono ?_); rintro e w99 ⟨rfl, rfl⟩)
    unfold bodyPost RdPost
    rw [HRd.out]
    exact ⟨rfl, rfl, HKi.out⟩
  | true =>
    go_wp2_with (first | (go_at_call 145; go_must (refine (must_ok _ _).mono ?_); rintro e w99 ⟨rfl, rfl⟩) | ((with_reducible refine atLoad 85 ?_); go_must (refine wpList_loadW rfl _ _ rfl _ rfl _ _ _ (HAi.out) Try.underlying85 rfl Try.sizeMsg rfl ?_)) | ((with_reducible refine atStore 85 ?_); go_must (refine wpList_storeW rfl _ _ _ rfl _ #[.int .i64 1, .int .i64 fr, .int .i64 td, .int .i64 tm, .int .i64 ix, .int .i64 lg, .int .i64 0, .slice none 0 0, .int .i64 0, .int .i64 0, .slice none 0 0, .slice none 0 0, .slice none 0 0, .string (bs []), .bool false, .int .i64 0, .int .i64 0] _ _ rfl rfl HRi.out rfl Try.sizeMsg rfl (one17 rfl rfl rfl rfl rfl rfl rfl rfl rfl rfl rfl rfl rfl rfl rfl rfl rfl) ?_); intro w9 hb9 hk9 hs9))
    refine bodyPost_ret (results_cellW rfl rfl hb9 Try.underlying85 rfl Try.sizeMsg rfl) rfl ?_
    unfold RdPost
    rw [HRd.out]
    exact ⟨⟨_, rfl, none, 0, none, none, none, 0, 0, 0, rfl, ⟨fun _ => ⟨rfl, rfl⟩, fun _ => ⟨⟨rfl, rfl⟩, ⟨rfl, rfl⟩, ⟨rfl, rfl⟩⟩⟩, World.ownsRow_nil _ _ _ _, World.ownsRow_nil _ _ _ _, World.ownsRow_nil _ _ _ _, World.ownsRow_nil _ _ _ _⟩, HLi.out.keptX hk9 (fun _ (e : p.block = w.heap.size) => by have := HB.out; omega), HKi.out.thenNew hk9 (fun k _ h => by have : k = w.heap.size := h; omega)⟩

end Go.Proofs.Ytijklginabipgaa

/-
  A message read (kind 3).
-/
namespace Go.Proofs.Ytijklginabipgaa
open Go.RowKit

set_option maxRecDepth 100000 in
set_option maxHeartbeats 4000000 in
theorem rMsg_3 (p : Addr) (fr td tm : Nat) (l l1 l2 l3 l4 : List UInt8) (w : World) (hl : Left p w l) (r1 : rdNum l = .ok (3, l1)) (r2 : rdNum l1 = .ok (fr, l2)) (r3 : rdNum l2 = .ok (td, l3)) (r4 : rdNum l3 = .ok (tm, l4)) :
    Calls Try.prog 127 #[.pointer (some p)] w (RdPost p w (rdMsg l) (MgV w.heap.size)) := by
  have HB : Hid (p.block < w.heap.size) := cell_lt hl.cell
  have HZ : Hid (_) := blk_new w (.cells #[.int .i64 0, .int .i64 0, .int .i64 0, .int .i64 0, .int .i64 0, .int .i64 0, .int .i64 0, .slice none 0 0, .int .i64 0, .int .i64 0, .slice none 0 0, .slice none 0 0, .slice none 0 0, .string (bs []), .bool false, .int .i64 0, .int .i64 0] 85)
  have HX : Hid (¬ One p.block w.heap.size (.cells #[.int .i64 0, .int .i64 0, .int .i64 0, .int .i64 0, .int .i64 0, .int .i64 0, .int .i64 0, .slice none 0 0, .int .i64 0, .int .i64 0, .slice none 0 0, .slice none 0 0, .slice none 0 0, .string (bs []), .bool false, .int .i64 0, .int .i64 0] 85 (0, 0))) := fun (e : w.heap.size = p.block) => by have := HB.out; omega
  have hla := hl.alloc (.cells #[.int .i64 0, .int .i64 0, .int .i64 0, .int .i64 0, .int .i64 0, .int .i64 0, .int .i64 0, .slice none 0 0, .int .i64 0, .int .i64 0, .slice none 0 0, .slice none 0 0, .slice none 0 0, .string (bs []), .bool false, .int .i64 0, .int .i64 0] 85)
  have HD : Hid (rdMsg l = rdThen (rdBody 3 fr td tm l4) fun m l => if m.ok then .ok (m, l) else .error 7) := (rdThen_ok r1).trans ((rdThen_ok r2).trans ((rdThen_ok r3).trans (rdThen_ok r4)))
  have HM : Hid (fr ≤ 1099511627775 ∧ td ≤ 1099511627775 ∧ tm ≤ 1099511627775) := ⟨rdNum_max r2, rdNum_max r3, rdNum_max r4⟩
  clear hl
  go_enter Try.func127, Try.ntmps127
  go_wp2_with fail
  refine (number_ok hla r1).mono ?_
  rintro e w1 ⟨rfl, c1, z1, k1⟩
  go_wp2_with fail
  refine (number_ok ⟨c1, z1⟩ r2).mono ?_
  rintro e w2 ⟨rfl, c2, z2, k2⟩
  go_wp2_with fail
  refine (number_ok ⟨c2, z2⟩ r3).mono ?_
  rintro e w3 ⟨rfl, c3, z3, k3⟩
  go_wp2_with fail
  refine (number_ok ⟨c3, z3⟩ r4).mono ?_
  rintro e w4 ⟨rfl, c4, z4, k4⟩
  have HK4 : Hid (Kept (One p.block) w w4) := ((((Kept.refl _ _).alloc _).trans k1).trans k2).trans k3 |>.trans k4
  have HR4 : Hid (w4.heap[w.heap.size]? = some (.cells #[.int .i64 0, .int .i64 0, .int .i64 0, .int .i64 0, .int .i64 0, .int .i64 0, .int .i64 0, .slice none 0 0, .int .i64 0, .int .i64 0, .slice none 0 0, .slice none 0 0, .slice none 0 0, .string (bs []), .bool false, .int .i64 0, .int .i64 0] 85 (0, 0))) := k4.block _ _ (k3.block _ _ (k2.block _ _ (k1.block _ _ HZ.out HX.out) HX.out) HX.out) HX.out
  have HL4 : Hid (Left p w4 l4) := ⟨c4, z4⟩
  have hne : p.block ≠ w4.heap.size := by have := HB.out; have := HK4.out.size; omega
  have hnr : w.heap.size ≠ w4.heap.size := by have := lt_of_block HR4.out; omega
  have hge : w.heap.size ≤ w4.heap.size := HK4.out.size
  clear c1 z1 k1 c2 z2 k2 c3 z3 k3 c4 z4 k4 r1 r2 r3 r4 hla
  go_wp2_with ((with_reducible refine atStore 85 ?_); go_must (refine wpList_storeW rfl _ _ _ rfl _ #[.int .i64 3, .int .i64 fr, .int .i64 td, .int .i64 tm, .int .i64 0, .int .i64 0, .int .i64 0, .slice none 0 0, .int .i64 0, .int .i64 0, .slice none 0 0, .slice none 0 0, .slice none 0 0, .string (bs []), .bool false, .int .i64 0, .int .i64 0] _ _ rfl rfl (blk_new w4 _) rfl Try.sizeMsg rfl (one17 rfl rfl rfl rfl rfl rfl rfl rfl rfl rfl rfl rfl rfl rfl rfl rfl rfl) ?_; intro w5 hb5 hk5 hs5; have q5_0 := blk_at hb5 0 rfl; have HK5 : Hid (Kept (One p.block) w w5) := (by show Kept (One p.block) w w5; exact (HK4.out.alloc _).thenNew hk5 (fun k _ h => by have : k = w4.heap.size := h; omega)); have HR5 : Hid (w5.heap[w.heap.size]? = some (.cells #[.int .i64 0, .int .i64 0, .int .i64 0, .int .i64 0, .int .i64 0, .int .i64 0, .int .i64 0, .slice none 0 0, .int .i64 0, .int .i64 0, .slice none 0 0, .slice none 0 0, .slice none 0 0, .string (bs []), .bool false, .int .i64 0, .int .i64 0] 85 (0, 0))) := hk5.block _ _ (blk_past HR4.out _) (fun (e : w.heap.size = w4.heap.size) => hnr e); have HL5 : Hid (Left p w5 l4) := (HL4.out.alloc _).keptX hk5 (fun _ (e : p.block = w4.heap.size) => hne e); have HS5 : Hid (w4.heap.size < w5.heap.size) := lt_of_block hb5; have HA5 : Hid (w5.heap[w4.heap.size]? = some (.cells #[.int .i64 3, .int .i64 fr, .int .i64 td, .int .i64 tm, .int .i64 0, .int .i64 0, .int .i64 0, .slice none 0 0, .int .i64 0, .int .i64 0, .slice none 0 0, .slice none 0 0, .slice none 0 0, .string (bs []), .bool false, .int .i64 0, .int .i64 0] 85 (0, 0))) := hb5; clear hk5 hs5 hb5))
  cases r6 : rdNum l4 with
  | error c =>
    have HE : Hid (rdMsg l = .error c) := HD.out.trans (rdThen_no (rdThen_no r6))
    refine (number_no (HL5.out) r6).mono ?_
    rintro e wx ⟨rfl, kx⟩
    go_wp2
    unfold bodyPost RdPost
    rw [HE.out]
    exact ⟨rfl, rfl, (HK5.out).trans kx⟩
  | ok x =>
  obtain ⟨ix, l6⟩ := x
  refine (number_ok (HL5.out) r6).mono ?_
  rintro e w6 ⟨rfl, c6, z6, k6⟩
  have HK6 : Hid (Kept (One p.block) w w6) := (HK5.out).trans k6
  have HR6 : Hid (w6.heap[w.heap.size]? = some (.cells #[.int .i64 0, .int .i64 0, .int .i64 0, .int .i64 0, .int .i64 0, .int .i64 0, .int .i64 0, .slice none 0 0, .int .i64 0, .int .i64 0, .slice none 0 0, .slice none 0 0, .slice none 0 0, .string (bs []), .bool false, .int .i64 0, .int .i64 0] 85 (0, 0))) := k6.block _ _ (HR5.out) HX.out
  have HA6 : Hid (w6.heap[w4.heap.size]? = some (.cells #[.int .i64 3, .int .i64 fr, .int .i64 td, .int .i64 tm, .int .i64 0, .int .i64 0, .int .i64 0, .slice none 0 0, .int .i64 0, .int .i64 0, .slice none 0 0, .slice none 0 0, .slice none 0 0, .string (bs []), .bool false, .int .i64 0, .int .i64 0] 85 (0, 0))) := k6.block _ _ (HA5.out) (fun (e : w4.heap.size = p.block) => hne e.symm)
  have HL6 : Hid (Left p w6 l6) := ⟨c6, z6⟩
  have HP6 : Hid (ix ≤ 1099511627775) := rdNum_max r6
  clear c6 z6
  go_wp2_with fail
  cases r7 : rdNum l6 with
  | error c =>
    have HE : Hid (rdMsg l = .error c) := HD.out.trans (rdThen_no ((rdThen_ok r6).trans (rdThen_no r7)))
    refine (number_no (HL6.out) r7).mono ?_
    rintro e wx ⟨rfl, kx⟩
    go_wp2
    unfold bodyPost RdPost
    rw [HE.out]
    exact ⟨rfl, rfl, (HK6.out).trans kx⟩
  | ok x =>
  obtain ⟨lg, l7⟩ := x
  refine (number_ok (HL6.out) r7).mono ?_
  rintro e w7 ⟨rfl, c7, z7, k7⟩
  have HK7 : Hid (Kept (One p.block) w w7) := (HK6.out).trans k7
  have HR7 : Hid (w7.heap[w.heap.size]? = some (.cells #[.int .i64 0, .int .i64 0, .int .i64 0, .int .i64 0, .int .i64 0, .int .i64 0, .int .i64 0, .slice none 0 0, .int .i64 0, .int .i64 0, .slice none 0 0, .slice none 0 0, .slice none 0 0, .string (bs []), .bool false, .int .i64 0, .int .i64 0] 85 (0, 0))) := k7.block _ _ (HR6.out) HX.out
  have HA7 : Hid (w7.heap[w4.heap.size]? = some (.cells #[.int .i64 3, .int .i64 fr, .int .i64 td, .int .i64 tm, .int .i64 0, .int .i64 0, .int .i64 0, .slice none 0 0, .int .i64 0, .int .i64 0, .slice none 0 0, .slice none 0 0, .slice none 0 0, .string (bs []), .bool false, .int .i64 0, .int .i64 0] 85 (0, 0))) := k7.block _ _ (HA6.out) (fun (e : w4.heap.size = p.block) => hne e.symm)
  have HL7 : Hid (Left p w7 l7) := ⟨c7, z7⟩
  have HP7 : Hid (lg ≤ 1099511627775) := rdNum_max r7
  clear c7 z7
  have g7_4 := blk_at HA7.out 4 rfl
  have g7_5 := blk_at HA7.out 5 rfl
  have f7_4 := blk_free HA7.out 4
  have f7_5 := blk_free HA7.out 5
  have HA7s : Hid (((w7.setCell ⟨w4.heap.size, 4, none⟩ (.int .i64 ix)).setCell ⟨w4.heap.size, 5, none⟩ (.int .i64 lg)).heap[w4.heap.size]? = some (.cells #[.int .i64 3, .int .i64 fr, .int .i64 td, .int .i64 tm, .int .i64 ix, .int .i64 lg, .int .i64 0, .slice none 0 0, .int .i64 0, .int .i64 0, .slice none 0 0, .slice none 0 0, .slice none 0 0, .string (bs []), .bool false, .int .i64 0, .int .i64 0] 85 (0, 0))) := blk_set (blk_set (HA7.out) 4 _) 5 _
  have HR7s : Hid (((w7.setCell ⟨w4.heap.size, 4, none⟩ (.int .i64 ix)).setCell ⟨w4.heap.size, 5, none⟩ (.int .i64 lg)).heap[w.heap.size]? = some (.cells #[.int .i64 0, .int .i64 0, .int .i64 0, .int .i64 0, .int .i64 0, .int .i64 0, .int .i64 0, .slice none 0 0, .int .i64 0, .int .i64 0, .slice none 0 0, .slice none 0 0, .slice none 0 0, .string (bs []), .bool false, .int .i64 0, .int .i64 0] 85 (0, 0))) := blk_other (blk_other (HR7.out) hnr _) hnr _
  have HL7s : Hid (Left p ((w7.setCell ⟨w4.heap.size, 4, none⟩ (.int .i64 ix)).setCell ⟨w4.heap.size, 5, none⟩ (.int .i64 lg)) l7) := ((HL7.out).other hne _).other hne _
  have HK7s : Hid (Kept (One p.block) w ((w7.setCell ⟨w4.heap.size, 4, none⟩ (.int .i64 ix)).setCell ⟨w4.heap.size, 5, none⟩ (.int .i64 lg))) := ((HK7.out).setNew hge _).setNew hge _
  have HBo : Hid (rdBody 3 fr td tm l4 = .ok ({ Mg.head 3 fr td tm with ix := ix, lg := lg }, l7)) := (rdThen_ok r6).trans (rdThen_ok r7)
  have HI := isMessage_3 fr td tm ix lg ((w7.setCell ⟨w4.heap.size, 4, none⟩ (.int .i64 ix)).setCell ⟨w4.heap.size, 5, none⟩ (.int .i64 lg)) (from0 (by intro z hz; simp at hz; have := HM.out; have := HP6.out; have := HP7.out; omega))
  have HOK : Hid (Mg.ok { Mg.head 3 fr td tm with ix := ix, lg := lg } = _) := okOf_3 fr td tm ix lg
  rw [← HOK.out] at HI
  have HRd : Hid (rdMsg l = if Mg.ok { Mg.head 3 fr td tm with ix := ix, lg := lg } then .ok ({ Mg.head 3 fr td tm with ix := ix, lg := lg }, l7) else .error 7) := HD.out.trans (rdThen_ok HBo.out)
  generalize Mg.ok { Mg.head 3 fr td tm with ix := ix, lg := lg } = okb at HI HRd
  clear HOK
  go_wp2_with (first | ((with_reducible refine atLoad 85 ?_); go_must (refine wpList_loadW rfl _ _ rfl _ rfl _ _ _ (HA7s.out) Try.underlying85 rfl Try.sizeMsg rfl ?_)))
  refine HI.mono ?_
  rintro e wi ⟨rfl, ki⟩
  have HAi : Hid (wi.heap[w4.heap.size]? = some (.cells #[.int .i64 3, .int .i64 fr, .int .i64 td, .int .i64 tm, .int .i64 ix, .int .i64 lg, .int .i64 0, .slice none 0 0, .int .i64 0, .int .i64 0, .slice none 0 0, .slice none 0 0, .slice none 0 0, .string (bs []), .bool false, .int .i64 0, .int .i64 0] 85 (0, 0))) := ki.block _ _ (HA7s.out) (fun x => x.elim)
  have HRi : Hid (wi.heap[w.heap.size]? = some (.cells #[.int .i64 0, .int .i64 0, .int .i64 0, .int .i64 0, .int .i64 0, .int .i64 0, .int .i64 0, .slice none 0 0, .int .i64 0, .int .i64 0, .slice none 0 0, .slice none 0 0, .slice none 0 0, .string (bs []), .bool false, .int .i64 0, .int .i64 0] 85 (0, 0))) := ki.block _ _ (HR7s.out) (fun x => x.elim)
  have HKi : Hid (Kept (One p.block) w wi) := (HK7s.out).trans (ki.mono (fun _ _ x => x.elim))
  have HLi : Hid (Left p wi l7) := Left.kept (HL7s.out) ki
  cases okb with
  | false =>
    go_wp2_with (go_at_call 145; go_must (refine (must_no _ _).mono ?_); rintro e w99 ⟨rfl, rfl⟩)
    unfold bodyPost RdPost
    rw [HRd.out]
    exact ⟨rfl, rfl, HKi.out⟩
  | true =>
    go_wp2_with (first | (go_at_call 145; go_must (refine (must_ok _ _).mono ?_); rintro e w99 ⟨rfl, rfl⟩) | ((with_reducible refine atLoad 85 ?_); go_must (refine wpList_loadW rfl _ _ rfl _ rfl _ _ _ (HAi.out) Try.underlying85 rfl Try.sizeMsg rfl ?_)) | ((with_reducible refine atStore 85 ?_); go_must (refine wpList_storeW rfl _ _ _ rfl _ #[.int .i64 3, .int .i64 fr, .int .i64 td, .int .i64 tm, .int .i64 ix, .int .i64 lg, .int .i64 0, .slice none 0 0, .int .i64 0, .int .i64 0, .slice none 0 0, .slice none 0 0, .slice none 0 0, .string (bs []), .bool false, .int .i64 0, .int .i64 0] _ _ rfl rfl HRi.out rfl Try.sizeMsg rfl (one17 rfl rfl rfl rfl rfl rfl rfl rfl rfl rfl rfl rfl rfl rfl rfl rfl rfl) ?_); intro w9 hb9 hk9 hs9))
    refine bodyPost_ret (results_cellW rfl rfl hb9 Try.underlying85 rfl Try.sizeMsg rfl) rfl ?_
    unfold RdPost
    rw [HRd.out]
    exact ⟨⟨_, rfl, none, 0, none, none, none, 0, 0, 0, rfl, ⟨fun _ => ⟨rfl, rfl⟩, fun _ => ⟨⟨rfl, rfl⟩, ⟨rfl, rfl⟩, ⟨rfl, rfl⟩⟩⟩, World.ownsRow_nil _ _ _ _, World.ownsRow_nil _ _ _ _, World.ownsRow_nil _ _ _ _, World.ownsRow_nil _ _ _ _⟩, HLi.out.keptX hk9 (fun _ (e : p.block = w.heap.size) => by have := HB.out; omega), HKi.out.thenNew hk9 (fun k _ h => by have : k = w.heap.size := h; omega)⟩

end Go.Proofs.Ytijklginabipgaa

/-
  A message read (kind 2).
-/
namespace Go.Proofs.Ytijklginabipgaa
open Go.RowKit

set_option maxRecDepth 100000 in
set_option maxHeartbeats 4000000 in
theorem rMsg_2 (p : Addr) (fr td tm : Nat) (l l1 l2 l3 l4 : List UInt8) (w : World) (hl : Left p w l) (r1 : rdNum l = .ok (2, l1)) (r2 : rdNum l1 = .ok (fr, l2)) (r3 : rdNum l2 = .ok (td, l3)) (r4 : rdNum l3 = .ok (tm, l4)) :
    Calls Try.prog 127 #[.pointer (some p)] w (RdPost p w (rdMsg l) (MgV w.heap.size)) := by
  have HB : Hid (p.block < w.heap.size) := cell_lt hl.cell
  have HZ : Hid (_) := blk_new w (.cells #[.int .i64 0, .int .i64 0, .int .i64 0, .int .i64 0, .int .i64 0, .int .i64 0, .int .i64 0, .slice none 0 0, .int .i64 0, .int .i64 0, .slice none 0 0, .slice none 0 0, .slice none 0 0, .string (bs []), .bool false, .int .i64 0, .int .i64 0] 85)
  have HX : Hid (¬ One p.block w.heap.size (.cells #[.int .i64 0, .int .i64 0, .int .i64 0, .int .i64 0, .int .i64 0, .int .i64 0, .int .i64 0, .slice none 0 0, .int .i64 0, .int .i64 0, .slice none 0 0, .slice none 0 0, .slice none 0 0, .string (bs []), .bool false, .int .i64 0, .int .i64 0] 85 (0, 0))) := fun (e : w.heap.size = p.block) => by have := HB.out; omega
  have hla := hl.alloc (.cells #[.int .i64 0, .int .i64 0, .int .i64 0, .int .i64 0, .int .i64 0, .int .i64 0, .int .i64 0, .slice none 0 0, .int .i64 0, .int .i64 0, .slice none 0 0, .slice none 0 0, .slice none 0 0, .string (bs []), .bool false, .int .i64 0, .int .i64 0] 85)
  have HD : Hid (rdMsg l = rdThen (rdBody 2 fr td tm l4) fun m l => if m.ok then .ok (m, l) else .error 7) := (rdThen_ok r1).trans ((rdThen_ok r2).trans ((rdThen_ok r3).trans (rdThen_ok r4)))
  have HM : Hid (fr ≤ 1099511627775 ∧ td ≤ 1099511627775 ∧ tm ≤ 1099511627775) := ⟨rdNum_max r2, rdNum_max r3, rdNum_max r4⟩
  clear hl
  go_enter Try.func127, Try.ntmps127
  go_wp2_with fail
  refine (number_ok hla r1).mono ?_
  rintro e w1 ⟨rfl, c1, z1, k1⟩
  go_wp2_with fail
  refine (number_ok ⟨c1, z1⟩ r2).mono ?_
  rintro e w2 ⟨rfl, c2, z2, k2⟩
  go_wp2_with fail
  refine (number_ok ⟨c2, z2⟩ r3).mono ?_
  rintro e w3 ⟨rfl, c3, z3, k3⟩
  go_wp2_with fail
  refine (number_ok ⟨c3, z3⟩ r4).mono ?_
  rintro e w4 ⟨rfl, c4, z4, k4⟩
  have HK4 : Hid (Kept (One p.block) w w4) := ((((Kept.refl _ _).alloc _).trans k1).trans k2).trans k3 |>.trans k4
  have HR4 : Hid (w4.heap[w.heap.size]? = some (.cells #[.int .i64 0, .int .i64 0, .int .i64 0, .int .i64 0, .int .i64 0, .int .i64 0, .int .i64 0, .slice none 0 0, .int .i64 0, .int .i64 0, .slice none 0 0, .slice none 0 0, .slice none 0 0, .string (bs []), .bool false, .int .i64 0, .int .i64 0] 85 (0, 0))) := k4.block _ _ (k3.block _ _ (k2.block _ _ (k1.block _ _ HZ.out HX.out) HX.out) HX.out) HX.out
  have HL4 : Hid (Left p w4 l4) := ⟨c4, z4⟩
  have hne : p.block ≠ w4.heap.size := by have := HB.out; have := HK4.out.size; omega
  have hnr : w.heap.size ≠ w4.heap.size := by have := lt_of_block HR4.out; omega
  have hge : w.heap.size ≤ w4.heap.size := HK4.out.size
  clear c1 z1 k1 c2 z2 k2 c3 z3 k3 c4 z4 k4 r1 r2 r3 r4 hla
  go_wp2_with ((with_reducible refine atStore 85 ?_); go_must (refine wpList_storeW rfl _ _ _ rfl _ #[.int .i64 2, .int .i64 fr, .int .i64 td, .int .i64 tm, .int .i64 0, .int .i64 0, .int .i64 0, .slice none 0 0, .int .i64 0, .int .i64 0, .slice none 0 0, .slice none 0 0, .slice none 0 0, .string (bs []), .bool false, .int .i64 0, .int .i64 0] _ _ rfl rfl (blk_new w4 _) rfl Try.sizeMsg rfl (one17 rfl rfl rfl rfl rfl rfl rfl rfl rfl rfl rfl rfl rfl rfl rfl rfl rfl) ?_; intro w5 hb5 hk5 hs5; have q5_0 := blk_at hb5 0 rfl; have HK5 : Hid (Kept (One p.block) w w5) := (by show Kept (One p.block) w w5; exact (HK4.out.alloc _).thenNew hk5 (fun k _ h => by have : k = w4.heap.size := h; omega)); have HR5 : Hid (w5.heap[w.heap.size]? = some (.cells #[.int .i64 0, .int .i64 0, .int .i64 0, .int .i64 0, .int .i64 0, .int .i64 0, .int .i64 0, .slice none 0 0, .int .i64 0, .int .i64 0, .slice none 0 0, .slice none 0 0, .slice none 0 0, .string (bs []), .bool false, .int .i64 0, .int .i64 0] 85 (0, 0))) := hk5.block _ _ (blk_past HR4.out _) (fun (e : w.heap.size = w4.heap.size) => hnr e); have HL5 : Hid (Left p w5 l4) := (HL4.out.alloc _).keptX hk5 (fun _ (e : p.block = w4.heap.size) => hne e); have HS5 : Hid (w4.heap.size < w5.heap.size) := lt_of_block hb5; have HA5 : Hid (w5.heap[w4.heap.size]? = some (.cells #[.int .i64 2, .int .i64 fr, .int .i64 td, .int .i64 tm, .int .i64 0, .int .i64 0, .int .i64 0, .slice none 0 0, .int .i64 0, .int .i64 0, .slice none 0 0, .slice none 0 0, .slice none 0 0, .string (bs []), .bool false, .int .i64 0, .int .i64 0] 85 (0, 0))) := hb5; clear hk5 hs5 hb5))
  cases r6 : rdFlag l4 with
  | error c =>
    have HE : Hid (rdMsg l = .error c) := HD.out.trans (rdThen_no (rdThen_no r6))
    refine (RdPost.no (rFlag_any p l4 _ (HL5.out)) r6).mono ?_
    rintro e wx ⟨rfl, kx⟩
    go_wp2
    unfold bodyPost RdPost
    rw [HE.out]
    exact ⟨rfl, rfl, (HK5.out).trans kx⟩
  | ok x =>
  obtain ⟨rj, l6⟩ := x
  refine (rFlag_ok (HL5.out) r6).mono ?_
  rintro e w6 ⟨rfl, c6, z6, k6⟩
  have HK6 : Hid (Kept (One p.block) w w6) := (HK5.out).trans k6
  have HR6 : Hid (w6.heap[w.heap.size]? = some (.cells #[.int .i64 0, .int .i64 0, .int .i64 0, .int .i64 0, .int .i64 0, .int .i64 0, .int .i64 0, .slice none 0 0, .int .i64 0, .int .i64 0, .slice none 0 0, .slice none 0 0, .slice none 0 0, .string (bs []), .bool false, .int .i64 0, .int .i64 0] 85 (0, 0))) := k6.block _ _ (HR5.out) HX.out
  have HA6 : Hid (w6.heap[w4.heap.size]? = some (.cells #[.int .i64 2, .int .i64 fr, .int .i64 td, .int .i64 tm, .int .i64 0, .int .i64 0, .int .i64 0, .slice none 0 0, .int .i64 0, .int .i64 0, .slice none 0 0, .slice none 0 0, .slice none 0 0, .string (bs []), .bool false, .int .i64 0, .int .i64 0] 85 (0, 0))) := k6.block _ _ (HA5.out) (fun (e : w4.heap.size = p.block) => hne e.symm)
  have HL6 : Hid (Left p w6 l6) := ⟨c6, z6⟩
  clear c6 z6
  have g6_14 := blk_at HA6.out 14 rfl
  have f6_14 := blk_free HA6.out 14
  have HA6s : Hid ((w6.setCell ⟨w4.heap.size, 14, none⟩ (.bool rj)).heap[w4.heap.size]? = some (.cells #[.int .i64 2, .int .i64 fr, .int .i64 td, .int .i64 tm, .int .i64 0, .int .i64 0, .int .i64 0, .slice none 0 0, .int .i64 0, .int .i64 0, .slice none 0 0, .slice none 0 0, .slice none 0 0, .string (bs []), .bool rj, .int .i64 0, .int .i64 0] 85 (0, 0))) := blk_set (HA6.out) 14 _
  have HR6s : Hid ((w6.setCell ⟨w4.heap.size, 14, none⟩ (.bool rj)).heap[w.heap.size]? = some (.cells #[.int .i64 0, .int .i64 0, .int .i64 0, .int .i64 0, .int .i64 0, .int .i64 0, .int .i64 0, .slice none 0 0, .int .i64 0, .int .i64 0, .slice none 0 0, .slice none 0 0, .slice none 0 0, .string (bs []), .bool false, .int .i64 0, .int .i64 0] 85 (0, 0))) := blk_other (HR6.out) hnr _
  have HL6s : Hid (Left p (w6.setCell ⟨w4.heap.size, 14, none⟩ (.bool rj)) l6) := (HL6.out).other hne _
  have HK6s : Hid (Kept (One p.block) w (w6.setCell ⟨w4.heap.size, 14, none⟩ (.bool rj))) := (HK6.out).setNew hge _
  have HBo : Hid (rdBody 2 fr td tm l4 = .ok ({ Mg.head 2 fr td tm with rj := rj }, l6)) := rdThen_ok r6
  have HI := isMessage_2 fr td tm rj (w6.setCell ⟨w4.heap.size, 14, none⟩ (.bool rj)) (from0 (by intro z hz; simp at hz; have := HM.out; omega))
  have HOK : Hid (Mg.ok { Mg.head 2 fr td tm with rj := rj } = _) := okOf_2 fr td tm rj
  rw [← HOK.out] at HI
  have HRd : Hid (rdMsg l = if Mg.ok { Mg.head 2 fr td tm with rj := rj } then .ok ({ Mg.head 2 fr td tm with rj := rj }, l6) else .error 7) := HD.out.trans (rdThen_ok HBo.out)
  generalize Mg.ok { Mg.head 2 fr td tm with rj := rj } = okb at HI HRd
  clear HOK
  go_wp2_with (first | ((with_reducible refine atLoad 85 ?_); go_must (refine wpList_loadW rfl _ _ rfl _ rfl _ _ _ (HA6s.out) Try.underlying85 rfl Try.sizeMsg rfl ?_)))
  refine HI.mono ?_
  rintro e wi ⟨rfl, ki⟩
  have HAi : Hid (wi.heap[w4.heap.size]? = some (.cells #[.int .i64 2, .int .i64 fr, .int .i64 td, .int .i64 tm, .int .i64 0, .int .i64 0, .int .i64 0, .slice none 0 0, .int .i64 0, .int .i64 0, .slice none 0 0, .slice none 0 0, .slice none 0 0, .string (bs []), .bool rj, .int .i64 0, .int .i64 0] 85 (0, 0))) := ki.block _ _ (HA6s.out) (fun x => x.elim)
  have HRi : Hid (wi.heap[w.heap.size]? = some (.cells #[.int .i64 0, .int .i64 0, .int .i64 0, .int .i64 0, .int .i64 0, .int .i64 0, .int .i64 0, .slice none 0 0, .int .i64 0, .int .i64 0, .slice none 0 0, .slice none 0 0, .slice none 0 0, .string (bs []), .bool false, .int .i64 0, .int .i64 0] 85 (0, 0))) := ki.block _ _ (HR6s.out) (fun x => x.elim)
  have HKi : Hid (Kept (One p.block) w wi) := (HK6s.out).trans (ki.mono (fun _ _ x => x.elim))
  have HLi : Hid (Left p wi l6) := Left.kept (HL6s.out) ki
  cases okb with
  | false =>
    go_wp2_with (go_at_call 145; go_must (refine (must_no _ _).mono ?_); rintro e w99 ⟨rfl, rfl⟩)
    unfold bodyPost RdPost
    rw [HRd.out]
    exact ⟨rfl, rfl, HKi.out⟩
  | true =>
    go_wp2_with (first | (go_at_call 145; go_must (refine (must_ok _ _).mono ?_); rintro e w99 ⟨rfl, rfl⟩) | ((with_reducible refine atLoad 85 ?_); go_must (refine wpList_loadW rfl _ _ rfl _ rfl _ _ _ (HAi.out) Try.underlying85 rfl Try.sizeMsg rfl ?_)) | ((with_reducible refine atStore 85 ?_); go_must (refine wpList_storeW rfl _ _ _ rfl _ #[.int .i64 2, .int .i64 fr, .int .i64 td, .int .i64 tm, .int .i64 0, .int .i64 0, .int .i64 0, .slice none 0 0, .int .i64 0, .int .i64 0, .slice none 0 0, .slice none 0 0, .slice none 0 0, .string (bs []), .bool rj, .int .i64 0, .int .i64 0] _ _ rfl rfl HRi.out rfl Try.sizeMsg rfl (one17 rfl rfl rfl rfl rfl rfl rfl rfl rfl rfl rfl rfl rfl rfl rfl rfl rfl) ?_); intro w9 hb9 hk9 hs9))
    refine bodyPost_ret (results_cellW rfl rfl hb9 Try.underlying85 rfl Try.sizeMsg rfl) rfl ?_
    unfold RdPost
    rw [HRd.out]
    exact ⟨⟨_, rfl, none, 0, none, none, none, 0, 0, 0, rfl, ⟨fun _ => ⟨rfl, rfl⟩, fun _ => ⟨⟨rfl, rfl⟩, ⟨rfl, rfl⟩, ⟨rfl, rfl⟩⟩⟩, World.ownsRow_nil _ _ _ _, World.ownsRow_nil _ _ _ _, World.ownsRow_nil _ _ _ _, World.ownsRow_nil _ _ _ _⟩, HLi.out.keptX hk9 (fun _ (e : p.block = w.heap.size) => by have := HB.out; omega), HKi.out.thenNew hk9 (fun k _ h => by have : k = w.heap.size := h; omega)⟩

end Go.Proofs.Ytijklginabipgaa

/-
  A message read (kind 4).
-/
namespace Go.Proofs.Ytijklginabipgaa
open Go.RowKit

set_option maxRecDepth 100000 in
set_option maxHeartbeats 4000000 in
theorem rMsg_4 (p : Addr) (fr td tm : Nat) (l l1 l2 l3 l4 : List UInt8) (w : World) (hl : Left p w l) (r1 : rdNum l = .ok (4, l1)) (r2 : rdNum l1 = .ok (fr, l2)) (r3 : rdNum l2 = .ok (td, l3)) (r4 : rdNum l3 = .ok (tm, l4)) :
    Calls Try.prog 127 #[.pointer (some p)] w (RdPost p w (rdMsg l) (MgV w.heap.size)) := by
  have HB : Hid (p.block < w.heap.size) := cell_lt hl.cell
  have HZ : Hid (_) := blk_new w (.cells #[.int .i64 0, .int .i64 0, .int .i64 0, .int .i64 0, .int .i64 0, .int .i64 0, .int .i64 0, .slice none 0 0, .int .i64 0, .int .i64 0, .slice none 0 0, .slice none 0 0, .slice none 0 0, .string (bs []), .bool false, .int .i64 0, .int .i64 0] 85)
  have HX : Hid (¬ One p.block w.heap.size (.cells #[.int .i64 0, .int .i64 0, .int .i64 0, .int .i64 0, .int .i64 0, .int .i64 0, .int .i64 0, .slice none 0 0, .int .i64 0, .int .i64 0, .slice none 0 0, .slice none 0 0, .slice none 0 0, .string (bs []), .bool false, .int .i64 0, .int .i64 0] 85 (0, 0))) := fun (e : w.heap.size = p.block) => by have := HB.out; omega
  have hla := hl.alloc (.cells #[.int .i64 0, .int .i64 0, .int .i64 0, .int .i64 0, .int .i64 0, .int .i64 0, .int .i64 0, .slice none 0 0, .int .i64 0, .int .i64 0, .slice none 0 0, .slice none 0 0, .slice none 0 0, .string (bs []), .bool false, .int .i64 0, .int .i64 0] 85)
  have HD : Hid (rdMsg l = rdThen (rdBody 4 fr td tm l4) fun m l => if m.ok then .ok (m, l) else .error 7) := (rdThen_ok r1).trans ((rdThen_ok r2).trans ((rdThen_ok r3).trans (rdThen_ok r4)))
  have HM : Hid (fr ≤ 1099511627775 ∧ td ≤ 1099511627775 ∧ tm ≤ 1099511627775) := ⟨rdNum_max r2, rdNum_max r3, rdNum_max r4⟩
  clear hl
  go_enter Try.func127, Try.ntmps127
  go_wp2_with fail
  refine (number_ok hla r1).mono ?_
  rintro e w1 ⟨rfl, c1, z1, k1⟩
  go_wp2_with fail
  refine (number_ok ⟨c1, z1⟩ r2).mono ?_
  rintro e w2 ⟨rfl, c2, z2, k2⟩
  go_wp2_with fail
  refine (number_ok ⟨c2, z2⟩ r3).mono ?_
  rintro e w3 ⟨rfl, c3, z3, k3⟩
  go_wp2_with fail
  refine (number_ok ⟨c3, z3⟩ r4).mono ?_
  rintro e w4 ⟨rfl, c4, z4, k4⟩
  have HK4 : Hid (Kept (One p.block) w w4) := ((((Kept.refl _ _).alloc _).trans k1).trans k2).trans k3 |>.trans k4
  have HR4 : Hid (w4.heap[w.heap.size]? = some (.cells #[.int .i64 0, .int .i64 0, .int .i64 0, .int .i64 0, .int .i64 0, .int .i64 0, .int .i64 0, .slice none 0 0, .int .i64 0, .int .i64 0, .slice none 0 0, .slice none 0 0, .slice none 0 0, .string (bs []), .bool false, .int .i64 0, .int .i64 0] 85 (0, 0))) := k4.block _ _ (k3.block _ _ (k2.block _ _ (k1.block _ _ HZ.out HX.out) HX.out) HX.out) HX.out
  have HL4 : Hid (Left p w4 l4) := ⟨c4, z4⟩
  have hne : p.block ≠ w4.heap.size := by have := HB.out; have := HK4.out.size; omega
  have hnr : w.heap.size ≠ w4.heap.size := by have := lt_of_block HR4.out; omega
  have hge : w.heap.size ≤ w4.heap.size := HK4.out.size
  clear c1 z1 k1 c2 z2 k2 c3 z3 k3 c4 z4 k4 r1 r2 r3 r4 hla
  go_wp2_with ((with_reducible refine atStore 85 ?_); go_must (refine wpList_storeW rfl _ _ _ rfl _ #[.int .i64 4, .int .i64 fr, .int .i64 td, .int .i64 tm, .int .i64 0, .int .i64 0, .int .i64 0, .slice none 0 0, .int .i64 0, .int .i64 0, .slice none 0 0, .slice none 0 0, .slice none 0 0, .string (bs []), .bool false, .int .i64 0, .int .i64 0] _ _ rfl rfl (blk_new w4 _) rfl Try.sizeMsg rfl (one17 rfl rfl rfl rfl rfl rfl rfl rfl rfl rfl rfl rfl rfl rfl rfl rfl rfl) ?_; intro w5 hb5 hk5 hs5; have q5_0 := blk_at hb5 0 rfl; have HK5 : Hid (Kept (One p.block) w w5) := (by show Kept (One p.block) w w5; exact (HK4.out.alloc _).thenNew hk5 (fun k _ h => by have : k = w4.heap.size := h; omega)); have HR5 : Hid (w5.heap[w.heap.size]? = some (.cells #[.int .i64 0, .int .i64 0, .int .i64 0, .int .i64 0, .int .i64 0, .int .i64 0, .int .i64 0, .slice none 0 0, .int .i64 0, .int .i64 0, .slice none 0 0, .slice none 0 0, .slice none 0 0, .string (bs []), .bool false, .int .i64 0, .int .i64 0] 85 (0, 0))) := hk5.block _ _ (blk_past HR4.out _) (fun (e : w.heap.size = w4.heap.size) => hnr e); have HL5 : Hid (Left p w5 l4) := (HL4.out.alloc _).keptX hk5 (fun _ (e : p.block = w4.heap.size) => hne e); have HS5 : Hid (w4.heap.size < w5.heap.size) := lt_of_block hb5; have HA5 : Hid (w5.heap[w4.heap.size]? = some (.cells #[.int .i64 4, .int .i64 fr, .int .i64 td, .int .i64 tm, .int .i64 0, .int .i64 0, .int .i64 0, .slice none 0 0, .int .i64 0, .int .i64 0, .slice none 0 0, .slice none 0 0, .slice none 0 0, .string (bs []), .bool false, .int .i64 0, .int .i64 0] 85 (0, 0))) := hb5; clear hk5 hs5 hb5))
  cases r6 : rdFlag l4 with
  | error c =>
    have HE : Hid (rdMsg l = .error c) := HD.out.trans (rdThen_no (rdThen_no r6))
    refine (RdPost.no (rFlag_any p l4 _ (HL5.out)) r6).mono ?_
    rintro e wx ⟨rfl, kx⟩
    go_wp2
    unfold bodyPost RdPost
    rw [HE.out]
    exact ⟨rfl, rfl, (HK5.out).trans kx⟩
  | ok x =>
  obtain ⟨rj, l6⟩ := x
  refine (rFlag_ok (HL5.out) r6).mono ?_
  rintro e w6 ⟨rfl, c6, z6, k6⟩
  have HK6 : Hid (Kept (One p.block) w w6) := (HK5.out).trans k6
  have HR6 : Hid (w6.heap[w.heap.size]? = some (.cells #[.int .i64 0, .int .i64 0, .int .i64 0, .int .i64 0, .int .i64 0, .int .i64 0, .int .i64 0, .slice none 0 0, .int .i64 0, .int .i64 0, .slice none 0 0, .slice none 0 0, .slice none 0 0, .string (bs []), .bool false, .int .i64 0, .int .i64 0] 85 (0, 0))) := k6.block _ _ (HR5.out) HX.out
  have HA6 : Hid (w6.heap[w4.heap.size]? = some (.cells #[.int .i64 4, .int .i64 fr, .int .i64 td, .int .i64 tm, .int .i64 0, .int .i64 0, .int .i64 0, .slice none 0 0, .int .i64 0, .int .i64 0, .slice none 0 0, .slice none 0 0, .slice none 0 0, .string (bs []), .bool false, .int .i64 0, .int .i64 0] 85 (0, 0))) := k6.block _ _ (HA5.out) (fun (e : w4.heap.size = p.block) => hne e.symm)
  have HL6 : Hid (Left p w6 l6) := ⟨c6, z6⟩
  clear c6 z6
  have g6_14 := blk_at HA6.out 14 rfl
  have f6_14 := blk_free HA6.out 14
  have HA6s : Hid ((w6.setCell ⟨w4.heap.size, 14, none⟩ (.bool rj)).heap[w4.heap.size]? = some (.cells #[.int .i64 4, .int .i64 fr, .int .i64 td, .int .i64 tm, .int .i64 0, .int .i64 0, .int .i64 0, .slice none 0 0, .int .i64 0, .int .i64 0, .slice none 0 0, .slice none 0 0, .slice none 0 0, .string (bs []), .bool rj, .int .i64 0, .int .i64 0] 85 (0, 0))) := blk_set (HA6.out) 14 _
  have HR6s : Hid ((w6.setCell ⟨w4.heap.size, 14, none⟩ (.bool rj)).heap[w.heap.size]? = some (.cells #[.int .i64 0, .int .i64 0, .int .i64 0, .int .i64 0, .int .i64 0, .int .i64 0, .int .i64 0, .slice none 0 0, .int .i64 0, .int .i64 0, .slice none 0 0, .slice none 0 0, .slice none 0 0, .string (bs []), .bool false, .int .i64 0, .int .i64 0] 85 (0, 0))) := blk_other (HR6.out) hnr _
  have HL6s : Hid (Left p (w6.setCell ⟨w4.heap.size, 14, none⟩ (.bool rj)) l6) := (HL6.out).other hne _
  have HK6s : Hid (Kept (One p.block) w (w6.setCell ⟨w4.heap.size, 14, none⟩ (.bool rj))) := (HK6.out).setNew hge _
  have HBo : Hid (rdBody 4 fr td tm l4 = .ok ({ Mg.head 4 fr td tm with rj := rj }, l6)) := rdThen_ok r6
  have HI := isMessage_4 fr td tm rj (w6.setCell ⟨w4.heap.size, 14, none⟩ (.bool rj)) (from0 (by intro z hz; simp at hz; have := HM.out; omega))
  have HOK : Hid (Mg.ok { Mg.head 4 fr td tm with rj := rj } = _) := okOf_4 fr td tm rj
  rw [← HOK.out] at HI
  have HRd : Hid (rdMsg l = if Mg.ok { Mg.head 4 fr td tm with rj := rj } then .ok ({ Mg.head 4 fr td tm with rj := rj }, l6) else .error 7) := HD.out.trans (rdThen_ok HBo.out)
  generalize Mg.ok { Mg.head 4 fr td tm with rj := rj } = okb at HI HRd
  clear HOK
  go_wp2_with (first | ((with_reducible refine atLoad 85 ?_); go_must (refine wpList_loadW rfl _ _ rfl _ rfl _ _ _ (HA6s.out) Try.underlying85 rfl Try.sizeMsg rfl ?_)))
  refine HI.mono ?_
  rintro e wi ⟨rfl, ki⟩
  have HAi : Hid (wi.heap[w4.heap.size]? = some (.cells #[.int .i64 4, .int .i64 fr, .int .i64 td, .int .i64 tm, .int .i64 0, .int .i64 0, .int .i64 0, .slice none 0 0, .int .i64 0, .int .i64 0, .slice none 0 0, .slice none 0 0, .slice none 0 0, .string (bs []), .bool rj, .int .i64 0, .int .i64 0] 85 (0, 0))) := ki.block _ _ (HA6s.out) (fun x => x.elim)
  have HRi : Hid (wi.heap[w.heap.size]? = some (.cells #[.int .i64 0, .int .i64 0, .int .i64 0, .int .i64 0, .int .i64 0, .int .i64 0, .int .i64 0, .slice none 0 0, .int .i64 0, .int .i64 0, .slice none 0 0, .slice none 0 0, .slice none 0 0, .string (bs []), .bool false, .int .i64 0, .int .i64 0] 85 (0, 0))) := ki.block _ _ (HR6s.out) (fun x => x.elim)
  have HKi : Hid (Kept (One p.block) w wi) := (HK6s.out).trans (ki.mono (fun _ _ x => x.elim))
  have HLi : Hid (Left p wi l6) := Left.kept (HL6s.out) ki
  cases okb with
  | false =>
    go_wp2_with (go_at_call 145; go_must (refine (must_no _ _).mono ?_); rintro e w99 ⟨rfl, rfl⟩)
    unfold bodyPost RdPost
    rw [HRd.out]
    exact ⟨rfl, rfl, HKi.out⟩
  | true =>
    go_wp2_with (first | (go_at_call 145; go_must (refine (must_ok _ _).mono ?_); rintro e w99 ⟨rfl, rfl⟩) | ((with_reducible refine atLoad 85 ?_); go_must (refine wpList_loadW rfl _ _ rfl _ rfl _ _ _ (HAi.out) Try.underlying85 rfl Try.sizeMsg rfl ?_)) | ((with_reducible refine atStore 85 ?_); go_must (refine wpList_storeW rfl _ _ _ rfl _ #[.int .i64 4, .int .i64 fr, .int .i64 td, .int .i64 tm, .int .i64 0, .int .i64 0, .int .i64 0, .slice none 0 0, .int .i64 0, .int .i64 0, .slice none 0 0, .slice none 0 0, .slice none 0 0, .string (bs []), .bool rj, .int .i64 0, .int .i64 0] _ _ rfl rfl HRi.out rfl Try.sizeMsg rfl (one17 rfl rfl rfl rfl rfl rfl rfl rfl rfl rfl rfl rfl rfl rfl rfl rfl rfl) ?_); intro w9 hb9 hk9 hs9))
    refine bodyPost_ret (results_cellW rfl rfl hb9 Try.underlying85 rfl Try.sizeMsg rfl) rfl ?_
    unfold RdPost
    rw [HRd.out]
    exact ⟨⟨_, rfl, none, 0, none, none, none, 0, 0, 0, rfl, ⟨fun _ => ⟨rfl, rfl⟩, fun _ => ⟨⟨rfl, rfl⟩, ⟨rfl, rfl⟩, ⟨rfl, rfl⟩⟩⟩, World.ownsRow_nil _ _ _ _, World.ownsRow_nil _ _ _ _, World.ownsRow_nil _ _ _ _, World.ownsRow_nil _ _ _ _⟩, HLi.out.keptX hk9 (fun _ (e : p.block = w.heap.size) => by have := HB.out; omega), HKi.out.thenNew hk9 (fun k _ h => by have : k = w.heap.size := h; omega)⟩

end Go.Proofs.Ytijklginabipgaa

/-
  A message read (kind 5).
-/
namespace Go.Proofs.Ytijklginabipgaa
open Go.RowKit

set_option maxRecDepth 100000 in
set_option maxHeartbeats 4000000 in
theorem rMsg_5 (p : Addr) (fr td tm : Nat) (l l1 l2 l3 l4 : List UInt8) (w : World) (hl : Left p w l) (r1 : rdNum l = .ok (5, l1)) (r2 : rdNum l1 = .ok (fr, l2)) (r3 : rdNum l2 = .ok (td, l3)) (r4 : rdNum l3 = .ok (tm, l4)) :
    Calls Try.prog 127 #[.pointer (some p)] w (RdPost p w (rdMsg l) (MgV w.heap.size)) := by
  have HB : Hid (p.block < w.heap.size) := cell_lt hl.cell
  have HZ : Hid (_) := blk_new w (.cells #[.int .i64 0, .int .i64 0, .int .i64 0, .int .i64 0, .int .i64 0, .int .i64 0, .int .i64 0, .slice none 0 0, .int .i64 0, .int .i64 0, .slice none 0 0, .slice none 0 0, .slice none 0 0, .string (bs []), .bool false, .int .i64 0, .int .i64 0] 85)
  have HX : Hid (¬ One p.block w.heap.size (.cells #[.int .i64 0, .int .i64 0, .int .i64 0, .int .i64 0, .int .i64 0, .int .i64 0, .int .i64 0, .slice none 0 0, .int .i64 0, .int .i64 0, .slice none 0 0, .slice none 0 0, .slice none 0 0, .string (bs []), .bool false, .int .i64 0, .int .i64 0] 85 (0, 0))) := fun (e : w.heap.size = p.block) => by have := HB.out; omega
  have hla := hl.alloc (.cells #[.int .i64 0, .int .i64 0, .int .i64 0, .int .i64 0, .int .i64 0, .int .i64 0, .int .i64 0, .slice none 0 0, .int .i64 0, .int .i64 0, .slice none 0 0, .slice none 0 0, .slice none 0 0, .string (bs []), .bool false, .int .i64 0, .int .i64 0] 85)
  have HD : Hid (rdMsg l = rdThen (rdBody 5 fr td tm l4) fun m l => if m.ok then .ok (m, l) else .error 7) := (rdThen_ok r1).trans ((rdThen_ok r2).trans ((rdThen_ok r3).trans (rdThen_ok r4)))
  have HM : Hid (fr ≤ 1099511627775 ∧ td ≤ 1099511627775 ∧ tm ≤ 1099511627775) := ⟨rdNum_max r2, rdNum_max r3, rdNum_max r4⟩
  clear hl
  go_enter Try.func127, Try.ntmps127
  go_wp2_with fail
  refine (number_ok hla r1).mono ?_
  rintro e w1 ⟨rfl, c1, z1, k1⟩
  go_wp2_with fail
  refine (number_ok ⟨c1, z1⟩ r2).mono ?_
  rintro e w2 ⟨rfl, c2, z2, k2⟩
  go_wp2_with fail
  refine (number_ok ⟨c2, z2⟩ r3).mono ?_
  rintro e w3 ⟨rfl, c3, z3, k3⟩
  go_wp2_with fail
  refine (number_ok ⟨c3, z3⟩ r4).mono ?_
  rintro e w4 ⟨rfl, c4, z4, k4⟩
  have HK4 : Hid (Kept (One p.block) w w4) := ((((Kept.refl _ _).alloc _).trans k1).trans k2).trans k3 |>.trans k4
  have HR4 : Hid (w4.heap[w.heap.size]? = some (.cells #[.int .i64 0, .int .i64 0, .int .i64 0, .int .i64 0, .int .i64 0, .int .i64 0, .int .i64 0, .slice none 0 0, .int .i64 0, .int .i64 0, .slice none 0 0, .slice none 0 0, .slice none 0 0, .string (bs []), .bool false, .int .i64 0, .int .i64 0] 85 (0, 0))) := k4.block _ _ (k3.block _ _ (k2.block _ _ (k1.block _ _ HZ.out HX.out) HX.out) HX.out) HX.out
  have HL4 : Hid (Left p w4 l4) := ⟨c4, z4⟩
  have hne : p.block ≠ w4.heap.size := by have := HB.out; have := HK4.out.size; omega
  have hnr : w.heap.size ≠ w4.heap.size := by have := lt_of_block HR4.out; omega
  have hge : w.heap.size ≤ w4.heap.size := HK4.out.size
  clear c1 z1 k1 c2 z2 k2 c3 z3 k3 c4 z4 k4 r1 r2 r3 r4 hla
  go_wp2_with ((with_reducible refine atStore 85 ?_); go_must (refine wpList_storeW rfl _ _ _ rfl _ #[.int .i64 5, .int .i64 fr, .int .i64 td, .int .i64 tm, .int .i64 0, .int .i64 0, .int .i64 0, .slice none 0 0, .int .i64 0, .int .i64 0, .slice none 0 0, .slice none 0 0, .slice none 0 0, .string (bs []), .bool false, .int .i64 0, .int .i64 0] _ _ rfl rfl (blk_new w4 _) rfl Try.sizeMsg rfl (one17 rfl rfl rfl rfl rfl rfl rfl rfl rfl rfl rfl rfl rfl rfl rfl rfl rfl) ?_; intro w5 hb5 hk5 hs5; have q5_0 := blk_at hb5 0 rfl; have HK5 : Hid (Kept (One p.block) w w5) := (by show Kept (One p.block) w w5; exact (HK4.out.alloc _).thenNew hk5 (fun k _ h => by have : k = w4.heap.size := h; omega)); have HR5 : Hid (w5.heap[w.heap.size]? = some (.cells #[.int .i64 0, .int .i64 0, .int .i64 0, .int .i64 0, .int .i64 0, .int .i64 0, .int .i64 0, .slice none 0 0, .int .i64 0, .int .i64 0, .slice none 0 0, .slice none 0 0, .slice none 0 0, .string (bs []), .bool false, .int .i64 0, .int .i64 0] 85 (0, 0))) := hk5.block _ _ (blk_past HR4.out _) (fun (e : w.heap.size = w4.heap.size) => hnr e); have HL5 : Hid (Left p w5 l4) := (HL4.out.alloc _).keptX hk5 (fun _ (e : p.block = w4.heap.size) => hne e); have HS5 : Hid (w4.heap.size < w5.heap.size) := lt_of_block hb5; have HA5 : Hid (w5.heap[w4.heap.size]? = some (.cells #[.int .i64 5, .int .i64 fr, .int .i64 td, .int .i64 tm, .int .i64 0, .int .i64 0, .int .i64 0, .slice none 0 0, .int .i64 0, .int .i64 0, .slice none 0 0, .slice none 0 0, .slice none 0 0, .string (bs []), .bool false, .int .i64 0, .int .i64 0] 85 (0, 0))) := hb5; clear hk5 hs5 hb5))
  cases r6 : rdNum l4 with
  | error c =>
    have HE : Hid (rdMsg l = .error c) := HD.out.trans (rdThen_no (rdThen_no r6))
    refine (number_no (HL5.out) r6).mono ?_
    rintro e wx ⟨rfl, kx⟩
    go_wp2
    unfold bodyPost RdPost
    rw [HE.out]
    exact ⟨rfl, rfl, (HK5.out).trans kx⟩
  | ok x =>
  obtain ⟨ix, l6⟩ := x
  refine (number_ok (HL5.out) r6).mono ?_
  rintro e w6 ⟨rfl, c6, z6, k6⟩
  have HK6 : Hid (Kept (One p.block) w w6) := (HK5.out).trans k6
  have HR6 : Hid (w6.heap[w.heap.size]? = some (.cells #[.int .i64 0, .int .i64 0, .int .i64 0, .int .i64 0, .int .i64 0, .int .i64 0, .int .i64 0, .slice none 0 0, .int .i64 0, .int .i64 0, .slice none 0 0, .slice none 0 0, .slice none 0 0, .string (bs []), .bool false, .int .i64 0, .int .i64 0] 85 (0, 0))) := k6.block _ _ (HR5.out) HX.out
  have HA6 : Hid (w6.heap[w4.heap.size]? = some (.cells #[.int .i64 5, .int .i64 fr, .int .i64 td, .int .i64 tm, .int .i64 0, .int .i64 0, .int .i64 0, .slice none 0 0, .int .i64 0, .int .i64 0, .slice none 0 0, .slice none 0 0, .slice none 0 0, .string (bs []), .bool false, .int .i64 0, .int .i64 0] 85 (0, 0))) := k6.block _ _ (HA5.out) (fun (e : w4.heap.size = p.block) => hne e.symm)
  have HL6 : Hid (Left p w6 l6) := ⟨c6, z6⟩
  have HP5 : Hid (ix ≤ 1099511627775) := rdNum_max r6
  clear c6 z6
  go_wp2_with fail
  cases r7 : rdNum l6 with
  | error c =>
    have HE : Hid (rdMsg l = .error c) := HD.out.trans (rdThen_no ((rdThen_ok r6).trans (rdThen_no r7)))
    refine (number_no (HL6.out) r7).mono ?_
    rintro e wx ⟨rfl, kx⟩
    go_wp2
    unfold bodyPost RdPost
    rw [HE.out]
    exact ⟨rfl, rfl, (HK6.out).trans kx⟩
  | ok x =>
  obtain ⟨lg, l7⟩ := x
  refine (number_ok (HL6.out) r7).mono ?_
  rintro e w7 ⟨rfl, c7, z7, k7⟩
  have HK7 : Hid (Kept (One p.block) w w7) := (HK6.out).trans k7
  have HR7 : Hid (w7.heap[w.heap.size]? = some (.cells #[.int .i64 0, .int .i64 0, .int .i64 0, .int .i64 0, .int .i64 0, .int .i64 0, .int .i64 0, .slice none 0 0, .int .i64 0, .int .i64 0, .slice none 0 0, .slice none 0 0, .slice none 0 0, .string (bs []), .bool false, .int .i64 0, .int .i64 0] 85 (0, 0))) := k7.block _ _ (HR6.out) HX.out
  have HA7 : Hid (w7.heap[w4.heap.size]? = some (.cells #[.int .i64 5, .int .i64 fr, .int .i64 td, .int .i64 tm, .int .i64 0, .int .i64 0, .int .i64 0, .slice none 0 0, .int .i64 0, .int .i64 0, .slice none 0 0, .slice none 0 0, .slice none 0 0, .string (bs []), .bool false, .int .i64 0, .int .i64 0] 85 (0, 0))) := k7.block _ _ (HA6.out) (fun (e : w4.heap.size = p.block) => hne e.symm)
  have HL7 : Hid (Left p w7 l7) := ⟨c7, z7⟩
  have HP7 : Hid (lg ≤ 1099511627775) := rdNum_max r7
  clear c7 z7
  go_wp2_with fail
  cases r8 : rdNum l7 with
  | error c =>
    have HE : Hid (rdMsg l = .error c) := HD.out.trans (rdThen_no ((rdThen_ok r6).trans ((rdThen_ok r7).trans (rdThen_no r8))))
    refine (number_no (HL7.out) r8).mono ?_
    rintro e wx ⟨rfl, kx⟩
    go_wp2
    unfold bodyPost RdPost
    rw [HE.out]
    exact ⟨rfl, rfl, (HK7.out).trans kx⟩
  | ok x =>
  obtain ⟨cm, l8⟩ := x
  refine (number_ok (HL7.out) r8).mono ?_
  rintro e w8 ⟨rfl, c8, z8, k8⟩
  have HK8 : Hid (Kept (One p.block) w w8) := (HK7.out).trans k8
  have HR8 : Hid (w8.heap[w.heap.size]? = some (.cells #[.int .i64 0, .int .i64 0, .int .i64 0, .int .i64 0, .int .i64 0, .int .i64 0, .int .i64 0, .slice none 0 0, .int .i64 0, .int .i64 0, .slice none 0 0, .slice none 0 0, .slice none 0 0, .string (bs []), .bool false, .int .i64 0, .int .i64 0] 85 (0, 0))) := k8.block _ _ (HR7.out) HX.out
  have HA8 : Hid (w8.heap[w4.heap.size]? = some (.cells #[.int .i64 5, .int .i64 fr, .int .i64 td, .int .i64 tm, .int .i64 0, .int .i64 0, .int .i64 0, .slice none 0 0, .int .i64 0, .int .i64 0, .slice none 0 0, .slice none 0 0, .slice none 0 0, .string (bs []), .bool false, .int .i64 0, .int .i64 0] 85 (0, 0))) := k8.block _ _ (HA7.out) (fun (e : w4.heap.size = p.block) => hne e.symm)
  have HL8 : Hid (Left p w8 l8) := ⟨c8, z8⟩
  have HP8 : Hid (cm ≤ 1099511627775) := rdNum_max r8
  clear c8 z8
  go_wp2_with fail
  cases r9 : rdNum l8 with
  | error c =>
    have HE : Hid (rdMsg l = .error c) := HD.out.trans (rdThen_no ((rdThen_ok r6).trans ((rdThen_ok r7).trans ((rdThen_ok r8).trans (rdThen_no r9)))))
    refine (number_no (HL8.out) r9).mono ?_
    rintro e wx ⟨rfl, kx⟩
    go_wp2
    unfold bodyPost RdPost
    rw [HE.out]
    exact ⟨rfl, rfl, (HK8.out).trans kx⟩
  | ok x =>
  obtain ⟨cx, l9⟩ := x
  refine (number_ok (HL8.out) r9).mono ?_
  rintro e w9 ⟨rfl, c9, z9, k9⟩
  have HK9 : Hid (Kept (One p.block) w w9) := (HK8.out).trans k9
  have HR9 : Hid (w9.heap[w.heap.size]? = some (.cells #[.int .i64 0, .int .i64 0, .int .i64 0, .int .i64 0, .int .i64 0, .int .i64 0, .int .i64 0, .slice none 0 0, .int .i64 0, .int .i64 0, .slice none 0 0, .slice none 0 0, .slice none 0 0, .string (bs []), .bool false, .int .i64 0, .int .i64 0] 85 (0, 0))) := k9.block _ _ (HR8.out) HX.out
  have HA9 : Hid (w9.heap[w4.heap.size]? = some (.cells #[.int .i64 5, .int .i64 fr, .int .i64 td, .int .i64 tm, .int .i64 0, .int .i64 0, .int .i64 0, .slice none 0 0, .int .i64 0, .int .i64 0, .slice none 0 0, .slice none 0 0, .slice none 0 0, .string (bs []), .bool false, .int .i64 0, .int .i64 0] 85 (0, 0))) := k9.block _ _ (HA8.out) (fun (e : w4.heap.size = p.block) => hne e.symm)
  have HL9 : Hid (Left p w9 l9) := ⟨c9, z9⟩
  have HP9 : Hid (cx ≤ 1099511627775) := rdNum_max r9
  clear c9 z9
  have g9_4 := blk_at HA9.out 4 rfl
  have g9_5 := blk_at HA9.out 5 rfl
  have g9_6 := blk_at HA9.out 6 rfl
  have g9_16 := blk_at HA9.out 16 rfl
  have f9_4 := blk_free HA9.out 4
  have f9_5 := blk_free HA9.out 5
  have f9_6 := blk_free HA9.out 6
  have f9_16 := blk_free HA9.out 16
  have HA9s : Hid (((((w9.setCell ⟨w4.heap.size, 4, none⟩ (.int .i64 ix)).setCell ⟨w4.heap.size, 5, none⟩ (.int .i64 lg)).setCell ⟨w4.heap.size, 6, none⟩ (.int .i64 cm)).setCell ⟨w4.heap.size, 16, none⟩ (.int .i64 cx)).heap[w4.heap.size]? = some (.cells #[.int .i64 5, .int .i64 fr, .int .i64 td, .int .i64 tm, .int .i64 ix, .int .i64 lg, .int .i64 cm, .slice none 0 0, .int .i64 0, .int .i64 0, .slice none 0 0, .slice none 0 0, .slice none 0 0, .string (bs []), .bool false, .int .i64 0, .int .i64 cx] 85 (0, 0))) := blk_set (blk_set (blk_set (blk_set (HA9.out) 4 _) 5 _) 6 _) 16 _
  have HR9s : Hid (((((w9.setCell ⟨w4.heap.size, 4, none⟩ (.int .i64 ix)).setCell ⟨w4.heap.size, 5, none⟩ (.int .i64 lg)).setCell ⟨w4.heap.size, 6, none⟩ (.int .i64 cm)).setCell ⟨w4.heap.size, 16, none⟩ (.int .i64 cx)).heap[w.heap.size]? = some (.cells #[.int .i64 0, .int .i64 0, .int .i64 0, .int .i64 0, .int .i64 0, .int .i64 0, .int .i64 0, .slice none 0 0, .int .i64 0, .int .i64 0, .slice none 0 0, .slice none 0 0, .slice none 0 0, .string (bs []), .bool false, .int .i64 0, .int .i64 0] 85 (0, 0))) := blk_other (blk_other (blk_other (blk_other (HR9.out) hnr _) hnr _) hnr _) hnr _
  have HL9s : Hid (Left p ((((w9.setCell ⟨w4.heap.size, 4, none⟩ (.int .i64 ix)).setCell ⟨w4.heap.size, 5, none⟩ (.int .i64 lg)).setCell ⟨w4.heap.size, 6, none⟩ (.int .i64 cm)).setCell ⟨w4.heap.size, 16, none⟩ (.int .i64 cx)) l9) := ((((HL9.out).other hne _).other hne _).other hne _).other hne _
  have HK9s : Hid (Kept (One p.block) w ((((w9.setCell ⟨w4.heap.size, 4, none⟩ (.int .i64 ix)).setCell ⟨w4.heap.size, 5, none⟩ (.int .i64 lg)).setCell ⟨w4.heap.size, 6, none⟩ (.int .i64 cm)).setCell ⟨w4.heap.size, 16, none⟩ (.int .i64 cx))) := ((((HK9.out).setNew hge _).setNew hge _).setNew hge _).setNew hge _
  go_wp2_with fail
  cases r10 : rdEns 8 l9 with
  | error c =>
    have HE : Hid (rdMsg l = .error c) := HD.out.trans (rdThen_no ((rdThen_ok r6).trans ((rdThen_ok r7).trans ((rdThen_ok r8).trans ((rdThen_ok r9).trans (rdThen_no r10))))))
    refine (RdPost.no (listEn_any p 8 l9 _ (HL9s.out) (by omega)) r10).mono ?_
    rintro e wx ⟨rfl, kx⟩
    go_wp2
    unfold bodyPost RdPost
    rw [HE.out]
    exact ⟨rfl, rfl, (HK9s.out).trans kx⟩
  | ok x =>
  obtain ⟨es, l10⟩ := x
  refine (RdPost.ok (listEn_any p 8 l9 _ (HL9s.out) (by omega)) r10).mono ?_
  rintro e w10 ⟨v10, rfl, hv10, c10, z10, k10⟩
  have HK10 : Hid (Kept (One p.block) w w10) := (HK9s.out).trans k10
  have HR10 : Hid (w10.heap[w.heap.size]? = some (.cells #[.int .i64 0, .int .i64 0, .int .i64 0, .int .i64 0, .int .i64 0, .int .i64 0, .int .i64 0, .slice none 0 0, .int .i64 0, .int .i64 0, .slice none 0 0, .slice none 0 0, .slice none 0 0, .string (bs []), .bool false, .int .i64 0, .int .i64 0] 85 (0, 0))) := k10.block _ _ (HR9s.out) HX.out
  have HA10 : Hid (w10.heap[w4.heap.size]? = some (.cells #[.int .i64 5, .int .i64 fr, .int .i64 td, .int .i64 tm, .int .i64 ix, .int .i64 lg, .int .i64 cm, .slice none 0 0, .int .i64 0, .int .i64 0, .slice none 0 0, .slice none 0 0, .slice none 0 0, .string (bs []), .bool false, .int .i64 0, .int .i64 cx] 85 (0, 0))) := k10.block _ _ (HA9s.out) (fun (e : w4.heap.size = p.block) => hne e.symm)
  have HL10 : Hid (Left p w10 l10) := ⟨c10, z10⟩
  obtain ⟨ae, ce, rfl, oe⟩ := hv10
  have HES : Hid (es.length ≤ 8 ∧ ∀ e ∈ es, e.ok = true) := (rdEns_strict r10).2
  have HOE : Hid (OwnEs (w4.heap.size + 1) w10 ae ce es) := own_mono oe (by have := HS5.out; have := k6.size; have := k7.size; have := k8.size; have := k9.size; simp at *; omega)
  clear c10 z10
  have g10_7 := blk_at HA10.out 7 rfl
  have f10_7 := blk_free HA10.out 7
  have HA10s : Hid ((w10.setCell ⟨w4.heap.size, 7, none⟩ (.slice ae es.length ce)).heap[w4.heap.size]? = some (.cells #[.int .i64 5, .int .i64 fr, .int .i64 td, .int .i64 tm, .int .i64 ix, .int .i64 lg, .int .i64 cm, .slice ae es.length ce, .int .i64 0, .int .i64 0, .slice none 0 0, .slice none 0 0, .slice none 0 0, .string (bs []), .bool false, .int .i64 0, .int .i64 cx] 85 (0, 0))) := blk_set (HA10.out) 7 _
  have HR10s : Hid ((w10.setCell ⟨w4.heap.size, 7, none⟩ (.slice ae es.length ce)).heap[w.heap.size]? = some (.cells #[.int .i64 0, .int .i64 0, .int .i64 0, .int .i64 0, .int .i64 0, .int .i64 0, .int .i64 0, .slice none 0 0, .int .i64 0, .int .i64 0, .slice none 0 0, .slice none 0 0, .slice none 0 0, .string (bs []), .bool false, .int .i64 0, .int .i64 0] 85 (0, 0))) := blk_other (HR10.out) hnr _
  have HL10s : Hid (Left p (w10.setCell ⟨w4.heap.size, 7, none⟩ (.slice ae es.length ce)) l10) := (HL10.out).other hne _
  have HK10s : Hid (Kept (One p.block) w (w10.setCell ⟨w4.heap.size, 7, none⟩ (.slice ae es.length ce))) := (HK10.out).setNew hge _
  have OE : Hid (OwnEs (w.heap.size + 1) (w10.setCell ⟨w4.heap.size, 7, none⟩ (.slice ae es.length ce)) ae ce es) := own_mono (ownsRow_setCell_below HOE.out (Nat.lt_succ_self _) _) (by omega)
  have HBo : Hid (rdBody 5 fr td tm l4 = .ok ({ Mg.head 5 fr td tm with ix := ix, lg := lg, cm := cm, cx := cx, es := es }, l10)) := (rdThen_ok r6).trans ((rdThen_ok r7).trans ((rdThen_ok r8).trans ((rdThen_ok r9).trans (rdThen_ok r10))))
  have HI := isMessage_5 fr td tm ix lg cm cx ae _ ce es (w10.setCell ⟨w4.heap.size, 7, none⟩ (.slice ae es.length ce)) (OwnEs.row OE.out (ens_small HES.out.2)) (by omega) (by have := HP5.out; omega) (by have := HES.out.1; omega) (from0 (by intro z hz; simp at hz; have := HM.out; have := HP5.out; have := HP7.out; have := HP8.out; have := HP9.out; omega))
  have HOK : Hid (Mg.ok { Mg.head 5 fr td tm with ix := ix, lg := lg, cm := cm, cx := cx, es := es } = _) := okOf_5 fr td tm ix lg cm cx es
  rw [← HOK.out] at HI
  have HRd : Hid (rdMsg l = if Mg.ok { Mg.head 5 fr td tm with ix := ix, lg := lg, cm := cm, cx := cx, es := es } then .ok ({ Mg.head 5 fr td tm with ix := ix, lg := lg, cm := cm, cx := cx, es := es }, l10) else .error 7) := HD.out.trans (rdThen_ok HBo.out)
  generalize Mg.ok { Mg.head 5 fr td tm with ix := ix, lg := lg, cm := cm, cx := cx, es := es } = okb at HI HRd
  clear HOK
  go_wp2_with (first | ((with_reducible refine atLoad 85 ?_); go_must (refine wpList_loadW rfl _ _ rfl _ rfl _ _ _ (HA10s.out) Try.underlying85 rfl Try.sizeMsg rfl ?_)))
  refine HI.mono ?_
  rintro e wi ⟨rfl, ki⟩
  have HAi : Hid (wi.heap[w4.heap.size]? = some (.cells #[.int .i64 5, .int .i64 fr, .int .i64 td, .int .i64 tm, .int .i64 ix, .int .i64 lg, .int .i64 cm, .slice ae es.length ce, .int .i64 0, .int .i64 0, .slice none 0 0, .slice none 0 0, .slice none 0 0, .string (bs []), .bool false, .int .i64 0, .int .i64 cx] 85 (0, 0))) := ki.block _ _ (HA10s.out) (fun x => x.elim)
  have HRi : Hid (wi.heap[w.heap.size]? = some (.cells #[.int .i64 0, .int .i64 0, .int .i64 0, .int .i64 0, .int .i64 0, .int .i64 0, .int .i64 0, .slice none 0 0, .int .i64 0, .int .i64 0, .slice none 0 0, .slice none 0 0, .slice none 0 0, .string (bs []), .bool false, .int .i64 0, .int .i64 0] 85 (0, 0))) := ki.block _ _ (HR10s.out) (fun x => x.elim)
  have HKi : Hid (Kept (One p.block) w wi) := (HK10s.out).trans (ki.mono (fun _ _ x => x.elim))
  have HLi : Hid (Left p wi l10) := Left.kept (HL10s.out) ki
  have OEi : Hid (OwnEs (w.heap.size + 1) wi ae ce es) := own_kept OE.out ki (fun _ _ _ x => x.elim)
  cases okb with
  | false =>
    go_wp2_with (go_at_call 145; go_must (refine (must_no _ _).mono ?_); rintro e w99 ⟨rfl, rfl⟩)
    unfold bodyPost RdPost
    rw [HRd.out]
    exact ⟨rfl, rfl, HKi.out⟩
  | true =>
    go_wp2_with (first | (go_at_call 145; go_must (refine (must_ok _ _).mono ?_); rintro e w99 ⟨rfl, rfl⟩) | ((with_reducible refine atLoad 85 ?_); go_must (refine wpList_loadW rfl _ _ rfl _ rfl _ _ _ (HAi.out) Try.underlying85 rfl Try.sizeMsg rfl ?_)) | ((with_reducible refine atStore 85 ?_); go_must (refine wpList_storeW rfl _ _ _ rfl _ #[.int .i64 5, .int .i64 fr, .int .i64 td, .int .i64 tm, .int .i64 ix, .int .i64 lg, .int .i64 cm, .slice ae es.length ce, .int .i64 0, .int .i64 0, .slice none 0 0, .slice none 0 0, .slice none 0 0, .string (bs []), .bool false, .int .i64 0, .int .i64 cx] _ _ rfl rfl HRi.out rfl Try.sizeMsg rfl (one17 rfl rfl rfl rfl rfl rfl rfl rfl rfl rfl rfl rfl rfl rfl rfl rfl rfl) ?_); intro w9 hb9 hk9 hs9))
    refine bodyPost_ret (results_cellW rfl rfl hb9 Try.underlying85 rfl Try.sizeMsg rfl) rfl ?_
    unfold RdPost
    rw [HRd.out]
    exact ⟨⟨_, rfl, ae, ce, none, none, none, 0, 0, 0, rfl, ⟨fun h => absurd rfl h, fun _ => ⟨⟨rfl, rfl⟩, ⟨rfl, rfl⟩, ⟨rfl, rfl⟩⟩⟩, own_mono (own_kept OEi.out hk9 (fun k _ hb hx => by have : k = w.heap.size := hx; omega)) (Nat.le_succ _), World.ownsRow_nil _ _ _ _, World.ownsRow_nil _ _ _ _, World.ownsRow_nil _ _ _ _⟩, HLi.out.keptX hk9 (fun _ (e : p.block = w.heap.size) => by have := HB.out; omega), HKi.out.thenNew hk9 (fun k _ h => by have : k = w.heap.size := h; omega)⟩

end Go.Proofs.Ytijklginabipgaa

/-
  A message read (kind 6).
-/
namespace Go.Proofs.Ytijklginabipgaa
open Go.RowKit

set_option maxRecDepth 100000 in
set_option maxHeartbeats 4000000 in
theorem rMsg_6 (p : Addr) (fr td tm : Nat) (l l1 l2 l3 l4 : List UInt8) (w : World) (hl : Left p w l) (r1 : rdNum l = .ok (6, l1)) (r2 : rdNum l1 = .ok (fr, l2)) (r3 : rdNum l2 = .ok (td, l3)) (r4 : rdNum l3 = .ok (tm, l4)) :
    Calls Try.prog 127 #[.pointer (some p)] w (RdPost p w (rdMsg l) (MgV w.heap.size)) := by
  have HB : Hid (p.block < w.heap.size) := cell_lt hl.cell
  have HZ : Hid (_) := blk_new w (.cells #[.int .i64 0, .int .i64 0, .int .i64 0, .int .i64 0, .int .i64 0, .int .i64 0, .int .i64 0, .slice none 0 0, .int .i64 0, .int .i64 0, .slice none 0 0, .slice none 0 0, .slice none 0 0, .string (bs []), .bool false, .int .i64 0, .int .i64 0] 85)
  have HX : Hid (¬ One p.block w.heap.size (.cells #[.int .i64 0, .int .i64 0, .int .i64 0, .int .i64 0, .int .i64 0, .int .i64 0, .int .i64 0, .slice none 0 0, .int .i64 0, .int .i64 0, .slice none 0 0, .slice none 0 0, .slice none 0 0, .string (bs []), .bool false, .int .i64 0, .int .i64 0] 85 (0, 0))) := fun (e : w.heap.size = p.block) => by have := HB.out; omega
  have hla := hl.alloc (.cells #[.int .i64 0, .int .i64 0, .int .i64 0, .int .i64 0, .int .i64 0, .int .i64 0, .int .i64 0, .slice none 0 0, .int .i64 0, .int .i64 0, .slice none 0 0, .slice none 0 0, .slice none 0 0, .string (bs []), .bool false, .int .i64 0, .int .i64 0] 85)
  have HD : Hid (rdMsg l = rdThen (rdBody 6 fr td tm l4) fun m l => if m.ok then .ok (m, l) else .error 7) := (rdThen_ok r1).trans ((rdThen_ok r2).trans ((rdThen_ok r3).trans (rdThen_ok r4)))
  have HM : Hid (fr ≤ 1099511627775 ∧ td ≤ 1099511627775 ∧ tm ≤ 1099511627775) := ⟨rdNum_max r2, rdNum_max r3, rdNum_max r4⟩
  clear hl
  go_enter Try.func127, Try.ntmps127
  go_wp2_with fail
  refine (number_ok hla r1).mono ?_
  rintro e w1 ⟨rfl, c1, z1, k1⟩
  go_wp2_with fail
  refine (number_ok ⟨c1, z1⟩ r2).mono ?_
  rintro e w2 ⟨rfl, c2, z2, k2⟩
  go_wp2_with fail
  refine (number_ok ⟨c2, z2⟩ r3).mono ?_
  rintro e w3 ⟨rfl, c3, z3, k3⟩
  go_wp2_with fail
  refine (number_ok ⟨c3, z3⟩ r4).mono ?_
  rintro e w4 ⟨rfl, c4, z4, k4⟩
  have HK4 : Hid (Kept (One p.block) w w4) := ((((Kept.refl _ _).alloc _).trans k1).trans k2).trans k3 |>.trans k4
  have HR4 : Hid (w4.heap[w.heap.size]? = some (.cells #[.int .i64 0, .int .i64 0, .int .i64 0, .int .i64 0, .int .i64 0, .int .i64 0, .int .i64 0, .slice none 0 0, .int .i64 0, .int .i64 0, .slice none 0 0, .slice none 0 0, .slice none 0 0, .string (bs []), .bool false, .int .i64 0, .int .i64 0] 85 (0, 0))) := k4.block _ _ (k3.block _ _ (k2.block _ _ (k1.block _ _ HZ.out HX.out) HX.out) HX.out) HX.out
  have HL4 : Hid (Left p w4 l4) := ⟨c4, z4⟩
  have hne : p.block ≠ w4.heap.size := by have := HB.out; have := HK4.out.size; omega
  have hnr : w.heap.size ≠ w4.heap.size := by have := lt_of_block HR4.out; omega
  have hge : w.heap.size ≤ w4.heap.size := HK4.out.size
  clear c1 z1 k1 c2 z2 k2 c3 z3 k3 c4 z4 k4 r1 r2 r3 r4 hla
  go_wp2_with ((with_reducible refine atStore 85 ?_); go_must (refine wpList_storeW rfl _ _ _ rfl _ #[.int .i64 6, .int .i64 fr, .int .i64 td, .int .i64 tm, .int .i64 0, .int .i64 0, .int .i64 0, .slice none 0 0, .int .i64 0, .int .i64 0, .slice none 0 0, .slice none 0 0, .slice none 0 0, .string (bs []), .bool false, .int .i64 0, .int .i64 0] _ _ rfl rfl (blk_new w4 _) rfl Try.sizeMsg rfl (one17 rfl rfl rfl rfl rfl rfl rfl rfl rfl rfl rfl rfl rfl rfl rfl rfl rfl) ?_; intro w5 hb5 hk5 hs5; have q5_0 := blk_at hb5 0 rfl; have HK5 : Hid (Kept (One p.block) w w5) := (by show Kept (One p.block) w w5; exact (HK4.out.alloc _).thenNew hk5 (fun k _ h => by have : k = w4.heap.size := h; omega)); have HR5 : Hid (w5.heap[w.heap.size]? = some (.cells #[.int .i64 0, .int .i64 0, .int .i64 0, .int .i64 0, .int .i64 0, .int .i64 0, .int .i64 0, .slice none 0 0, .int .i64 0, .int .i64 0, .slice none 0 0, .slice none 0 0, .slice none 0 0, .string (bs []), .bool false, .int .i64 0, .int .i64 0] 85 (0, 0))) := hk5.block _ _ (blk_past HR4.out _) (fun (e : w.heap.size = w4.heap.size) => hnr e); have HL5 : Hid (Left p w5 l4) := (HL4.out.alloc _).keptX hk5 (fun _ (e : p.block = w4.heap.size) => hne e); have HS5 : Hid (w4.heap.size < w5.heap.size) := lt_of_block hb5; have HA5 : Hid (w5.heap[w4.heap.size]? = some (.cells #[.int .i64 6, .int .i64 fr, .int .i64 td, .int .i64 tm, .int .i64 0, .int .i64 0, .int .i64 0, .slice none 0 0, .int .i64 0, .int .i64 0, .slice none 0 0, .slice none 0 0, .slice none 0 0, .string (bs []), .bool false, .int .i64 0, .int .i64 0] 85 (0, 0))) := hb5; clear hk5 hs5 hb5))
  cases r6 : rdNum l4 with
  | error c =>
    have HE : Hid (rdMsg l = .error c) := HD.out.trans (rdThen_no (rdThen_no r6))
    refine (number_no (HL5.out) r6).mono ?_
    rintro e wx ⟨rfl, kx⟩
    go_wp2
    unfold bodyPost RdPost
    rw [HE.out]
    exact ⟨rfl, rfl, (HK5.out).trans kx⟩
  | ok x =>
  obtain ⟨ix, l6⟩ := x
  refine (number_ok (HL5.out) r6).mono ?_
  rintro e w6 ⟨rfl, c6, z6, k6⟩
  have HK6 : Hid (Kept (One p.block) w w6) := (HK5.out).trans k6
  have HR6 : Hid (w6.heap[w.heap.size]? = some (.cells #[.int .i64 0, .int .i64 0, .int .i64 0, .int .i64 0, .int .i64 0, .int .i64 0, .int .i64 0, .slice none 0 0, .int .i64 0, .int .i64 0, .slice none 0 0, .slice none 0 0, .slice none 0 0, .string (bs []), .bool false, .int .i64 0, .int .i64 0] 85 (0, 0))) := k6.block _ _ (HR5.out) HX.out
  have HA6 : Hid (w6.heap[w4.heap.size]? = some (.cells #[.int .i64 6, .int .i64 fr, .int .i64 td, .int .i64 tm, .int .i64 0, .int .i64 0, .int .i64 0, .slice none 0 0, .int .i64 0, .int .i64 0, .slice none 0 0, .slice none 0 0, .slice none 0 0, .string (bs []), .bool false, .int .i64 0, .int .i64 0] 85 (0, 0))) := k6.block _ _ (HA5.out) (fun (e : w4.heap.size = p.block) => hne e.symm)
  have HL6 : Hid (Left p w6 l6) := ⟨c6, z6⟩
  have HP6 : Hid (ix ≤ 1099511627775) := rdNum_max r6
  clear c6 z6
  go_wp2_with fail
  cases r7 : rdFlag l6 with
  | error c =>
    have HE : Hid (rdMsg l = .error c) := HD.out.trans (rdThen_no ((rdThen_ok r6).trans (rdThen_no r7)))
    refine (RdPost.no (rFlag_any p l6 _ (HL6.out)) r7).mono ?_
    rintro e wx ⟨rfl, kx⟩
    go_wp2
    unfold bodyPost RdPost
    rw [HE.out]
    exact ⟨rfl, rfl, (HK6.out).trans kx⟩
  | ok x =>
  obtain ⟨rj, l7⟩ := x
  refine (rFlag_ok (HL6.out) r7).mono ?_
  rintro e w7 ⟨rfl, c7, z7, k7⟩
  have HK7 : Hid (Kept (One p.block) w w7) := (HK6.out).trans k7
  have HR7 : Hid (w7.heap[w.heap.size]? = some (.cells #[.int .i64 0, .int .i64 0, .int .i64 0, .int .i64 0, .int .i64 0, .int .i64 0, .int .i64 0, .slice none 0 0, .int .i64 0, .int .i64 0, .slice none 0 0, .slice none 0 0, .slice none 0 0, .string (bs []), .bool false, .int .i64 0, .int .i64 0] 85 (0, 0))) := k7.block _ _ (HR6.out) HX.out
  have HA7 : Hid (w7.heap[w4.heap.size]? = some (.cells #[.int .i64 6, .int .i64 fr, .int .i64 td, .int .i64 tm, .int .i64 0, .int .i64 0, .int .i64 0, .slice none 0 0, .int .i64 0, .int .i64 0, .slice none 0 0, .slice none 0 0, .slice none 0 0, .string (bs []), .bool false, .int .i64 0, .int .i64 0] 85 (0, 0))) := k7.block _ _ (HA6.out) (fun (e : w4.heap.size = p.block) => hne e.symm)
  have HL7 : Hid (Left p w7 l7) := ⟨c7, z7⟩
  clear c7 z7
  go_wp2_with fail
  cases r8 : rdNum l7 with
  | error c =>
    have HE : Hid (rdMsg l = .error c) := HD.out.trans (rdThen_no ((rdThen_ok r6).trans ((rdThen_ok r7).trans (rdThen_no r8))))
    refine (number_no (HL7.out) r8).mono ?_
    rintro e wx ⟨rfl, kx⟩
    go_wp2
    unfold bodyPost RdPost
    rw [HE.out]
    exact ⟨rfl, rfl, (HK7.out).trans kx⟩
  | ok x =>
  obtain ⟨hn, l8⟩ := x
  refine (number_ok (HL7.out) r8).mono ?_
  rintro e w8 ⟨rfl, c8, z8, k8⟩
  have HK8 : Hid (Kept (One p.block) w w8) := (HK7.out).trans k8
  have HR8 : Hid (w8.heap[w.heap.size]? = some (.cells #[.int .i64 0, .int .i64 0, .int .i64 0, .int .i64 0, .int .i64 0, .int .i64 0, .int .i64 0, .slice none 0 0, .int .i64 0, .int .i64 0, .slice none 0 0, .slice none 0 0, .slice none 0 0, .string (bs []), .bool false, .int .i64 0, .int .i64 0] 85 (0, 0))) := k8.block _ _ (HR7.out) HX.out
  have HA8 : Hid (w8.heap[w4.heap.size]? = some (.cells #[.int .i64 6, .int .i64 fr, .int .i64 td, .int .i64 tm, .int .i64 0, .int .i64 0, .int .i64 0, .slice none 0 0, .int .i64 0, .int .i64 0, .slice none 0 0, .slice none 0 0, .slice none 0 0, .string (bs []), .bool false, .int .i64 0, .int .i64 0] 85 (0, 0))) := k8.block _ _ (HA7.out) (fun (e : w4.heap.size = p.block) => hne e.symm)
  have HL8 : Hid (Left p w8 l8) := ⟨c8, z8⟩
  have HP8 : Hid (hn ≤ 1099511627775) := rdNum_max r8
  clear c8 z8
  go_wp2_with fail
  cases r9 : rdNum l8 with
  | error c =>
    have HE : Hid (rdMsg l = .error c) := HD.out.trans (rdThen_no ((rdThen_ok r6).trans ((rdThen_ok r7).trans ((rdThen_ok r8).trans (rdThen_no r9)))))
    refine (number_no (HL8.out) r9).mono ?_
    rintro e wx ⟨rfl, kx⟩
    go_wp2
    unfold bodyPost RdPost
    rw [HE.out]
    exact ⟨rfl, rfl, (HK8.out).trans kx⟩
  | ok x =>
  obtain ⟨cx, l9⟩ := x
  refine (number_ok (HL8.out) r9).mono ?_
  rintro e w9 ⟨rfl, c9, z9, k9⟩
  have HK9 : Hid (Kept (One p.block) w w9) := (HK8.out).trans k9
  have HR9 : Hid (w9.heap[w.heap.size]? = some (.cells #[.int .i64 0, .int .i64 0, .int .i64 0, .int .i64 0, .int .i64 0, .int .i64 0, .int .i64 0, .slice none 0 0, .int .i64 0, .int .i64 0, .slice none 0 0, .slice none 0 0, .slice none 0 0, .string (bs []), .bool false, .int .i64 0, .int .i64 0] 85 (0, 0))) := k9.block _ _ (HR8.out) HX.out
  have HA9 : Hid (w9.heap[w4.heap.size]? = some (.cells #[.int .i64 6, .int .i64 fr, .int .i64 td, .int .i64 tm, .int .i64 0, .int .i64 0, .int .i64 0, .slice none 0 0, .int .i64 0, .int .i64 0, .slice none 0 0, .slice none 0 0, .slice none 0 0, .string (bs []), .bool false, .int .i64 0, .int .i64 0] 85 (0, 0))) := k9.block _ _ (HA8.out) (fun (e : w4.heap.size = p.block) => hne e.symm)
  have HL9 : Hid (Left p w9 l9) := ⟨c9, z9⟩
  have HP9 : Hid (cx ≤ 1099511627775) := rdNum_max r9
  clear c9 z9
  have g9_4 := blk_at HA9.out 4 rfl
  have g9_14 := blk_at HA9.out 14 rfl
  have g9_15 := blk_at HA9.out 15 rfl
  have g9_16 := blk_at HA9.out 16 rfl
  have f9_4 := blk_free HA9.out 4
  have f9_14 := blk_free HA9.out 14
  have f9_15 := blk_free HA9.out 15
  have f9_16 := blk_free HA9.out 16
  have HA9s : Hid (((((w9.setCell ⟨w4.heap.size, 4, none⟩ (.int .i64 ix)).setCell ⟨w4.heap.size, 14, none⟩ (.bool rj)).setCell ⟨w4.heap.size, 15, none⟩ (.int .i64 hn)).setCell ⟨w4.heap.size, 16, none⟩ (.int .i64 cx)).heap[w4.heap.size]? = some (.cells #[.int .i64 6, .int .i64 fr, .int .i64 td, .int .i64 tm, .int .i64 ix, .int .i64 0, .int .i64 0, .slice none 0 0, .int .i64 0, .int .i64 0, .slice none 0 0, .slice none 0 0, .slice none 0 0, .string (bs []), .bool rj, .int .i64 hn, .int .i64 cx] 85 (0, 0))) := blk_set (blk_set (blk_set (blk_set (HA9.out) 4 _) 14 _) 15 _) 16 _
  have HR9s : Hid (((((w9.setCell ⟨w4.heap.size, 4, none⟩ (.int .i64 ix)).setCell ⟨w4.heap.size, 14, none⟩ (.bool rj)).setCell ⟨w4.heap.size, 15, none⟩ (.int .i64 hn)).setCell ⟨w4.heap.size, 16, none⟩ (.int .i64 cx)).heap[w.heap.size]? = some (.cells #[.int .i64 0, .int .i64 0, .int .i64 0, .int .i64 0, .int .i64 0, .int .i64 0, .int .i64 0, .slice none 0 0, .int .i64 0, .int .i64 0, .slice none 0 0, .slice none 0 0, .slice none 0 0, .string (bs []), .bool false, .int .i64 0, .int .i64 0] 85 (0, 0))) := blk_other (blk_other (blk_other (blk_other (HR9.out) hnr _) hnr _) hnr _) hnr _
  have HL9s : Hid (Left p ((((w9.setCell ⟨w4.heap.size, 4, none⟩ (.int .i64 ix)).setCell ⟨w4.heap.size, 14, none⟩ (.bool rj)).setCell ⟨w4.heap.size, 15, none⟩ (.int .i64 hn)).setCell ⟨w4.heap.size, 16, none⟩ (.int .i64 cx)) l9) := ((((HL9.out).other hne _).other hne _).other hne _).other hne _
  have HK9s : Hid (Kept (One p.block) w ((((w9.setCell ⟨w4.heap.size, 4, none⟩ (.int .i64 ix)).setCell ⟨w4.heap.size, 14, none⟩ (.bool rj)).setCell ⟨w4.heap.size, 15, none⟩ (.int .i64 hn)).setCell ⟨w4.heap.size, 16, none⟩ (.int .i64 cx))) := ((((HK9.out).setNew hge _).setNew hge _).setNew hge _).setNew hge _
  have HBo : Hid (rdBody 6 fr td tm l4 = .ok ({ Mg.head 6 fr td tm with ix := ix, rj := rj, hn := hn, cx := cx }, l9)) := (rdThen_ok r6).trans ((rdThen_ok r7).trans ((rdThen_ok r8).trans (rdThen_ok r9)))
  have HI := isMessage_6 fr td tm ix hn cx rj ((((w9.setCell ⟨w4.heap.size, 4, none⟩ (.int .i64 ix)).setCell ⟨w4.heap.size, 14, none⟩ (.bool rj)).setCell ⟨w4.heap.size, 15, none⟩ (.int .i64 hn)).setCell ⟨w4.heap.size, 16, none⟩ (.int .i64 cx)) (from0 (by intro z hz; simp at hz; have := HM.out; have := HP6.out; have := HP8.out; have := HP9.out; omega))
  have HOK : Hid (Mg.ok { Mg.head 6 fr td tm with ix := ix, rj := rj, hn := hn, cx := cx } = _) := okOf_6 fr td tm ix hn cx rj
  rw [← HOK.out] at HI
  have HRd : Hid (rdMsg l = if Mg.ok { Mg.head 6 fr td tm with ix := ix, rj := rj, hn := hn, cx := cx } then .ok ({ Mg.head 6 fr td tm with ix := ix, rj := rj, hn := hn, cx := cx }, l9) else .error 7) := HD.out.trans (rdThen_ok HBo.out)
  generalize Mg.ok { Mg.head 6 fr td tm with ix := ix, rj := rj, hn := hn, cx := cx } = okb at HI HRd
  clear HOK
  go_wp2_with (first | ((with_reducible refine atLoad 85 ?_); go_must (refine wpList_loadW rfl _ _ rfl _ rfl _ _ _ (HA9s.out) Try.underlying85 rfl Try.sizeMsg rfl ?_)))
  refine HI.mono ?_
  rintro e wi ⟨rfl, ki⟩
  have HAi : Hid (wi.heap[w4.heap.size]? = some (.cells #[.int .i64 6, .int .i64 fr, .int .i64 td, .int .i64 tm, .int .i64 ix, .int .i64 0, .int .i64 0, .slice none 0 0, .int .i64 0, .int .i64 0, .slice none 0 0, .slice none 0 0, .slice none 0 0, .string (bs []), .bool rj, .int .i64 hn, .int .i64 cx] 85 (0, 0))) := ki.block _ _ (HA9s.out) (fun x => x.elim)
  have HRi : Hid (wi.heap[w.heap.size]? = some (.cells #[.int .i64 0, .int .i64 0, .int .i64 0, .int .i64 0, .int .i64 0, .int .i64 0, .int .i64 0, .slice none 0 0, .int .i64 0, .int .i64 0, .slice none 0 0, .slice none 0 0, .slice none 0 0, .string (bs []), .bool false, .int .i64 0, .int .i64 0] 85 (0, 0))) := ki.block _ _ (HR9s.out) (fun x => x.elim)
  have HKi : Hid (Kept (One p.block) w wi) := (HK9s.out).trans (ki.mono (fun _ _ x => x.elim))
  have HLi : Hid (Left p wi l9) := Left.kept (HL9s.out) ki
  cases okb with
  | false =>
    go_wp2_with (go_at_call 145; go_must (refine (must_no _ _).mono ?_); rintro e w99 ⟨rfl, rfl⟩)
    unfold bodyPost RdPost
    rw [HRd.out]
    exact ⟨rfl, rfl, HKi.out⟩
  | true =>
    go_wp2_with (first | (go_at_call 145; go_must (refine (must_ok _ _).mono ?_); rintro e w99 ⟨rfl, rfl⟩) | ((with_reducible refine atLoad 85 ?_); go_must (refine wpList_loadW rfl _ _ rfl _ rfl _ _ _ (HAi.out) Try.underlying85 rfl Try.sizeMsg rfl ?_)) | ((with_reducible refine atStore 85 ?_); go_must (refine wpList_storeW rfl _ _ _ rfl _ #[.int .i64 6, .int .i64 fr, .int .i64 td, .int .i64 tm, .int .i64 ix, .int .i64 0, .int .i64 0, .slice none 0 0, .int .i64 0, .int .i64 0, .slice none 0 0, .slice none 0 0, .slice none 0 0, .string (bs []), .bool rj, .int .i64 hn, .int .i64 cx] _ _ rfl rfl HRi.out rfl Try.sizeMsg rfl (one17 rfl rfl rfl rfl rfl rfl rfl rfl rfl rfl rfl rfl rfl rfl rfl rfl rfl) ?_); intro w9 hb9 hk9 hs9))
    refine bodyPost_ret (results_cellW rfl rfl hb9 Try.underlying85 rfl Try.sizeMsg rfl) rfl ?_
    unfold RdPost
    rw [HRd.out]
    exact ⟨⟨_, rfl, none, 0, none, none, none, 0, 0, 0, rfl, ⟨fun _ => ⟨rfl, rfl⟩, fun _ => ⟨⟨rfl, rfl⟩, ⟨rfl, rfl⟩, ⟨rfl, rfl⟩⟩⟩, World.ownsRow_nil _ _ _ _, World.ownsRow_nil _ _ _ _, World.ownsRow_nil _ _ _ _, World.ownsRow_nil _ _ _ _⟩, HLi.out.keptX hk9 (fun _ (e : p.block = w.heap.size) => by have := HB.out; omega), HKi.out.thenNew hk9 (fun k _ h => by have : k = w.heap.size := h; omega)⟩

end Go.Proofs.Ytijklginabipgaa

/-
  A message read (kind 7).
-/
namespace Go.Proofs.Ytijklginabipgaa
open Go.RowKit

set_option maxRecDepth 100000 in
set_option maxHeartbeats 4000000 in
theorem rMsg_7 (p : Addr) (fr td tm : Nat) (l l1 l2 l3 l4 : List UInt8) (w : World) (hl : Left p w l) (r1 : rdNum l = .ok (7, l1)) (r2 : rdNum l1 = .ok (fr, l2)) (r3 : rdNum l2 = .ok (td, l3)) (r4 : rdNum l3 = .ok (tm, l4)) :
    Calls Try.prog 127 #[.pointer (some p)] w (RdPost p w (rdMsg l) (MgV w.heap.size)) := by
  have HB : Hid (p.block < w.heap.size) := cell_lt hl.cell
  have HZ : Hid (_) := blk_new w (.cells #[.int .i64 0, .int .i64 0, .int .i64 0, .int .i64 0, .int .i64 0, .int .i64 0, .int .i64 0, .slice none 0 0, .int .i64 0, .int .i64 0, .slice none 0 0, .slice none 0 0, .slice none 0 0, .string (bs []), .bool false, .int .i64 0, .int .i64 0] 85)
  have HX : Hid (¬ One p.block w.heap.size (.cells #[.int .i64 0, .int .i64 0, .int .i64 0, .int .i64 0, .int .i64 0, .int .i64 0, .int .i64 0, .slice none 0 0, .int .i64 0, .int .i64 0, .slice none 0 0, .slice none 0 0, .slice none 0 0, .string (bs []), .bool false, .int .i64 0, .int .i64 0] 85 (0, 0))) := fun (e : w.heap.size = p.block) => by have := HB.out; omega
  have hla := hl.alloc (.cells #[.int .i64 0, .int .i64 0, .int .i64 0, .int .i64 0, .int .i64 0, .int .i64 0, .int .i64 0, .slice none 0 0, .int .i64 0, .int .i64 0, .slice none 0 0, .slice none 0 0, .slice none 0 0, .string (bs []), .bool false, .int .i64 0, .int .i64 0] 85)
  have HD : Hid (rdMsg l = rdThen (rdBody 7 fr td tm l4) fun m l => if m.ok then .ok (m, l) else .error 7) := (rdThen_ok r1).trans ((rdThen_ok r2).trans ((rdThen_ok r3).trans (rdThen_ok r4)))
  have HM : Hid (fr ≤ 1099511627775 ∧ td ≤ 1099511627775 ∧ tm ≤ 1099511627775) := ⟨rdNum_max r2, rdNum_max r3, rdNum_max r4⟩
  clear hl
  go_enter Try.func127, Try.ntmps127
  go_wp2_with fail
  refine (number_ok hla r1).mono ?_
  rintro e w1 ⟨rfl, c1, z1, k1⟩
  go_wp2_with fail
  refine (number_ok ⟨c1, z1⟩ r2).mono ?_
  rintro e w2 ⟨rfl, c2, z2, k2⟩
  go_wp2_with fail
  refine (number_ok ⟨c2, z2⟩ r3).mono ?_
  rintro e w3 ⟨rfl, c3, z3, k3⟩
  go_wp2_with fail
  refine (number_ok ⟨c3, z3⟩ r4).mono ?_
  rintro e w4 ⟨rfl, c4, z4, k4⟩
  have HK4 : Hid (Kept (One p.block) w w4) := ((((Kept.refl _ _).alloc _).trans k1).trans k2).trans k3 |>.trans k4
  have HR4 : Hid (w4.heap[w.heap.size]? = some (.cells #[.int .i64 0, .int .i64 0, .int .i64 0, .int .i64 0, .int .i64 0, .int .i64 0, .int .i64 0, .slice none 0 0, .int .i64 0, .int .i64 0, .slice none 0 0, .slice none 0 0, .slice none 0 0, .string (bs []), .bool false, .int .i64 0, .int .i64 0] 85 (0, 0))) := k4.block _ _ (k3.block _ _ (k2.block _ _ (k1.block _ _ HZ.out HX.out) HX.out) HX.out) HX.out
  have HL4 : Hid (Left p w4 l4) := ⟨c4, z4⟩
  have hne : p.block ≠ w4.heap.size := by have := HB.out; have := HK4.out.size; omega
  have hnr : w.heap.size ≠ w4.heap.size := by have := lt_of_block HR4.out; omega
  have hge : w.heap.size ≤ w4.heap.size := HK4.out.size
  clear c1 z1 k1 c2 z2 k2 c3 z3 k3 c4 z4 k4 r1 r2 r3 r4 hla
  go_wp2_with ((with_reducible refine atStore 85 ?_); go_must (refine wpList_storeW rfl _ _ _ rfl _ #[.int .i64 7, .int .i64 fr, .int .i64 td, .int .i64 tm, .int .i64 0, .int .i64 0, .int .i64 0, .slice none 0 0, .int .i64 0, .int .i64 0, .slice none 0 0, .slice none 0 0, .slice none 0 0, .string (bs []), .bool false, .int .i64 0, .int .i64 0] _ _ rfl rfl (blk_new w4 _) rfl Try.sizeMsg rfl (one17 rfl rfl rfl rfl rfl rfl rfl rfl rfl rfl rfl rfl rfl rfl rfl rfl rfl) ?_; intro w5 hb5 hk5 hs5; have q5_0 := blk_at hb5 0 rfl; have HK5 : Hid (Kept (One p.block) w w5) := (by show Kept (One p.block) w w5; exact (HK4.out.alloc _).thenNew hk5 (fun k _ h => by have : k = w4.heap.size := h; omega)); have HR5 : Hid (w5.heap[w.heap.size]? = some (.cells #[.int .i64 0, .int .i64 0, .int .i64 0, .int .i64 0, .int .i64 0, .int .i64 0, .int .i64 0, .slice none 0 0, .int .i64 0, .int .i64 0, .slice none 0 0, .slice none 0 0, .slice none 0 0, .string (bs []), .bool false, .int .i64 0, .int .i64 0] 85 (0, 0))) := hk5.block _ _ (blk_past HR4.out _) (fun (e : w.heap.size = w4.heap.size) => hnr e); have HL5 : Hid (Left p w5 l4) := (HL4.out.alloc _).keptX hk5 (fun _ (e : p.block = w4.heap.size) => hne e); have HS5 : Hid (w4.heap.size < w5.heap.size) := lt_of_block hb5; have HA5 : Hid (w5.heap[w4.heap.size]? = some (.cells #[.int .i64 7, .int .i64 fr, .int .i64 td, .int .i64 tm, .int .i64 0, .int .i64 0, .int .i64 0, .slice none 0 0, .int .i64 0, .int .i64 0, .slice none 0 0, .slice none 0 0, .slice none 0 0, .string (bs []), .bool false, .int .i64 0, .int .i64 0] 85 (0, 0))) := hb5; clear hk5 hs5 hb5))
  cases r6 : rdNum l4 with
  | error c =>
    have HE : Hid (rdMsg l = .error c) := HD.out.trans (rdThen_no (rdThen_no r6))
    refine (number_no (HL5.out) r6).mono ?_
    rintro e wx ⟨rfl, kx⟩
    go_wp2
    unfold bodyPost RdPost
    rw [HE.out]
    exact ⟨rfl, rfl, (HK5.out).trans kx⟩
  | ok x =>
  obtain ⟨cx, l6⟩ := x
  refine (number_ok (HL5.out) r6).mono ?_
  rintro e w6 ⟨rfl, c6, z6, k6⟩
  have HK6 : Hid (Kept (One p.block) w w6) := (HK5.out).trans k6
  have HR6 : Hid (w6.heap[w.heap.size]? = some (.cells #[.int .i64 0, .int .i64 0, .int .i64 0, .int .i64 0, .int .i64 0, .int .i64 0, .int .i64 0, .slice none 0 0, .int .i64 0, .int .i64 0, .slice none 0 0, .slice none 0 0, .slice none 0 0, .string (bs []), .bool false, .int .i64 0, .int .i64 0] 85 (0, 0))) := k6.block _ _ (HR5.out) HX.out
  have HA6 : Hid (w6.heap[w4.heap.size]? = some (.cells #[.int .i64 7, .int .i64 fr, .int .i64 td, .int .i64 tm, .int .i64 0, .int .i64 0, .int .i64 0, .slice none 0 0, .int .i64 0, .int .i64 0, .slice none 0 0, .slice none 0 0, .slice none 0 0, .string (bs []), .bool false, .int .i64 0, .int .i64 0] 85 (0, 0))) := k6.block _ _ (HA5.out) (fun (e : w4.heap.size = p.block) => hne e.symm)
  have HL6 : Hid (Left p w6 l6) := ⟨c6, z6⟩
  have HP6 : Hid (cx ≤ 1099511627775) := rdNum_max r6
  clear c6 z6
  go_wp2_with fail
  cases r7 : rdSn l6 with
  | error c =>
    have HE : Hid (rdMsg l = .error c) := HD.out.trans (rdThen_no ((rdThen_ok r6).trans (rdThen_no r7)))
    refine (RdPost.no (rSnapshot_any p l6 _ (HL6.out)) r7).mono ?_
    rintro e wx ⟨rfl, kx⟩
    go_wp2
    unfold bodyPost RdPost
    rw [HE.out]
    exact ⟨rfl, rfl, (HK6.out).trans kx⟩
  | ok x =>
  obtain ⟨sn, l7⟩ := x
  refine (RdPost.ok (rSnapshot_any p l6 _ (HL6.out)) r7).mono ?_
  rintro e w7 ⟨v7, rfl, hv7, c7, z7, k7⟩
  have HK7 : Hid (Kept (One p.block) w w7) := (HK6.out).trans k7
  have HR7 : Hid (w7.heap[w.heap.size]? = some (.cells #[.int .i64 0, .int .i64 0, .int .i64 0, .int .i64 0, .int .i64 0, .int .i64 0, .int .i64 0, .slice none 0 0, .int .i64 0, .int .i64 0, .slice none 0 0, .slice none 0 0, .slice none 0 0, .string (bs []), .bool false, .int .i64 0, .int .i64 0] 85 (0, 0))) := k7.block _ _ (HR6.out) HX.out
  have HA7 : Hid (w7.heap[w4.heap.size]? = some (.cells #[.int .i64 7, .int .i64 fr, .int .i64 td, .int .i64 tm, .int .i64 0, .int .i64 0, .int .i64 0, .slice none 0 0, .int .i64 0, .int .i64 0, .slice none 0 0, .slice none 0 0, .slice none 0 0, .string (bs []), .bool false, .int .i64 0, .int .i64 0] 85 (0, 0))) := k7.block _ _ (HA6.out) (fun (e : w4.heap.size = p.block) => hne e.symm)
  have HL7 : Hid (Left p w7 l7) := ⟨c7, z7⟩
  obtain ⟨a1, a2, a3, c1, c2, c3, rfl, oe⟩ := hv7
  have HES : Hid (sn.c.ok = true ∧ sn.dt.length ≤ 8192) := ⟨(rdSn_strict r7).2.1, (rdSn_strict r7).2.2.2.2⟩
  have HOE : Hid (OwnNats (w4.heap.size + 1) w7 a1 c1 sn.c.v ∧ OwnNats (w4.heap.size + 1) w7 a2 c2 sn.c.n ∧ OwnNats (w4.heap.size + 1) w7 a3 c3 sn.c.l) := by { have hb : w4.heap.size + 1 ≤ w6.heap.size := (by have := HS5.out; have := k6.size; simp at this ⊢; omega); exact ⟨own_mono oe.1 hb, own_mono oe.2.1 hb, own_mono oe.2.2 hb⟩ }
  clear c7 z7
  have g7_16 := blk_at HA7.out 16 rfl
  have g7_8 := blk_at HA7.out 8 rfl
  have g7_9 := blk_at HA7.out 9 rfl
  have g7_10 := blk_at HA7.out 10 rfl
  have g7_11 := blk_at HA7.out 11 rfl
  have g7_12 := blk_at HA7.out 12 rfl
  have g7_13 := blk_at HA7.out 13 rfl
  have f7_16 := blk_free HA7.out 16
  have f7_8 := blk_free HA7.out 8
  have f7_9 := blk_free HA7.out 9
  have f7_10 := blk_free HA7.out 10
  have f7_11 := blk_free HA7.out 11
  have f7_12 := blk_free HA7.out 12
  have f7_13 := blk_free HA7.out 13
  have HA7s : Hid ((((((((w7.setCell ⟨w4.heap.size, 16, none⟩ (.int .i64 cx)).setCell ⟨w4.heap.size, 8, none⟩ (.int .i64 sn.ix)).setCell ⟨w4.heap.size, 9, none⟩ (.int .i64 sn.tm)).setCell ⟨w4.heap.size, 10, none⟩ (.slice a1 sn.c.v.length c1)).setCell ⟨w4.heap.size, 11, none⟩ (.slice a2 sn.c.n.length c2)).setCell ⟨w4.heap.size, 12, none⟩ (.slice a3 sn.c.l.length c3)).setCell ⟨w4.heap.size, 13, none⟩ (.string (bs sn.dt))).heap[w4.heap.size]? = some (.cells #[.int .i64 7, .int .i64 fr, .int .i64 td, .int .i64 tm, .int .i64 0, .int .i64 0, .int .i64 0, .slice none 0 0, .int .i64 sn.ix, .int .i64 sn.tm, .slice a1 sn.c.v.length c1, .slice a2 sn.c.n.length c2, .slice a3 sn.c.l.length c3, .string (bs sn.dt), .bool false, .int .i64 0, .int .i64 cx] 85 (0, 0))) := blk_set (blk_set (blk_set (blk_set (blk_set (blk_set (blk_set (HA7.out) 16 _) 8 _) 9 _) 10 _) 11 _) 12 _) 13 _
  have HR7s : Hid ((((((((w7.setCell ⟨w4.heap.size, 16, none⟩ (.int .i64 cx)).setCell ⟨w4.heap.size, 8, none⟩ (.int .i64 sn.ix)).setCell ⟨w4.heap.size, 9, none⟩ (.int .i64 sn.tm)).setCell ⟨w4.heap.size, 10, none⟩ (.slice a1 sn.c.v.length c1)).setCell ⟨w4.heap.size, 11, none⟩ (.slice a2 sn.c.n.length c2)).setCell ⟨w4.heap.size, 12, none⟩ (.slice a3 sn.c.l.length c3)).setCell ⟨w4.heap.size, 13, none⟩ (.string (bs sn.dt))).heap[w.heap.size]? = some (.cells #[.int .i64 0, .int .i64 0, .int .i64 0, .int .i64 0, .int .i64 0, .int .i64 0, .int .i64 0, .slice none 0 0, .int .i64 0, .int .i64 0, .slice none 0 0, .slice none 0 0, .slice none 0 0, .string (bs []), .bool false, .int .i64 0, .int .i64 0] 85 (0, 0))) := blk_other (blk_other (blk_other (blk_other (blk_other (blk_other (blk_other (HR7.out) hnr _) hnr _) hnr _) hnr _) hnr _) hnr _) hnr _
  have HL7s : Hid (Left p (((((((w7.setCell ⟨w4.heap.size, 16, none⟩ (.int .i64 cx)).setCell ⟨w4.heap.size, 8, none⟩ (.int .i64 sn.ix)).setCell ⟨w4.heap.size, 9, none⟩ (.int .i64 sn.tm)).setCell ⟨w4.heap.size, 10, none⟩ (.slice a1 sn.c.v.length c1)).setCell ⟨w4.heap.size, 11, none⟩ (.slice a2 sn.c.n.length c2)).setCell ⟨w4.heap.size, 12, none⟩ (.slice a3 sn.c.l.length c3)).setCell ⟨w4.heap.size, 13, none⟩ (.string (bs sn.dt))) l7) := (((((((HL7.out).other hne _).other hne _).other hne _).other hne _).other hne _).other hne _).other hne _
  have HK7s : Hid (Kept (One p.block) w (((((((w7.setCell ⟨w4.heap.size, 16, none⟩ (.int .i64 cx)).setCell ⟨w4.heap.size, 8, none⟩ (.int .i64 sn.ix)).setCell ⟨w4.heap.size, 9, none⟩ (.int .i64 sn.tm)).setCell ⟨w4.heap.size, 10, none⟩ (.slice a1 sn.c.v.length c1)).setCell ⟨w4.heap.size, 11, none⟩ (.slice a2 sn.c.n.length c2)).setCell ⟨w4.heap.size, 12, none⟩ (.slice a3 sn.c.l.length c3)).setCell ⟨w4.heap.size, 13, none⟩ (.string (bs sn.dt)))) := (((((((HK7.out).setNew hge _).setNew hge _).setNew hge _).setNew hge _).setNew hge _).setNew hge _).setNew hge _
  have OE : Hid (OwnNats (w.heap.size + 1) (((((((w7.setCell ⟨w4.heap.size, 16, none⟩ (.int .i64 cx)).setCell ⟨w4.heap.size, 8, none⟩ (.int .i64 sn.ix)).setCell ⟨w4.heap.size, 9, none⟩ (.int .i64 sn.tm)).setCell ⟨w4.heap.size, 10, none⟩ (.slice a1 sn.c.v.length c1)).setCell ⟨w4.heap.size, 11, none⟩ (.slice a2 sn.c.n.length c2)).setCell ⟨w4.heap.size, 12, none⟩ (.slice a3 sn.c.l.length c3)).setCell ⟨w4.heap.size, 13, none⟩ (.string (bs sn.dt))) a1 c1 sn.c.v ∧ OwnNats (w.heap.size + 1) (((((((w7.setCell ⟨w4.heap.size, 16, none⟩ (.int .i64 cx)).setCell ⟨w4.heap.size, 8, none⟩ (.int .i64 sn.ix)).setCell ⟨w4.heap.size, 9, none⟩ (.int .i64 sn.tm)).setCell ⟨w4.heap.size, 10, none⟩ (.slice a1 sn.c.v.length c1)).setCell ⟨w4.heap.size, 11, none⟩ (.slice a2 sn.c.n.length c2)).setCell ⟨w4.heap.size, 12, none⟩ (.slice a3 sn.c.l.length c3)).setCell ⟨w4.heap.size, 13, none⟩ (.string (bs sn.dt))) a2 c2 sn.c.n ∧ OwnNats (w.heap.size + 1) (((((((w7.setCell ⟨w4.heap.size, 16, none⟩ (.int .i64 cx)).setCell ⟨w4.heap.size, 8, none⟩ (.int .i64 sn.ix)).setCell ⟨w4.heap.size, 9, none⟩ (.int .i64 sn.tm)).setCell ⟨w4.heap.size, 10, none⟩ (.slice a1 sn.c.v.length c1)).setCell ⟨w4.heap.size, 11, none⟩ (.slice a2 sn.c.n.length c2)).setCell ⟨w4.heap.size, 12, none⟩ (.slice a3 sn.c.l.length c3)).setCell ⟨w4.heap.size, 13, none⟩ (.string (bs sn.dt))) a3 c3 sn.c.l) := ⟨own_mono (ownsRow_setCell_below (ownsRow_setCell_below (ownsRow_setCell_below (ownsRow_setCell_below (ownsRow_setCell_below (ownsRow_setCell_below (ownsRow_setCell_below (HOE.out.1) (Nat.lt_succ_self _) _) (Nat.lt_succ_self _) _) (Nat.lt_succ_self _) _) (Nat.lt_succ_self _) _) (Nat.lt_succ_self _) _) (Nat.lt_succ_self _) _) (Nat.lt_succ_self _) _) (by omega), own_mono (ownsRow_setCell_below (ownsRow_setCell_below (ownsRow_setCell_below (ownsRow_setCell_below (ownsRow_setCell_below (ownsRow_setCell_below (ownsRow_setCell_below (HOE.out.2.1) (Nat.lt_succ_self _) _) (Nat.lt_succ_self _) _) (Nat.lt_succ_self _) _) (Nat.lt_succ_self _) _) (Nat.lt_succ_self _) _) (Nat.lt_succ_self _) _) (Nat.lt_succ_self _) _) (by omega), own_mono (ownsRow_setCell_below (ownsRow_setCell_below (ownsRow_setCell_below (ownsRow_setCell_below (ownsRow_setCell_below (ownsRow_setCell_below (ownsRow_setCell_below (HOE.out.2.2) (Nat.lt_succ_self _) _) (Nat.lt_succ_self _) _) (Nat.lt_succ_self _) _) (Nat.lt_succ_self _) _) (Nat.lt_succ_self _) _) (Nat.lt_succ_self _) _) (Nat.lt_succ_self _) _) (by omega)⟩
  have HBo : Hid (rdBody 7 fr td tm l4 = .ok ({ Mg.head 7 fr td tm with cx := cx, sn := sn }, l7)) := (rdThen_ok r6).trans (rdThen_ok r7)
  have HI := isMsg7 fr td tm cx sn c1 c2 c3 a1 a2 a3 (((((((w7.setCell ⟨w4.heap.size, 16, none⟩ (.int .i64 cx)).setCell ⟨w4.heap.size, 8, none⟩ (.int .i64 sn.ix)).setCell ⟨w4.heap.size, 9, none⟩ (.int .i64 sn.tm)).setCell ⟨w4.heap.size, 10, none⟩ (.slice a1 sn.c.v.length c1)).setCell ⟨w4.heap.size, 11, none⟩ (.slice a2 sn.c.n.length c2)).setCell ⟨w4.heap.size, 12, none⟩ (.slice a3 sn.c.l.length c3)).setCell ⟨w4.heap.size, 13, none⟩ (.string (bs sn.dt))) (cf_rows OE.out.1 OE.out.2.1 OE.out.2.2) HES.out (from0 (by intro z hz; simp at hz; have := HM.out; have := HP6.out; omega))
  have HOK : Hid (Mg.ok { Mg.head 7 fr td tm with cx := cx, sn := sn } = _) := okOf_7 fr td tm cx sn
  rw [← HOK.out] at HI
  have HRd : Hid (rdMsg l = if Mg.ok { Mg.head 7 fr td tm with cx := cx, sn := sn } then .ok ({ Mg.head 7 fr td tm with cx := cx, sn := sn }, l7) else .error 7) := HD.out.trans (rdThen_ok HBo.out)
  generalize Mg.ok { Mg.head 7 fr td tm with cx := cx, sn := sn } = okb at HI HRd
  clear HOK
  go_wp2_with (first | ((with_reducible refine atLoad 85 ?_); go_must (refine wpList_loadW rfl _ _ rfl _ rfl _ _ _ (HA7s.out) Try.underlying85 rfl Try.sizeMsg rfl ?_)))
  refine HI.mono ?_
  rintro e wi ⟨rfl, ki⟩
  have HAi : Hid (wi.heap[w4.heap.size]? = some (.cells #[.int .i64 7, .int .i64 fr, .int .i64 td, .int .i64 tm, .int .i64 0, .int .i64 0, .int .i64 0, .slice none 0 0, .int .i64 sn.ix, .int .i64 sn.tm, .slice a1 sn.c.v.length c1, .slice a2 sn.c.n.length c2, .slice a3 sn.c.l.length c3, .string (bs sn.dt), .bool false, .int .i64 0, .int .i64 cx] 85 (0, 0))) := ki.block _ _ (HA7s.out) (fun x => x.elim)
  have HRi : Hid (wi.heap[w.heap.size]? = some (.cells #[.int .i64 0, .int .i64 0, .int .i64 0, .int .i64 0, .int .i64 0, .int .i64 0, .int .i64 0, .slice none 0 0, .int .i64 0, .int .i64 0, .slice none 0 0, .slice none 0 0, .slice none 0 0, .string (bs []), .bool false, .int .i64 0, .int .i64 0] 85 (0, 0))) := ki.block _ _ (HR7s.out) (fun x => x.elim)
  have HKi : Hid (Kept (One p.block) w wi) := (HK7s.out).trans (ki.mono (fun _ _ x => x.elim))
  have HLi : Hid (Left p wi l7) := Left.kept (HL7s.out) ki
  have OEi : Hid (OwnNats (w.heap.size + 1) wi a1 c1 sn.c.v ∧ OwnNats (w.heap.size + 1) wi a2 c2 sn.c.n ∧ OwnNats (w.heap.size + 1) wi a3 c3 sn.c.l) := ⟨own_kept OE.out.1 ki (fun _ _ _ x => x.elim), own_kept OE.out.2.1 ki (fun _ _ _ x => x.elim), own_kept OE.out.2.2 ki (fun _ _ _ x => x.elim)⟩
  cases okb with
  | false =>
    go_wp2_with (go_at_call 145; go_must (refine (must_no _ _).mono ?_); rintro e w99 ⟨rfl, rfl⟩)
    unfold bodyPost RdPost
    rw [HRd.out]
    exact ⟨rfl, rfl, HKi.out⟩
  | true =>
    go_wp2_with (first | (go_at_call 145; go_must (refine (must_ok _ _).mono ?_); rintro e w99 ⟨rfl, rfl⟩) | ((with_reducible refine atLoad 85 ?_); go_must (refine wpList_loadW rfl _ _ rfl _ rfl _ _ _ (HAi.out) Try.underlying85 rfl Try.sizeMsg rfl ?_)) | ((with_reducible refine atStore 85 ?_); go_must (refine wpList_storeW rfl _ _ _ rfl _ #[.int .i64 7, .int .i64 fr, .int .i64 td, .int .i64 tm, .int .i64 0, .int .i64 0, .int .i64 0, .slice none 0 0, .int .i64 sn.ix, .int .i64 sn.tm, .slice a1 sn.c.v.length c1, .slice a2 sn.c.n.length c2, .slice a3 sn.c.l.length c3, .string (bs sn.dt), .bool false, .int .i64 0, .int .i64 cx] _ _ rfl rfl HRi.out rfl Try.sizeMsg rfl (one17 rfl rfl rfl rfl rfl rfl rfl rfl rfl rfl rfl rfl rfl rfl rfl rfl rfl) ?_); intro w9 hb9 hk9 hs9))
    refine bodyPost_ret (results_cellW rfl rfl hb9 Try.underlying85 rfl Try.sizeMsg rfl) rfl ?_
    unfold RdPost
    rw [HRd.out]
    exact ⟨⟨_, rfl, none, 0, a1, a2, a3, c1, c2, c3, rfl, ⟨fun _ => ⟨rfl, rfl⟩, fun h => absurd rfl h⟩, World.ownsRow_nil _ _ _ _, own_mono (own_kept OEi.out.1 hk9 (fun k _ hb hx => by have : k = w.heap.size := hx; omega)) (Nat.le_succ _), own_mono (own_kept OEi.out.2.1 hk9 (fun k _ hb hx => by have : k = w.heap.size := hx; omega)) (Nat.le_succ _), own_mono (own_kept OEi.out.2.2 hk9 (fun k _ hb hx => by have : k = w.heap.size := hx; omega)) (Nat.le_succ _)⟩, HLi.out.keptX hk9 (fun _ (e : p.block = w.heap.size) => by have := HB.out; omega), HKi.out.thenNew hk9 (fun k _ h => by have : k = w.heap.size := h; omega)⟩

end Go.Proofs.Ytijklginabipgaa

/-
  A message read (kind o).
-/
namespace Go.Proofs.Ytijklginabipgaa
open Go.RowKit

set_option maxRecDepth 100000 in
set_option maxHeartbeats 4000000 in
theorem rMsg_o (p : Addr) (kd : Nat) (fr td tm : Nat) (l l1 l2 l3 l4 : List UInt8) (w : World) (hl : Left p w l) (r1 : rdNum l = .ok (kd, l1)) (r2 : rdNum l1 = .ok (fr, l2)) (r3 : rdNum l2 = .ok (td, l3)) (r4 : rdNum l3 = .ok (tm, l4)) (hk : kd = 0 ∨ 7 < kd) :
    Calls Try.prog 127 #[.pointer (some p)] w (RdPost p w (rdMsg l) (MgV w.heap.size)) := by
  have HB : Hid (p.block < w.heap.size) := cell_lt hl.cell
  have HZ : Hid (_) := blk_new w (.cells #[.int .i64 0, .int .i64 0, .int .i64 0, .int .i64 0, .int .i64 0, .int .i64 0, .int .i64 0, .slice none 0 0, .int .i64 0, .int .i64 0, .slice none 0 0, .slice none 0 0, .slice none 0 0, .string (bs []), .bool false, .int .i64 0, .int .i64 0] 85)
  have HX : Hid (¬ One p.block w.heap.size (.cells #[.int .i64 0, .int .i64 0, .int .i64 0, .int .i64 0, .int .i64 0, .int .i64 0, .int .i64 0, .slice none 0 0, .int .i64 0, .int .i64 0, .slice none 0 0, .slice none 0 0, .slice none 0 0, .string (bs []), .bool false, .int .i64 0, .int .i64 0] 85 (0, 0))) := fun (e : w.heap.size = p.block) => by have := HB.out; omega
  have hla := hl.alloc (.cells #[.int .i64 0, .int .i64 0, .int .i64 0, .int .i64 0, .int .i64 0, .int .i64 0, .int .i64 0, .slice none 0 0, .int .i64 0, .int .i64 0, .slice none 0 0, .slice none 0 0, .slice none 0 0, .string (bs []), .bool false, .int .i64 0, .int .i64 0] 85)
  have HD : Hid (rdMsg l = rdThen (rdBody kd fr td tm l4) fun m l => if m.ok then .ok (m, l) else .error 7) := (rdThen_ok r1).trans ((rdThen_ok r2).trans ((rdThen_ok r3).trans (rdThen_ok r4)))
  have HBo : Hid (rdBody kd fr td tm l4 = .ok ((Mg.head kd fr td tm), l4)) := by show _ = _; unfold rdBody; rw [if_neg (by omega), if_neg (by omega), if_neg (by omega), if_neg (by omega), if_neg (by omega)]
  have HM : Hid (kd ≤ 1099511627775 ∧ fr ≤ 1099511627775 ∧ td ≤ 1099511627775 ∧ tm ≤ 1099511627775) := ⟨rdNum_max r1, rdNum_max r2, rdNum_max r3, rdNum_max r4⟩
  have k1 : ((kd : Int) == 1) = false := by simp; omega
  have k2 : ((kd : Int) == 2) = false := by simp; omega
  have k3 : ((kd : Int) == 3) = false := by simp; omega
  have k4 : ((kd : Int) == 4) = false := by simp; omega
  have k5 : ((kd : Int) == 5) = false := by simp; omega
  have k6 : ((kd : Int) == 6) = false := by simp; omega
  have k7 : ((kd : Int) == 7) = false := by simp; omega
  have HKD : Hid ((kd : Int) = 0 ∨ 7 < (kd : Int)) := by show _ ∨ _; omega
  clear hk
  clear hl
  go_enter Try.func127, Try.ntmps127
  go_wp2_with fail
  refine (number_ok hla r1).mono ?_
  rintro e w1 ⟨rfl, c1, z1, k1⟩
  go_wp2_with fail
  refine (number_ok ⟨c1, z1⟩ r2).mono ?_
  rintro e w2 ⟨rfl, c2, z2, k2⟩
  go_wp2_with fail
  refine (number_ok ⟨c2, z2⟩ r3).mono ?_
  rintro e w3 ⟨rfl, c3, z3, k3⟩
  go_wp2_with fail
  refine (number_ok ⟨c3, z3⟩ r4).mono ?_
  rintro e w4 ⟨rfl, c4, z4, k4⟩
  have HK4 : Hid (Kept (One p.block) w w4) := ((((Kept.refl _ _).alloc _).trans k1).trans k2).trans k3 |>.trans k4
  have HR4 : Hid (w4.heap[w.heap.size]? = some (.cells #[.int .i64 0, .int .i64 0, .int .i64 0, .int .i64 0, .int .i64 0, .int .i64 0, .int .i64 0, .slice none 0 0, .int .i64 0, .int .i64 0, .slice none 0 0, .slice none 0 0, .slice none 0 0, .string (bs []), .bool false, .int .i64 0, .int .i64 0] 85 (0, 0))) := k4.block _ _ (k3.block _ _ (k2.block _ _ (k1.block _ _ HZ.out HX.out) HX.out) HX.out) HX.out
  have HL4 : Hid (Left p w4 l4) := ⟨c4, z4⟩
  have hne : p.block ≠ w4.heap.size := by have := HB.out; have := HK4.out.size; omega
  have hnr : w.heap.size ≠ w4.heap.size := by have := lt_of_block HR4.out; omega
  have hge : w.heap.size ≤ w4.heap.size := HK4.out.size
  clear c1 z1 k1 c2 z2 k2 c3 z3 k3 c4 z4 k4 r1 r2 r3 r4 hla
  have HI : ∀ W, Calls Try.prog 124 #[.agg #[.int .i64 kd, .int .i64 fr, .int .i64 td, .int .i64 tm, .int .i64 0, .int .i64 0, .int .i64 0, .slice none 0 0, .int .i64 0, .int .i64 0, .slice none 0 0, .slice none 0 0, .slice none 0 0, .string (bs []), .bool false, .int .i64 0, .int .i64 0]] W fun e w' => e = .returned (.bool false) ∧ Kept Nil W w' := fun W => by
    have h := isMessage_o kd fr td tm W HKD.out (from0 (by intro z hz; simp at hz; have := HM.out; omega))
    rw [Bool.and_false] at h
    exact h
  have HRd : Hid (rdMsg l = .error 7) := by
    show _ = _
    rw [HD.out, rdThen_ok HBo.out, okOf_o kd fr td tm (by have := HKD.out; omega), Bool.and_false]
    rfl
  go_wp2_with (first | ((with_reducible refine atStore 85 ?_); go_must (refine wpList_storeW rfl _ _ _ rfl _ #[.int .i64 kd, .int .i64 fr, .int .i64 td, .int .i64 tm, .int .i64 0, .int .i64 0, .int .i64 0, .slice none 0 0, .int .i64 0, .int .i64 0, .slice none 0 0, .slice none 0 0, .slice none 0 0, .string (bs []), .bool false, .int .i64 0, .int .i64 0] _ _ rfl rfl (blk_new w4 _) rfl Try.sizeMsg rfl (one17 rfl rfl rfl rfl rfl rfl rfl rfl rfl rfl rfl rfl rfl rfl rfl rfl rfl) ?_; intro w5 hb5 hk5 hs5; have q5_0 := blk_at hb5 0 rfl; have HK5 : Hid (Kept (One p.block) w w5) := (by show Kept (One p.block) w w5; exact (HK4.out.alloc _).thenNew hk5 (fun k _ h => by have : k = w4.heap.size := h; omega)); have HR5 : Hid (w5.heap[w.heap.size]? = some (.cells #[.int .i64 0, .int .i64 0, .int .i64 0, .int .i64 0, .int .i64 0, .int .i64 0, .int .i64 0, .slice none 0 0, .int .i64 0, .int .i64 0, .slice none 0 0, .slice none 0 0, .slice none 0 0, .string (bs []), .bool false, .int .i64 0, .int .i64 0] 85 (0, 0))) := hk5.block _ _ (blk_past HR4.out _) (fun (e : w.heap.size = w4.heap.size) => hnr e); have HL5 : Hid (Left p w5 l4) := (HL4.out.alloc _).keptX hk5 (fun _ (e : p.block = w4.heap.size) => hne e); have HS5 : Hid (w4.heap.size < w5.heap.size) := lt_of_block hb5; have HA5 : Hid (w5.heap[w4.heap.size]? = some (.cells #[.int .i64 kd, .int .i64 fr, .int .i64 td, .int .i64 tm, .int .i64 0, .int .i64 0, .int .i64 0, .slice none 0 0, .int .i64 0, .int .i64 0, .slice none 0 0, .slice none 0 0, .slice none 0 0, .string (bs []), .bool false, .int .i64 0, .int .i64 0] 85 (0, 0))) := hb5; clear hk5 hs5 hb5)) | ((with_reducible refine atLoad 85 ?_); go_must (refine wpList_loadW rfl _ _ rfl _ rfl _ _ _ (HA5.out) Try.underlying85 rfl Try.sizeMsg rfl ?_)))
  refine (HI _).mono ?_
  rintro e wi ⟨rfl, ki⟩
  go_wp2_with (go_at_call 145; go_must (refine (must_no _ _).mono ?_); rintro e w99 ⟨rfl, rfl⟩)
  unfold bodyPost RdPost
  rw [HRd.out]
  exact ⟨rfl, rfl, HK5.out.trans (ki.mono (fun _ _ x => x.elim))⟩

end Go.Proofs.Ytijklginabipgaa

/-
  A message read by the program's reader.
-/
namespace Go.Proofs.Ytijklginabipgaa
open Go.RowKit

set_option maxRecDepth 100000 in
set_option maxHeartbeats 4000000 in
theorem rMessage_any (p : Addr) (l : List UInt8) (w : World) (hl : Left p w l) :
    Calls Try.prog 127 #[.pointer (some p)] w (RdPost p w (rdMsg l) (MgV w.heap.size)) := by
  have hla := hl.alloc (.cells #[.int .i64 0, .int .i64 0, .int .i64 0, .int .i64 0, .int .i64 0, .int .i64 0, .int .i64 0, .slice none 0 0, .int .i64 0, .int .i64 0, .slice none 0 0, .slice none 0 0, .slice none 0 0, .string (bs []), .bool false, .int .i64 0, .int .i64 0] 85)
  cases r1 : rdNum l with
  | error c =>
    have HR : Hid (rdMsg l = .error c) := rdThen_no r1
    go_enter Try.func127, Try.ntmps127
    go_wp2_with fail
    refine (number_no hla r1).mono ?_
    rintro e w1 ⟨rfl, k1⟩
    go_wp2
    unfold bodyPost RdPost
    rw [HR.out]
    exact ⟨rfl, rfl, (((Kept.refl _ _).alloc _).trans k1)⟩
  | ok x1 =>
  obtain ⟨kd, l1⟩ := x1
  cases r2 : rdNum l1 with
  | error c =>
    have HR : Hid (rdMsg l = .error c) := (rdThen_ok r1).trans (rdThen_no r2)
    go_enter Try.func127, Try.ntmps127
    go_wp2_with fail
    refine (number_ok hla r1).mono ?_
    rintro e w1 ⟨rfl, c1, z1, k1⟩
    go_wp2_with fail
    refine (number_no ⟨c1, z1⟩ r2).mono ?_
    rintro e w2 ⟨rfl, k2⟩
    go_wp2
    unfold bodyPost RdPost
    rw [HR.out]
    exact ⟨rfl, rfl, ((((Kept.refl _ _).alloc _).trans k1).trans k2)⟩
  | ok x2 =>
  obtain ⟨fr, l2⟩ := x2
  cases r3 : rdNum l2 with
  | error c =>
    have HR : Hid (rdMsg l = .error c) := (rdThen_ok r1).trans ((rdThen_ok r2).trans (rdThen_no r3))
    go_enter Try.func127, Try.ntmps127
    go_wp2_with fail
    refine (number_ok hla r1).mono ?_
    rintro e w1 ⟨rfl, c1, z1, k1⟩
    go_wp2_with fail
    refine (number_ok ⟨c1, z1⟩ r2).mono ?_
    rintro e w2 ⟨rfl, c2, z2, k2⟩
    go_wp2_with fail
    refine (number_no ⟨c2, z2⟩ r3).mono ?_
    rintro e w3 ⟨rfl, k3⟩
    go_wp2
    unfold bodyPost RdPost
    rw [HR.out]
    exact ⟨rfl, rfl, (((((Kept.refl _ _).alloc _).trans k1).trans k2).trans k3)⟩
  | ok x3 =>
  obtain ⟨td, l3⟩ := x3
  cases r4 : rdNum l3 with
  | error c =>
    have HR : Hid (rdMsg l = .error c) := (rdThen_ok r1).trans ((rdThen_ok r2).trans ((rdThen_ok r3).trans (rdThen_no r4)))
    go_enter Try.func127, Try.ntmps127
    go_wp2_with fail
    refine (number_ok hla r1).mono ?_
    rintro e w1 ⟨rfl, c1, z1, k1⟩
    go_wp2_with fail
    refine (number_ok ⟨c1, z1⟩ r2).mono ?_
    rintro e w2 ⟨rfl, c2, z2, k2⟩
    go_wp2_with fail
    refine (number_ok ⟨c2, z2⟩ r3).mono ?_
    rintro e w3 ⟨rfl, c3, z3, k3⟩
    go_wp2_with fail
    refine (number_no ⟨c3, z3⟩ r4).mono ?_
    rintro e w4 ⟨rfl, k4⟩
    go_wp2
    unfold bodyPost RdPost
    rw [HR.out]
    exact ⟨rfl, rfl, ((((((Kept.refl _ _).alloc _).trans k1).trans k2).trans k3).trans k4)⟩
  | ok x4 =>
  obtain ⟨tm, l4⟩ := x4
  clear hla
  by_cases h1 : kd = 1
  · subst h1; exact rMsg_1 p fr td tm l l1 l2 l3 l4 w hl r1 r2 r3 r4
  by_cases h3 : kd = 3
  · subst h3; exact rMsg_3 p fr td tm l l1 l2 l3 l4 w hl r1 r2 r3 r4
  by_cases h2 : kd = 2
  · subst h2; exact rMsg_2 p fr td tm l l1 l2 l3 l4 w hl r1 r2 r3 r4
  by_cases h4 : kd = 4
  · subst h4; exact rMsg_4 p fr td tm l l1 l2 l3 l4 w hl r1 r2 r3 r4
  by_cases h5 : kd = 5
  · subst h5; exact rMsg_5 p fr td tm l l1 l2 l3 l4 w hl r1 r2 r3 r4
  by_cases h6 : kd = 6
  · subst h6; exact rMsg_6 p fr td tm l l1 l2 l3 l4 w hl r1 r2 r3 r4
  by_cases h7 : kd = 7
  · subst h7; exact rMsg_7 p fr td tm l l1 l2 l3 l4 w hl r1 r2 r3 r4
  exact rMsg_o p kd fr td tm l l1 l2 l3 l4 w hl r1 r2 r3 r4 (by omega)

end Go.Proofs.Ytijklginabipgaa
