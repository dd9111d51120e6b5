/-
  A snapshot read by the document's reader.
-/
import Derived.Test.YtijklginabipgaaWOlc
namespace Go.Proofs.Ytijklginabipgaa
open Go.RowKit

/-- As the document's reader goes: all fields first, then what may be. -/
def rdSnapR (l : List UInt8) : Except Int (Sn × List UInt8) := rdThen (rdNum l) fun ix l => rdThen (rdNum l) fun tm l => rdThen (rdCfg l) fun c l => rdThen (rdText 8192 l) fun dt l => if (Sn.ok ⟨ix, tm, c, dt⟩) then .ok (⟨ix, tm, c, dt⟩, l) else .error 6
theorem rdThen_assoc {α β γ : Type} (r : Except Int (α × List UInt8)) (f : α → List UInt8 → Except Int (β × List UInt8)) (g : β → List UInt8 → Except Int (γ × List UInt8)) : rdThen (rdThen r f) g = rdThen r (fun a l => rdThen (f a l) g) := by
  cases r with
  | error c => rfl
  | ok x => rfl
theorem rdSnap_eq (l : List UInt8) : rdSnap l = rdSnapR l := by
  unfold rdSnap rdSn rdSnapR
  rw [rdThen_assoc]
  congr 1
  funext ix l
  rw [rdThen_assoc]
  congr 1
  funext tm l
  rw [rdThen_assoc]
  congr 1
  funext c l
  rw [rdThen_assoc]
  congr 1

set_option maxRecDepth 100000 in
set_option maxHeartbeats 4000000 in
theorem refRSnapshot_any (b : Nat) (st : Except Int (List UInt8)) (w : World) (h : RSt b w st) :
    Calls Try.prog 106 #[.pointer (some ⟨b, 0, none⟩)] w (RefPost b w rdSnapR st (SnV w.heap.size)) := by
  have HBL : Hid (b < w.heap.size) := h.lt
  have HBw : Hid (b ≠ w.heap.size ∧ b ≠ w.heap.size + 1) := by have := HBL.out; constructor <;> omega
  have M0 : Hid (((w.alloc (.cells #[.int .i64 0, .int .i64 0, .slice none 0 0, .slice none 0 0, .slice none 0 0, .string (bs [])] 61)).alloc (.cells #[.int .i64 0, .int .i64 0, .slice none 0 0, .slice none 0 0, .slice none 0 0, .string (bs [])] 61)).heap[w.heap.size + 1]? = some (.cells #[.int .i64 0, .int .i64 0, .slice none 0 0, .slice none 0 0, .slice none 0 0, .string (bs [])] 61 (0, 0))) := by
    have := blk_new (w.alloc (.cells #[.int .i64 0, .int .i64 0, .slice none 0 0, .slice none 0 0, .slice none 0 0, .string (bs [])] 61)) (.cells #[.int .i64 0, .int .i64 0, .slice none 0 0, .slice none 0 0, .slice none 0 0, .string (bs [])] 61)
    rwa [show (w.alloc (.cells #[.int .i64 0, .int .i64 0, .slice none 0 0, .slice none 0 0, .slice none 0 0, .string (bs [])] 61)).heap.size = w.heap.size + 1 by simp] at this
  have N0 : Hid (_) := blk_past (blk_new w (.cells #[.int .i64 0, .int .i64 0, .slice none 0 0, .slice none 0 0, .slice none 0 0, .string (bs [])] 61)) (.cells #[.int .i64 0, .int .i64 0, .slice none 0 0, .slice none 0 0, .slice none 0 0, .string (bs [])] 61)
  have T0 := (h.past (.cells #[.int .i64 0, .int .i64 0, .slice none 0 0, .slice none 0 0, .slice none 0 0, .string (bs [])] 61)).past (.cells #[.int .i64 0, .int .i64 0, .slice none 0 0, .slice none 0 0, .slice none 0 0, .string (bs [])] 61)
  have K0 : Hid (Kept (One b) w ((w.alloc (.cells #[.int .i64 0, .int .i64 0, .slice none 0 0, .slice none 0 0, .slice none 0 0, .string (bs [])] 61)).alloc (.cells #[.int .i64 0, .int .i64 0, .slice none 0 0, .slice none 0 0, .slice none 0 0, .string (bs [])] 61))) := ((Kept.refl _ _).alloc _).alloc _
  have hMb : ¬ w.heap.size + 1 = b := fun e => HBw.out.2 e.symm
  have hNb : ¬ w.heap.size = b := fun e => HBw.out.1 e.symm
  have hbM : b ≠ w.heap.size + 1 := HBw.out.2
  have hbN : b ≠ w.heap.size := HBw.out.1
  have hNM : w.heap.size ≠ w.heap.size + 1 := by omega
  clear h
  have hXb : ∀ k cs, w.heap.size + 2 ≤ k → ¬ One b k (.cells cs 3 (0, 0)) := fun k cs hb hx => by have := HBL.out; have : k = b := hx; omega
  obtain ⟨⟨ix, s1⟩, h1⟩ : ∃ x, stRun (rdNum) 0 st = x := ⟨_, rfl⟩
  have C1 := fun (w' : World) h => refNumber_any b st w' h
  rw [h1] at C1
  have H1 : Hid (stRun (rdNum) 0 st = (ix, s1)) := h1
  clear h1
  obtain ⟨⟨tm, s2⟩, h2⟩ : ∃ x, stRun (rdNum) 0 s1 = x := ⟨_, rfl⟩
  have C2 := fun (w' : World) h => refNumber_any b s1 w' h
  rw [h2] at C2
  have H2 : Hid (stRun (rdNum) 0 s1 = (tm, s2)) := h2
  clear h2
  go_enter Try.func106, Try.ntmps106
  go_wp2_with fail
  refine (C1 _ T0).mono ?_
  rintro e w1 ⟨rfl, t1, k1⟩
  have m1 := k1.block _ _ M0.out hMb
  have o1 := k1.block _ _ N0.out hNb
  have a1_0 := blk_at m1 0 rfl
  have f1_0 := blk_free m1 0
  have M1 : Hid ((w1.setCell ⟨w.heap.size + 1, 0, none⟩ (.int .i64 ix)).heap[w.heap.size + 1]? = some (.cells #[.int .i64 ix, .int .i64 0, .slice none 0 0, .slice none 0 0, .slice none 0 0, .string (bs [])] 61 (0, 0))) := blk_set m1 0 _
  have N1 : Hid (_) := blk_other o1 hNM (a := ⟨w.heap.size + 1, 0, none⟩) (.int .i64 ix)
  have T1 := t1.other hbM (a := ⟨w.heap.size + 1, 0, none⟩) (.int .i64 ix)
  have K1 : Hid (Kept (One b) w (w1.setCell ⟨w.heap.size + 1, 0, none⟩ (.int .i64 ix))) := (K0.out.trans k1).setNew (show w.heap.size ≤ w.heap.size + 1 by omega) _
  clear m1 o1
  go_wp2_with fail
  refine (C2 _ T1).mono ?_
  rintro e w2 ⟨rfl, t2, k2⟩
  have m2 := k2.block _ _ M1.out hMb
  have o2 := k2.block _ _ N1.out hNb
  have a2_0 := blk_at m2 1 rfl
  have f2_0 := blk_free m2 1
  have M2 : Hid ((w2.setCell ⟨w.heap.size + 1, 1, none⟩ (.int .i64 tm)).heap[w.heap.size + 1]? = some (.cells #[.int .i64 ix, .int .i64 tm, .slice none 0 0, .slice none 0 0, .slice none 0 0, .string (bs [])] 61 (0, 0))) := blk_set m2 1 _
  have N2 : Hid (_) := blk_other o2 hNM (a := ⟨w.heap.size + 1, 1, none⟩) (.int .i64 tm)
  have T2 := t2.other hbM (a := ⟨w.heap.size + 1, 1, none⟩) (.int .i64 tm)
  have K2 : Hid (Kept (One b) w (w2.setCell ⟨w.heap.size + 1, 1, none⟩ (.int .i64 tm))) := (K1.out.trans k2).setNew (show w.heap.size ≤ w.heap.size + 1 by omega) _
  clear m2 o2
  go_wp2_with fail
  refine (refRConfig_any b s2 _ T2).mono ?_
  rintro e w3 ⟨⟨v3, cf, rfl, hv3, hg3⟩, t3, k3⟩
  obtain ⟨s3, hs3⟩ : ∃ s, stAfter (rdCfg) s2 = s := ⟨_, rfl⟩
  have H3 : Hid (stRun (rdCfg) cf s2 = (cf, s3)) := by show _ = _; rw [hg3.run, hs3]
  rw [hs3] at t3
  clear hs3 hg3
  obtain ⟨ao1, ao2, ao3, cp1, cp2, cp3, rfl, po1, po2, po3⟩ := hv3
  have m3 := k3.block _ _ M2.out hMb
  have o3 := k3.block _ _ N2.out hNb
  have a3_0 := blk_at m3 2 rfl
  have f3_0 := blk_free m3 2
  have a3_1 := blk_at m3 3 rfl
  have f3_1 := blk_free m3 3
  have a3_2 := blk_at m3 4 rfl
  have f3_2 := blk_free m3 4
  have M3a : Hid ((w3.setCell ⟨w.heap.size + 1, 2, none⟩ (.slice ao1 cf.v.length cp1)).heap[w.heap.size + 1]? = some (.cells #[.int .i64 ix, .int .i64 tm, .slice ao1 cf.v.length cp1, .slice none 0 0, .slice none 0 0, .string (bs [])] 61 (0, 0))) := blk_set m3 2 _
  have N3a : Hid (_) := blk_other o3 hNM (a := ⟨w.heap.size + 1, 2, none⟩) (.slice ao1 cf.v.length cp1)
  have T3a := t3.other hbM (a := ⟨w.heap.size + 1, 2, none⟩) (.slice ao1 cf.v.length cp1)
  have K3a : Hid (Kept (One b) w (w3.setCell ⟨w.heap.size + 1, 2, none⟩ (.slice ao1 cf.v.length cp1))) := (K2.out.trans k3).setNew (show w.heap.size ≤ w.heap.size + 1 by omega) _
  have M3b : Hid (((w3.setCell ⟨w.heap.size + 1, 2, none⟩ (.slice ao1 cf.v.length cp1)).setCell ⟨w.heap.size + 1, 3, none⟩ (.slice ao2 cf.n.length cp2)).heap[w.heap.size + 1]? = some (.cells #[.int .i64 ix, .int .i64 tm, .slice ao1 cf.v.length cp1, .slice ao2 cf.n.length cp2, .slice none 0 0, .string (bs [])] 61 (0, 0))) := blk_set M3a.out 3 _
  have N3b : Hid (_) := blk_other N3a.out hNM (a := ⟨w.heap.size + 1, 3, none⟩) (.slice ao2 cf.n.length cp2)
  have T3b := T3a.other hbM (a := ⟨w.heap.size + 1, 3, none⟩) (.slice ao2 cf.n.length cp2)
  have K3b : Hid (Kept (One b) w ((w3.setCell ⟨w.heap.size + 1, 2, none⟩ (.slice ao1 cf.v.length cp1)).setCell ⟨w.heap.size + 1, 3, none⟩ (.slice ao2 cf.n.length cp2))) := K3a.out.setNew (show w.heap.size ≤ w.heap.size + 1 by omega) _
  have M3 : Hid ((((w3.setCell ⟨w.heap.size + 1, 2, none⟩ (.slice ao1 cf.v.length cp1)).setCell ⟨w.heap.size + 1, 3, none⟩ (.slice ao2 cf.n.length cp2)).setCell ⟨w.heap.size + 1, 4, none⟩ (.slice ao3 cf.l.length cp3)).heap[w.heap.size + 1]? = some (.cells #[.int .i64 ix, .int .i64 tm, .slice ao1 cf.v.length cp1, .slice ao2 cf.n.length cp2, .slice ao3 cf.l.length cp3, .string (bs [])] 61 (0, 0))) := blk_set M3b.out 4 _
  have N3 : Hid (_) := blk_other N3b.out hNM (a := ⟨w.heap.size + 1, 4, none⟩) (.slice ao3 cf.l.length cp3)
  have T3 := T3b.other hbM (a := ⟨w.heap.size + 1, 4, none⟩) (.slice ao3 cf.l.length cp3)
  have K3 : Hid (Kept (One b) w (((w3.setCell ⟨w.heap.size + 1, 2, none⟩ (.slice ao1 cf.v.length cp1)).setCell ⟨w.heap.size + 1, 3, none⟩ (.slice ao2 cf.n.length cp2)).setCell ⟨w.heap.size + 1, 4, none⟩ (.slice ao3 cf.l.length cp3))) := K3b.out.setNew (show w.heap.size ≤ w.heap.size + 1 by omega) _
  have hb2 : w.heap.size + 2 ≤ (w2.setCell ⟨w.heap.size + 1, 1, none⟩ (.int .i64 tm)).heap.size := lt_of_block M2.out
  have O1_3 : Hid (OwnNats (w.heap.size + 2) (((w3.setCell ⟨w.heap.size + 1, 2, none⟩ (.slice ao1 cf.v.length cp1)).setCell ⟨w.heap.size + 1, 3, none⟩ (.slice ao2 cf.n.length cp2)).setCell ⟨w.heap.size + 1, 4, none⟩ (.slice ao3 cf.l.length cp3)) ao1 cp1 cf.v) := (own_setB (own_setB (own_setB (own_mono po1 hb2) (show w.heap.size + 1 < w.heap.size + 2 by omega) _) (show w.heap.size + 1 < w.heap.size + 2 by omega) _) (show w.heap.size + 1 < w.heap.size + 2 by omega) _)
  have O2_3 : Hid (OwnNats (w.heap.size + 2) (((w3.setCell ⟨w.heap.size + 1, 2, none⟩ (.slice ao1 cf.v.length cp1)).setCell ⟨w.heap.size + 1, 3, none⟩ (.slice ao2 cf.n.length cp2)).setCell ⟨w.heap.size + 1, 4, none⟩ (.slice ao3 cf.l.length cp3)) ao2 cp2 cf.n) := (own_setB (own_setB (own_setB (own_mono po2 hb2) (show w.heap.size + 1 < w.heap.size + 2 by omega) _) (show w.heap.size + 1 < w.heap.size + 2 by omega) _) (show w.heap.size + 1 < w.heap.size + 2 by omega) _)
  have O3_3 : Hid (OwnNats (w.heap.size + 2) (((w3.setCell ⟨w.heap.size + 1, 2, none⟩ (.slice ao1 cf.v.length cp1)).setCell ⟨w.heap.size + 1, 3, none⟩ (.slice ao2 cf.n.length cp2)).setCell ⟨w.heap.size + 1, 4, none⟩ (.slice ao3 cf.l.length cp3)) ao3 cp3 cf.l) := (own_setB (own_setB (own_setB (own_mono po3 hb2) (show w.heap.size + 1 < w.heap.size + 2 by omega) _) (show w.heap.size + 1 < w.heap.size + 2 by omega) _) (show w.heap.size + 1 < w.heap.size + 2 by omega) _)
  clear po1 po2 po3 hb2
  clear m3 o3
  clear T3a T3b
  obtain ⟨⟨dt, s4⟩, h4⟩ : ∃ x, stRun (rdText 8192) [] s3 = x := ⟨_, rfl⟩
  have C4 := fun (w' : World) h => refText_any b 8192 s3 w' h
  rw [h4] at C4
  have H4 : Hid (stRun (rdText 8192) [] s3 = (dt, s4)) := h4
  clear h4
  go_wp2_with fail
  refine (C4 _ T3).mono ?_
  rintro e w4 ⟨rfl, t4, k4⟩
  have m4 := k4.block _ _ M3.out hMb
  have o4 := k4.block _ _ N3.out hNb
  have a4_0 := blk_at m4 5 rfl
  have f4_0 := blk_free m4 5
  have M4 : Hid ((w4.setCell ⟨w.heap.size + 1, 5, none⟩ (.string (bs dt))).heap[w.heap.size + 1]? = some (.cells #[.int .i64 ix, .int .i64 tm, .slice ao1 cf.v.length cp1, .slice ao2 cf.n.length cp2, .slice ao3 cf.l.length cp3, .string (bs dt)] 61 (0, 0))) := blk_set m4 5 _
  have N4 : Hid (_) := blk_other o4 hNM (a := ⟨w.heap.size + 1, 5, none⟩) (.string (bs dt))
  have T4 := t4.other hbM (a := ⟨w.heap.size + 1, 5, none⟩) (.string (bs dt))
  have K4 : Hid (Kept (One b) w (w4.setCell ⟨w.heap.size + 1, 5, none⟩ (.string (bs dt)))) := (K3.out.trans k4).setNew (show w.heap.size ≤ w.heap.size + 1 by omega) _
  have O1_4 : Hid (OwnNats (w.heap.size + 2) (w4.setCell ⟨w.heap.size + 1, 5, none⟩ (.string (bs dt))) ao1 cp1 cf.v) := own_setB (own_kept O1_3.out k4 hXb) (show w.heap.size + 1 < w.heap.size + 2 by omega) _
  have O2_4 : Hid (OwnNats (w.heap.size + 2) (w4.setCell ⟨w.heap.size + 1, 5, none⟩ (.string (bs dt))) ao2 cp2 cf.n) := own_setB (own_kept O2_3.out k4 hXb) (show w.heap.size + 1 < w.heap.size + 2 by omega) _
  have O3_4 : Hid (OwnNats (w.heap.size + 2) (w4.setCell ⟨w.heap.size + 1, 5, none⟩ (.string (bs dt))) ao3 cp3 cf.l) := own_setB (own_kept O3_3.out k4 hXb) (show w.heap.size + 1 < w.heap.size + 2 by omega) _
  clear m4 o4
  have HI := fun (w : World) a1 a2 a3 c1 c2 c3 hr => refIsSnapN_any ⟨ix, tm, cf, dt⟩ c1 c2 c3 a1 a2 a3 w hr (own_len O1_4.out) (own_len O2_4.out) (own_len O3_4.out) (by have := stText_le 8192 s3; rw [H4.out] at this; simp only at this ⊢; omega)
  cases hok : Sn.ok ⟨ix, tm, cf, dt⟩ with
  | true =>
    rw [hok] at HI
    have HOK : Hid (Sn.ok ⟨ix, tm, cf, dt⟩ = true) := hok
    clear hok
    have e0 := blk_at M4.out 0 rfl
    have e1 := blk_at M4.out 1 rfl
    have e2 := blk_at M4.out 2 rfl
    have e3 := blk_at M4.out 3 rfl
    have e4 := blk_at M4.out 4 rfl
    have e5 := blk_at M4.out 5 rfl
    go_wp2_with fail
    refine (HI _ _ _ _ _ _ _ (cf_rows O1_4.out O2_4.out O3_4.out)).mono ?_
    rintro e wi ⟨rfl, ki⟩
    have Mi := ki.block _ _ M4.out (fun x => x.elim)
    have Ni := ki.block _ _ N4.out (fun x => x.elim)
    have Ti := T4.keptN ki
    have Ki : Hid (Kept (One b) w wi) := K4.out.trans (ki.mono (fun _ _ x => x.elim))
    have F1 : Hid (OwnNats (w.heap.size + 2) wi ao1 cp1 cf.v) := own_kept O1_4.out ki (fun _ _ _ x => x.elim)
    have F2 : Hid (OwnNats (w.heap.size + 2) wi ao2 cp2 cf.n) := own_kept O2_4.out ki (fun _ _ _ x => x.elim)
    have F3 : Hid (OwnNats (w.heap.size + 2) wi ao3 cp3 cf.l) := own_kept O3_4.out ki (fun _ _ _ x => x.elim)
    have p0 := blk_at Mi 0 rfl
    have p1 := blk_at Mi 1 rfl
    have p2 := blk_at Mi 2 rfl
    have p3 := blk_at Mi 3 rfl
    have p4 := blk_at Mi 4 rfl
    have p5 := blk_at Mi 5 rfl
    have g0 := blk_at Ni 0 rfl
    have g1 := blk_at Ni 1 rfl
    have g2 := blk_at Ni 2 rfl
    have g3 := blk_at Ni 3 rfl
    have g4 := blk_at Ni 4 rfl
    have g5 := blk_at Ni 5 rfl
    have u0 := blk_free Ni 0
    have u1 := blk_free Ni 1
    have u2 := blk_free Ni 2
    have u3 := blk_free Ni 3
    have u4 := blk_free Ni 4
    have u5 := blk_free Ni 5
    go_wp2
    refine bodyPost_ret (v := .agg #[.int .i64 ix, .int .i64 tm, .slice ao1 cf.v.length cp1, .slice ao2 cf.n.length cp2, .slice ao3 cf.l.length cp3, .string (bs dt)]) (by simp [results, Try.results106, go_sem, g0, g1, g2, g3, g4, g5]) rfl ?_
    have hS : stAfter rdSnapR st = s4 := by refine (stAfter_then (rdNum) _ 0 st).trans ?_; rw [H1.out]; refine (stAfter_then (rdNum) _ 0 s1).trans ?_; rw [H2.out]; refine (stAfter_then (rdCfg) _ cf s2).trans ?_; rw [H3.out]; refine (stAfter_then (rdText 8192) _ [] s3).trans ?_; rw [H4.out]; refine (stAfter_end _ _ _ _).trans ?_; exact if_pos HOK.out
    have hG : GoodV rdSnapR st ⟨ix, tm, cf, dt⟩ := by refine GoodV_then (rdNum) _ 0 st _ ?_; rw [H1.out]; refine GoodV_then (rdNum) _ 0 s1 _ ?_; rw [H2.out]; refine GoodV_then (rdCfg) _ cf s2 _ ?_; rw [H3.out]; refine GoodV_then (rdText 8192) _ [] s3 _ ?_; rw [H4.out]; exact GoodV_end _ _ _ _
    unfold RefPost
    rw [hS]
    exact ⟨⟨_, ⟨ix, tm, cf, dt⟩, rfl, ⟨ao1, ao2, ao3, cp1, cp2, cp3, rfl, own_mono (own_setB (own_setB (own_setB (own_setB (own_setB (own_setB F1.out (show w.heap.size < w.heap.size + 2 by omega) _) (show w.heap.size < w.heap.size + 2 by omega) _) (show w.heap.size < w.heap.size + 2 by omega) _) (show w.heap.size < w.heap.size + 2 by omega) _) (show w.heap.size < w.heap.size + 2 by omega) _) (show w.heap.size < w.heap.size + 2 by omega) _) (show w.heap.size ≤ w.heap.size + 2 by omega), own_mono (own_setB (own_setB (own_setB (own_setB (own_setB (own_setB F2.out (show w.heap.size < w.heap.size + 2 by omega) _) (show w.heap.size < w.heap.size + 2 by omega) _) (show w.heap.size < w.heap.size + 2 by omega) _) (show w.heap.size < w.heap.size + 2 by omega) _) (show w.heap.size < w.heap.size + 2 by omega) _) (show w.heap.size < w.heap.size + 2 by omega) _) (show w.heap.size ≤ w.heap.size + 2 by omega), own_mono (own_setB (own_setB (own_setB (own_setB (own_setB (own_setB F3.out (show w.heap.size < w.heap.size + 2 by omega) _) (show w.heap.size < w.heap.size + 2 by omega) _) (show w.heap.size < w.heap.size + 2 by omega) _) (show w.heap.size < w.heap.size + 2 by omega) _) (show w.heap.size < w.heap.size + 2 by omega) _) (show w.heap.size < w.heap.size + 2 by omega) _) (show w.heap.size ≤ w.heap.size + 2 by omega)⟩, hG⟩, ((((((Ti.other hbN _).other hbN _).other hbN _).other hbN _).other hbN _).other hbN _), ((((((Ki.out.setNew (Nat.le_refl _) _).setNew (Nat.le_refl _) _).setNew (Nat.le_refl _) _).setNew (Nat.le_refl _) _).setNew (Nat.le_refl _) _).setNew (Nat.le_refl _) _)⟩
  | false =>
    rw [hok] at HI
    have HOK : Hid (Sn.ok ⟨ix, tm, cf, dt⟩ = false) := hok
    clear hok
    have e0 := blk_at M4.out 0 rfl
    have e1 := blk_at M4.out 1 rfl
    have e2 := blk_at M4.out 2 rfl
    have e3 := blk_at M4.out 3 rfl
    have e4 := blk_at M4.out 4 rfl
    have e5 := blk_at M4.out 5 rfl
    go_wp2_with fail
    refine (HI _ _ _ _ _ _ _ (cf_rows O1_4.out O2_4.out O3_4.out)).mono ?_
    rintro e wi ⟨rfl, ki⟩
    have Mi := ki.block _ _ M4.out (fun x => x.elim)
    have Ni := ki.block _ _ N4.out (fun x => x.elim)
    have Ti := T4.keptN ki
    have Ki : Hid (Kept (One b) w wi) := K4.out.trans (ki.mono (fun _ _ x => x.elim))
    have F1 : Hid (OwnNats (w.heap.size + 2) wi ao1 cp1 cf.v) := own_kept O1_4.out ki (fun _ _ _ x => x.elim)
    have F2 : Hid (OwnNats (w.heap.size + 2) wi ao2 cp2 cf.n) := own_kept O2_4.out ki (fun _ _ _ x => x.elim)
    have F3 : Hid (OwnNats (w.heap.size + 2) wi ao3 cp3 cf.l) := own_kept O3_4.out ki (fun _ _ _ x => x.elim)
    go_wp2_with fail
    refine (badSt_any b s4 6 _ Ti (by decide)).mono ?_
    rintro e wb ⟨rfl, tb, kb⟩
    have Mb := kb.block _ _ Mi hMb
    have Nb := kb.block _ _ Ni hNb
    have Kb : Hid (Kept (One b) w wb) := Ki.out.trans kb
    have F1 : Hid (OwnNats (w.heap.size + 2) wb ao1 cp1 cf.v) := own_kept F1.out kb hXb
    have F2 : Hid (OwnNats (w.heap.size + 2) wb ao2 cp2 cf.n) := own_kept F2.out kb hXb
    have F3 : Hid (OwnNats (w.heap.size + 2) wb ao3 cp3 cf.l) := own_kept F3.out kb hXb
    have p0 := blk_at Mb 0 rfl
    have p1 := blk_at Mb 1 rfl
    have p2 := blk_at Mb 2 rfl
    have p3 := blk_at Mb 3 rfl
    have p4 := blk_at Mb 4 rfl
    have p5 := blk_at Mb 5 rfl
    have g0 := blk_at Nb 0 rfl
    have g1 := blk_at Nb 1 rfl
    have g2 := blk_at Nb 2 rfl
    have g3 := blk_at Nb 3 rfl
    have g4 := blk_at Nb 4 rfl
    have g5 := blk_at Nb 5 rfl
    have u0 := blk_free Nb 0
    have u1 := blk_free Nb 1
    have u2 := blk_free Nb 2
    have u3 := blk_free Nb 3
    have u4 := blk_free Nb 4
    have u5 := blk_free Nb 5
    go_wp2
    refine bodyPost_ret (v := .agg #[.int .i64 ix, .int .i64 tm, .slice ao1 cf.v.length cp1, .slice ao2 cf.n.length cp2, .slice ao3 cf.l.length cp3, .string (bs dt)]) (by simp [results, Try.results106, go_sem, g0, g1, g2, g3, g4, g5]) rfl ?_
    have hS : stAfter rdSnapR st = stBad 6 s4 := by refine (stAfter_then (rdNum) _ 0 st).trans ?_; rw [H1.out]; refine (stAfter_then (rdNum) _ 0 s1).trans ?_; rw [H2.out]; refine (stAfter_then (rdCfg) _ cf s2).trans ?_; rw [H3.out]; refine (stAfter_then (rdText 8192) _ [] s3).trans ?_; rw [H4.out]; refine (stAfter_end _ _ _ _).trans ?_; exact if_neg (by rw [HOK.out]; decide)
    have hG : GoodV rdSnapR st ⟨ix, tm, cf, dt⟩ := by refine GoodV_then (rdNum) _ 0 st _ ?_; rw [H1.out]; refine GoodV_then (rdNum) _ 0 s1 _ ?_; rw [H2.out]; refine GoodV_then (rdCfg) _ cf s2 _ ?_; rw [H3.out]; refine GoodV_then (rdText 8192) _ [] s3 _ ?_; rw [H4.out]; exact GoodV_end _ _ _ _
    unfold RefPost
    rw [hS]
    exact ⟨⟨_, ⟨ix, tm, cf, dt⟩, rfl, ⟨ao1, ao2, ao3, cp1, cp2, cp3, rfl, own_mono (own_setB (own_setB (own_setB (own_setB (own_setB (own_setB F1.out (show w.heap.size < w.heap.size + 2 by omega) _) (show w.heap.size < w.heap.size + 2 by omega) _) (show w.heap.size < w.heap.size + 2 by omega) _) (show w.heap.size < w.heap.size + 2 by omega) _) (show w.heap.size < w.heap.size + 2 by omega) _) (show w.heap.size < w.heap.size + 2 by omega) _) (show w.heap.size ≤ w.heap.size + 2 by omega), own_mono (own_setB (own_setB (own_setB (own_setB (own_setB (own_setB F2.out (show w.heap.size < w.heap.size + 2 by omega) _) (show w.heap.size < w.heap.size + 2 by omega) _) (show w.heap.size < w.heap.size + 2 by omega) _) (show w.heap.size < w.heap.size + 2 by omega) _) (show w.heap.size < w.heap.size + 2 by omega) _) (show w.heap.size < w.heap.size + 2 by omega) _) (show w.heap.size ≤ w.heap.size + 2 by omega), own_mono (own_setB (own_setB (own_setB (own_setB (own_setB (own_setB F3.out (show w.heap.size < w.heap.size + 2 by omega) _) (show w.heap.size < w.heap.size + 2 by omega) _) (show w.heap.size < w.heap.size + 2 by omega) _) (show w.heap.size < w.heap.size + 2 by omega) _) (show w.heap.size < w.heap.size + 2 by omega) _) (show w.heap.size < w.heap.size + 2 by omega) _) (show w.heap.size ≤ w.heap.size + 2 by omega)⟩, hG⟩, ((((((tb.other hbN _).other hbN _).other hbN _).other hbN _).other hbN _).other hbN _), ((((((Kb.out.setNew (Nat.le_refl _) _).setNew (Nat.le_refl _) _).setNew (Nat.le_refl _) _).setNew (Nat.le_refl _) _).setNew (Nat.le_refl _) _).setNew (Nat.le_refl _) _)⟩

end Go.Proofs.Ytijklginabipgaa
