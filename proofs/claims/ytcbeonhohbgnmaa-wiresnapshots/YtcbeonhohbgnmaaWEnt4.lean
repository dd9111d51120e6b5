/-
  An entry read by the document's reader.
-/
import Derived.Test.YtcbeonhohbgnmaaWEnt3
import Derived.Test.YtcbeonhohbgnmaaWStep
namespace Go.Proofs.Ytcbeonhohbgnmaa
open Go.RowKit

theorem stText_le (most : Nat) (st : Except Int (List UInt8)) : (stRun (rdText most) [] st).1.length ≤ most := by
  cases st with
  | error c => exact Nat.zero_le _
  | ok l =>
    cases hr : rdText most l with
    | error c => rw [stRun_no hr]; exact Nat.zero_le _
    | ok x => obtain ⟨a, t⟩ := x; rw [stRun_ok hr]; exact rdText_le hr
theorem RSt.lt {b : Nat} {w : World} {st : Except Int (List UInt8)} (h : RSt b w st) : b < w.heap.size := by
  cases st with
  | ok l => exact lt_of_block h.2
  | error c => exact lt_of_block h.2

set_option maxRecDepth 100000 in
set_option maxHeartbeats 4000000 in
theorem refREntry_any (b : Nat) (st : Except Int (List UInt8)) (w : World) (h : RSt b w st) :
    Calls Try.prog 115 #[.pointer (some ⟨b, 0, none⟩)] w (RefPost b w rdEnt st EnV) := by
  have HBL : Hid (b < w.heap.size) := h.lt
  have HBw : Hid (b ≠ w.heap.size ∧ b ≠ w.heap.size + 1) := by have := HBL.out; constructor <;> omega
  have M0 : Hid (((w.alloc (.cells #[.int .i64 0, .int .i64 0, .int .i64 0, .string (bs [])] 48)).alloc (.cells #[.int .i64 0, .int .i64 0, .int .i64 0, .string (bs [])] 48)).heap[w.heap.size + 1]? = some (.cells #[.int .i64 0, .int .i64 0, .int .i64 0, .string (bs [])] 48 (0, 0))) := by
    have := blk_new (w.alloc (.cells #[.int .i64 0, .int .i64 0, .int .i64 0, .string (bs [])] 48)) (.cells #[.int .i64 0, .int .i64 0, .int .i64 0, .string (bs [])] 48)
    rwa [show (w.alloc (.cells #[.int .i64 0, .int .i64 0, .int .i64 0, .string (bs [])] 48)).heap.size = w.heap.size + 1 by simp] at this
  have N0 : Hid (_) := blk_past (blk_new w (.cells #[.int .i64 0, .int .i64 0, .int .i64 0, .string (bs [])] 48)) (.cells #[.int .i64 0, .int .i64 0, .int .i64 0, .string (bs [])] 48)
  have T0 := (h.past (.cells #[.int .i64 0, .int .i64 0, .int .i64 0, .string (bs [])] 48)).past (.cells #[.int .i64 0, .int .i64 0, .int .i64 0, .string (bs [])] 48)
  have K0 : Hid (Kept (One b) w ((w.alloc (.cells #[.int .i64 0, .int .i64 0, .int .i64 0, .string (bs [])] 48)).alloc (.cells #[.int .i64 0, .int .i64 0, .int .i64 0, .string (bs [])] 48))) := ((Kept.refl _ _).alloc _).alloc _
  have hMb : ¬ w.heap.size + 1 = b := fun e => HBw.out.2 e.symm
  have hNb : ¬ w.heap.size = b := fun e => HBw.out.1 e.symm
  have hbM : b ≠ w.heap.size + 1 := HBw.out.2
  have hbN : b ≠ w.heap.size := HBw.out.1
  have hNM : w.heap.size ≠ w.heap.size + 1 := by omega
  clear h
  obtain ⟨⟨ix, s1⟩, h1⟩ : ∃ x, stRun (rdNum) 0 st = x := ⟨_, rfl⟩
  have C1 := fun (w' : World) h => refNumber_any b st w' h
  rw [h1] at C1
  have H1 : Hid (stRun (rdNum) 0 st = (ix, s1)) := h1
  clear h1
  obtain ⟨⟨tm, s2⟩, h2⟩ : ∃ x, stRun (rdNum) 0 s1 = x := ⟨_, rfl⟩
  have C2 := fun (w' : World) h => refNumber_any b s1 w' h
  rw [h2] at C2
  have H2 : Hid (stRun (rdNum) 0 s1 = (tm, s2)) := h2
  clear h2
  obtain ⟨⟨kd, s3⟩, h3⟩ : ∃ x, stRun (rdNum) 0 s2 = x := ⟨_, rfl⟩
  have C3 := fun (w' : World) h => refNumber_any b s2 w' h
  rw [h3] at C3
  have H3 : Hid (stRun (rdNum) 0 s2 = (kd, s3)) := h3
  clear h3
  obtain ⟨⟨dt, s4⟩, h4⟩ : ∃ x, stRun (rdText 256) [] s3 = x := ⟨_, rfl⟩
  have C4 := fun (w' : World) h => refText_any b 256 s3 w' h
  rw [h4] at C4
  have H4 : Hid (stRun (rdText 256) [] s3 = (dt, s4)) := h4
  clear h4
  go_enter Try.func115, Try.ntmps115
  go_wp2_with fail
  refine (C1 _ T0).mono ?_
  rintro e w1 ⟨rfl, t1, k1⟩
  have m1 := k1.block _ _ M0.out hMb
  have o1 := k1.block _ _ N0.out hNb
  have a1_0 := blk_at m1 0 rfl
  have f1_0 := blk_free m1 0
  have M1 : Hid ((w1.setCell ⟨w.heap.size + 1, 0, none⟩ (.int .i64 ix)).heap[w.heap.size + 1]? = some (.cells #[.int .i64 ix, .int .i64 0, .int .i64 0, .string (bs [])] 48 (0, 0))) := blk_set m1 0 _
  have N1 : Hid (_) := blk_other o1 hNM (a := ⟨w.heap.size + 1, 0, none⟩) (.int .i64 ix)
  have T1 := t1.other hbM (a := ⟨w.heap.size + 1, 0, none⟩) (.int .i64 ix)
  have K1 : Hid (Kept (One b) w (w1.setCell ⟨w.heap.size + 1, 0, none⟩ (.int .i64 ix))) := (K0.out.trans k1).setNew (show w.heap.size ≤ w.heap.size + 1 by omega) _
  clear m1 o1
  go_wp2_with fail
  refine (C2 _ T1).mono ?_
  rintro e w2 ⟨rfl, t2, k2⟩
  have m2 := k2.block _ _ M1.out hMb
  have o2 := k2.block _ _ N1.out hNb
  have a2_0 := blk_at m2 1 rfl
  have f2_0 := blk_free m2 1
  have M2 : Hid ((w2.setCell ⟨w.heap.size + 1, 1, none⟩ (.int .i64 tm)).heap[w.heap.size + 1]? = some (.cells #[.int .i64 ix, .int .i64 tm, .int .i64 0, .string (bs [])] 48 (0, 0))) := blk_set m2 1 _
  have N2 : Hid (_) := blk_other o2 hNM (a := ⟨w.heap.size + 1, 1, none⟩) (.int .i64 tm)
  have T2 := t2.other hbM (a := ⟨w.heap.size + 1, 1, none⟩) (.int .i64 tm)
  have K2 : Hid (Kept (One b) w (w2.setCell ⟨w.heap.size + 1, 1, none⟩ (.int .i64 tm))) := (K1.out.trans k2).setNew (show w.heap.size ≤ w.heap.size + 1 by omega) _
  clear m2 o2
  go_wp2_with fail
  refine (C3 _ T2).mono ?_
  rintro e w3 ⟨rfl, t3, k3⟩
  have m3 := k3.block _ _ M2.out hMb
  have o3 := k3.block _ _ N2.out hNb
  have a3_0 := blk_at m3 2 rfl
  have f3_0 := blk_free m3 2
  have M3 : Hid ((w3.setCell ⟨w.heap.size + 1, 2, none⟩ (.int .i64 kd)).heap[w.heap.size + 1]? = some (.cells #[.int .i64 ix, .int .i64 tm, .int .i64 kd, .string (bs [])] 48 (0, 0))) := blk_set m3 2 _
  have N3 : Hid (_) := blk_other o3 hNM (a := ⟨w.heap.size + 1, 2, none⟩) (.int .i64 kd)
  have T3 := t3.other hbM (a := ⟨w.heap.size + 1, 2, none⟩) (.int .i64 kd)
  have K3 : Hid (Kept (One b) w (w3.setCell ⟨w.heap.size + 1, 2, none⟩ (.int .i64 kd))) := (K2.out.trans k3).setNew (show w.heap.size ≤ w.heap.size + 1 by omega) _
  clear m3 o3
  go_wp2_with fail
  refine (C4 _ T3).mono ?_
  rintro e w4 ⟨rfl, t4, k4⟩
  have m4 := k4.block _ _ M3.out hMb
  have o4 := k4.block _ _ N3.out hNb
  have a4_0 := blk_at m4 3 rfl
  have f4_0 := blk_free m4 3
  have M4 : Hid ((w4.setCell ⟨w.heap.size + 1, 3, none⟩ (.string (bs dt))).heap[w.heap.size + 1]? = some (.cells #[.int .i64 ix, .int .i64 tm, .int .i64 kd, .string (bs dt)] 48 (0, 0))) := blk_set m4 3 _
  have N4 : Hid (_) := blk_other o4 hNM (a := ⟨w.heap.size + 1, 3, none⟩) (.string (bs dt))
  have T4 := t4.other hbM (a := ⟨w.heap.size + 1, 3, none⟩) (.string (bs dt))
  have K4 : Hid (Kept (One b) w (w4.setCell ⟨w.heap.size + 1, 3, none⟩ (.string (bs dt)))) := (K3.out.trans k4).setNew (show w.heap.size ≤ w.heap.size + 1 by omega) _
  clear m4 o4
  have HI := fun w => refIsEntry_any ix tm kd dt w (by have := stText_le 256 s3; rw [H4.out] at this; unfold maxLen; simp only at this; omega)
  cases hok : En.ok ⟨ix, tm, kd, dt⟩ with
  | true =>
    rw [hok] at HI
    have HOK : Hid (En.ok ⟨ix, tm, kd, dt⟩ = true) := hok
    clear hok
    have e0 := blk_at M4.out 0 rfl
    have e1 := blk_at M4.out 1 rfl
    have e2 := blk_at M4.out 2 rfl
    have e3 := blk_at M4.out 3 rfl
    go_wp2_with fail
    refine (HI _).mono ?_
    rintro e wi ⟨rfl, ki⟩
    have Mi := ki.block _ _ M4.out (fun x => x.elim)
    have Ni := ki.block _ _ N4.out (fun x => x.elim)
    have Ti := T4.keptN ki
    have Ki : Hid (Kept (One b) w wi) := K4.out.trans (ki.mono (fun _ _ x => x.elim))
    have p0 := blk_at Mi 0 rfl
    have p1 := blk_at Mi 1 rfl
    have p2 := blk_at Mi 2 rfl
    have p3 := blk_at Mi 3 rfl
    have g0 := blk_at Ni 0 rfl
    have g1 := blk_at Ni 1 rfl
    have g2 := blk_at Ni 2 rfl
    have g3 := blk_at Ni 3 rfl
    have u0 := blk_free Ni 0
    have u1 := blk_free Ni 1
    have u2 := blk_free Ni 2
    have u3 := blk_free Ni 3
    go_wp2
    refine bodyPost_ret (v := .agg #[.int .i64 ix, .int .i64 tm, .int .i64 kd, .string (bs dt)]) (by simp [results, Try.results115, go_sem, g0, g1, g2, g3]) rfl ?_
    have hS : stAfter rdEnt st = s4 := by refine (stAfter_then (rdNum) _ 0 st).trans ?_; rw [H1.out]; refine (stAfter_then (rdNum) _ 0 s1).trans ?_; rw [H2.out]; refine (stAfter_then (rdNum) _ 0 s2).trans ?_; rw [H3.out]; refine (stAfter_then (rdText 256) _ [] s3).trans ?_; rw [H4.out]; refine (stAfter_end _ _ _ _).trans ?_; exact if_pos HOK.out
    have hG : GoodV rdEnt st ⟨ix, tm, kd, dt⟩ := by refine GoodV_then (rdNum) _ 0 st _ ?_; rw [H1.out]; refine GoodV_then (rdNum) _ 0 s1 _ ?_; rw [H2.out]; refine GoodV_then (rdNum) _ 0 s2 _ ?_; rw [H3.out]; refine GoodV_then (rdText 256) _ [] s3 _ ?_; rw [H4.out]; exact GoodV_end _ _ _ _
    unfold RefPost
    rw [hS]
    exact ⟨⟨_, ⟨ix, tm, kd, dt⟩, rfl, rfl, hG⟩, ((((Ti.other hbN _).other hbN _).other hbN _).other hbN _), ((((Ki.out.setNew (Nat.le_refl _) _).setNew (Nat.le_refl _) _).setNew (Nat.le_refl _) _).setNew (Nat.le_refl _) _)⟩
  | false =>
    rw [hok] at HI
    have HOK : Hid (En.ok ⟨ix, tm, kd, dt⟩ = false) := hok
    clear hok
    have e0 := blk_at M4.out 0 rfl
    have e1 := blk_at M4.out 1 rfl
    have e2 := blk_at M4.out 2 rfl
    have e3 := blk_at M4.out 3 rfl
    go_wp2_with fail
    refine (HI _).mono ?_
    rintro e wi ⟨rfl, ki⟩
    have Mi := ki.block _ _ M4.out (fun x => x.elim)
    have Ni := ki.block _ _ N4.out (fun x => x.elim)
    have Ti := T4.keptN ki
    have Ki : Hid (Kept (One b) w wi) := K4.out.trans (ki.mono (fun _ _ x => x.elim))
    go_wp2_with fail
    refine (badSt_any b s4 6 _ Ti (by decide)).mono ?_
    rintro e wb ⟨rfl, tb, kb⟩
    have Mb := kb.block _ _ Mi hMb
    have Nb := kb.block _ _ Ni hNb
    have Kb : Hid (Kept (One b) w wb) := Ki.out.trans kb
    have p0 := blk_at Mb 0 rfl
    have p1 := blk_at Mb 1 rfl
    have p2 := blk_at Mb 2 rfl
    have p3 := blk_at Mb 3 rfl
    have g0 := blk_at Nb 0 rfl
    have g1 := blk_at Nb 1 rfl
    have g2 := blk_at Nb 2 rfl
    have g3 := blk_at Nb 3 rfl
    have u0 := blk_free Nb 0
    have u1 := blk_free Nb 1
    have u2 := blk_free Nb 2
    have u3 := blk_free Nb 3
    go_wp2
    refine bodyPost_ret (v := .agg #[.int .i64 ix, .int .i64 tm, .int .i64 kd, .string (bs dt)]) (by simp [results, Try.results115, go_sem, g0, g1, g2, g3]) rfl ?_
    have hS : stAfter rdEnt st = stBad 6 s4 := by refine (stAfter_then (rdNum) _ 0 st).trans ?_; rw [H1.out]; refine (stAfter_then (rdNum) _ 0 s1).trans ?_; rw [H2.out]; refine (stAfter_then (rdNum) _ 0 s2).trans ?_; rw [H3.out]; refine (stAfter_then (rdText 256) _ [] s3).trans ?_; rw [H4.out]; refine (stAfter_end _ _ _ _).trans ?_; exact if_neg (by rw [HOK.out]; decide)
    have hG : GoodV rdEnt st ⟨ix, tm, kd, dt⟩ := by refine GoodV_then (rdNum) _ 0 st _ ?_; rw [H1.out]; refine GoodV_then (rdNum) _ 0 s1 _ ?_; rw [H2.out]; refine GoodV_then (rdNum) _ 0 s2 _ ?_; rw [H3.out]; refine GoodV_then (rdText 256) _ [] s3 _ ?_; rw [H4.out]; exact GoodV_end _ _ _ _
    unfold RefPost
    rw [hS]
    exact ⟨⟨_, ⟨ix, tm, kd, dt⟩, rfl, rfl, hG⟩, ((((tb.other hbN _).other hbN _).other hbN _).other hbN _), ((((Kb.out.setNew (Nat.le_refl _) _).setNew (Nat.le_refl _) _).setNew (Nat.le_refl _) _).setNew (Nat.le_refl _) _)⟩

end Go.Proofs.Ytcbeonhohbgnmaa
