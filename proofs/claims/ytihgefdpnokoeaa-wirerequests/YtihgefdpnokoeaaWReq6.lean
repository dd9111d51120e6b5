/-
  The document's GetRequest: the same plain answer.
-/
import Derived.Test.YtihgefdpnokoeaaWReq5
namespace Go.Proofs.Ytihgefdpnokoeaa
open Go.RowKit

set_option maxRecDepth 100000 in
set_option maxHeartbeats 4000000 in
theorem refGetRequest_any (l : List UInt8) (w : World) (hlen : l.length ≤ maxLen) :
    Calls Try.prog 24 #[.string (bs l)] w fun e w' => e = .returned (.tuple #[.agg #[.int .i64 (getReq l).1.cl, .int .i64 (getReq l).1.nm, .int .i64 (getReq l).1.kd, .string (bs (getReq l).1.key), .string (bs (getReq l).1.val), .int .i64 (getReq l).1.ifv, .int .i64 (getReq l).1.tm], .int .i64 (getReq l).2]) ∧ Kept Nil w w' := by
  obtain ⟨hN, hR, hM⟩ := three w (.cells #[.int .i64 0, .int .i64 0, .int .i64 0, .string (bs []), .string (bs []), .int .i64 0, .int .i64 0] 41) (.cells #[.string (bs l), .int .i64 0] 103) (.cells #[.int .i64 0, .int .i64 0, .int .i64 0, .string (bs []), .string (bs []), .int .i64 0, .int .i64 0] 41)
  have hst : RSt (w.heap.size + 1) _ (.ok l) := ⟨hlen, hR⟩
  have HQ : Hid (refReq l = getReq l) := refReq_eq l
  rw [← HQ.out]
  have hRM : ¬ w.heap.size + 2 = w.heap.size + 1 := by omega
  have hRN : ¬ w.heap.size = w.heap.size + 1 := by omega
  have hMR : w.heap.size + 1 ≠ w.heap.size + 2 := by omega
  have hNM : w.heap.size ≠ w.heap.size + 2 := by omega
  obtain ⟨⟨cl, s1⟩, h1⟩ : ∃ x, stRun rdNum 0 (.ok l) = x := ⟨_, rfl⟩
  obtain ⟨⟨nm, s2⟩, h2⟩ : ∃ x, stRun rdNum 0 s1 = x := ⟨_, rfl⟩
  obtain ⟨⟨tm, s3⟩, h3⟩ : ∃ x, stRun rdNum 0 s2 = x := ⟨_, rfl⟩
  have n1 := refNumber_any _ _ _ hst
  rw [h1] at n1
  have N2 := fun (w' : World) h => refNumber_any (w.heap.size + 1) s1 w' h
  rw [h2] at N2
  have N3 := fun (w' : World) h => refNumber_any (w.heap.size + 1) s2 w' h
  rw [h3] at N3
  have HM : Hid (_) := hM
  have HN : Hid (_) := hN
  clear hM hN hst hR hlen
  go_enter Try.func24, Try.ntmps24
  go_wp2_with fail
  refine (n1).mono ?_
  rintro e w1 ⟨rfl, t1, k1⟩
  have m1 := k1.block _ _ HM.out hRM
  have o1 := k1.block _ _ HN.out hRN
  have a1 := blk_at m1 0 rfl
  have f1 := blk_free m1 0
  have M1 : Hid ((w1.setCell ⟨w.heap.size + 2, 0, none⟩ (.int .i64 cl)).heap[w.heap.size + 2]? = some (.cells #[.int .i64 cl, .int .i64 0, .int .i64 0, .string (bs []), .string (bs []), .int .i64 0, .int .i64 0] 41 (0, 0))) := blk_set m1 0 _
  have N1a : Hid (_) := blk_other o1 hNM (a := ⟨w.heap.size + 2, 0, none⟩) (.int .i64 cl)
  have T1 := t1.other hMR (a := ⟨w.heap.size + 2, 0, none⟩) (.int .i64 cl)
  have K1 : Hid (Kept Nil w (w1.setCell ⟨w.heap.size + 2, 0, none⟩ (.int .i64 cl))) := ((Kept.ofNew ((((Kept.refl _ _).alloc _).alloc _).alloc _) k1 (fun k _ h => by have : k = w.heap.size + 1 := h; omega)).setNew (show w.heap.size ≤ w.heap.size + 2 by omega) _)
  clear m1 o1
  go_wp2_with fail
  refine (N2 _ T1).mono ?_
  rintro e w2 ⟨rfl, t2, k2⟩
  have m2 := k2.block _ _ M1.out hRM
  have o2 := k2.block _ _ N1a.out hRN
  have a2 := blk_at m2 1 rfl
  have f2 := blk_free m2 1
  have M2 : Hid ((w2.setCell ⟨w.heap.size + 2, 1, none⟩ (.int .i64 nm)).heap[w.heap.size + 2]? = some (.cells #[.int .i64 cl, .int .i64 nm, .int .i64 0, .string (bs []), .string (bs []), .int .i64 0, .int .i64 0] 41 (0, 0))) := blk_set m2 1 _
  have N2a : Hid (_) := blk_other o2 hNM (a := ⟨w.heap.size + 2, 1, none⟩) (.int .i64 nm)
  have T2 := t2.other hMR (a := ⟨w.heap.size + 2, 1, none⟩) (.int .i64 nm)
  have K2 : Hid (Kept Nil w (w2.setCell ⟨w.heap.size + 2, 1, none⟩ (.int .i64 nm))) := ((Kept.ofNew K1.out k2 (fun k _ h => by have : k = w.heap.size + 1 := h; omega)).setNew (show w.heap.size ≤ w.heap.size + 2 by omega) _)
  clear m2 o2
  go_wp2_with fail
  refine (N3 _ T2).mono ?_
  rintro e w3 ⟨rfl, t3, k3⟩
  have m3 := k3.block _ _ M2.out hRM
  have o3 := k3.block _ _ N2a.out hRN
  have a3 := blk_at m3 6 rfl
  have f3 := blk_free m3 6
  have M3 : Hid ((w3.setCell ⟨w.heap.size + 2, 6, none⟩ (.int .i64 tm)).heap[w.heap.size + 2]? = some (.cells #[.int .i64 cl, .int .i64 nm, .int .i64 0, .string (bs []), .string (bs []), .int .i64 0, .int .i64 tm] 41 (0, 0))) := blk_set m3 6 _
  have N3a : Hid (_) := blk_other o3 hNM (a := ⟨w.heap.size + 2, 6, none⟩) (.int .i64 tm)
  have T3 := t3.other hMR (a := ⟨w.heap.size + 2, 6, none⟩) (.int .i64 tm)
  have K3 : Hid (Kept Nil w (w3.setCell ⟨w.heap.size + 2, 6, none⟩ (.int .i64 tm))) := ((Kept.ofNew K2.out k3 (fun k _ h => by have : k = w.heap.size + 1 := h; omega)).setNew (show w.heap.size ≤ w.heap.size + 2 by omega) _)
  clear m3 o3
  have b0 := blk_at M3.out 0 rfl
  by_cases c0 : cl = 0
  · have HR : Hid (refReq l = refEnd ⟨cl, nm, 0, [], [], 0, tm⟩ s3) := by show refReq l = _; unfold refReq; simp only [h1, h2, h3]; exact if_pos c0
    have c1 : ((cl : Int) != 0) = false := by simpa using c0
    clear c0
    have HE := fun (w' : World) h => refEnd_any (w.heap.size + 1) s3 w' h
    by_cases hz : stEnd s3 = 0
    · have HZ : Hid (refReq l = (⟨cl, nm, 0, [], [], 0, tm⟩, 0)) := HR.out.trans (if_pos hz)
      rw [hz] at HE
      clear hz
      go_wp2_with fail
      refine (HE _ T3).mono ?_
      rintro e w9 ⟨rfl, k9⟩
      have m9 := k9.block _ _ M3.out hRM
      have o9 := k9.block _ _ N3a.out hRN
      have p0 := blk_at m9 0 rfl
      have p1 := blk_at m9 1 rfl
      have p2 := blk_at m9 2 rfl
      have p3 := blk_at m9 3 rfl
      have p4 := blk_at m9 4 rfl
      have p5 := blk_at m9 5 rfl
      have p6 := blk_at m9 6 rfl
      have g0 := blk_at o9 0 rfl
      have g1 := blk_at o9 1 rfl
      have g2 := blk_at o9 2 rfl
      have g3 := blk_at o9 3 rfl
      have g4 := blk_at o9 4 rfl
      have g5 := blk_at o9 5 rfl
      have g6 := blk_at o9 6 rfl
      have u0 := blk_free o9 0
      have u1 := blk_free o9 1
      have u2 := blk_free o9 2
      have u3 := blk_free o9 3
      have u4 := blk_free o9 4
      have u5 := blk_free o9 5
      have u6 := blk_free o9 6
      have K9 : Hid (Kept Nil w w9) := Kept.ofNew K3.out k9 (fun k _ h => by have : k = w.heap.size + 1 := h; omega)
      clear m9 o9
      go_wp2
      rw [HZ.out]
      exact bodyPost_ret (v := .tuple #[.agg #[.int .i64 cl, .int .i64 nm, .int .i64 0, .string (bs []), .string (bs []), .int .i64 0, .int .i64 tm], .int .i64 0]) (by simp [results, Try.results24, go_sem, g0, g1, g2, g3, g4, g5, g6]) rfl ⟨rfl, (((((((K9.out.setNew (Nat.le_refl _) _).setNew (Nat.le_refl _) _).setNew (Nat.le_refl _) _).setNew (Nat.le_refl _) _).setNew (Nat.le_refl _) _).setNew (Nat.le_refl _) _).setNew (Nat.le_refl _) _)⟩
    · have HZ : Hid (refReq l = (zRq, stEnd s3)) := HR.out.trans (if_neg hz)
      obtain ⟨er, her⟩ : ∃ er, er = stEnd s3 := ⟨_, rfl⟩
      rw [← her] at HZ HE hz
      have hz' : (er != 0) = true := by simpa using hz
      clear hz her
      go_wp2_with fail
      refine (HE _ T3).mono ?_
      rintro e w9 ⟨rfl, k9⟩
      have m9 := k9.block _ _ M3.out hRM
      have o9 := k9.block _ _ N3a.out hRN
      have p0 := blk_at m9 0 rfl
      have p1 := blk_at m9 1 rfl
      have p2 := blk_at m9 2 rfl
      have p3 := blk_at m9 3 rfl
      have p4 := blk_at m9 4 rfl
      have p5 := blk_at m9 5 rfl
      have p6 := blk_at m9 6 rfl
      have g0 := blk_at o9 0 rfl
      have g1 := blk_at o9 1 rfl
      have g2 := blk_at o9 2 rfl
      have g3 := blk_at o9 3 rfl
      have g4 := blk_at o9 4 rfl
      have g5 := blk_at o9 5 rfl
      have g6 := blk_at o9 6 rfl
      have u0 := blk_free o9 0
      have u1 := blk_free o9 1
      have u2 := blk_free o9 2
      have u3 := blk_free o9 3
      have u4 := blk_free o9 4
      have u5 := blk_free o9 5
      have u6 := blk_free o9 6
      have K9 : Hid (Kept Nil w w9) := Kept.ofNew K3.out k9 (fun k _ h => by have : k = w.heap.size + 1 := h; omega)
      clear m9 o9
      go_wp2
      rw [HZ.out]
      exact bodyPost_ret (v := .tuple #[.agg #[.int .i64 0, .int .i64 0, .int .i64 0, .string (bs []), .string (bs []), .int .i64 0, .int .i64 0], .int .i64 er]) (by simp [results, Try.results24, go_sem, g0, g1, g2, g3, g4, g5, g6]; rfl) rfl ⟨rfl, (((((((K9.out.setNew (Nat.le_refl _) _).setNew (Nat.le_refl _) _).setNew (Nat.le_refl _) _).setNew (Nat.le_refl _) _).setNew (Nat.le_refl _) _).setNew (Nat.le_refl _) _).setNew (Nat.le_refl _) _)⟩
  · have c1 : ((cl : Int) != 0) = true := by simpa using c0
    obtain ⟨⟨kd, s4⟩, h4⟩ : ∃ x, stRun rdNum 0 s3 = x := ⟨_, rfl⟩
    obtain ⟨⟨key, s5⟩, h5⟩ : ∃ x, stRun (rdText 16) [] s4 = x := ⟨_, rfl⟩
    obtain ⟨⟨val, s6⟩, h6⟩ : ∃ x, stRun (rdText 64) [] s5 = x := ⟨_, rfl⟩
    obtain ⟨⟨ifv, s7⟩, h7⟩ : ∃ x, stRun rdNum 0 s6 = x := ⟨_, rfl⟩
    have HR0 : Hid (refReq l = refEnd ⟨cl, nm, kd, key, val, ifv, tm⟩ (if isCmd kd key val ifv then s7 else stBad 5 s7)) := by show refReq l = _; unfold refReq; simp only [h1, h2, h3, h4, h5, h6, h7]; exact if_neg c0
    have N4 := fun (w' : World) h => refNumber_any (w.heap.size + 1) s3 w' h
    rw [h4] at N4
    have N5 := fun (w' : World) h => refText_any (w.heap.size + 1) 16 s4 w' h
    rw [h5] at N5
    have N6 := fun (w' : World) h => refText_any (w.heap.size + 1) 64 s5 w' h
    rw [h6] at N6
    have N7 := fun (w' : World) h => refNumber_any (w.heap.size + 1) s6 w' h
    rw [h7] at N7
    have tl : ∀ (most : Nat) (st : Except Int (List UInt8)), (stRun (rdText most) [] st).1.length ≤ most := by
      intro most st
      cases st with
      | error c => exact Nat.zero_le _
      | ok m =>
        cases hm : rdText most m with
        | error c => rw [stRun_no hm]; exact Nat.zero_le _
        | ok x => obtain ⟨y, z⟩ := x; rw [stRun_ok hm]; exact rdText_le hm
    have HC := fun (w' : World) => refIsCommand_any kd ifv key val w' (by have := tl 16 s4; rw [h5] at this; simp only at this; unfold maxLen; omega) (by have := tl 64 s5; rw [h6] at this; simp only at this; unfold maxLen; omega)
    clear c0 h1 h2 h3 h4 h5 h6 h7 tl
    go_wp2_with fail
    refine (N4 _ T3).mono ?_
    rintro e w4 ⟨rfl, t4, k4⟩
    have m4 := k4.block _ _ M3.out hRM
    have o4 := k4.block _ _ N3a.out hRN
    have a4 := blk_at m4 2 rfl
    have f4 := blk_free m4 2
    have M4 : Hid ((w4.setCell ⟨w.heap.size + 2, 2, none⟩ (.int .i64 kd)).heap[w.heap.size + 2]? = some (.cells #[.int .i64 cl, .int .i64 nm, .int .i64 kd, .string (bs []), .string (bs []), .int .i64 0, .int .i64 tm] 41 (0, 0))) := blk_set m4 2 _
    have N4a : Hid (_) := blk_other o4 hNM (a := ⟨w.heap.size + 2, 2, none⟩) (.int .i64 kd)
    have T4 := t4.other hMR (a := ⟨w.heap.size + 2, 2, none⟩) (.int .i64 kd)
    have K4 : Hid (Kept Nil w (w4.setCell ⟨w.heap.size + 2, 2, none⟩ (.int .i64 kd))) := ((Kept.ofNew K3.out k4 (fun k _ h => by have : k = w.heap.size + 1 := h; omega)).setNew (show w.heap.size ≤ w.heap.size + 2 by omega) _)
    clear m4 o4
    go_wp2_with fail
    refine (N5 _ T4).mono ?_
    rintro e w5 ⟨rfl, t5, k5⟩
    have m5 := k5.block _ _ M4.out hRM
    have o5 := k5.block _ _ N4a.out hRN
    have a5 := blk_at m5 3 rfl
    have f5 := blk_free m5 3
    have M5 : Hid ((w5.setCell ⟨w.heap.size + 2, 3, none⟩ (.string (bs key))).heap[w.heap.size + 2]? = some (.cells #[.int .i64 cl, .int .i64 nm, .int .i64 kd, .string (bs key), .string (bs []), .int .i64 0, .int .i64 tm] 41 (0, 0))) := blk_set m5 3 _
    have N5a : Hid (_) := blk_other o5 hNM (a := ⟨w.heap.size + 2, 3, none⟩) (.string (bs key))
    have T5 := t5.other hMR (a := ⟨w.heap.size + 2, 3, none⟩) (.string (bs key))
    have K5 : Hid (Kept Nil w (w5.setCell ⟨w.heap.size + 2, 3, none⟩ (.string (bs key)))) := ((Kept.ofNew K4.out k5 (fun k _ h => by have : k = w.heap.size + 1 := h; omega)).setNew (show w.heap.size ≤ w.heap.size + 2 by omega) _)
    clear m5 o5
    go_wp2_with fail
    refine (N6 _ T5).mono ?_
    rintro e w6 ⟨rfl, t6, k6⟩
    have m6 := k6.block _ _ M5.out hRM
    have o6 := k6.block _ _ N5a.out hRN
    have a6 := blk_at m6 4 rfl
    have f6 := blk_free m6 4
    have M6 : Hid ((w6.setCell ⟨w.heap.size + 2, 4, none⟩ (.string (bs val))).heap[w.heap.size + 2]? = some (.cells #[.int .i64 cl, .int .i64 nm, .int .i64 kd, .string (bs key), .string (bs val), .int .i64 0, .int .i64 tm] 41 (0, 0))) := blk_set m6 4 _
    have N6a : Hid (_) := blk_other o6 hNM (a := ⟨w.heap.size + 2, 4, none⟩) (.string (bs val))
    have T6 := t6.other hMR (a := ⟨w.heap.size + 2, 4, none⟩) (.string (bs val))
    have K6 : Hid (Kept Nil w (w6.setCell ⟨w.heap.size + 2, 4, none⟩ (.string (bs val)))) := ((Kept.ofNew K5.out k6 (fun k _ h => by have : k = w.heap.size + 1 := h; omega)).setNew (show w.heap.size ≤ w.heap.size + 2 by omega) _)
    clear m6 o6
    go_wp2_with fail
    refine (N7 _ T6).mono ?_
    rintro e w7 ⟨rfl, t7, k7⟩
    have m7 := k7.block _ _ M6.out hRM
    have o7 := k7.block _ _ N6a.out hRN
    have a7 := blk_at m7 5 rfl
    have f7 := blk_free m7 5
    have M7 : Hid ((w7.setCell ⟨w.heap.size + 2, 5, none⟩ (.int .i64 ifv)).heap[w.heap.size + 2]? = some (.cells #[.int .i64 cl, .int .i64 nm, .int .i64 kd, .string (bs key), .string (bs val), .int .i64 ifv, .int .i64 tm] 41 (0, 0))) := blk_set m7 5 _
    have N7a : Hid (_) := blk_other o7 hNM (a := ⟨w.heap.size + 2, 5, none⟩) (.int .i64 ifv)
    have T7 := t7.other hMR (a := ⟨w.heap.size + 2, 5, none⟩) (.int .i64 ifv)
    have K7 : Hid (Kept Nil w (w7.setCell ⟨w.heap.size + 2, 5, none⟩ (.int .i64 ifv))) := ((Kept.ofNew K6.out k7 (fun k _ h => by have : k = w.heap.size + 1 := h; omega)).setNew (show w.heap.size ≤ w.heap.size + 2 by omega) _)
    clear m7 o7
    have b2 := blk_at M7.out 2 rfl
    have b3 := blk_at M7.out 3 rfl
    have b4 := blk_at M7.out 4 rfl
    have b5 := blk_at M7.out 5 rfl
    go_wp2_with fail
    refine (HC _).mono ?_
    rintro e w8 ⟨rfl, k8⟩
    have M8 : Hid (_) := k8.block _ _ M7.out (fun x => x.elim)
    have N8a : Hid (_) := k8.block _ _ N7a.out (fun x => x.elim)
    have T8 := T7.keptN k8
    have K8 : Hid (Kept Nil w w8) := K7.out.trans k8
    clear T7 T6 T5 T4 T3 T2 T1
    cases hb : isCmd kd key val ifv with
    | true =>
      have HR : Hid (refReq l = refEnd ⟨cl, nm, kd, key, val, ifv, tm⟩ s7) := by have := HR0.out; rw [hb] at this; exact this
      clear hb
      have HE := fun (w' : World) h => refEnd_any (w.heap.size + 1) s7 w' h
      by_cases hz : stEnd s7 = 0
      · have HZ : Hid (refReq l = (⟨cl, nm, kd, key, val, ifv, tm⟩, 0)) := HR.out.trans (if_pos hz)
        rw [hz] at HE
        clear hz
        go_wp2_with fail
        refine (HE _ T8).mono ?_
        rintro e w9 ⟨rfl, k9⟩
        have m9 := k9.block _ _ M8.out hRM
        have o9 := k9.block _ _ N8a.out hRN
        have p0 := blk_at m9 0 rfl
        have p1 := blk_at m9 1 rfl
        have p2 := blk_at m9 2 rfl
        have p3 := blk_at m9 3 rfl
        have p4 := blk_at m9 4 rfl
        have p5 := blk_at m9 5 rfl
        have p6 := blk_at m9 6 rfl
        have g0 := blk_at o9 0 rfl
        have g1 := blk_at o9 1 rfl
        have g2 := blk_at o9 2 rfl
        have g3 := blk_at o9 3 rfl
        have g4 := blk_at o9 4 rfl
        have g5 := blk_at o9 5 rfl
        have g6 := blk_at o9 6 rfl
        have u0 := blk_free o9 0
        have u1 := blk_free o9 1
        have u2 := blk_free o9 2
        have u3 := blk_free o9 3
        have u4 := blk_free o9 4
        have u5 := blk_free o9 5
        have u6 := blk_free o9 6
        have K9 : Hid (Kept Nil w w9) := Kept.ofNew K8.out k9 (fun k _ h => by have : k = w.heap.size + 1 := h; omega)
        clear m9 o9
        go_wp2
        rw [HZ.out]
        exact bodyPost_ret (v := .tuple #[.agg #[.int .i64 cl, .int .i64 nm, .int .i64 kd, .string (bs key), .string (bs val), .int .i64 ifv, .int .i64 tm], .int .i64 0]) (by simp [results, Try.results24, go_sem, g0, g1, g2, g3, g4, g5, g6]) rfl ⟨rfl, (((((((K9.out.setNew (Nat.le_refl _) _).setNew (Nat.le_refl _) _).setNew (Nat.le_refl _) _).setNew (Nat.le_refl _) _).setNew (Nat.le_refl _) _).setNew (Nat.le_refl _) _).setNew (Nat.le_refl _) _)⟩
      · have HZ : Hid (refReq l = (zRq, stEnd s7)) := HR.out.trans (if_neg hz)
        obtain ⟨er, her⟩ : ∃ er, er = stEnd s7 := ⟨_, rfl⟩
        rw [← her] at HZ HE hz
        have hz' : (er != 0) = true := by simpa using hz
        clear hz her
        go_wp2_with fail
        refine (HE _ T8).mono ?_
        rintro e w9 ⟨rfl, k9⟩
        have m9 := k9.block _ _ M8.out hRM
        have o9 := k9.block _ _ N8a.out hRN
        have p0 := blk_at m9 0 rfl
        have p1 := blk_at m9 1 rfl
        have p2 := blk_at m9 2 rfl
        have p3 := blk_at m9 3 rfl
        have p4 := blk_at m9 4 rfl
        have p5 := blk_at m9 5 rfl
        have p6 := blk_at m9 6 rfl
        have g0 := blk_at o9 0 rfl
        have g1 := blk_at o9 1 rfl
        have g2 := blk_at o9 2 rfl
        have g3 := blk_at o9 3 rfl
        have g4 := blk_at o9 4 rfl
        have g5 := blk_at o9 5 rfl
        have g6 := blk_at o9 6 rfl
        have u0 := blk_free o9 0
        have u1 := blk_free o9 1
        have u2 := blk_free o9 2
        have u3 := blk_free o9 3
        have u4 := blk_free o9 4
        have u5 := blk_free o9 5
        have u6 := blk_free o9 6
        have K9 : Hid (Kept Nil w w9) := Kept.ofNew K8.out k9 (fun k _ h => by have : k = w.heap.size + 1 := h; omega)
        clear m9 o9
        go_wp2
        rw [HZ.out]
        exact bodyPost_ret (v := .tuple #[.agg #[.int .i64 0, .int .i64 0, .int .i64 0, .string (bs []), .string (bs []), .int .i64 0, .int .i64 0], .int .i64 er]) (by simp [results, Try.results24, go_sem, g0, g1, g2, g3, g4, g5, g6]; rfl) rfl ⟨rfl, (((((((K9.out.setNew (Nat.le_refl _) _).setNew (Nat.le_refl _) _).setNew (Nat.le_refl _) _).setNew (Nat.le_refl _) _).setNew (Nat.le_refl _) _).setNew (Nat.le_refl _) _).setNew (Nat.le_refl _) _)⟩
    | false =>
      have HR : Hid (refReq l = refEnd ⟨cl, nm, kd, key, val, ifv, tm⟩ (stBad 5 s7)) := by have := HR0.out; rw [hb] at this; exact this
      clear hb
      go_wp2_with fail
      refine (badSt_any _ _ 5 _ T8 (by decide)).mono ?_
      rintro e w8b ⟨rfl, t8b, k8b⟩
      have M8b : Hid (_) := k8b.block _ _ M8.out hRM
      have N8b : Hid (_) := k8b.block _ _ N8a.out hRN
      have K8b : Hid (Kept Nil w w8b) := Kept.ofNew K8.out k8b (fun k _ h => by have : k = w.heap.size + 1 := h; omega)
      have HE := fun (w' : World) h => refEnd_any (w.heap.size + 1) (stBad 5 s7) w' h
      by_cases hz : stEnd (stBad 5 s7) = 0
      · have HZ : Hid (refReq l = (⟨cl, nm, kd, key, val, ifv, tm⟩, 0)) := HR.out.trans (if_pos hz)
        rw [hz] at HE
        clear hz
        go_wp2_with fail
        refine (HE _ t8b).mono ?_
        rintro e w9 ⟨rfl, k9⟩
        have m9 := k9.block _ _ M8b.out hRM
        have o9 := k9.block _ _ N8b.out hRN
        have p0 := blk_at m9 0 rfl
        have p1 := blk_at m9 1 rfl
        have p2 := blk_at m9 2 rfl
        have p3 := blk_at m9 3 rfl
        have p4 := blk_at m9 4 rfl
        have p5 := blk_at m9 5 rfl
        have p6 := blk_at m9 6 rfl
        have g0 := blk_at o9 0 rfl
        have g1 := blk_at o9 1 rfl
        have g2 := blk_at o9 2 rfl
        have g3 := blk_at o9 3 rfl
        have g4 := blk_at o9 4 rfl
        have g5 := blk_at o9 5 rfl
        have g6 := blk_at o9 6 rfl
        have u0 := blk_free o9 0
        have u1 := blk_free o9 1
        have u2 := blk_free o9 2
        have u3 := blk_free o9 3
        have u4 := blk_free o9 4
        have u5 := blk_free o9 5
        have u6 := blk_free o9 6
        have K9 : Hid (Kept Nil w w9) := Kept.ofNew K8b.out k9 (fun k _ h => by have : k = w.heap.size + 1 := h; omega)
        clear m9 o9
        go_wp2
        rw [HZ.out]
        exact bodyPost_ret (v := .tuple #[.agg #[.int .i64 cl, .int .i64 nm, .int .i64 kd, .string (bs key), .string (bs val), .int .i64 ifv, .int .i64 tm], .int .i64 0]) (by simp [results, Try.results24, go_sem, g0, g1, g2, g3, g4, g5, g6]) rfl ⟨rfl, (((((((K9.out.setNew (Nat.le_refl _) _).setNew (Nat.le_refl _) _).setNew (Nat.le_refl _) _).setNew (Nat.le_refl _) _).setNew (Nat.le_refl _) _).setNew (Nat.le_refl _) _).setNew (Nat.le_refl _) _)⟩
      · have HZ : Hid (refReq l = (zRq, stEnd (stBad 5 s7))) := HR.out.trans (if_neg hz)
        obtain ⟨er, her⟩ : ∃ er, er = stEnd (stBad 5 s7) := ⟨_, rfl⟩
        rw [← her] at HZ HE hz
        have hz' : (er != 0) = true := by simpa using hz
        clear hz her
        go_wp2_with fail
        refine (HE _ t8b).mono ?_
        rintro e w9 ⟨rfl, k9⟩
        have m9 := k9.block _ _ M8b.out hRM
        have o9 := k9.block _ _ N8b.out hRN
        have p0 := blk_at m9 0 rfl
        have p1 := blk_at m9 1 rfl
        have p2 := blk_at m9 2 rfl
        have p3 := blk_at m9 3 rfl
        have p4 := blk_at m9 4 rfl
        have p5 := blk_at m9 5 rfl
        have p6 := blk_at m9 6 rfl
        have g0 := blk_at o9 0 rfl
        have g1 := blk_at o9 1 rfl
        have g2 := blk_at o9 2 rfl
        have g3 := blk_at o9 3 rfl
        have g4 := blk_at o9 4 rfl
        have g5 := blk_at o9 5 rfl
        have g6 := blk_at o9 6 rfl
        have u0 := blk_free o9 0
        have u1 := blk_free o9 1
        have u2 := blk_free o9 2
        have u3 := blk_free o9 3
        have u4 := blk_free o9 4
        have u5 := blk_free o9 5
        have u6 := blk_free o9 6
        have K9 : Hid (Kept Nil w w9) := Kept.ofNew K8b.out k9 (fun k _ h => by have : k = w.heap.size + 1 := h; omega)
        clear m9 o9
        go_wp2
        rw [HZ.out]
        exact bodyPost_ret (v := .tuple #[.agg #[.int .i64 0, .int .i64 0, .int .i64 0, .string (bs []), .string (bs []), .int .i64 0, .int .i64 0], .int .i64 er]) (by simp [results, Try.results24, go_sem, g0, g1, g2, g3, g4, g5, g6]; rfl) rfl ⟨rfl, (((((((K9.out.setNew (Nat.le_refl _) _).setNew (Nat.le_refl _) _).setNew (Nat.le_refl _) _).setNew (Nat.le_refl _) _).setNew (Nat.le_refl _) _).setNew (Nat.le_refl _) _).setNew (Nat.le_refl _) _)⟩

end Go.Proofs.Ytihgefdpnokoeaa
