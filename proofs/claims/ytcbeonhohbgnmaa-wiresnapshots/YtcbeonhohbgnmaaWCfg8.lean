/-
  A configuration read by the document's reader.
-/
import Derived.Test.YtcbeonhohbgnmaaWCfg7
namespace Go.Proofs.Ytcbeonhohbgnmaa
open Go.RowKit


set_option maxRecDepth 100000 in
set_option maxHeartbeats 4000000 in
theorem refRConfig_any (b : Nat) (st : Except Int (List UInt8)) (w : World) (h : RSt b w st) :
    Calls Try.prog 124 #[.pointer (some ⟨b, 0, none⟩)] w (RefPost b w rdCfg st (CfV w.heap.size)) := by
  have HBL : Hid (b < w.heap.size) := h.lt
  have HBw : Hid (b ≠ w.heap.size ∧ b ≠ w.heap.size + 1) := by have := HBL.out; constructor <;> omega
  have M0 : Hid (((w.alloc (.cells #[.slice none 0 0, .slice none 0 0, .slice none 0 0] 50)).alloc (.cells #[.slice none 0 0, .slice none 0 0, .slice none 0 0] 50)).heap[w.heap.size + 1]? = some (.cells #[.slice none 0 0, .slice none 0 0, .slice none 0 0] 50 (0, 0))) := by
    have := blk_new (w.alloc (.cells #[.slice none 0 0, .slice none 0 0, .slice none 0 0] 50)) (.cells #[.slice none 0 0, .slice none 0 0, .slice none 0 0] 50)
    rwa [show (w.alloc (.cells #[.slice none 0 0, .slice none 0 0, .slice none 0 0] 50)).heap.size = w.heap.size + 1 by simp] at this
  have N0 : Hid (_) := blk_past (blk_new w (.cells #[.slice none 0 0, .slice none 0 0, .slice none 0 0] 50)) (.cells #[.slice none 0 0, .slice none 0 0, .slice none 0 0] 50)
  have T0 := (h.past (.cells #[.slice none 0 0, .slice none 0 0, .slice none 0 0] 50)).past (.cells #[.slice none 0 0, .slice none 0 0, .slice none 0 0] 50)
  have K0 : Hid (Kept (One b) w ((w.alloc (.cells #[.slice none 0 0, .slice none 0 0, .slice none 0 0] 50)).alloc (.cells #[.slice none 0 0, .slice none 0 0, .slice none 0 0] 50))) := ((Kept.refl _ _).alloc _).alloc _
  have hMb : ¬ w.heap.size + 1 = b := fun e => HBw.out.2 e.symm
  have hNb : ¬ w.heap.size = b := fun e => HBw.out.1 e.symm
  have hbM : b ≠ w.heap.size + 1 := HBw.out.2
  have hbN : b ≠ w.heap.size := HBw.out.1
  have hNM : w.heap.size ≠ w.heap.size + 1 := by omega
  clear h
  have hXb : ∀ k cs, w.heap.size + 2 ≤ k → ¬ One b k (.cells cs 3 (0, 0)) := fun k cs hb hx => by have := HBL.out; have : k = b := hx; omega
  go_enter Try.func124, Try.ntmps124
  go_wp2_with fail
  refine (refRNumbers_any b 9 st _ T0 (by decide)).mono ?_
  rintro e w1 ⟨⟨v1, vs, rfl, hv1, hg1⟩, t1, k1⟩
  obtain ⟨s1, hs1⟩ : ∃ s, stAfter (rdNums 9) st = s := ⟨_, rfl⟩
  have H1 : Hid (stRun (rdNums 9) vs st = (vs, s1)) := by show _ = _; rw [hg1.run, hs1]
  rw [hs1] at t1
  clear hs1 hg1
  obtain ⟨ao1, cp1, rfl, ho1⟩ := hv1
  have m1 := k1.block _ _ M0.out hMb
  have o1 := k1.block _ _ N0.out hNb
  have a1_0 := blk_at m1 0 rfl
  have f1_0 := blk_free m1 0
  have M1 : Hid ((w1.setCell ⟨w.heap.size + 1, 0, none⟩ (.slice ao1 vs.length cp1)).heap[w.heap.size + 1]? = some (.cells #[.slice ao1 vs.length cp1, .slice none 0 0, .slice none 0 0] 50 (0, 0))) := blk_set m1 0 _
  have N1 : Hid (_) := blk_other o1 hNM (a := ⟨w.heap.size + 1, 0, none⟩) (.slice ao1 vs.length cp1)
  have T1 := t1.other hbM (a := ⟨w.heap.size + 1, 0, none⟩) (.slice ao1 vs.length cp1)
  have K1 : Hid (Kept (One b) w (w1.setCell ⟨w.heap.size + 1, 0, none⟩ (.slice ao1 vs.length cp1))) := (K0.out.trans k1).setNew (show w.heap.size ≤ w.heap.size + 1 by omega) _
  have O1_1 : Hid (OwnNats (w.heap.size + 2) (w1.setCell ⟨w.heap.size + 1, 0, none⟩ (.slice ao1 vs.length cp1)) ao1 cp1 vs) := ownsRow_setCell_below (own_mono ho1 (by simp)) (show w.heap.size + 1 < w.heap.size + 2 by omega) _
  clear ho1
  clear m1 o1
  go_wp2_with fail
  refine (refRNumbers_any b 9 s1 _ T1 (by decide)).mono ?_
  rintro e w2 ⟨⟨v2, nx, rfl, hv2, hg2⟩, t2, k2⟩
  obtain ⟨s2, hs2⟩ : ∃ s, stAfter (rdNums 9) s1 = s := ⟨_, rfl⟩
  have H2 : Hid (stRun (rdNums 9) nx s1 = (nx, s2)) := by show _ = _; rw [hg2.run, hs2]
  rw [hs2] at t2
  clear hs2 hg2
  obtain ⟨ao2, cp2, rfl, ho2⟩ := hv2
  have m2 := k2.block _ _ M1.out hMb
  have o2 := k2.block _ _ N1.out hNb
  have a2_0 := blk_at m2 1 rfl
  have f2_0 := blk_free m2 1
  have M2 : Hid ((w2.setCell ⟨w.heap.size + 1, 1, none⟩ (.slice ao2 nx.length cp2)).heap[w.heap.size + 1]? = some (.cells #[.slice ao1 vs.length cp1, .slice ao2 nx.length cp2, .slice none 0 0] 50 (0, 0))) := blk_set m2 1 _
  have N2 : Hid (_) := blk_other o2 hNM (a := ⟨w.heap.size + 1, 1, none⟩) (.slice ao2 nx.length cp2)
  have T2 := t2.other hbM (a := ⟨w.heap.size + 1, 1, none⟩) (.slice ao2 nx.length cp2)
  have K2 : Hid (Kept (One b) w (w2.setCell ⟨w.heap.size + 1, 1, none⟩ (.slice ao2 nx.length cp2))) := (K1.out.trans k2).setNew (show w.heap.size ≤ w.heap.size + 1 by omega) _
  have O1_2 : Hid (OwnNats (w.heap.size + 2) (w2.setCell ⟨w.heap.size + 1, 1, none⟩ (.slice ao2 nx.length cp2)) ao1 cp1 vs) := ownsRow_setCell_below (own_kept O1_1.out k2 hXb) (show w.heap.size + 1 < w.heap.size + 2 by omega) _
  have O2_2 : Hid (OwnNats (w.heap.size + 2) (w2.setCell ⟨w.heap.size + 1, 1, none⟩ (.slice ao2 nx.length cp2)) ao2 cp2 nx) := ownsRow_setCell_below (own_mono ho2 (by have := lt_of_block M1.out; omega)) (show w.heap.size + 1 < w.heap.size + 2 by omega) _
  clear ho2
  clear m2 o2
  go_wp2_with fail
  refine (refRNumbers_any b 9 s2 _ T2 (by decide)).mono ?_
  rintro e w3 ⟨⟨v3, ls, rfl, hv3, hg3⟩, t3, k3⟩
  obtain ⟨s3, hs3⟩ : ∃ s, stAfter (rdNums 9) s2 = s := ⟨_, rfl⟩
  have H3 : Hid (stRun (rdNums 9) ls s2 = (ls, s3)) := by show _ = _; rw [hg3.run, hs3]
  rw [hs3] at t3
  clear hs3 hg3
  obtain ⟨ao3, cp3, rfl, ho3⟩ := hv3
  have m3 := k3.block _ _ M2.out hMb
  have o3 := k3.block _ _ N2.out hNb
  have a3_0 := blk_at m3 2 rfl
  have f3_0 := blk_free m3 2
  have M3 : Hid ((w3.setCell ⟨w.heap.size + 1, 2, none⟩ (.slice ao3 ls.length cp3)).heap[w.heap.size + 1]? = some (.cells #[.slice ao1 vs.length cp1, .slice ao2 nx.length cp2, .slice ao3 ls.length cp3] 50 (0, 0))) := blk_set m3 2 _
  have N3 : Hid (_) := blk_other o3 hNM (a := ⟨w.heap.size + 1, 2, none⟩) (.slice ao3 ls.length cp3)
  have T3 := t3.other hbM (a := ⟨w.heap.size + 1, 2, none⟩) (.slice ao3 ls.length cp3)
  have K3 : Hid (Kept (One b) w (w3.setCell ⟨w.heap.size + 1, 2, none⟩ (.slice ao3 ls.length cp3))) := (K2.out.trans k3).setNew (show w.heap.size ≤ w.heap.size + 1 by omega) _
  have O1_3 : Hid (OwnNats (w.heap.size + 2) (w3.setCell ⟨w.heap.size + 1, 2, none⟩ (.slice ao3 ls.length cp3)) ao1 cp1 vs) := ownsRow_setCell_below (own_kept O1_2.out k3 hXb) (show w.heap.size + 1 < w.heap.size + 2 by omega) _
  have O2_3 : Hid (OwnNats (w.heap.size + 2) (w3.setCell ⟨w.heap.size + 1, 2, none⟩ (.slice ao3 ls.length cp3)) ao2 cp2 nx) := ownsRow_setCell_below (own_kept O2_2.out k3 hXb) (show w.heap.size + 1 < w.heap.size + 2 by omega) _
  have O3_3 : Hid (OwnNats (w.heap.size + 2) (w3.setCell ⟨w.heap.size + 1, 2, none⟩ (.slice ao3 ls.length cp3)) ao3 cp3 ls) := ownsRow_setCell_below (own_mono ho3 (by have := lt_of_block M2.out; omega)) (show w.heap.size + 1 < w.heap.size + 2 by omega) _
  clear ho3
  clear m3 o3
  have HI := fun (w : World) a1 a2 a3 c1 c2 c3 hr => refIsConfigN_any c1 c2 c3 a1 a2 a3 vs nx ls w hr (own_len O1_3.out) (own_len O2_3.out) (own_len O3_3.out)
  cases hok : Cf.ok ⟨vs, nx, ls⟩ with
  | true =>
    rw [hok] at HI
    have HOK : Hid (Cf.ok ⟨vs, nx, ls⟩ = true) := hok
    clear hok
    have e0 := blk_at M3.out 0 rfl
    have e1 := blk_at M3.out 1 rfl
    have e2 := blk_at M3.out 2 rfl
    go_wp2_with fail
    refine (HI _ _ _ _ _ _ _ (cf_rows O1_3.out O2_3.out O3_3.out)).mono ?_
    rintro e wi ⟨rfl, ki⟩
    have Mi := ki.block _ _ M3.out (fun x => x.elim)
    have Ni := ki.block _ _ N3.out (fun x => x.elim)
    have Ti := T3.keptN ki
    have Ki : Hid (Kept (One b) w wi) := K3.out.trans (ki.mono (fun _ _ x => x.elim))
    have F1 : Hid (OwnNats (w.heap.size + 2) wi ao1 cp1 vs) := own_kept O1_3.out ki (fun _ _ _ x => x.elim)
    have F2 : Hid (OwnNats (w.heap.size + 2) wi ao2 cp2 nx) := own_kept O2_3.out ki (fun _ _ _ x => x.elim)
    have F3 : Hid (OwnNats (w.heap.size + 2) wi ao3 cp3 ls) := own_kept O3_3.out ki (fun _ _ _ x => x.elim)
    have p0 := blk_at Mi 0 rfl
    have p1 := blk_at Mi 1 rfl
    have p2 := blk_at Mi 2 rfl
    have g0 := blk_at Ni 0 rfl
    have g1 := blk_at Ni 1 rfl
    have g2 := blk_at Ni 2 rfl
    have u0 := blk_free Ni 0
    have u1 := blk_free Ni 1
    have u2 := blk_free Ni 2
    go_wp2
    refine bodyPost_ret (v := .agg #[.slice ao1 vs.length cp1, .slice ao2 nx.length cp2, .slice ao3 ls.length cp3]) (by simp [results, Try.results124, go_sem, g0, g1, g2]) rfl ?_
    have hS : stAfter rdCfg st = s3 := by refine (stAfter_then (rdNums 9) _ vs st).trans ?_; rw [H1.out]; refine (stAfter_then (rdNums 9) _ nx s1).trans ?_; rw [H2.out]; refine (stAfter_then (rdNums 9) _ ls s2).trans ?_; rw [H3.out]; refine (stAfter_end _ _ _ _).trans ?_; exact if_pos HOK.out
    have hG : GoodV rdCfg st ⟨vs, nx, ls⟩ := by refine GoodV_then (rdNums 9) _ vs st _ ?_; rw [H1.out]; refine GoodV_then (rdNums 9) _ nx s1 _ ?_; rw [H2.out]; refine GoodV_then (rdNums 9) _ ls s2 _ ?_; rw [H3.out]; exact GoodV_end _ _ _ _
    unfold RefPost
    rw [hS]
    exact ⟨⟨_, ⟨vs, nx, ls⟩, rfl, ⟨ao1, ao2, ao3, cp1, cp2, cp3, rfl, own_mono (ownsRow_setCell_below (ownsRow_setCell_below (ownsRow_setCell_below F1.out (show w.heap.size < w.heap.size + 2 by omega) _) (show w.heap.size < w.heap.size + 2 by omega) _) (show w.heap.size < w.heap.size + 2 by omega) _) (show w.heap.size ≤ w.heap.size + 2 by omega), own_mono (ownsRow_setCell_below (ownsRow_setCell_below (ownsRow_setCell_below F2.out (show w.heap.size < w.heap.size + 2 by omega) _) (show w.heap.size < w.heap.size + 2 by omega) _) (show w.heap.size < w.heap.size + 2 by omega) _) (show w.heap.size ≤ w.heap.size + 2 by omega), own_mono (ownsRow_setCell_below (ownsRow_setCell_below (ownsRow_setCell_below F3.out (show w.heap.size < w.heap.size + 2 by omega) _) (show w.heap.size < w.heap.size + 2 by omega) _) (show w.heap.size < w.heap.size + 2 by omega) _) (show w.heap.size ≤ w.heap.size + 2 by omega)⟩, hG⟩, (((Ti.other hbN _).other hbN _).other hbN _), (((Ki.out.setNew (Nat.le_refl _) _).setNew (Nat.le_refl _) _).setNew (Nat.le_refl _) _)⟩
  | false =>
    rw [hok] at HI
    have HOK : Hid (Cf.ok ⟨vs, nx, ls⟩ = false) := hok
    clear hok
    have e0 := blk_at M3.out 0 rfl
    have e1 := blk_at M3.out 1 rfl
    have e2 := blk_at M3.out 2 rfl
    go_wp2_with fail
    refine (HI _ _ _ _ _ _ _ (cf_rows O1_3.out O2_3.out O3_3.out)).mono ?_
    rintro e wi ⟨rfl, ki⟩
    have Mi := ki.block _ _ M3.out (fun x => x.elim)
    have Ni := ki.block _ _ N3.out (fun x => x.elim)
    have Ti := T3.keptN ki
    have Ki : Hid (Kept (One b) w wi) := K3.out.trans (ki.mono (fun _ _ x => x.elim))
    have F1 : Hid (OwnNats (w.heap.size + 2) wi ao1 cp1 vs) := own_kept O1_3.out ki (fun _ _ _ x => x.elim)
    have F2 : Hid (OwnNats (w.heap.size + 2) wi ao2 cp2 nx) := own_kept O2_3.out ki (fun _ _ _ x => x.elim)
    have F3 : Hid (OwnNats (w.heap.size + 2) wi ao3 cp3 ls) := own_kept O3_3.out ki (fun _ _ _ x => x.elim)
    go_wp2_with fail
    refine (badSt_any b s3 8 _ Ti (by decide)).mono ?_
    rintro e wb ⟨rfl, tb, kb⟩
    have Mb := kb.block _ _ Mi hMb
    have Nb := kb.block _ _ Ni hNb
    have Kb : Hid (Kept (One b) w wb) := Ki.out.trans kb
    have F1 : Hid (OwnNats (w.heap.size + 2) wb ao1 cp1 vs) := own_kept F1.out kb hXb
    have F2 : Hid (OwnNats (w.heap.size + 2) wb ao2 cp2 nx) := own_kept F2.out kb hXb
    have F3 : Hid (OwnNats (w.heap.size + 2) wb ao3 cp3 ls) := own_kept F3.out kb hXb
    have p0 := blk_at Mb 0 rfl
    have p1 := blk_at Mb 1 rfl
    have p2 := blk_at Mb 2 rfl
    have g0 := blk_at Nb 0 rfl
    have g1 := blk_at Nb 1 rfl
    have g2 := blk_at Nb 2 rfl
    have u0 := blk_free Nb 0
    have u1 := blk_free Nb 1
    have u2 := blk_free Nb 2
    go_wp2
    refine bodyPost_ret (v := .agg #[.slice ao1 vs.length cp1, .slice ao2 nx.length cp2, .slice ao3 ls.length cp3]) (by simp [results, Try.results124, go_sem, g0, g1, g2]) rfl ?_
    have hS : stAfter rdCfg st = stBad 8 s3 := by refine (stAfter_then (rdNums 9) _ vs st).trans ?_; rw [H1.out]; refine (stAfter_then (rdNums 9) _ nx s1).trans ?_; rw [H2.out]; refine (stAfter_then (rdNums 9) _ ls s2).trans ?_; rw [H3.out]; refine (stAfter_end _ _ _ _).trans ?_; exact if_neg (by rw [HOK.out]; decide)
    have hG : GoodV rdCfg st ⟨vs, nx, ls⟩ := by refine GoodV_then (rdNums 9) _ vs st _ ?_; rw [H1.out]; refine GoodV_then (rdNums 9) _ nx s1 _ ?_; rw [H2.out]; refine GoodV_then (rdNums 9) _ ls s2 _ ?_; rw [H3.out]; exact GoodV_end _ _ _ _
    unfold RefPost
    rw [hS]
    exact ⟨⟨_, ⟨vs, nx, ls⟩, rfl, ⟨ao1, ao2, ao3, cp1, cp2, cp3, rfl, own_mono (ownsRow_setCell_below (ownsRow_setCell_below (ownsRow_setCell_below F1.out (show w.heap.size < w.heap.size + 2 by omega) _) (show w.heap.size < w.heap.size + 2 by omega) _) (show w.heap.size < w.heap.size + 2 by omega) _) (show w.heap.size ≤ w.heap.size + 2 by omega), own_mono (ownsRow_setCell_below (ownsRow_setCell_below (ownsRow_setCell_below F2.out (show w.heap.size < w.heap.size + 2 by omega) _) (show w.heap.size < w.heap.size + 2 by omega) _) (show w.heap.size < w.heap.size + 2 by omega) _) (show w.heap.size ≤ w.heap.size + 2 by omega), own_mono (ownsRow_setCell_below (ownsRow_setCell_below (ownsRow_setCell_below F3.out (show w.heap.size < w.heap.size + 2 by omega) _) (show w.heap.size < w.heap.size + 2 by omega) _) (show w.heap.size < w.heap.size + 2 by omega) _) (show w.heap.size ≤ w.heap.size + 2 by omega)⟩, hG⟩, (((tb.other hbN _).other hbN _).other hbN _), (((Kb.out.setNew (Nat.le_refl _) _).setNew (Nat.le_refl _) _).setNew (Nat.le_refl _) _)⟩

end Go.Proofs.Ytcbeonhohbgnmaa
