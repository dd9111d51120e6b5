/-
  Sessions: session.Run.
-/
import Derived.Test.YtblmmbghnkplkaaWSeE
import Derived.Test.YtblmmbghnkplkaaWOlf
namespace Go.Proofs.Ytblmmbghnkplkaa
open Go.RowKit

theorem SeRow.sess {B : Nat} {w : World} {ao : Option Addr} {es : List Se} (h : SeRow B w ao es) : SessRow B w ao (es.map Se.s) := fun j hj => by
  rw [List.length_map] at hj
  obtain ⟨a, ha, hb, _, hs, hn, l1, l2⟩ := h j hj
  obtain ⟨a', ha', c0, c1, c2, c3, c4, c5, c6⟩ := h.at7 hj
  rw [ha] at ha'
  cases ha'
  simp only [List.getElem_map]
  exact ⟨a, es[j].ao, es[j].c, ha, hb, c0, c1, c2, c3, c4, c5, c6, hs, by omega, l2⟩
theorem kRise_len : ∀ (ks : List (List UInt8)) (p : Option (List UInt8)), kRise p ks = true → ∀ k ∈ ks, k.length ≤ 16
  | [], _, _ => fun k hk => by simp at hk
  | x :: t, p, h => fun k hk => by
    unfold kRise at h
    simp only [Bool.and_eq_true, decide_eq_true_eq] at h
    rcases List.mem_cons.1 hk with rfl | hk
    · exact h.1.1
    · exact kRise_len t _ h.2 k hk
theorem sRise_ok {tm : Int} : ∀ (ss : List Ss) (p : Option Int), sRise tm p ss = true → (∀ s ∈ ss, ssOk tm s = true) ∧ (ss.Pairwise fun a b => a.cl < b.cl) ∧ ∀ q, p = some q → ∀ s ∈ ss, q < s.cl
  | [], _, _ => ⟨fun s hs => by simp at hs, List.Pairwise.nil, fun q _ s hs => by simp at hs⟩
  | x :: t, p, h => by
    unfold sRise at h
    simp only [Bool.and_eq_true] at h
    obtain ⟨h1, h2, h3⟩ := sRise_ok t (some x.cl) h.2
    have hq : ∀ q, p = some q → q < x.cl := fun q hp => by
      have h4 := h.1.2
      rw [hp] at h4
      simpa using h4
    refine ⟨fun s hs => ?_, List.pairwise_cons.2 ⟨fun s hs => h3 _ rfl s hs, h2⟩, fun q hp s hs => ?_⟩
    · rcases List.mem_cons.1 hs with rfl | hs
      · exact h.1.1
      · exact h1 s hs
    · rcases List.mem_cons.1 hs with rfl | hs
      · exact hq q hp
      · exact Int.lt_trans (hq q hp) (h3 _ rfl s hs)
theorem tab_facts {tm : Int} {ps : List Pr} {ss : List Ss} (h : tabOk tm ps ss = true) : (0 ≤ tm ∧ tm ≤ 1099511627775) ∧ pairsOk ps = true ∧ ss.length ≤ 8 ∧ (ss.Pairwise fun a b => a.cl < b.cl) ∧ ∀ s ∈ ss, (0 ≤ s.ls ∧ s.ls ≤ 1099511627775) ∧ (0 ≤ s.sn ∧ s.sn ≤ 1099511627775) ∧ s.ks.length ≤ 32 ∧ ∀ k ∈ s.ks, k.length ≤ maxLen := by
  unfold tabOk at h
  simp only [Bool.and_eq_true, decide_eq_true_eq] at h
  obtain ⟨⟨⟨h1, h2⟩, h3⟩, h4⟩ := h
  obtain ⟨g1, g2, _⟩ := sRise_ok ss none h4
  refine ⟨by simpa [isNum] using h1, h2, h3, g2, fun s hs => ?_⟩
  have h5 := g1 s hs
  unfold ssOk ssRs rsOk keysOk at h5
  simp only [Bool.and_eq_true, decide_eq_true_eq] at h5
  obtain ⟨⟨⟨_, h6, h7⟩, _⟩, _, h8, h9⟩ := h5
  exact ⟨by simpa [isNum] using h6, by simpa [isNum] using h7, h8, fun k hk => by have := kRise_len _ _ h9 k hk; unfold maxLen; omega⟩
theorem late_map {t : Int} {xs : List Se} (h : ∀ s ∈ xs.map Se.s, 0 ≤ s.sn ∧ s.sn ≤ 1099511627775) : (xs.filter fun f => !lateP t f).map Se.s = (xs.map Se.s).filter fun s => !decide (s.sn + 400 < t) := by
  rw [List.filter_map]
  congr 1
  refine List.filter_congr (fun e he => ?_)
  have h1 := h e.s (List.mem_map.2 ⟨e, he, rfl⟩)
  unfold lateP
  have h2 : wrap64 (e.s.sn + 400) = e.s.sn + 400 := by unfold wrap64; omega
  rw [h2]
  rfl
/-- What comes of a request: the pairs, the sessions, the time, the answer. -/
def sesT (ps : List Pr) (ss : List Ss) (tm cl nu kd : Int) (key val : List UInt8) (m tq ix : Int) : List Pr × List Ss × Int × Rr :=
  if (Rq.ok ⟨cl, nu, kd, key, val, m, tq⟩ && tabOk tm ps ss) = true then
    let R := runT ps (ss.filter fun s => !decide (s.sn + 400 < max tm tq)) (max tm tq) cl nu kd key val m ix
    (R.1, R.2.1, max tm tq, R.2.2)
  else (ps, ss, tm, rr0 5)
def SesPost (w : World) (R : List Pr × List Ss × Int × Rr) (e : Ending) (w' : World) : Prop :=
  ∃ a1 c1 a2 c2 xs ko kc, e = .returned (.tuple #[.agg #[.slice a1 R.1.length c1, .slice a2 xs.length c2, .int .i64 R.2.2.1], rrV R.2.2.2 ko kc]) ∧ xs.map Se.s = R.2.1 ∧ OwnP w.heap.size w' a1 c1 R.1 ∧ OwnE w.heap.size w' a2 c2 xs ∧ OwnKs w.heap.size w' xs ∧ OwnK w.heap.size w' ko kc R.2.2.2.ks ∧ Apart xs ko R.2.2.2.ks.length kc ∧ Kept Nil w w'

set_option maxRecDepth 100000 in
set_option maxHeartbeats 4000000 in
theorem ses_any (B cp cs : Nat) (tm cl nu kd m tq ix : Int) (key val : List UInt8) (ap sa : Option Addr) (ps : List Pr) (es : List Se) (w : World) (hp : PairRow B w ap ps) (hs : SeRow B w sa es) (hpn : ap = none → ps = [] ∧ cp = 0) (hsn : sa = none → es = [] ∧ cs = 0) (hlp : (ps.length : Int) ≤ 3518437208780) (hls : es.length ≤ 1759218604441) (hB : B ≤ w.heap.size) (hkey : key.length ≤ maxLen) (hval : val.length ≤ maxLen) :
    Calls Try.prog 46 #[.agg #[.slice ap ps.length cp, .slice sa es.length cs, .int .i64 tm], .agg #[.int .i64 cl, .int .i64 nu, .int .i64 kd, .string (bs key), .string (bs val), .int .i64 m, .int .i64 tq], .int .i64 ix] w (SesPost w (sesT ps (es.map Se.s) tm cl nu kd key val m tq ix)) := by
  obtain ⟨R, HRR⟩ : ∃ R, Hid (R = sesT ps (es.map Se.s) tm cl nu kd key val m tq ix) := ⟨_, rfl⟩
  rw [← HRR.out]
  obtain ⟨W, hW⟩ : ∃ W, W = (((w.alloc (.cells #[.slice ap ps.length cp, .slice sa es.length cs, .int .i64 tm] 70)).alloc (.cells #[.int .i64 cl, .int .i64 nu, .int .i64 kd, .string (bs key), .string (bs val), .int .i64 m, .int .i64 tq] 75)).alloc (.cells #[.slice none 0 0, .slice none 0 0, .int .i64 0] 70)).alloc (.cells #[.int .i64 0, .string ⟨#[]⟩, .int .i64 0, .slice none 0 0] 55) := ⟨_, rfl⟩
  obtain ⟨A3, H3⟩ : ∃ A3, Hid (A3 = w.heap.size) := ⟨_, rfl⟩
  obtain ⟨A4, H4⟩ : ∃ A4, Hid (A4 = w.heap.size + 1) := ⟨_, rfl⟩
  obtain ⟨A6, H6⟩ : ∃ A6, Hid (A6 = w.heap.size + 1 + 1) := ⟨_, rfl⟩
  obtain ⟨A7, H7⟩ : ∃ A7, Hid (A7 = w.heap.size + 1 + 1 + 1) := ⟨_, rfl⟩
  have KW : Hid (Kept Nil w W) := by rw [hW]; exact ((((Kept.refl _ _).alloc _).alloc _).alloc _).alloc _
  have hz1 : (w.alloc (.cells #[.slice ap ps.length cp, .slice sa es.length cs, .int .i64 tm] 70)).heap.size = w.heap.size + 1 := by simp
  have hz2 : ((w.alloc (.cells #[.slice ap ps.length cp, .slice sa es.length cs, .int .i64 tm] 70)).alloc (.cells #[.int .i64 cl, .int .i64 nu, .int .i64 kd, .string (bs key), .string (bs val), .int .i64 m, .int .i64 tq] 75)).heap.size = w.heap.size + 1 + 1 := by simp
  have hz3 : (((w.alloc (.cells #[.slice ap ps.length cp, .slice sa es.length cs, .int .i64 tm] 70)).alloc (.cells #[.int .i64 cl, .int .i64 nu, .int .i64 kd, .string (bs key), .string (bs val), .int .i64 m, .int .i64 tq] 75)).alloc (.cells #[.slice none 0 0, .slice none 0 0, .int .i64 0] 70)).heap.size = w.heap.size + 1 + 1 + 1 := by simp
  have HT : Hid (W.heap[A3]? = some (.cells #[.slice ap ps.length cp, .slice sa es.length cs, .int .i64 tm] 70 (0, 0))) := by rw [hW, H3.out]; exact blk_past (blk_past (blk_past (blk_new _ _) _) _) _
  have HQ : Hid (W.heap[A4]? = some (.cells #[.int .i64 cl, .int .i64 nu, .int .i64 kd, .string (bs key), .string (bs val), .int .i64 m, .int .i64 tq] 75 (0, 0))) := by rw [hW, H4.out, ← hz1]; exact blk_past (blk_past (blk_new _ _) _) _
  have HZ6 : Hid (W.heap[A6]? = some (.cells #[.slice none 0 0, .slice none 0 0, .int .i64 0] 70 (0, 0))) := by rw [hW, H6.out, ← hz2]; exact blk_past (blk_new _ _) _
  have HZ7 : Hid (W.heap[A7]? = some (.cells #[.int .i64 0, .string ⟨#[]⟩, .int .i64 0, .slice none 0 0] 55 (0, 0))) := by rw [hW, H7.out, ← hz3]; exact blk_new _ _
  clear hz1 hz2 hz3
  have OT := ownTable_any B cp cs tm ap sa ps es W (hp.nil KW.out) (hs.nil KW.out) hpn hsn hlp hls (Nat.le_trans hB KW.out.size)
  have HPR : Hid (PairRow B w ap ps) := hp
  have HSW : Hid (SeRow B w sa es) := hs
  have HLN : Hid ((ps.length : Int) ≤ 3518437208780 ∧ es.length ≤ 1759218604441) := ⟨hlp, hls⟩
  have HKV : Hid (key.length ≤ maxLen ∧ val.length ≤ maxLen) := ⟨hkey, hval⟩
  have t0 : W.cell? ⟨A3, 0, none⟩ = some (.slice ap ps.length cp) := blk_at HT.out 0 rfl
  have t1 : W.cell? ⟨A3, 1, none⟩ = some (.slice sa es.length cs) := blk_at HT.out 1 rfl
  have t2 : W.cell? ⟨A3, 2, none⟩ = some (.int .i64 tm) := blk_at HT.out 2 rfl
  clear hp hs hpn hsn hlp hls hkey hval
  go_enter Try.func46, Try.ntmps46
  go_upto_region 1 with fail
  rw [← hW, ← H7.out, ← H6.out, ← H4.out, ← H3.out]
  clear hW
  go_wp2_with fail
  go_fit OT
  rintro _ w1 ⟨a1, c1, a2, c2, xs, rfl, mx, o1, e1, k1s, k1⟩
  obtain ⟨X, hX⟩ : ∃ X, X = w1.alloc (.cells #[.slice a1 ps.length c1, .slice a2 xs.length c2, .int .i64 tm] 113) := ⟨_, rfl⟩
  obtain ⟨b, HB⟩ : ∃ b, Hid (b = w1.heap.size) := ⟨_, rfl⟩
  have KX1 : Hid (Kept Nil w1 X) := by rw [hX]; exact (Kept.refl _ _).alloc _
  have KX : Hid (Kept Nil W X) := k1.trans KX1.out
  have HMx : Hid (xs.map Se.s = es.map Se.s) := mx
  have HLX : Hid (Led W X b ps xs tm a1 a2 c1 c2) := by
    refine ⟨?_, o1.kept KX1.out, e1.kept KX1.out, k1s.kept KX1.out, KX.out, by rw [HB.out]; exact k1.size⟩
    rw [hX, HB.out]
    exact blk_new _ _
  clear mx o1 e1 k1s k1 OT t0 t1 t2
  go_upto_region 2 with fail
  rw [← hX, ← HB.out]
  clear hX KX1
  have HAs : Hid (w.heap.size ≤ A6 ∧ w.heap.size ≤ A7 ∧ A6 < W.heap.size ∧ A7 < W.heap.size ∧ A6 ≠ A7) := by
    have h1 := H6.out
    have h2 := H7.out
    exact ⟨by omega, by omega, lt_of_block HZ6.out, lt_of_block HZ7.out, by omega⟩
  have HWs : Hid (w.heap.size ≤ W.heap.size) := KW.out.size
  have PQ := putRequest_any cl nu kd m tq key val X HKV.out.1 HKV.out.2
  have HQX : Hid (X.heap[A4]? = some (.cells #[.int .i64 cl, .int .i64 nu, .int .i64 kd, .string (bs key), .string (bs val), .int .i64 m, .int .i64 tq] 75 (0, 0))) := KX.out.block _ _ HQ.out (fun x => x.elim)
  have q0 : X.cell? ⟨A4, 0, none⟩ = some (.int .i64 cl) := blk_at HQX.out 0 rfl
  have q1 : X.cell? ⟨A4, 1, none⟩ = some (.int .i64 nu) := blk_at HQX.out 1 rfl
  have q2 : X.cell? ⟨A4, 2, none⟩ = some (.int .i64 kd) := blk_at HQX.out 2 rfl
  have q3 : X.cell? ⟨A4, 3, none⟩ = some (.string (bs key)) := blk_at HQX.out 3 rfl
  have q4 : X.cell? ⟨A4, 4, none⟩ = some (.string (bs val)) := blk_at HQX.out 4 rfl
  have q5 : X.cell? ⟨A4, 5, none⟩ = some (.int .i64 m) := blk_at HQX.out 5 rfl
  have q6 : X.cell? ⟨A4, 6, none⟩ = some (.int .i64 tq) := blk_at HQX.out 6 rfl
  cases hrq : Rq.ok ⟨cl, nu, kd, key, val, m, tq⟩ with
  | false =>
    rw [show putReq ⟨cl, nu, kd, key, val, m, tq⟩ = ([], 5) by unfold putReq; rw [hrq]; rfl] at PQ
    go_wp2_with fail
    go_fit PQ
    rintro _ Y ⟨rfl, k2⟩
    have HLY : Hid (Led W Y b ps xs tm a1 a2 c1 c2) := HLX.out.next k2
    clear k2 PQ q0 q1 q2 q3 q4 q5 q6 HLX HQX
    obtain ⟨V, hV⟩ : ∃ V, V = ((((((Y.setCell ⟨A6, 0, none⟩ (.slice a1 ps.length c1)).setCell ⟨A6, 1, none⟩ (.slice a2 xs.length c2)).setCell ⟨A6, 2, none⟩ (.int .i64 tm)).setCell ⟨A7, 0, none⟩ (.int .i64 5)).setCell ⟨A7, 1, none⟩ (.string ⟨#[]⟩)).setCell ⟨A7, 2, none⟩ (.int .i64 0)).setCell ⟨A7, 3, none⟩ (.slice none 0 0) := ⟨_, rfl⟩
    have B6 : Hid (Y.heap[A6]? = some (.cells #[.slice none 0 0, .slice none 0 0, .int .i64 0] 70 (0, 0))) := HLY.out.kept.block _ _ HZ6.out (fun x => x.elim)
    have B7 : Hid (Y.heap[A7]? = some (.cells #[.int .i64 0, .string ⟨#[]⟩, .int .i64 0, .slice none 0 0] 55 (0, 0))) := HLY.out.kept.block _ _ HZ7.out (fun x => x.elim)
    have KV : Hid (Kept Nil w V) := by rw [hV]; exact (((((((KW.out.trans HLY.out.kept).setNew (p := ⟨A6, 0, none⟩) HAs.out.1 _).setNew (p := ⟨A6, 1, none⟩) HAs.out.1 _).setNew (p := ⟨A6, 2, none⟩) HAs.out.1 _).setNew (p := ⟨A7, 0, none⟩) HAs.out.2.1 _).setNew (p := ⟨A7, 1, none⟩) HAs.out.2.1 _).setNew (p := ⟨A7, 2, none⟩) HAs.out.2.1 _).setNew (p := ⟨A7, 3, none⟩) HAs.out.2.1 _
    have HSub : Hid (∀ (e : TypeId) (sz n : Nat) (v : Value) (l : List Value), Y.ownsRow W.heap.size e sz v n l → V.ownsRow W.heap.size e sz v n l) := fun e sz n v l h => by
      rw [hV]
      exact ownsRow_setCell_below (a := ⟨A7, 3, none⟩) (ownsRow_setCell_below (a := ⟨A7, 2, none⟩) (ownsRow_setCell_below (a := ⟨A7, 1, none⟩) (ownsRow_setCell_below (a := ⟨A7, 0, none⟩) (ownsRow_setCell_below (a := ⟨A6, 2, none⟩) (ownsRow_setCell_below (a := ⟨A6, 1, none⟩) (ownsRow_setCell_below (a := ⟨A6, 0, none⟩) h HAs.out.2.2.1 _) HAs.out.2.2.1 _) HAs.out.2.2.1 _) HAs.out.2.2.2.1 _) HAs.out.2.2.2.1 _) HAs.out.2.2.2.1 _) HAs.out.2.2.2.1 _
    have BV6 : Hid (V.heap[A6]? = some (.cells #[.slice a1 ps.length c1, .slice a2 xs.length c2, .int .i64 tm] 70 (0, 0))) := by rw [hV]; exact blk_other (a := ⟨A7, 3, none⟩) (blk_other (a := ⟨A7, 2, none⟩) (blk_other (a := ⟨A7, 1, none⟩) (blk_other (a := ⟨A7, 0, none⟩) (blk_set (blk_set (blk_set B6.out 0 _) 1 _) 2 _) HAs.out.2.2.2.2 _) HAs.out.2.2.2.2 _) HAs.out.2.2.2.2 _) HAs.out.2.2.2.2 _
    have BV7 : Hid (V.heap[A7]? = some (.cells #[.int .i64 5, .string ⟨#[]⟩, .int .i64 0, .slice none 0 0] 55 (0, 0))) := by rw [hV]; exact blk_set (blk_set (blk_set (blk_set (blk_other (a := ⟨A6, 2, none⟩) (blk_other (a := ⟨A6, 1, none⟩) (blk_other (a := ⟨A6, 0, none⟩) B7.out (fun e => HAs.out.2.2.2.2 e.symm) _) (fun e => HAs.out.2.2.2.2 e.symm) _) (fun e => HAs.out.2.2.2.2 e.symm) _) 0 _) 1 _) 2 _) 3 _
    have HE : Hid (R = (ps, es.map Se.s, tm, rr0 5)) := by
      show _ = _
      rw [HRR.out]
      unfold sesT
      rw [if_neg (by rw [hrq]; simp)]
    have p0 : Y.cell? ⟨b, 0, none⟩ = some (.slice a1 ps.length c1) := blk_at HLY.out.blk 0 rfl
    have p1 : Y.cell? ⟨b, 1, none⟩ = some (.slice a2 xs.length c2) := blk_at HLY.out.blk 1 rfl
    have p2 : Y.cell? ⟨b, 2, none⟩ = some (.int .i64 tm) := blk_at HLY.out.blk 2 rfl
    have r0 : Y.cell? ⟨A6, 0, none⟩ = some (.slice none 0 0) := blk_at B6.out 0 rfl
    have r1 : Y.cell? ⟨A6, 1, none⟩ = some (.slice none 0 0) := blk_at B6.out 1 rfl
    have r2 : Y.cell? ⟨A6, 2, none⟩ = some (.int .i64 0) := blk_at B6.out 2 rfl
    have z0 : Y.frozen? ⟨A6, 0, none⟩ = false := blk_free B6.out 0
    have z1 : Y.frozen? ⟨A6, 1, none⟩ = false := blk_free B6.out 1
    have z2 : Y.frozen? ⟨A6, 2, none⟩ = false := blk_free B6.out 2
    have s0 : Y.cell? ⟨A7, 0, none⟩ = some (.int .i64 0) := blk_at B7.out 0 rfl
    have s1 : Y.cell? ⟨A7, 1, none⟩ = some (.string ⟨#[]⟩) := blk_at B7.out 1 rfl
    have s2 : Y.cell? ⟨A7, 2, none⟩ = some (.int .i64 0) := blk_at B7.out 2 rfl
    have s3 : Y.cell? ⟨A7, 3, none⟩ = some (.slice none 0 0) := blk_at B7.out 3 rfl
    have y0 : Y.frozen? ⟨A7, 0, none⟩ = false := blk_free B7.out 0
    have y1 : Y.frozen? ⟨A7, 1, none⟩ = false := blk_free B7.out 1
    have y2 : Y.frozen? ⟨A7, 2, none⟩ = false := blk_free B7.out 2
    have y3 : Y.frozen? ⟨A7, 3, none⟩ = false := blk_free B7.out 3
    have hA67 : A6 ≠ A7 := HAs.out.2.2.2.2
    have hA76 : A7 ≠ A6 := fun e => hA67 e.symm
    go_wp2
    rw [← hV]
    clear hV
    have j0 : V.cell? ⟨A6, 0, none⟩ = some (.slice a1 ps.length c1) := blk_at BV6.out 0 rfl
    have j1 : V.cell? ⟨A6, 1, none⟩ = some (.slice a2 xs.length c2) := blk_at BV6.out 1 rfl
    have j2 : V.cell? ⟨A6, 2, none⟩ = some (.int .i64 tm) := blk_at BV6.out 2 rfl
    have j3 : V.cell? ⟨A7, 0, none⟩ = some (.int .i64 5) := blk_at BV7.out 0 rfl
    have j4 : V.cell? ⟨A7, 1, none⟩ = some (.string ⟨#[]⟩) := blk_at BV7.out 1 rfl
    have j5 : V.cell? ⟨A7, 2, none⟩ = some (.int .i64 0) := blk_at BV7.out 2 rfl
    have j6 : V.cell? ⟨A7, 3, none⟩ = some (.slice none 0 0) := blk_at BV7.out 3 rfl
    refine bodyPost_ret (v := .tuple #[.agg #[.slice a1 ps.length c1, .slice a2 xs.length c2, .int .i64 tm], rrV (rr0 5) none 0]) (by simp [results, Try.results46, go_sem, rrV, rr0, bs, j0, j1, j2, j3, j4, j5, j6]) rfl ?_
    rw [HE.out]
    exact ⟨a1, c1, a2, c2, xs, none, 0, rfl, HMx.out, own_mono (HSub.out _ _ _ _ _ HLY.out.op) HWs.out, own_mono (HSub.out _ _ _ _ _ HLY.out.oe) HWs.out, fun e he => own_mono (HSub.out _ _ _ _ _ (HLY.out.ok e he)) HWs.out, World.ownsRow_nil _ _ _ _, apart_none _, KV.out⟩
  | true =>
    obtain ⟨qt, HQT⟩ : ∃ qt, Hid (putReq ⟨cl, nu, kd, key, val, m, tq⟩ = (qt, 0)) := ⟨_, by show putReq _ = _; unfold putReq; rw [hrq]; rfl⟩
    rw [HQT.out] at PQ
    have TB := fun (Y : World) (hY : Kept Nil w Y) => isTable_any B cp cs tm ap sa ps (es.map Se.s) Y (HPR.out.nil hY) (HSW.out.sess.nil hY) (by have := HLN.out.1; omega) (by rw [List.length_map]; have := HLN.out.2; omega)
    rw [List.length_map] at TB
    cases htb : tabOk tm ps (es.map Se.s) with
    | false =>
      rw [htb] at TB
      go_wp2_with fail
      go_fit PQ
      rintro _ Y ⟨rfl, k2⟩
      have HLY : Hid (Led W Y b ps xs tm a1 a2 c1 c2) := HLX.out.next k2
      clear k2 PQ q0 q1 q2 q3 q4 q5 q6 HLX HQX
      have HTY : Hid (Y.heap[A3]? = some (.cells #[.slice ap ps.length cp, .slice sa es.length cs, .int .i64 tm] 70 (0, 0))) := HLY.out.kept.block _ _ HT.out (fun x => x.elim)
      have t0 : Y.cell? ⟨A3, 0, none⟩ = some (.slice ap ps.length cp) := blk_at HTY.out 0 rfl
      have t1 : Y.cell? ⟨A3, 1, none⟩ = some (.slice sa es.length cs) := blk_at HTY.out 1 rfl
      have t2 : Y.cell? ⟨A3, 2, none⟩ = some (.int .i64 tm) := blk_at HTY.out 2 rfl
      have TY := TB Y (KW.out.trans HLY.out.kept)
      go_wp2_with fail
      go_fit TY
      rintro _ Z ⟨rfl, k3⟩
      have HLZ : Hid (Led W Z b ps xs tm a1 a2 c1 c2) := HLY.out.next k3
      clear k3 TY TB HLY HTY t0 t1 t2
      obtain ⟨V, hV⟩ : ∃ V, V = ((((((Z.setCell ⟨A6, 0, none⟩ (.slice a1 ps.length c1)).setCell ⟨A6, 1, none⟩ (.slice a2 xs.length c2)).setCell ⟨A6, 2, none⟩ (.int .i64 tm)).setCell ⟨A7, 0, none⟩ (.int .i64 5)).setCell ⟨A7, 1, none⟩ (.string ⟨#[]⟩)).setCell ⟨A7, 2, none⟩ (.int .i64 0)).setCell ⟨A7, 3, none⟩ (.slice none 0 0) := ⟨_, rfl⟩
      have B6 : Hid (Z.heap[A6]? = some (.cells #[.slice none 0 0, .slice none 0 0, .int .i64 0] 70 (0, 0))) := HLZ.out.kept.block _ _ HZ6.out (fun x => x.elim)
      have B7 : Hid (Z.heap[A7]? = some (.cells #[.int .i64 0, .string ⟨#[]⟩, .int .i64 0, .slice none 0 0] 55 (0, 0))) := HLZ.out.kept.block _ _ HZ7.out (fun x => x.elim)
      have KV : Hid (Kept Nil w V) := by rw [hV]; exact (((((((KW.out.trans HLZ.out.kept).setNew (p := ⟨A6, 0, none⟩) HAs.out.1 _).setNew (p := ⟨A6, 1, none⟩) HAs.out.1 _).setNew (p := ⟨A6, 2, none⟩) HAs.out.1 _).setNew (p := ⟨A7, 0, none⟩) HAs.out.2.1 _).setNew (p := ⟨A7, 1, none⟩) HAs.out.2.1 _).setNew (p := ⟨A7, 2, none⟩) HAs.out.2.1 _).setNew (p := ⟨A7, 3, none⟩) HAs.out.2.1 _
      have HSub : Hid (∀ (e : TypeId) (sz n : Nat) (v : Value) (l : List Value), Z.ownsRow W.heap.size e sz v n l → V.ownsRow W.heap.size e sz v n l) := fun e sz n v l h => by
        rw [hV]
        exact ownsRow_setCell_below (a := ⟨A7, 3, none⟩) (ownsRow_setCell_below (a := ⟨A7, 2, none⟩) (ownsRow_setCell_below (a := ⟨A7, 1, none⟩) (ownsRow_setCell_below (a := ⟨A7, 0, none⟩) (ownsRow_setCell_below (a := ⟨A6, 2, none⟩) (ownsRow_setCell_below (a := ⟨A6, 1, none⟩) (ownsRow_setCell_below (a := ⟨A6, 0, none⟩) h HAs.out.2.2.1 _) HAs.out.2.2.1 _) HAs.out.2.2.1 _) HAs.out.2.2.2.1 _) HAs.out.2.2.2.1 _) HAs.out.2.2.2.1 _) HAs.out.2.2.2.1 _
      have BV6 : Hid (V.heap[A6]? = some (.cells #[.slice a1 ps.length c1, .slice a2 xs.length c2, .int .i64 tm] 70 (0, 0))) := by rw [hV]; exact blk_other (a := ⟨A7, 3, none⟩) (blk_other (a := ⟨A7, 2, none⟩) (blk_other (a := ⟨A7, 1, none⟩) (blk_other (a := ⟨A7, 0, none⟩) (blk_set (blk_set (blk_set B6.out 0 _) 1 _) 2 _) HAs.out.2.2.2.2 _) HAs.out.2.2.2.2 _) HAs.out.2.2.2.2 _) HAs.out.2.2.2.2 _
      have BV7 : Hid (V.heap[A7]? = some (.cells #[.int .i64 5, .string ⟨#[]⟩, .int .i64 0, .slice none 0 0] 55 (0, 0))) := by rw [hV]; exact blk_set (blk_set (blk_set (blk_set (blk_other (a := ⟨A6, 2, none⟩) (blk_other (a := ⟨A6, 1, none⟩) (blk_other (a := ⟨A6, 0, none⟩) B7.out (fun e => HAs.out.2.2.2.2 e.symm) _) (fun e => HAs.out.2.2.2.2 e.symm) _) (fun e => HAs.out.2.2.2.2 e.symm) _) 0 _) 1 _) 2 _) 3 _
      have HE : Hid (R = (ps, es.map Se.s, tm, rr0 5)) := by
        show _ = _
        rw [HRR.out]
        unfold sesT
        rw [if_neg (by rw [htb]; simp)]
      have p0 : Z.cell? ⟨b, 0, none⟩ = some (.slice a1 ps.length c1) := blk_at HLZ.out.blk 0 rfl
      have p1 : Z.cell? ⟨b, 1, none⟩ = some (.slice a2 xs.length c2) := blk_at HLZ.out.blk 1 rfl
      have p2 : Z.cell? ⟨b, 2, none⟩ = some (.int .i64 tm) := blk_at HLZ.out.blk 2 rfl
      have r0 : Z.cell? ⟨A6, 0, none⟩ = some (.slice none 0 0) := blk_at B6.out 0 rfl
      have r1 : Z.cell? ⟨A6, 1, none⟩ = some (.slice none 0 0) := blk_at B6.out 1 rfl
      have r2 : Z.cell? ⟨A6, 2, none⟩ = some (.int .i64 0) := blk_at B6.out 2 rfl
      have z0 : Z.frozen? ⟨A6, 0, none⟩ = false := blk_free B6.out 0
      have z1 : Z.frozen? ⟨A6, 1, none⟩ = false := blk_free B6.out 1
      have z2 : Z.frozen? ⟨A6, 2, none⟩ = false := blk_free B6.out 2
      have s0 : Z.cell? ⟨A7, 0, none⟩ = some (.int .i64 0) := blk_at B7.out 0 rfl
      have s1 : Z.cell? ⟨A7, 1, none⟩ = some (.string ⟨#[]⟩) := blk_at B7.out 1 rfl
      have s2 : Z.cell? ⟨A7, 2, none⟩ = some (.int .i64 0) := blk_at B7.out 2 rfl
      have s3 : Z.cell? ⟨A7, 3, none⟩ = some (.slice none 0 0) := blk_at B7.out 3 rfl
      have y0 : Z.frozen? ⟨A7, 0, none⟩ = false := blk_free B7.out 0
      have y1 : Z.frozen? ⟨A7, 1, none⟩ = false := blk_free B7.out 1
      have y2 : Z.frozen? ⟨A7, 2, none⟩ = false := blk_free B7.out 2
      have y3 : Z.frozen? ⟨A7, 3, none⟩ = false := blk_free B7.out 3
      have hA67 : A6 ≠ A7 := HAs.out.2.2.2.2
      have hA76 : A7 ≠ A6 := fun e => hA67 e.symm
      go_wp2
      rw [← hV]
      clear hV
      have j0 : V.cell? ⟨A6, 0, none⟩ = some (.slice a1 ps.length c1) := blk_at BV6.out 0 rfl
      have j1 : V.cell? ⟨A6, 1, none⟩ = some (.slice a2 xs.length c2) := blk_at BV6.out 1 rfl
      have j2 : V.cell? ⟨A6, 2, none⟩ = some (.int .i64 tm) := blk_at BV6.out 2 rfl
      have j3 : V.cell? ⟨A7, 0, none⟩ = some (.int .i64 5) := blk_at BV7.out 0 rfl
      have j4 : V.cell? ⟨A7, 1, none⟩ = some (.string ⟨#[]⟩) := blk_at BV7.out 1 rfl
      have j5 : V.cell? ⟨A7, 2, none⟩ = some (.int .i64 0) := blk_at BV7.out 2 rfl
      have j6 : V.cell? ⟨A7, 3, none⟩ = some (.slice none 0 0) := blk_at BV7.out 3 rfl
      refine bodyPost_ret (v := .tuple #[.agg #[.slice a1 ps.length c1, .slice a2 xs.length c2, .int .i64 tm], rrV (rr0 5) none 0]) (by simp [results, Try.results46, go_sem, rrV, rr0, bs, j0, j1, j2, j3, j4, j5, j6]) rfl ?_
      rw [HE.out]
      exact ⟨a1, c1, a2, c2, xs, none, 0, rfl, HMx.out, own_mono (HSub.out _ _ _ _ _ HLZ.out.op) HWs.out, own_mono (HSub.out _ _ _ _ _ HLZ.out.oe) HWs.out, fun e he => own_mono (HSub.out _ _ _ _ _ (HLZ.out.ok e he)) HWs.out, World.ownsRow_nil _ _ _ _, apart_none _, KV.out⟩
    | true =>
      rw [htb] at TB
      have HTF : Hid (_) := tab_facts htb
      have HXL : Hid (xs.length ≤ 8) := by
        have h1 := HTF.out.2.2.1
        rw [← HMx.out, List.length_map] at h1
        exact h1
      have HXS : Hid (∀ s ∈ xs.map Se.s, (0 ≤ s.ls ∧ s.ls ≤ 1099511627775) ∧ (0 ≤ s.sn ∧ s.sn ≤ 1099511627775) ∧ s.ks.length ≤ 32 ∧ ∀ k ∈ s.ks, k.length ≤ maxLen) := by
        rw [HMx.out]
        exact HTF.out.2.2.2.2
      have HXR : Hid (SrtE xs) := by
        have h1 := HTF.out.2.2.2.1
        rw [← HMx.out] at h1
        exact (List.pairwise_map (f := Se.s) (R := fun a b => a.cl < b.cl)).1 h1
      have HFT : Hid (Fit ps) := fun p hp => by
        obtain ⟨_, g2, g3, _, _⟩ := prOk_iff ((pairs_ok HTF.out.2.1).2.2 p hp)
        unfold maxLen
        exact ⟨by omega, by omega⟩
      have HPL : Hid (ps.length ≤ 32) := (pairs_ok HTF.out.2.1).1
      have HNU : Hid (0 ≤ nu ∧ nu ≤ 1099511627775) := by
        have h1 := hrq
        unfold Rq.ok at h1
        simp only [Bool.and_eq_true] at h1
        show _ ∧ _
        simpa [isNum] using h1.1.1.2
      go_wp2_with fail
      go_fit PQ
      rintro _ Y ⟨rfl, k2⟩
      have HLY : Hid (Led W Y b ps xs tm a1 a2 c1 c2) := HLX.out.next k2
      clear k2 PQ q0 q1 q2 q3 q4 q5 q6 HLX HQX
      have HTY : Hid (Y.heap[A3]? = some (.cells #[.slice ap ps.length cp, .slice sa es.length cs, .int .i64 tm] 70 (0, 0))) := HLY.out.kept.block _ _ HT.out (fun x => x.elim)
      have t0 : Y.cell? ⟨A3, 0, none⟩ = some (.slice ap ps.length cp) := blk_at HTY.out 0 rfl
      have t1 : Y.cell? ⟨A3, 1, none⟩ = some (.slice sa es.length cs) := blk_at HTY.out 1 rfl
      have t2 : Y.cell? ⟨A3, 2, none⟩ = some (.int .i64 tm) := blk_at HTY.out 2 rfl
      have TY := TB Y (KW.out.trans HLY.out.kept)
      go_wp2_with fail
      go_fit TY
      rintro _ Z ⟨rfl, k3⟩
      have HLZ : Hid (Led W Z b ps xs tm a1 a2 c1 c2) := HLY.out.next k3
      clear k3 TY TB HLY HTY t0 t1 t2
      have GO := goOn_any W Z b c1 c2 ps xs tm tq a1 a2 HLZ.out HXL.out
      obtain ⟨tn, HTN⟩ : ∃ tn, Hid (tn = max tm tq) := ⟨_, rfl⟩
      have HTL : Hid (lateTm tm tq = tn) := by rw [HTN.out]; rfl
      rw [HTL.out] at GO
      obtain ⟨zs, HZS⟩ : ∃ zs, Hid (zs = xs.filter fun f => !lateP tn f) := ⟨_, rfl⟩
      rw [← HZS.out] at GO
      have HZM : Hid (zs.map Se.s = (es.map Se.s).filter fun s => !decide (s.sn + 400 < tn)) := by
        show _ = _
        rw [HZS.out, late_map (fun s hs => (HXS.out s hs).2.1), HMx.out]
      have HZmem : Hid (∀ e ∈ zs, e ∈ xs) := fun e he => by rw [HZS.out] at he; exact (List.mem_filter.1 he).1
      have HZL : Hid (zs.length ≤ 8) := by rw [HZS.out]; exact Nat.le_trans (List.length_filter_le _ _) HXL.out
      have HZR : Hid (SrtE zs) := by rw [HZS.out]; exact List.Pairwise.filter _ HXR.out
      have HQZ : Hid (Z.heap[A4]? = some (.cells #[.int .i64 cl, .int .i64 nu, .int .i64 kd, .string (bs key), .string (bs val), .int .i64 m, .int .i64 tq] 75 (0, 0))) := HLZ.out.kept.block _ _ HQ.out (fun x => x.elim)
      have q6 : Z.cell? ⟨A4, 6, none⟩ = some (.int .i64 tq) := blk_at HQZ.out 6 rfl
      go_wp2_with fail
      go_fit GO
      rintro _ w2 ⟨rfl, l2, k2⟩
      have HL2 : Hid (Led W w2 b ps zs tn a1 a2 c1 c2) := l2
      clear l2 k2 GO HLZ HQZ q6
      obtain ⟨R', HR'⟩ : ∃ R', Hid (R' = runT ps (zs.map Se.s) tn cl nu kd key val m ix) := ⟨_, rfl⟩
      have RU : Calls Try.prog 86 #[.pointer (some ⟨b, 0, none⟩), .agg #[.int .i64 cl, .int .i64 nu, .int .i64 kd, .string (bs key), .string (bs val), .int .i64 m, .int .i64 tq], .int .i64 ix] w2 (LedPost W w2 b tn R') := by
        rw [HR'.out]
        unfold runT
        by_cases h0 : cl = 0
        · rw [if_pos h0]
          exact runO_any W w2 b c1 c2 ps zs tn cl nu kd m tq ix key val a1 a2 HL2.out HZR.out HZL.out h0
        · rw [if_neg h0]
          exact runS_any W w2 b c1 c2 ps zs tn cl nu kd m tq ix key val a1 a2 HL2.out HZR.out HZL.out (fun e he => (HXS.out e.s (List.mem_map.2 ⟨e, HZmem.out e he, rfl⟩)).1) (fun e he => by
            have h1 := (HXS.out e.s (List.mem_map.2 ⟨e, HZmem.out e he, rfl⟩)).2.2
            exact ⟨by omega, h1.2⟩) HFT.out HPL.out HKV.out.1 HKV.out.2 (by
            have h1 := apR_ks (kd := kd) (m := m) (ck := key) (val := val) HFT.out
            exact ⟨by omega, h1.2⟩) HNU.out h0
      obtain ⟨P1, S1, r⟩ := R'
      have HE : Hid (R = (P1, S1, tn, r)) := by
        show _ = _
        rw [HRR.out]
        unfold sesT
        rw [if_pos (by rw [hrq, htb]; rfl), ← HTN.out, ← HZM.out, ← HR'.out]
      have HQ2 : Hid (w2.heap[A4]? = some (.cells #[.int .i64 cl, .int .i64 nu, .int .i64 kd, .string (bs key), .string (bs val), .int .i64 m, .int .i64 tq] 75 (0, 0))) := HL2.out.kept.block _ _ HQ.out (fun x => x.elim)
      have q0 : w2.cell? ⟨A4, 0, none⟩ = some (.int .i64 cl) := blk_at HQ2.out 0 rfl
      have q1 : w2.cell? ⟨A4, 1, none⟩ = some (.int .i64 nu) := blk_at HQ2.out 1 rfl
      have q2 : w2.cell? ⟨A4, 2, none⟩ = some (.int .i64 kd) := blk_at HQ2.out 2 rfl
      have q3 : w2.cell? ⟨A4, 3, none⟩ = some (.string (bs key)) := blk_at HQ2.out 3 rfl
      have q4 : w2.cell? ⟨A4, 4, none⟩ = some (.string (bs val)) := blk_at HQ2.out 4 rfl
      have q5 : w2.cell? ⟨A4, 5, none⟩ = some (.int .i64 m) := blk_at HQ2.out 5 rfl
      have q6 : w2.cell? ⟨A4, 6, none⟩ = some (.int .i64 tq) := blk_at HQ2.out 6 rfl
      go_wp2_with fail
      go_fit RU
      rintro _ w3 ⟨ap', cp', sa', cs', es', ko, kc, rfl, l3, m3, o3, k3, a3⟩
      have HL3 : Hid (Led W w3 b P1 es' tn ap' sa' cp' cs') := l3
      have HM3 : Hid (es'.map Se.s = S1) := m3
      have HO3 : Hid (OwnK W.heap.size w3 ko kc r.ks) := own_mono o3 HL2.out.kept.size
      have HA3 : Hid (Apart es' ko r.ks.length kc) := a3
      clear l3 m3 o3 k3 a3 RU q0 q1 q2 q3 q4 q5 q6 HQ2 HL2 HR'
      unfold rrV
      obtain ⟨Y, hY⟩ : ∃ Y, Y = w3.alloc (.cells #[.int .i64 r.kd, .string (bs r.v), .int .i64 r.n, .slice ko r.ks.length kc] 55) := ⟨_, rfl⟩
      obtain ⟨E, HEe⟩ : ∃ E, Hid (E = w3.heap.size) := ⟨_, rfl⟩
      have HEY : Hid (Y.heap[E]? = some (.cells #[.int .i64 r.kd, .string (bs r.v), .int .i64 r.n, .slice ko r.ks.length kc] 55 (0, 0))) := by rw [hY, HEe.out]; exact blk_new _ _
      have K3Y : Hid (Kept Nil w3 Y) := by rw [hY]; exact (Kept.refl _ _).alloc _
      have HLY : Hid (Led W Y b P1 es' tn ap' sa' cp' cs') := HL3.out.next K3Y.out
      have HOY : Hid (OwnK W.heap.size Y ko kc r.ks) := HO3.out.kept K3Y.out
      have HEW : Hid (W.heap.size ≤ E) := by rw [HEe.out]; exact HL3.out.kept.size
      dsimp only
      go_upto_region 7 with fail
      rw [← hY, ← HEe.out]
      clear hY K3Y HL3 HO3 HEe
      have e0 : Y.cell? ⟨E, 0, none⟩ = some (.int .i64 r.kd) := blk_at HEY.out 0 rfl
      have e1 : Y.cell? ⟨E, 1, none⟩ = some (.string (bs r.v)) := blk_at HEY.out 1 rfl
      have e2 : Y.cell? ⟨E, 2, none⟩ = some (.int .i64 r.n) := blk_at HEY.out 2 rfl
      have e3 : Y.cell? ⟨E, 3, none⟩ = some (.slice ko r.ks.length kc) := blk_at HEY.out 3 rfl
      obtain ⟨V, hV⟩ : ∃ V, V = (((((((Y.setCell ⟨A6, 0, none⟩ (.slice ap' P1.length cp')).setCell ⟨A6, 1, none⟩ (.slice sa' es'.length cs')).setCell ⟨A6, 2, none⟩ (.int .i64 tn)).setCell ⟨A7, 0, none⟩ (.int .i64 r.kd)).setCell ⟨A7, 1, none⟩ (.string (bs r.v))).setCell ⟨A7, 2, none⟩ (.int .i64 r.n)).setCell ⟨A7, 3, none⟩ (.slice ko r.ks.length kc)).drew := ⟨_, rfl⟩
      have B6 : Hid (Y.heap[A6]? = some (.cells #[.slice none 0 0, .slice none 0 0, .int .i64 0] 70 (0, 0))) := HLY.out.kept.block _ _ HZ6.out (fun x => x.elim)
      have B7 : Hid (Y.heap[A7]? = some (.cells #[.int .i64 0, .string ⟨#[]⟩, .int .i64 0, .slice none 0 0] 55 (0, 0))) := HLY.out.kept.block _ _ HZ7.out (fun x => x.elim)
      have KV : Hid (Kept Nil w V) := by rw [hV]; exact ((((((((KW.out.trans HLY.out.kept).setNew (p := ⟨A6, 0, none⟩) HAs.out.1 _).setNew (p := ⟨A6, 1, none⟩) HAs.out.1 _).setNew (p := ⟨A6, 2, none⟩) HAs.out.1 _).setNew (p := ⟨A7, 0, none⟩) HAs.out.2.1 _).setNew (p := ⟨A7, 1, none⟩) HAs.out.2.1 _).setNew (p := ⟨A7, 2, none⟩) HAs.out.2.1 _).setNew (p := ⟨A7, 3, none⟩) HAs.out.2.1 _).drew
      have HSub : Hid (∀ (e : TypeId) (sz n : Nat) (v : Value) (l : List Value), Y.ownsRow W.heap.size e sz v n l → V.ownsRow W.heap.size e sz v n l) := fun e sz n v l h => by
        rw [hV]
        exact own_kept (ownsRow_setCell_below (a := ⟨A7, 3, none⟩) (ownsRow_setCell_below (a := ⟨A7, 2, none⟩) (ownsRow_setCell_below (a := ⟨A7, 1, none⟩) (ownsRow_setCell_below (a := ⟨A7, 0, none⟩) (ownsRow_setCell_below (a := ⟨A6, 2, none⟩) (ownsRow_setCell_below (a := ⟨A6, 1, none⟩) (ownsRow_setCell_below (a := ⟨A6, 0, none⟩) h HAs.out.2.2.1 _) HAs.out.2.2.1 _) HAs.out.2.2.1 _) HAs.out.2.2.2.1 _) HAs.out.2.2.2.1 _) HAs.out.2.2.2.1 _) HAs.out.2.2.2.1 _) (Kept.refl Nil _).drew (fun _ _ _ x => x.elim)
      have BV6 : Hid (V.heap[A6]? = some (.cells #[.slice ap' P1.length cp', .slice sa' es'.length cs', .int .i64 tn] 70 (0, 0))) := by rw [hV]; exact (Kept.refl Nil _).drew.block _ _ (blk_other (a := ⟨A7, 3, none⟩) (blk_other (a := ⟨A7, 2, none⟩) (blk_other (a := ⟨A7, 1, none⟩) (blk_other (a := ⟨A7, 0, none⟩) (blk_set (blk_set (blk_set B6.out 0 _) 1 _) 2 _) HAs.out.2.2.2.2 _) HAs.out.2.2.2.2 _) HAs.out.2.2.2.2 _) HAs.out.2.2.2.2 _) (fun x => x.elim)
      have BV7 : Hid (V.heap[A7]? = some (.cells #[.int .i64 r.kd, .string (bs r.v), .int .i64 r.n, .slice ko r.ks.length kc] 55 (0, 0))) := by rw [hV]; exact (Kept.refl Nil _).drew.block _ _ (blk_set (blk_set (blk_set (blk_set (blk_other (a := ⟨A6, 2, none⟩) (blk_other (a := ⟨A6, 1, none⟩) (blk_other (a := ⟨A6, 0, none⟩) B7.out (fun e => HAs.out.2.2.2.2 e.symm) _) (fun e => HAs.out.2.2.2.2 e.symm) _) (fun e => HAs.out.2.2.2.2 e.symm) _) 0 _) 1 _) 2 _) 3 _) (fun x => x.elim)
      have p0 : Y.cell? ⟨b, 0, none⟩ = some (.slice ap' P1.length cp') := blk_at HLY.out.blk 0 rfl
      have p1 : Y.cell? ⟨b, 1, none⟩ = some (.slice sa' es'.length cs') := blk_at HLY.out.blk 1 rfl
      have p2 : Y.cell? ⟨b, 2, none⟩ = some (.int .i64 tn) := blk_at HLY.out.blk 2 rfl
      have r0 : Y.cell? ⟨A6, 0, none⟩ = some (.slice none 0 0) := blk_at B6.out 0 rfl
      have r1 : Y.cell? ⟨A6, 1, none⟩ = some (.slice none 0 0) := blk_at B6.out 1 rfl
      have r2 : Y.cell? ⟨A6, 2, none⟩ = some (.int .i64 0) := blk_at B6.out 2 rfl
      have z0 : Y.frozen? ⟨A6, 0, none⟩ = false := blk_free B6.out 0
      have z1 : Y.frozen? ⟨A6, 1, none⟩ = false := blk_free B6.out 1
      have z2 : Y.frozen? ⟨A6, 2, none⟩ = false := blk_free B6.out 2
      have s0 : Y.cell? ⟨A7, 0, none⟩ = some (.int .i64 0) := blk_at B7.out 0 rfl
      have s1 : Y.cell? ⟨A7, 1, none⟩ = some (.string ⟨#[]⟩) := blk_at B7.out 1 rfl
      have s2 : Y.cell? ⟨A7, 2, none⟩ = some (.int .i64 0) := blk_at B7.out 2 rfl
      have s3 : Y.cell? ⟨A7, 3, none⟩ = some (.slice none 0 0) := blk_at B7.out 3 rfl
      have y0 : Y.frozen? ⟨A7, 0, none⟩ = false := blk_free B7.out 0
      have y1 : Y.frozen? ⟨A7, 1, none⟩ = false := blk_free B7.out 1
      have y2 : Y.frozen? ⟨A7, 2, none⟩ = false := blk_free B7.out 2
      have y3 : Y.frozen? ⟨A7, 3, none⟩ = false := blk_free B7.out 3
      have hA67 : A6 ≠ A7 := HAs.out.2.2.2.2
      have hA76 : A7 ≠ A6 := fun e => hA67 e.symm
      have hE6 : E ≠ A6 := by have h1 := HEW.out; have h2 := HAs.out.2.2.1; omega
      have hE7 : E ≠ A7 := by have h1 := HEW.out; have h2 := HAs.out.2.2.2.1; omega
      have hb6 : b ≠ A6 := by have h1 := HLY.out.new; have h2 := HAs.out.2.2.1; omega
      have hb7 : b ≠ A7 := by have h1 := HLY.out.new; have h2 := HAs.out.2.2.2.1; omega
      go_region
      all_goals
        go_wp2
        rw [← hV]
        clear hV
        have j0 : V.cell? ⟨A6, 0, none⟩ = some (.slice ap' P1.length cp') := blk_at BV6.out 0 rfl
        have j1 : V.cell? ⟨A6, 1, none⟩ = some (.slice sa' es'.length cs') := blk_at BV6.out 1 rfl
        have j2 : V.cell? ⟨A6, 2, none⟩ = some (.int .i64 tn) := blk_at BV6.out 2 rfl
        have j3 : V.cell? ⟨A7, 0, none⟩ = some (.int .i64 r.kd) := blk_at BV7.out 0 rfl
        have j4 : V.cell? ⟨A7, 1, none⟩ = some (.string (bs r.v)) := blk_at BV7.out 1 rfl
        have j5 : V.cell? ⟨A7, 2, none⟩ = some (.int .i64 r.n) := blk_at BV7.out 2 rfl
        have j6 : V.cell? ⟨A7, 3, none⟩ = some (.slice ko r.ks.length kc) := blk_at BV7.out 3 rfl
        refine bodyPost_ret (v := .tuple #[.agg #[.slice ap' P1.length cp', .slice sa' es'.length cs', .int .i64 tn], .agg #[.int .i64 r.kd, .string (bs r.v), .int .i64 r.n, .slice ko r.ks.length kc]]) (by simp [results, Try.results46, go_sem, j0, j1, j2, j3, j4, j5, j6]) rfl ?_
        rw [HE.out]
        exact ⟨ap', cp', sa', cs', es', ko, kc, rfl, HM3.out, own_mono (HSub.out _ _ _ _ _ HLY.out.op) HWs.out, own_mono (HSub.out _ _ _ _ _ HLY.out.oe) HWs.out, fun e he => own_mono (HSub.out _ _ _ _ _ (HLY.out.ok e he)) HWs.out, own_mono (HSub.out _ _ _ _ _ HOY.out) HWs.out, HA3.out, KV.out⟩

end Go.Proofs.Ytblmmbghnkplkaa
