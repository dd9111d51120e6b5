/-
  SessionExact: the walk.
-/
import Derived.Test.YtblmmbghnkplkaaWSx7h
import Derived.Deep.DeepCutAuto
import Derived.Deep.DeepFit
namespace Go.Proofs.Ytblmmbghnkplkaa
open Go.RowKit

set_option maxRecDepth 100000 in
set_option maxHeartbeats 16000000 in
theorem sessionExact_any (cp0 cs0 cq : Nat) (tm0 ix : Int) (ap0 sa0 qo : Option Addr) (ps0 : List Pr) (es0 : List Se) (qs : List Rq) (w : World) (hp : PairRow w.heap.size w ap0 ps0) (hs : SeRow w.heap.size w sa0 es0) (hpn : ap0 = none → ps0 = [] ∧ cp0 = 0) (hsn : sa0 = none → es0 = [] ∧ cs0 = 0) (hlp : ps0.length ≤ 3518437208780) (hls : es0.length ≤ 1759218604390) (hq : RqRow w.heap.size w qo qs) (hql : (qs.length : Int) ≤ 9000000000000000000) :
    Calls Try.prog 7 #[.agg #[.slice ap0 ps0.length cp0, .slice sa0 es0.length cs0, .int .i64 tm0], .slice qo qs.length cq, .int .i64 ix] w fun e w' => e = .returned (.bool true) ∧ Kept Nil w w' := by
  obtain ⟨W, hW⟩ : ∃ W, W = w.alloc (.cells #[.slice ap0 ps0.length cp0, .slice sa0 es0.length cs0, .int .i64 tm0] 70) := ⟨_, rfl⟩
  obtain ⟨Tb, HTe⟩ : ∃ Tb, Hid (Tb = w.heap.size) := ⟨_, rfl⟩
  have KW : Hid (Kept Nil w W) := by rw [hW]; exact (Kept.refl _ _).alloc _
  have HLW : Hid (LI w Tb ps0 es0 tm0 ap0 sa0 cp0 cs0 W) := by
    have hP : PIn (fun k => k ≠ Tb) w ap0 cp0 ps0 := ⟨hp, fun a ha hn => by
      obtain ⟨a', ha', hb, _⟩ := hp 0 (by omega)
      rw [ha] at ha'
      cases ha'
      show _ ≠ _
      rw [HTe.out]
      omega, hpn⟩
    have hS : SIn (fun k => k ≠ Tb) w sa0 cs0 es0 := ⟨hs, fun a ha hn => by
      obtain ⟨a', ha', hb, _⟩ := hs 0 (by omega)
      rw [ha] at ha'
      cases ha'
      show _ ≠ _
      rw [HTe.out]
      omega, hsn, fun e he => by
      obtain ⟨j, hj, rfl⟩ := List.getElem_of_mem he
      obtain ⟨_, _, _, _, hst, hn, l1, _⟩ := hs j hj
      refine ⟨hst, fun a ha hn => ?_, hn, l1⟩
      obtain ⟨a', ha', hb, _⟩ := hst 0 (by omega)
      rw [ha] at ha'
      cases ha'
      show _ ≠ _
      rw [HTe.out]
      omega⟩
    refine ⟨?_, hP.kept KW.out, hS.kept KW.out, hlp, hls, KW.out⟩
    rw [hW, HTe.out]
    exact blk_new _ _
  have HQw : Hid (RqRow w.heap.size w qo qs) := hq
  have A0 := ses_any 0 0 0 0 0 0 0 0 0 7 [] [] none none [] [] W (fun j hj => absurd hj (by simp)) (fun j hj => absurd hj (by simp)) (fun _ => ⟨rfl, rfl⟩) (fun _ => ⟨rfl, rfl⟩) (by simp) (by simp) (Nat.zero_le _) (by simp) (by simp)
  rw [sx_first] at A0
  clear hp hs hpn hsn hlp hls hq
  go_enter Try.func7, Try.ntmps7
  go_upto_region 1 with fail
  rw [← hW, ← HTe.out]
  clear hW
  go_wp2_with fail
  go_fit A0
  rintro _ w1 ⟨a1, c1, a2, c2, xs, ko, kc, rfl, mx, _, _, _, _, _, k1⟩
  have HX1 : Hid (xs.length = 1) := by
    have h := congrArg List.length mx
    rw [List.length_map] at h
    exact h
  have K1 : Hid (Kept Nil W w1) := k1
  clear mx k1 A0
  unfold rrV
  dsimp only [List.length_nil]
  rw [HX1.out]
  clear HX1
  obtain ⟨w2, hw2⟩ : ∃ w2, w2 = (w1.alloc (.cells #[.slice a1 0 c1, .slice a2 1 c2, .int .i64 0] 70)).alloc (.cells #[.int .i64 1, .string (bs []), .int .i64 7, .slice ko 0 kc] 55) := ⟨_, rfl⟩
  have HL2 : Hid (LI w Tb ps0 es0 tm0 ap0 sa0 cp0 cs0 w2) := HLW.out.next (by rw [hw2]; exact (K1.out.alloc _).alloc _)
  go_wp2_with fail
  rw [← hw2]
  clear hw2 K1 HLW KW
  go_loopg [9] qs.length (fun g s9 wr => ∃ k : Nat, ∃ ps es tm ap sa cp cs, k ≤ qs.length ∧ g = qs.length - k ∧ s9 = .int .i64 k ∧ Hid (LI w Tb ps es tm ap sa cp cs wr))
  case atStart => exact ⟨0, ps0, es0, tm0, ap0, sa0, cp0, cs0, Nat.zero_le _, rfl, rfl, HL2.out⟩
  case round =>
    obtain ⟨k, ps, es, tm, ap, sa, cp, cs, hk, rfl, rfl, HL⟩ := hrel
    clear HL2
    rename World => wr
    by_cases hlt : k < qs.length
    · have hki : (k : Int) < qs.length := by omega
      obtain ⟨ss, HSS⟩ : ∃ ss, Hid (ss = es.map Se.s) := ⟨_, rfl⟩
      have HSL : Hid (ss.length = es.length) := by show _ = _; rw [HSS.out, List.length_map]
      have PT := fun (G : Nat → Prop) (Z : World) (hP : PIn G Z ap cp ps) (hS : SIn G Z sa cs es) => refPutTable_any Z.heap.size cp cs tm ap sa ps (es.map Se.s) Z hP.row hS.row.sess (by have := HL.out.lp; omega) (by rw [List.length_map]; have := HL.out.ls; omega)
      rw [← HSS.out, HSL.out] at PT
      obtain ⟨st, sc, HST⟩ : ∃ st sc, Hid (putTab tm ps ss = (st, sc)) := ⟨_, _, rfl⟩
      rw [HST.out] at PT
      obtain ⟨t0, t1, t2, _, _, _⟩ := tab_cells HL.out.blk
      have PT1 := PT _ wr HL.out.p HL.out.s
      go_upto_region 7 with fail
      go_wp2_with fail
      go_fit PT1
      rintro _ w1 ⟨rfl, k1⟩
      have HL1 : Hid (LI w Tb ps es tm ap sa cp cs w1) := HL.out.next k1
      have K1 : Hid (Kept Nil wr w1) := k1
      clear k1 PT1 t0 t1 t2
      dsimp only
      obtain ⟨a, hqa, hab, c0, c1', c2', c3, c4, c5, c6, l1, l2⟩ := (HQw.out.nil HL1.out.kept) k hlt
      have HLq : Hid (qs[k].key.length ≤ maxLen ∧ qs[k].val.length ≤ maxLen) := ⟨l1, l2⟩
      obtain ⟨y, HY⟩ : ∃ y : Rq, Hid (y = qs[k]) := ⟨qs[k], (rfl : qs[k] = qs[k])⟩
      rw [← HY.out] at c0 c1' c2' c3 c4 c5 c6 HLq
      subst hqa
      clear l1 l2
      obtain ⟨iz, HIZ⟩ : ∃ iz, Hid (iz = IntKind.i64.wrap (ix + (k : Int))) := ⟨_, rfl⟩
      have hiz : IntKind.i64.wrap (ix + (k : Int)) = iz := HIZ.out.symm
      obtain ⟨R, HR⟩ : ∃ R, Hid (R = sesT ps ss tm y.cl y.nm y.kd y.key y.val y.ifv y.tm iz) := ⟨_, rfl⟩
      have SA := fun (Z : World) (hZ : Kept Nil w1 Z) => ses_any Z.heap.size cp cs tm y.cl y.nm y.kd y.ifv y.tm iz y.key y.val ap sa ps es Z (HL1.out.next hZ).p.row (HL1.out.next hZ).s.row HL.out.p.non HL.out.s.non (by have := HL.out.lp; omega) (by have := HL.out.ls; omega) (Nat.le_refl _) HLq.out.1 HLq.out.2
      have RA := fun (w2 Z : World) (hZ : Kept Nil w1 Z) (hw : w2.heap.size ≤ Z.heap.size) (h12 : w1.heap.size ≤ w2.heap.size) => refRun_any (Gk Tb w1.heap.size Z.heap.size) cp cs tm y.cl y.nm y.kd y.ifv y.tm iz y.key y.val ap sa ps es Z ((HL1.out.p.mono (fun q hq hg => ⟨hg, .inl hq⟩)).kept hZ) ((HL1.out.s.mono (fun q hq hg => ⟨hg, .inl hq⟩)).kept hZ) (fun q hq => ⟨by have := lt_of_block HL1.out.blk; omega, .inr hq⟩) (by have := HL.out.lp; omega) (by have := HL.out.ls; omega) HLq.out.1 HLq.out.2
      have HSE : Hid (R.1.length ≤ max ps.length 33 ∧ R.2.1.length ≤ max ss.length 9) := by rw [HR.out]; exact sesT_len
      rw [← HSS.out, ← HR.out] at SA RA
      obtain ⟨P1, S1, TM, rk, rv, rn, rks⟩ := R
      have HPL : Hid (P1.length ≤ 3518437208780) := by have h := HSE.out.1; have := HL.out.lp; show _ ≤ _; dsimp only at h; omega
      have HSL1 : Hid (S1.length ≤ 1759218604390) := by have h := HSE.out.2; have := HL.out.ls; have := HSL.out; show _ ≤ _; dsimp only at h; omega
      obtain ⟨t0, t1, t2, _, _, _⟩ := tab_cells HL1.out.blk
      have lT : Tb < w1.heap.size := lt_of_block HL1.out.blk
      have la : a.block < w1.heap.size := Nat.lt_of_lt_of_le hab HL1.out.kept.size
      have la2 : (a.add (k * 7)).block < w1.heap.size := by rw [add_block]; exact la
      go_upto_region 8 with fail
      go_cut [12, 13] (fun s12 s13 wc => ∃ a1 c1 a2 c2 xs ko kc ua ur, s12 = .pointer (some ⟨ua, 0, none⟩) ∧ s13 = .pointer (some ⟨ur, 0, none⟩) ∧ Hid (wc.heap[ua]? = some (.cells #[.slice a1 P1.length c1, .slice a2 S1.length c2, .int .i64 TM] 70 (0, 0))) ∧ Hid (wc.heap[ur]? = some (.cells #[.int .i64 rk, .string (bs rv), .int .i64 rn, .slice ko rks.length kc] 55 (0, 0))) ∧ Hid (UT w1 P1 S1 rks a1 a2 ko c1 c2 kc xs wc))
      case first =>
        refine region8_any Tb k qs.length cq ps.length cp es.length cs a ap sa ix iz tm y w1 (fun Z a1 n1 c1 a2 n2 c2 tz rk2 rv2 rn2 ko kn kc X => (P1.length = n1 ∧ S1.length = n2 ∧ TM = tz ∧ rk = rk2 ∧ rv = rv2 ∧ rn = rn2 ∧ rks.length = kn) ∧ ∃ xs, xs.map Se.s = S1 ∧ OwnP Z.heap.size X a1 c1 P1 ∧ OwnE Z.heap.size X a2 c2 xs ∧ OwnKs Z.heap.size X xs ∧ OwnK Z.heap.size X ko kc rks ∧ Apart xs ko rks.length kc) _ _ _ _ _ _ _ _ _ _ _ _ _ _ _ _ _ _ _ _ _ _ _ _ _ _ _ _ _ _ _ _ _ _ _ _ _ _ _ _ _ _ _ _ _ _ _ _ _ _ _ _ _ _ _ _ _ _ _ _ _ _ _ _ _ _ _ _ _ _ _ _ _ _ _ _ _ _ _ _ _ _ _ _ _ _ _ _ _ _ _ _ _ _ _ _ _ _ _ _ _ _ _ _ _ _ _ _ _ _ _ _ _ _ _ _ _ _ _ ?_ ?_ t0 t1 t2 c0 c1' c2' c3 c4 c5 c6 lT la2 hki hiz
        · intro u51 u52 u53 u54 u55 u56 u57 u58 u59 u60 u61 u62 Z w3 wc ua ur a1 n1 c1 a2 n2 c2 tz rk2 rv2 rn2 ko kn kc h1 h2 h3 h4 h5 h6 h7
          obtain ⟨⟨rfl, rfl, rfl, rfl, rfl, rfl, rfl⟩, xs, mx, o1, o2, o3, o4, o5⟩ := h3.out
          have HU : Hid (UT w1 P1 S1 rks a1 a2 ko c1 c2 kc xs wc) := ut_end h1.out h2.out h6.out h7.out mx o1 o2 o3 o4 o5
          clear mx o1 o2 o3 o4 o5 h1 h2 h3 h6 h7 t0 t1 t2 c0 c1' c2' c3 c4 c5 c6
          (try dsimp only)
          go_wp2
          go_meet
          exact ⟨a1, c1, a2, c2, xs, ko, kc, ua, ur, rfl, rfl, h4.out, h5.out, HU.out⟩
        · intro Z hZ
          refine (SA Z hZ).mono ?_
          rintro e Z' ⟨a1, c1, a2, c2, xs, ko, kc, rfl, mx, o1, o2, o3, o4, o5, k3⟩
          exact ⟨a1, P1.length, c1, a2, xs.length, c2, TM, rk, rv, rn, ko, rks.length, kc, rfl, ⟨⟨rfl, by have h := congrArg List.length mx; rw [List.length_map] at h; exact h.symm, rfl, rfl, rfl, rfl, rfl⟩, xs, mx, o1, o2, o3, o4, o5⟩, k3⟩
      case rest =>
        obtain ⟨a1, c1, a2, c2, xs, ko, kc, ua, ur, rfl, rfl, HUa, HUr, HU⟩ := hcut
        rename World => w2
        have K12 : Hid (Kept Nil w1 w2) := HU.out.kept
        obtain ⟨e0, e1, e2, e3, e4, e5, e6⟩ : w2.cell? (a.add (k * 7)) = some (.int .i64 y.cl) ∧ w2.cell? ⟨(a.add (k * 7)).block, (a.add (k * 7)).off + 1, none⟩ = some (.int .i64 y.nm) ∧ w2.cell? ⟨(a.add (k * 7)).block, (a.add (k * 7)).off + 2, none⟩ = some (.int .i64 y.kd) ∧ w2.cell? ⟨(a.add (k * 7)).block, (a.add (k * 7)).off + 3, none⟩ = some (.string (bs y.key)) ∧ w2.cell? ⟨(a.add (k * 7)).block, (a.add (k * 7)).off + 4, none⟩ = some (.string (bs y.val)) ∧ w2.cell? ⟨(a.add (k * 7)).block, (a.add (k * 7)).off + 5, none⟩ = some (.int .i64 y.ifv) ∧ w2.cell? ⟨(a.add (k * 7)).block, (a.add (k * 7)).off + 6, none⟩ = some (.int .i64 y.tm) := ⟨cell_kept K12.out (fun _ x => x) c0, cell_kept K12.out (fun _ x => x) c1', cell_kept K12.out (fun _ x => x) c2', cell_kept K12.out (fun _ x => x) c3, cell_kept K12.out (fun _ x => x) c4, cell_kept K12.out (fun _ x => x) c5, cell_kept K12.out (fun _ x => x) c6⟩
        clear t0 t1 t2 c0 c1' c2' c3 c4 c5 c6 SA
        obtain ⟨t0, t1, t2, _, _, _⟩ := tab_cells (HL1.out.next K12.out).blk
        have lT2 : Tb < w2.heap.size := Nat.lt_of_lt_of_le lT K12.out.size
        have la4 : (a.add (k * 7)).block < w2.heap.size := Nat.lt_of_lt_of_le la2 K12.out.size
        go_upto_region 9 with fail
        go_cut [14, 15] (fun s14 s15 wc => ∃ b1 d1 b2 d2 zs jo jc va vr, s14 = .pointer (some ⟨va, 0, none⟩) ∧ s15 = .pointer (some ⟨vr, 0, none⟩) ∧ Hid (wc.heap[va]? = some (.cells #[.slice b1 P1.length d1, .slice b2 S1.length d2, .int .i64 TM] 70 (0, 0))) ∧ Hid (wc.heap[vr]? = some (.cells #[.int .i64 rk, .string (bs rv), .int .i64 rn, .slice jo rks.length jc] 55 (0, 0))) ∧ Hid (zs.map Se.s = S1) ∧ Hid (PIn (Gk Tb w1.heap.size w2.heap.size) wc b1 d1 P1) ∧ Hid (SIn (Gk Tb w1.heap.size w2.heap.size) wc b2 d2 zs) ∧ Hid (KIn (Gk Tb w1.heap.size w2.heap.size) wc jo jc rks) ∧ Hid (Kept Nil w2 wc) ∧ Hid (w2.heap.size ≤ va))
        case first =>
          refine region9_any Tb k qs.length cq ps.length cp es.length cs a ap sa ix iz tm y w2 (fun Z a1 n1 c1 a2 n2 c2 tz rk2 rv2 rn2 ko kn kc X => (P1.length = n1 ∧ S1.length = n2 ∧ TM = tz ∧ rk = rk2 ∧ rv = rv2 ∧ rn = rn2 ∧ rks.length = kn) ∧ ∃ zs, zs.map Se.s = S1 ∧ PIn (Gk Tb w1.heap.size Z.heap.size) X a1 c1 P1 ∧ SIn (Gk Tb w1.heap.size Z.heap.size) X a2 c2 zs ∧ KIn (Gk Tb w1.heap.size Z.heap.size) X ko kc rks) _ _ _ _ _ _ _ _ _ _ _ _ _ _ _ _ _ _ _ _ _ _ _ _ _ _ _ _ _ _ _ _ _ _ _ _ _ _ _ _ _ _ _ _ _ _ _ _ _ _ _ _ _ _ _ _ _ _ _ _ _ _ _ _ _ _ _ _ _ _ _ _ _ _ _ _ _ _ _ _ _ _ _ _ _ _ _ _ _ _ _ _ _ _ _ _ _ _ _ _ _ _ _ _ _ _ _ _ _ _ _ _ _ _ _ _ _ _ _ ?_ ?_ t0 t1 t2 e0 e1 e2 e3 e4 e5 e6 lT2 la4 hki hiz
          · intro u63 u64 u65 u66 u67 u68 u69 u70 u71 u72 u73 u74 Z w3 wc va vr b1 n1 d1 b2 n2 d2 tz rk2 rv2 rn2 jo kn jc h1 h2 h3 h4 h5 h6 h7
            obtain ⟨⟨rfl, rfl, rfl, rfl, rfl, rfl, rfl⟩, zs, mz, qp, qs', qk⟩ := h3.out
            have QP : Hid (PIn (Gk Tb w1.heap.size w2.heap.size) wc b1 d1 P1) := pin_end qp K12.out.size h1.out h6.out h7.out
            have QS : Hid (SIn (Gk Tb w1.heap.size w2.heap.size) wc b2 d2 zs) := sin_end qs' K12.out.size h1.out h6.out h7.out
            have QK : Hid (KIn (Gk Tb w1.heap.size w2.heap.size) wc jo jc rks) := kin_end qk K12.out.size h1.out h6.out h7.out
            have MZ : Hid (zs.map Se.s = S1) := mz
            have K2c : Hid (Kept Nil w2 wc) := Kept.ofNew (h1.out.trans h2.out) h6.out (fun q _ hx => by have h9 := h7.out; rcases hx with h | h <;> omega)
            have HVA : Hid (w2.heap.size ≤ va) := h7.out.1
            clear mz qp qs' qk h1 h2 h3 h6 h7 t0 t1 t2 e0 e1 e2 e3 e4 e5 e6
            (try dsimp only)
            go_wp2
            go_meet
            exact ⟨b1, d1, b2, d2, zs, jo, jc, va, vr, rfl, rfl, h4.out, h5.out, MZ.out, QP.out, QS.out, QK.out, K2c.out, HVA.out⟩
          · intro Z hZ
            refine (RA w2 Z (K12.out.trans hZ) hZ.size K12.out.size).mono ?_
            rintro e Z' ⟨b1, d1, b2, d2, zs, jo, jc, rfl, mz, qp, qs', qk, k3⟩
            exact ⟨b1, P1.length, d1, b2, zs.length, d2, TM, rk, rv, rn, jo, rks.length, jc, rfl, ⟨⟨rfl, by have h := congrArg List.length mz; rw [List.length_map] at h; exact h.symm, rfl, rfl, rfl, rfl, rfl⟩, zs, mz, qp, qs', qk⟩, k3⟩
        case rest =>
          obtain ⟨b1, d1, b2, d2, zs, jo, jc, va, vr, rfl, rfl, HVa, HVr, MZ, QP, QS, QK, K23, HVA⟩ := hcut
          rename World => w3
          clear t0 t1 t2 e0 e1 e2 e3 e4 e5 e6 RA hiz hki lT2 la4 la la2
          have HU3 : Hid (UT w1 P1 S1 rks a1 a2 ko c1 c2 kc xs w3) := HU.out.next K23.out
          have HPG : Hid (PIn (Gk Tb w1.heap.size w2.heap.size) w3 ap cp ps) := (HL1.out.p.mono (fun q hq hg => ⟨hg, .inl hq⟩)).kept (K12.out.trans K23.out)
          have HSG : Hid (SIn (Gk Tb w1.heap.size w2.heap.size) w3 sa cs es) := (HL1.out.s.mono (fun q hq hg => ⟨hg, .inl hq⟩)).kept (K12.out.trans K23.out)
          have HT3 : Hid (w3.heap[Tb]? = some (.cells #[.slice ap ps.length cp, .slice sa es.length cs, .int .i64 tm] 70 (0, 0))) := (HL1.out.next (K12.out.trans K23.out)).blk
          have HUa3 : Hid (w3.heap[ua]? = some (.cells #[.slice a1 P1.length c1, .slice a2 S1.length c2, .int .i64 TM] 70 (0, 0))) := K23.out.block _ _ HUa.out (fun x => x.elim)
          have HUr3 : Hid (w3.heap[ur]? = some (.cells #[.int .i64 rk, .string (bs rv), .int .i64 rn, .slice ko rks.length kc] 55 (0, 0))) := K23.out.block _ _ HUr.out (fun x => x.elim)
          have HFit : Hid (Fit P1) := QP.out.row.fit
          have HSf : Hid (SFit S1) := QS.out.sfit MZ.out
          have HRb : Hid (rks.length ≤ 8796093022200) := QK.out.len
          have HKB : Hid (∀ g, (Value.slice ko rks.length kc).ownBlock = some g → w1.heap.size ≤ g ∧ g < w2.heap.size) := fun g hg => World.ownsRow.lt HU.out.or g hg
          have HPB : Hid (∀ g, (Value.slice a1 P1.length c1).ownBlock = some g → g < w2.heap.size) := fun g hg => (World.ownsRow.lt HU.out.op g hg).2
          have HEB : Hid (∀ g, (Value.slice a2 xs.length c2).ownBlock = some g → g < w2.heap.size) := fun g hg => (World.ownsRow.lt HU.out.oe g hg).2
          have HQB : Hid (∀ e ∈ xs, ∀ g, (Value.slice e.ao e.s.ks.length e.c).ownBlock = some g → g < w2.heap.size) := fun e he g hg => (World.ownsRow.lt (HU.out.ok e he) g hg).2
          clear HUa HUr
          have ST := fun (X : World) (op : OwnP w1.heap.size X a1 c1 P1) (oe : OwnE w1.heap.size X a2 c2 xs) (ok : OwnKs w1.heap.size X xs) (vp : PIn (Gk Tb w1.heap.size w2.heap.size) X b1 d1 P1) (vs : SIn (Gk Tb w1.heap.size w2.heap.size) X b2 d2 zs) => sameTable_any X.heap.size c1 d1 c2 d2 TM a1 b1 a2 b2 P1 S1 X (u_rows op oe ok HU.out.same HFit.out HSf.out).1 vp.row (u_rows op oe ok HU.out.same HFit.out HSf.out).2 (by have h := vs.row.sess; rw [MZ.out] at h; exact h) (by have := HPL.out; omega) (by have := HSL1.out; omega)
          obtain ⟨x0, x1, x2, _, _, _⟩ := tab_cells HUa3.out
          obtain ⟨v0, v1, v2, _, _, _⟩ := tab_cells HVa.out
          have ST3 := ST w3 HU3.out.op HU3.out.oe HU3.out.ok QP.out QS.out
          go_upto_region 10 with fail
          go_wp2_with fail
          go_fit ST3
          rintro _ w4 ⟨rfl, k4⟩
          have K4 : Hid (Kept Nil w3 w4) := k4
          clear k4 ST3 x0 x1 x2 v0 v1 v2
          have HUr4 : Hid (w4.heap[ur]? = some (.cells #[.int .i64 rk, .string (bs rv), .int .i64 rn, .slice ko rks.length kc] 55 (0, 0))) := K4.out.block _ _ HUr3.out (fun x => x.elim)
          have HVr4 : Hid (w4.heap[vr]? = some (.cells #[.int .i64 rk, .string (bs rv), .int .i64 rn, .slice jo rks.length jc] 55 (0, 0))) := K4.out.block _ _ HVr.out (fun x => x.elim)
          obtain ⟨x0, x1, x2, x3, _, _, _, _⟩ := res_cells HUr4.out
          obtain ⟨v0, v1, v2, v3, _, _, _, _⟩ := res_cells HVr4.out
          have SR4 := sameResult_any w4.heap.size kc jc rk rn rv ko jo rks w4 ((HU3.out.next K4.out).or.row QK.out.fits) (QK.out.kept K4.out).row (by have := HRb.out; omega)
          go_upto_region 11 with fail
          go_wp2_with fail
          go_fit SR4
          rintro _ w5 ⟨rfl, k5⟩
          have K5 : Hid (Kept Nil w3 w5) := K4.out.trans k5
          clear k5 SR4 x0 x1 x2 x3 v0 v1 v2 v3 HUr4 HVr4 K4
          have HT5 : Hid (w5.heap[Tb]? = some (.cells #[.slice ap ps.length cp, .slice sa es.length cs, .int .i64 tm] 70 (0, 0))) := K5.out.block _ _ HT3.out (fun x => x.elim)
          obtain ⟨t0, t1, t2, _, _, _⟩ := tab_cells HT5.out
          have PT5 := PT _ w5 (HPG.out.kept K5.out) (HSG.out.kept K5.out)
          go_upto_region 12 with fail
          go_wp2_with fail
          go_fit PT5
          rintro _ w6 ⟨rfl, k6⟩
          have K6 : Hid (Kept Nil w3 w6) := K5.out.trans k6
          clear k6 PT5 t0 t1 t2 HT5 K5
          dsimp only
          have HU6 : Hid (UT w1 P1 S1 rks a1 a2 ko c1 c2 kc xs w6) := HU3.out.next K6.out
          have HUr6 : Hid (w6.heap[ur]? = some (.cells #[.int .i64 rk, .string (bs rv), .int .i64 rn, .slice ko rks.length kc] 55 (0, 0))) := K6.out.block _ _ HUr3.out (fun x => x.elim)
          have HUa6 : Hid (w6.heap[ua]? = some (.cells #[.slice a1 P1.length c1, .slice a2 S1.length c2, .int .i64 TM] 70 (0, 0))) := K6.out.block _ _ HUa3.out (fun x => x.elim)
          have x3 : w6.cell? ⟨ur, 3, none⟩ = some (.slice ko rks.length kc) := blk_at HUr6.out 3 rfl
          have OT6 := overTexts2_any w1.heap.size kc rks.length ko _ w6 HU6.out.or (Nat.le_trans K12.out.size (Nat.le_trans K23.out.size K6.out.size)) HRb.out
          go_upto_region 15 with fail
          go_wp2_with fail
          go_fit OT6
          rintro _ w7 ⟨rfl, g7, _⟩
          have K7 : Hid (Kept (Rng w1.heap.size w2.heap.size) w6 w7) := Kept.rng g7 HKB.out
          have HO7 : Hid (OwnP w1.heap.size w7 a1 c1 P1 ∧ OwnE w1.heap.size w7 a2 c2 xs ∧ OwnKs w1.heap.size w7 xs) := HU6.out.over g7
          have HUa7 : Hid (w7.heap[ua]? = some (.cells #[.slice a1 P1.length c1, .slice a2 S1.length c2, .int .i64 TM] 70 (0, 0))) := grown_other g7 HU6.out.or HUa6.out (by decide)
          have K37 : Hid (Kept (Rng w1.heap.size w2.heap.size) w3 w7) := (K6.out.mono (fun _ _ x => x.elim)).trans K7.out
          clear g7 OT6 x3 HUr6 HUa6 HU6 K6 K7
          have HVa7 : Hid (w7.heap[va]? = some (.cells #[.slice b1 P1.length d1, .slice b2 S1.length d2, .int .i64 TM] 70 (0, 0))) := K37.out.block _ _ HVa.out (fun x => by have h1 := HVA.out; have h2 : va < w2.heap.size := x.2; omega)
          have QP7 : Hid (PIn (Gk Tb w1.heap.size w2.heap.size) w7 b1 d1 P1) := QP.out.far K37.out (fun q o hq => gk_rng hq)
          have QS7 : Hid (SIn (Gk Tb w1.heap.size w2.heap.size) w7 b2 d2 zs) := QS.out.far K37.out (fun q o hq => gk_rng hq)
          obtain ⟨x0, x1, x2, _, _, _⟩ := tab_cells HUa7.out
          obtain ⟨v0, v1, v2, _, _, _⟩ := tab_cells HVa7.out
          have ST7 := ST w7 HO7.out.1 HO7.out.2.1 HO7.out.2.2 QP7.out QS7.out
          go_upto_region 16 with fail
          go_wp2_with fail
          go_fit ST7
          rintro _ w8 ⟨rfl, k8⟩
          have K8 : Hid (Kept Nil w7 w8) := k8
          clear k8 ST7 ST x0 x1 x2 v0 v1 v2
          have HUa8 : Hid (w8.heap[ua]? = some (.cells #[.slice a1 P1.length c1, .slice a2 S1.length c2, .int .i64 TM] 70 (0, 0))) := K8.out.block _ _ HUa7.out (fun x => x.elim)
          obtain ⟨x0, x1, x2, _, _, _⟩ := tab_cells HUa8.out
          have hxl : xs.length = S1.length := HU.out.len
          have OB := overTable_any w1.heap.size w2.heap.size c1 c2 TM a1 a2 P1 xs w8 (HO7.out.1.kept K8.out) (HO7.out.2.1.kept K8.out) (HO7.out.2.2.kept K8.out) K12.out.size (Nat.le_trans K23.out.size (Nat.le_trans K37.out.size K8.out.size)) HPB.out HEB.out HQB.out HPL.out (by rw [hxl]; exact HSL1.out) (fun e he => (HSf.out e.s (by rw [← HU.out.same]; exact List.mem_map_of_mem he)).1)
          rw [hxl] at OB
          clear hxl
          go_upto_region 17 with fail
          go_wp2_with fail
          go_fit OB
          rintro _ w9 ⟨rfl, k9⟩
          have K39 : Hid (Kept (Rng w1.heap.size w2.heap.size) w3 w9) := (K37.out.trans (K8.out.mono (fun _ _ x => x.elim))).trans k9
          clear k9 OB x0 x1 x2 HUa8 K8 K37 HVa7 QP7 QS7 HUa7 HO7
          have HT9 : Hid (w9.heap[Tb]? = some (.cells #[.slice ap ps.length cp, .slice sa es.length cs, .int .i64 tm] 70 (0, 0))) := K39.out.block _ _ HT3.out (fun x => by have h2 : w1.heap.size ≤ Tb := x.1; omega)
          obtain ⟨t0, t1, t2, _, _, _⟩ := tab_cells HT9.out
          have PT9 := PT _ w9 (HPG.out.far K39.out (fun q o hq => gk_rng hq)) (HSG.out.far K39.out (fun q o hq => gk_rng hq))
          go_upto_region 18 with fail
          go_wp2_with fail
          go_fit PT9
          rintro _ w10 ⟨rfl, k10⟩
          have K310 : Hid (Kept (Rng w1.heap.size w2.heap.size) w3 w10) := K39.out.trans (k10.mono (fun _ _ x => x.elim))
          clear k10 PT9 t0 t1 t2 HT9 K39 PT
          dsimp only
          have HT10 : Hid (w10.heap[Tb]? = some (.cells #[.slice ap ps.length cp, .slice sa es.length cs, .int .i64 tm] 70 (0, 0))) := K310.out.block _ _ HT3.out (fun x => by have h2 : w1.heap.size ≤ Tb := x.1; omega)
          have HVa10 : Hid (w10.heap[va]? = some (.cells #[.slice b1 P1.length d1, .slice b2 S1.length d2, .int .i64 TM] 70 (0, 0))) := K310.out.block _ _ HVa.out (fun x => by have h1 := HVA.out; have h2 : va < w2.heap.size := x.2; omega)
          have QP10 : Hid (PIn (Gk Tb w1.heap.size w2.heap.size) w10 b1 d1 P1) := QP.out.far K310.out (fun q o hq => gk_rng hq)
          have QS10 : Hid (SIn (Gk Tb w1.heap.size w2.heap.size) w10 b2 d2 zs) := QS.out.far K310.out (fun q o hq => gk_rng hq)
          have Kw10 : Hid (Kept Nil w w10) := Kept.ofNew (HL1.out.kept.trans (K12.out.trans K23.out)) K310.out (fun q _ hx => Nat.le_trans HL1.out.kept.size hx.1)
          obtain ⟨t0, t1, t2, tz0, tz1, tz2⟩ := tab_cells HT10.out
          obtain ⟨v0, v1, v2, _, _, _⟩ := tab_cells HVa10.out
          have hTV : Tb ≠ va := by have h1 := HVA.out; have h2 := K12.out.size; omega
          have hVT : va ≠ Tb := fun e => hTV e.symm
          obtain ⟨Y, hY⟩ : ∃ Y, Y = ((w10.setCell ⟨Tb, 0, none⟩ (.slice b1 P1.length d1)).setCell ⟨Tb, 1, none⟩ (.slice b2 S1.length d2)).setCell ⟨Tb, 2, none⟩ (.int .i64 TM) := ⟨_, rfl⟩
          have HLY : Hid (LI w Tb P1 zs TM b1 b2 d1 d2 Y) := by
            have KT : Kept (One Tb) w10 Y := by rw [hY]; exact (((Kept.refl _ _).setCell (p := ⟨Tb, 0, none⟩) (fun _ => rfl) _).setCell (p := ⟨Tb, 1, none⟩) (fun _ => rfl) _).setCell (p := ⟨Tb, 2, none⟩) (fun _ => rfl) _
            have hzl : zs.length = S1.length := by rw [← MZ.out, List.length_map]
            refine ⟨?_, (QP10.out.far KT (fun q o hq hx => hq.1 hx)).mono (fun q _ hq => hq.1), (QS10.out.far KT (fun q o hq hx => hq.1 hx)).mono (fun q _ hq => hq.1), HPL.out, by rw [hzl]; exact HSL1.out, Kept.ofNew Kw10.out KT (fun q _ hx => by have h1 : q = Tb := hx; rw [h1, HTe.out]; exact Nat.le_refl _)⟩
            rw [hY, hzl]
            exact blk_set (blk_set (blk_set HT10.out 0 _) 1 _) 2 _
          go_upto_region 21 with fail
          go_wp2
          rw [← hY]
          clear hY
          go_roundg (qs.length - (k + 1))
          case measure => omega
          case rel => exact ⟨k + 1, P1, zs, TM, b1, b2, d1, d2, by omega, rfl, by go_num, HLY.out⟩
    · obtain rfl : k = qs.length := by omega
      go_wp2
      go_ret
      exact ⟨rfl, HL.out.kept⟩

end Go.Proofs.Ytblmmbghnkplkaa
