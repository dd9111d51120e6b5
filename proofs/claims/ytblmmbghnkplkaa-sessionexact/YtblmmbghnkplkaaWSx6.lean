/-
  SessionExact: the document's Run.
-/
import Derived.Test.YtblmmbghnkplkaaWSx5
import Derived.Deep.DeepCutAuto
import Derived.Deep.DeepFit
import Derived.Test.YtblmmbghnkplkaaWReqK
import Derived.Test.YtblmmbghnkplkaaWTab6
namespace Go.Proofs.Ytblmmbghnkplkaa
open Go.RowKit

theorem filt_snoc {P : Ss → Bool} {ss : List Ss} {k : Nat} (h : k < ss.length) : (ss.take (k + 1)).filter P = (ss.take k).filter P ++ (if P ss[k] = true then [ss[k]] else []) := by
  rw [List.take_succ_eq_append_getElem h, List.filter_append, List.filter_cons]
  split <;> simp [*]

set_option maxRecDepth 100000 in
set_option maxHeartbeats 8000000 in
theorem refRun_any (G : Nat → Prop) (cp cs : Nat) (tm cl nu kd m tq ix : Int) (key val : List UInt8) (ap sa : Option Addr) (ps : List Pr) (es : List Se) (w : World) (hp : PIn G w ap cp ps) (hs : SIn G w sa cs es) (hG : ∀ k, w.heap.size ≤ k → G k) (hlp : (ps.length : Int) ≤ 3518437208780) (hls : es.length ≤ 1759218604441) (hkey : key.length ≤ maxLen) (hval : val.length ≤ maxLen) :
    Calls Try.prog 48 #[.agg #[.slice ap ps.length cp, .slice sa es.length cs, .int .i64 tm], .agg #[.int .i64 cl, .int .i64 nu, .int .i64 kd, .string (bs key), .string (bs val), .int .i64 m, .int .i64 tq], .int .i64 ix] w (RunPost G w (sesT ps (es.map Se.s) tm cl nu kd key val m tq ix)) := by
  obtain ⟨i0, hi, hz0, hz1, hz2⟩ := info_parts Try.infoSe
  obtain ⟨ss, HSS⟩ : ∃ ss, Hid (ss = es.map Se.s) := ⟨_, rfl⟩
  rw [← HSS.out]
  have HSL : Hid (ss.length = es.length) := by show _ = _; rw [HSS.out, List.length_map]
  obtain ⟨R, HR⟩ : ∃ R, Hid (R = sesT ps ss tm cl nu kd key val m tq ix) := ⟨_, rfl⟩
  rw [← HR.out]
  obtain ⟨W, hW⟩ : ∃ W, W = (((w.alloc (.cells #[.slice ap ps.length cp, .slice sa es.length cs, .int .i64 tm] 70)).alloc (.cells #[.int .i64 cl, .int .i64 nu, .int .i64 kd, .string (bs key), .string (bs val), .int .i64 m, .int .i64 tq] 75)).alloc (.cells #[.slice none 0 0, .slice none 0 0, .int .i64 0] 70)).alloc (.cells #[.int .i64 0, .string ⟨#[]⟩, .int .i64 0, .slice none 0 0] 55) := ⟨_, rfl⟩
  obtain ⟨Tb, HTe⟩ : ∃ Tb, Hid (Tb = w.heap.size) := ⟨_, rfl⟩
  obtain ⟨Q, HQe⟩ : ∃ Q, Hid (Q = w.heap.size + 1) := ⟨_, rfl⟩
  obtain ⟨A, HAe⟩ : ∃ A, Hid (A = w.heap.size + 1 + 1) := ⟨_, rfl⟩
  obtain ⟨D, HDe⟩ : ∃ D, Hid (D = w.heap.size + 1 + 1 + 1) := ⟨_, rfl⟩
  have KW : Hid (Kept Nil w W) := by rw [hW]; exact ((((Kept.refl _ _).alloc _).alloc _).alloc _).alloc _
  have hq1 : (w.alloc (.cells #[.slice ap ps.length cp, .slice sa es.length cs, .int .i64 tm] 70)).heap.size = w.heap.size + 1 := by simp
  have hq2 : ((w.alloc (.cells #[.slice ap ps.length cp, .slice sa es.length cs, .int .i64 tm] 70)).alloc (.cells #[.int .i64 cl, .int .i64 nu, .int .i64 kd, .string (bs key), .string (bs val), .int .i64 m, .int .i64 tq] 75)).heap.size = w.heap.size + 1 + 1 := by simp
  have hq3 : (((w.alloc (.cells #[.slice ap ps.length cp, .slice sa es.length cs, .int .i64 tm] 70)).alloc (.cells #[.int .i64 cl, .int .i64 nu, .int .i64 kd, .string (bs key), .string (bs val), .int .i64 m, .int .i64 tq] 75)).alloc (.cells #[.slice none 0 0, .slice none 0 0, .int .i64 0] 70)).heap.size = w.heap.size + 1 + 1 + 1 := by simp
  have HWs : Hid (W.heap.size = w.heap.size + 1 + 1 + 1 + 1) := by rw [hW]; show _ = _; simp
  have HT : Hid (W.heap[Tb]? = some (.cells #[.slice ap ps.length cp, .slice sa es.length cs, .int .i64 tm] 70 (0, 0))) := by rw [hW, HTe.out]; exact blk_past (blk_past (blk_past (blk_new _ _) _) _) _
  have HQ : Hid (W.heap[Q]? = some (.cells #[.int .i64 cl, .int .i64 nu, .int .i64 kd, .string (bs key), .string (bs val), .int .i64 m, .int .i64 tq] 75 (0, 0))) := by rw [hW, HQe.out, ← hq1]; exact blk_past (blk_past (blk_new _ _) _) _
  have HZA : Hid (W.heap[A]? = some (.cells #[.slice none 0 0, .slice none 0 0, .int .i64 0] 70 (0, 0))) := by rw [hW, HAe.out, ← hq2]; exact blk_past (blk_new _ _) _
  have HZD : Hid (W.heap[D]? = some (.cells #[.int .i64 0, .string ⟨#[]⟩, .int .i64 0, .slice none 0 0] 55 (0, 0))) := by rw [hW, HDe.out, ← hq3]; exact blk_new _ _
  have HN : Hid (A ≠ D ∧ w.heap.size ≤ A ∧ w.heap.size ≤ D ∧ Tb ≠ A ∧ Tb ≠ D) := by
    have h1 := HTe.out
    have h2 := HAe.out
    have h3 := HDe.out
    exact ⟨by omega, by omega, by omega, by omega, by omega⟩
  have HLs : Hid (Tb < W.heap.size ∧ Q < W.heap.size ∧ A < W.heap.size ∧ D < W.heap.size ∧ w.heap.size ≤ Tb ∧ w.heap.size ≤ Q ∧ Q ≠ Tb) := ⟨lt_of_block HT.out, lt_of_block HQ.out, lt_of_block HZA.out, lt_of_block HZD.out, by rw [HTe.out]; exact Nat.le_refl _, by rw [HQe.out]; omega, by rw [HTe.out, HQe.out]; omega⟩
  clear hq1 hq2 hq3
  obtain ⟨Gd, HGd⟩ : ∃ Gd : Nat → Prop, Hid (Gd = fun k => G k ∧ (k < w.heap.size ∨ W.heap.size ≤ k)) := ⟨_, rfl⟩
  have HGi : Hid (∀ k, Gd k → G k) := fun k hk => by rw [HGd.out] at hk; exact hk.1
  have HGn : Hid (∀ k, W.heap.size ≤ k → Gd k) := fun k hk => by rw [HGd.out]; exact ⟨hG k (by have := KW.out.size; omega), .inr hk⟩
  have HGx : Hid (∀ k, Gd k → k ≠ Tb ∧ k ≠ A ∧ k ≠ D) := fun k hk => by
    rw [HGd.out] at hk
    have h0 := hk.2
    have h1 := HTe.out
    have h2 := HAe.out
    have h3 := HDe.out
    have h4 := HWs.out
    exact ⟨by omega, by omega, by omega⟩
  have HP : Hid (PIn Gd W ap cp ps) := (hp.mono (fun k hk hg => by rw [HGd.out]; exact ⟨hg, .inl hk⟩)).kept KW.out
  have HS : Hid (SIn Gd W sa cs es) := (hs.mono (fun k hk hg => by rw [HGd.out]; exact ⟨hg, .inl hk⟩)).kept KW.out
  clear hp hs hG HGd
  have PQ := refPutRequest_any cl nu kd m tq key val W hkey hval
  obtain ⟨b, HB⟩ : ∃ b, Hid (b = tabOk tm ps ss) := ⟨_, rfl⟩
  have IT := fun (Y : World) (hY : Kept Nil W Y) => refIsTable_any Y.heap.size cp cs tm ap sa ps (es.map Se.s) Y (HP.out.kept hY).row (HS.out.kept hY).row.sess (by omega) (by rw [List.length_map]; omega)
  rw [← HSS.out, HSL.out, ← HB.out] at IT
  obtain ⟨qc, qt, HQC⟩ : ∃ qc qt, Hid (putReq ⟨cl, nu, kd, key, val, m, tq⟩ = (qt, qc) ∧ (Rq.ok ⟨cl, nu, kd, key, val, m, tq⟩ = true ∧ qc = 0 ∨ Rq.ok ⟨cl, nu, kd, key, val, m, tq⟩ = false ∧ qc = 5)) := by
    cases hrq : Rq.ok ⟨cl, nu, kd, key, val, m, tq⟩ with
    | true => exact ⟨0, _, by unfold putReq; rw [hrq]; rfl, .inl ⟨rfl, rfl⟩⟩
    | false => exact ⟨5, [], by unfold putReq; rw [hrq]; rfl, .inr ⟨rfl, rfl⟩⟩
  rw [HQC.out.1] at PQ
  have q0 : W.cell? ⟨Q, 0, none⟩ = some (.int .i64 cl) := blk_at HQ.out 0 rfl
  have q1 : W.cell? ⟨Q, 1, none⟩ = some (.int .i64 nu) := blk_at HQ.out 1 rfl
  have q2 : W.cell? ⟨Q, 2, none⟩ = some (.int .i64 kd) := blk_at HQ.out 2 rfl
  have q3 : W.cell? ⟨Q, 3, none⟩ = some (.string (bs key)) := blk_at HQ.out 3 rfl
  have q4 : W.cell? ⟨Q, 4, none⟩ = some (.string (bs val)) := blk_at HQ.out 4 rfl
  have q5 : W.cell? ⟨Q, 5, none⟩ = some (.int .i64 m) := blk_at HQ.out 5 rfl
  have q6 : W.cell? ⟨Q, 6, none⟩ = some (.int .i64 tq) := blk_at HQ.out 6 rfl
  go_enter Try.func48, Try.ntmps48
  go_upto_region 1 with fail
  rw [← hW, ← HDe.out, ← HAe.out, ← HQe.out, ← HTe.out]
  clear hW
  go_wp2_with fail
  go_fit PQ
  rintro _ w1 ⟨rfl, k1⟩
  have K1 : Hid (Kept Nil W w1) := k1
  clear k1 PQ q0 q1 q2 q3 q4 q5 q6
  have IT1 := IT w1 K1.out
  have HT1 : Hid (w1.heap[Tb]? = some (.cells #[.slice ap ps.length cp, .slice sa es.length cs, .int .i64 tm] 70 (0, 0))) := K1.out.block _ _ HT.out (fun x => x.elim)
  obtain ⟨t0, t1, t2, _, _, _⟩ := tab_cells HT1.out
  go_wp2_with fail
  go_fit IT1
  rintro _ w2 ⟨rfl, k2⟩
  have K2 : Hid (Kept Nil W w2) := K1.out.trans k2
  clear k2 IT1 IT t0 t1 t2 HT1 K1
  have HT2 : Hid (w2.heap[Tb]? = some (.cells #[.slice ap ps.length cp, .slice sa es.length cs, .int .i64 tm] 70 (0, 0))) := K2.out.block _ _ HT.out (fun x => x.elim)
  rcases HQC.out.2 with ⟨hrq, rfl⟩ | ⟨hrq, rfl⟩
  · cases b with
    | false =>
      have HE : Hid (R = (ps, ss, tm, rr0 5)) := by
        show _ = _
        rw [HR.out]
        unfold sesT
        rw [← HB.out, if_neg (by simp)]
      obtain ⟨t0, t1, t2, _, _, _⟩ := tab_cells HT2.out
      have B6 : Hid (w2.heap[A]? = some (.cells #[.slice none 0 0, .slice none 0 0, .int .i64 0] 70 (0, 0))) := K2.out.block _ _ HZA.out (fun x => x.elim)
      have B7 : Hid (w2.heap[D]? = some (.cells #[.int .i64 0, .string ⟨#[]⟩, .int .i64 0, .slice none 0 0] 55 (0, 0))) := K2.out.block _ _ HZD.out (fun x => x.elim)
      obtain ⟨r0, r1, r2, z0, z1, z2⟩ := tab_cells B6.out
      obtain ⟨s0, s1, s2, s3, y0, y1, y2, y3⟩ := res_cells B7.out
      obtain ⟨V, hV⟩ : ∃ V, V = (((((((w2.setCell ⟨A, 0, none⟩ (.slice ap ps.length cp)).setCell ⟨A, 1, none⟩ (.slice sa es.length cs)).setCell ⟨A, 2, none⟩ (.int .i64 tm)).setCell ⟨D, 0, none⟩ (.int .i64 5)).setCell ⟨D, 1, none⟩ (.string ⟨#[]⟩)).setCell ⟨D, 2, none⟩ (.int .i64 0)).setCell ⟨D, 3, none⟩ (.slice none 0 0)) := ⟨_, rfl⟩
      have HV : Hid (_) := ret_world hV B6.out B7.out HN.out.1 HN.out.2.1 HN.out.2.2.1 (KW.out.trans K2.out)
      obtain ⟨hAD, _, _, hTA, hTD⟩ := HN.out
      have hDA : D ≠ A := fun e => hAD e.symm
      have hAT : A ≠ Tb := fun e => hTA e.symm
      have hDT : D ≠ Tb := fun e => hTD e.symm
      go_wp2
      rw [← hV]
      clear hV
      obtain ⟨j0, j1, j2, _⟩ := tab_cells HV.out.1
      obtain ⟨j3, j4, j5, j6, _⟩ := res_cells HV.out.2.1
      refine bodyPost_ret (v := .tuple #[.agg #[.slice ap ps.length cp, .slice sa es.length cs, .int .i64 tm], rrV (rr0 5) none 0]) (by simp [results, Try.results48, go_sem, rrV, rr0, bs, j0, j1, j2, j3, j4, j5, j6]) rfl ?_
      rw [HE.out]
      exact ⟨ap, cp, sa, cs, es, none, 0, rfl, HSS.out.symm, ((HP.out.kept K2.out).far HV.out.2.2.2 (fun q o hk hx => by have h9 := HGx.out q hk; rcases hx with h | h; exact h9.2.1 h; exact h9.2.2 h)).mono (fun k _ hk => HGi.out k hk), ((HS.out.kept K2.out).far HV.out.2.2.2 (fun q o hk hx => by have h9 := HGx.out q hk; rcases hx with h | h; exact h9.2.1 h; exact h9.2.2 h)).mono (fun k _ hk => HGi.out k hk), KIn.none, HV.out.2.2.1⟩
    | true =>
      have HTF : Hid (_) := tab_facts HB.out.symm
      obtain ⟨TM, HTM⟩ : ∃ TM, Hid (TM = max tm tq) := ⟨_, rfl⟩
      obtain ⟨SF, HSF⟩ : ∃ SF, Hid (SF = ss.filter fun s => !decide (s.sn + 400 < TM)) := ⟨_, rfl⟩
      have HRs : Hid (R = ((runT ps SF TM cl nu kd key val m ix).1, (runT ps SF TM cl nu kd key val m ix).2.1, TM, (runT ps SF TM cl nu kd key val m ix).2.2)) := by
        show _ = _
        rw [HR.out]
        unfold sesT
        rw [← HB.out, if_pos (by rw [hrq]; rfl), HSF.out, HTM.out]
      clear HR hrq
      have HQ2 : Hid (w2.heap[Q]? = some (.cells #[.int .i64 cl, .int .i64 nu, .int .i64 kd, .string (bs key), .string (bs val), .int .i64 m, .int .i64 tq] 75 (0, 0))) := K2.out.block _ _ HQ.out (fun x => x.elim)
      have q6 : w2.cell? ⟨Q, 6, none⟩ = some (.int .i64 tq) := blk_at HQ2.out 6 rfl
      obtain ⟨t0, t1, t2, tz0, tz1, tz2⟩ := tab_cells HT2.out
      go_upto_if 33 with fail
      go_cut [] (fun wc => Hid (wc.heap[Tb]? = some (.cells #[.slice ap ps.length cp, .slice sa es.length cs, .int .i64 TM] 70 (0, 0))) ∧ Hid (Kept (One Tb) w2 wc))
      case first =>
        by_cases hq : tm < tq
        · have hqb : decide (tm < tq) = true := decide_eq_true hq
          have HM2 : Hid (TM = tq) := by show _ = _; rw [HTM.out]; omega
          rw [hqb]
          go_wp2
          go_meet
          exact ⟨by rw [HM2.out]; exact blk_set HT2.out 2 _, (Kept.refl _ _).setCell (p := ⟨Tb, 2, none⟩) (fun _ => rfl) _⟩
        · have hqb : decide (tm < tq) = false := decide_eq_false hq
          have HM2 : Hid (TM = tm) := by show _ = _; rw [HTM.out]; omega
          rw [hqb]
          go_wp2
          go_meet
          exact ⟨by rw [HM2.out]; exact HT2.out, Kept.refl _ _⟩
      case rest =>
        obtain ⟨HT3, KT⟩ := hcut
        rename World => w3
        clear q6 t0 t1 t2 tz0 tz1 tz2
        have HP3 : Hid (PIn Gd w3 ap cp ps) := (HP.out.kept K2.out).far KT.out (fun k o hk hx => (HGx.out k hk).1 hx)
        have HS3 : Hid (SIn Gd w3 sa cs es) := (HS.out.kept K2.out).far KT.out (fun k o hk hx => (HGx.out k hk).1 hx)
        have HQ3 : Hid (w3.heap[Q]? = some (.cells #[.int .i64 cl, .int .i64 nu, .int .i64 kd, .string (bs key), .string (bs val), .int .i64 m, .int .i64 tq] 75 (0, 0))) := KT.out.block _ _ HQ2.out (fun x => HLs.out.2.2.2.2.2.2 x)
        have HA3 : Hid (w3.heap[A]? = some (.cells #[.slice none 0 0, .slice none 0 0, .int .i64 0] 70 (0, 0))) := KT.out.block _ _ (K2.out.block _ _ HZA.out (fun x => x.elim)) (fun x => HN.out.2.2.2.1 (Eq.symm x))
        have HD3 : Hid (w3.heap[D]? = some (.cells #[.int .i64 0, .string ⟨#[]⟩, .int .i64 0, .slice none 0 0] 55 (0, 0))) := KT.out.block _ _ (K2.out.block _ _ HZD.out (fun x => x.elim)) (fun x => HN.out.2.2.2.2 (Eq.symm x))
        have Kw3 : Hid (Kept Nil w w3) := Kept.ofNew (KW.out.trans K2.out) KT.out (fun k _ hx => by have h9 := HLs.out; have : k = Tb := hx; omega)
        have HWz : Hid (W.heap.size ≤ w3.heap.size) := Nat.le_trans K2.out.size KT.out.size
        have hl8 : es.length ≤ 8 := by rw [← HSL.out]; exact HTF.out.2.2.1
        clear HT2 HQ2 HT HQ HZA HZD HP HS
        go_wp2_with fail
        go_loopg [11, 12] es.length (fun g s11 s12 wr => ∃ k : Nat, ∃ o : List Se, ∃ ao' c', k ≤ es.length ∧ g = es.length - k ∧ s11 = .slice ao' o.length c' ∧ s12 = .int .i64 k ∧ o.length ≤ k ∧ Hid (o.map Se.s = (ss.take k).filter fun s => !decide (s.sn + 400 < TM)) ∧ Hid (OwnE w3.heap.size wr ao' c' o) ∧ Hid (∀ e ∈ o, e ∈ es) ∧ Hid (Kept Nil w3 wr))
        case atStart => exact ⟨0, [], none, 0, Nat.zero_le _, rfl, rfl, rfl, by simp, by show _ = _; simp, World.ownsRow_nil _ _ _ _, fun e he => by simp at he, Kept.refl _ _⟩
        case round =>
          obtain ⟨k, o, ao', c', hk, rfl, rfl, rfl, hol, HF, HO, HMo, HKr⟩ := hrel
          rename World => wr
          have HTr : Hid (wr.heap[Tb]? = some (.cells #[.slice ap ps.length cp, .slice sa es.length cs, .int .i64 TM] 70 (0, 0))) := HKr.out.block _ _ HT3.out (fun x => x.elim)
          obtain ⟨t0, t1, t2, tz0, tz1, tz2⟩ := tab_cells HTr.out
          by_cases hlt : k < es.length
          · have hki : (k : Int) < es.length := by omega
            have hss : k < ss.length := by rw [HSL.out]; exact hlt
            obtain ⟨a, rfl, c0, c1, c2, c3, c4, c5, c6⟩ := (HS3.out.kept HKr.out).row.at7 hlt
            obtain ⟨y, HY⟩ : ∃ y : Se, Hid (y = es[k]) := ⟨es[k], (rfl : es[k] = es[k])⟩
            rw [← HY.out] at c0 c1 c2 c3 c4 c5 c6
            have HSk : Hid (ss[k] = y.s) := by
              have h := HSS.out
              subst h
              rw [HY.out]
              show _ = _
              simp
            have HYm : Hid (y ∈ es) := by rw [HY.out]; exact List.getElem_mem hlt
            have hsn := (HTF.out.2.2.2.2 ss[k] (List.getElem_mem hss)).2.1
            rw [HSk.out] at hsn
            have hwr : IntKind.i64.wrap (y.s.sn + 400) = y.s.sn + 400 := by rw [IntKind.wrap_i64]; omega
            have HF2 : Hid (_) := filt_snoc (P := fun s => !decide (s.sn + 400 < TM)) hss
            rw [HSk.out] at HF2
            clear hsn
            by_cases hq : y.s.sn + 400 < TM
            · have hqb : decide (TM ≤ y.s.sn + 400) = false := decide_eq_false (by omega)
              have HF3 : Hid (o.map Se.s = (ss.take (k + 1)).filter fun s => !decide (s.sn + 400 < TM)) := by show _ = _; rw [HF.out, HF2.out, decide_eq_true hq]; simp
              go_wp2_with fail
              go_region
              all_goals
                go_wp2
                go_roundg (es.length - (k + 1))
                case measure => omega
                case rel => exact ⟨k + 1, o, ao', c', by omega, rfl, rfl, by go_num, by omega, HF3.out, HO.out.kept (Kept.refl _ _).drew, HMo.out, HKr.out.drew⟩
            · have hqb : decide (TM ≤ y.s.sn + 400) = true := decide_eq_true (by omega)
              have HF3 : Hid ((o ++ [y]).map Se.s = (ss.take (k + 1)).filter fun s => !decide (s.sn + 400 < TM)) := by show _ = _; rw [List.map_append, HF.out, HF2.out, decide_eq_false hq]; simp
              go_upto_region 11 with fail
              go_region
              all_goals
                obtain ⟨wd, hwd⟩ : ∃ wd, wd = wr.drew := ⟨_, rfl⟩
                have KD : Hid (Kept Nil wr wd) := by rw [hwd]; exact (Kept.refl _ _).drew
                try rw [← hwd]
                have HKd : Hid (Kept Nil w3 wd) := HKr.out.trans KD.out
                have HOO : Hid (wd.ownsRow w3.heap.size 121 7 (.slice ao' o.length c') o.length (seCells o)) := HO.out.kept KD.out
                have HLL : Hid (o.length + 1 ≤ maxLen ∧ (o.length + 1) * 80 ≤ 140737488355328) := by constructor <;> (try unfold maxLen) <;> omega
                have HTd : Hid (wd.heap[Tb]? = some (.cells #[.slice ap ps.length cp, .slice (some a) es.length cs, .int .i64 TM] 70 (0, 0))) := HKd.out.block _ _ HT3.out (fun x => x.elim)
                have t1' : wd.cell? ⟨Tb, 1, none⟩ = some (.slice (some a) es.length cs) := blk_at HTd.out 1 rfl
                obtain ⟨_, ha', e0, e1, e2, e3, e4, e5, e6⟩ := (HS3.out.kept HKd.out).row.at7 hlt
                cases ha'
                rw [← HY.out] at e0 e1 e2 e3 e4 e5 e6
                clear hwd t0 t1 t2 tz0 tz1 tz2 c0 c1 c2 c3 c4 c5 c6
                go_wp2_with (at_builtin; go_must (refine wpList_append_src _ rfl _ _ 68 68 rfl w3.heap.size 121 i0 (.agg #[.int .i64 0, .int .i64 0, .int .i64 0, .string ⟨#[]⟩, .int .i64 0, .slice none 0 0, .int .i64 0]) 7 80 Try.underlying68 hi hz0 hz1 hz2 rfl _ _ _ rfl (World.ownsRow.alloc HOO.out _) (.slice (some ⟨wd.heap.size, 0, none⟩) 1 1) 1 (seCell y) rfl (src_se y) HLL.out.1 HLL.out.2 (le_alloc HKd.out.size _) ?_); intro ao2 c2 w4 ho' hg'; have HO4 : Hid (OwnE w3.heap.size w4 ao2 c2 (o ++ [y])) := OwnE.push (x := y) ho'; have HK4 : Hid (Kept Nil w3 w4) := (HKd.out.alloc _).grown hg' (own_row HOO.out); clear ho' hg')
                go_roundg (es.length - (k + 1))
                case measure => omega
                case rel => exact ⟨k + 1, o ++ [y], ao2, c2, by omega, rfl, by rw [List.length_append]; rfl, by go_num, by rw [List.length_append]; simp; omega, HF3.out, HO4.out, keys_push HMo.out HYm.out, HK4.out⟩
          · obtain rfl : k = es.length := by omega
            have HFo : Hid (o.map Se.s = SF) := by
              have h := HF.out
              rw [List.take_of_length_le (by rw [HSL.out]; exact Nat.le_refl _)] at h
              rw [HSF.out]
              exact h
            have HSr : Hid (SrtS SF) := by rw [HSF.out]; exact HTF.out.2.2.2.1.filter _
            have HSr' : Hid (SrtS (o.map Se.s)) := by rw [HFo.out]; exact HSr.out
            have HLo : Hid (∀ e ∈ o, 0 ≤ e.s.ls ∧ e.s.ls ≤ 1099511627775) := fun e he => (HTF.out.2.2.2.2 e.s (by rw [HSS.out]; exact List.mem_map_of_mem (HMo.out e he))).1
            have HSo : Hid (SIn Gd wr ao' c' o) := SIn.own HO.out (fun k hk => HGn.out k (Nat.le_trans HWz.out hk)) (fun e he => (HS3.out.keys e (HMo.out e he)).kept HKr.out) (fun e he => HS3.out.val e (HMo.out e he))
            go_upto_region 14 with fail
            obtain ⟨Y, hY⟩ : ∃ Y, Y = wr.setCell ⟨Tb, 1, none⟩ (.slice ao' o.length c') := ⟨_, rfl⟩
            rw [← hY]
            have KY1 : Hid (Kept (One Tb) wr Y) := by rw [hY]; exact (Kept.refl _ _).setCell (fun _ => rfl) _
            have KYw : Hid (Kept Nil w Y) := by rw [hY]; exact (Kw3.out.trans HKr.out).setNew (p := ⟨Tb, 1, none⟩) HLs.out.2.2.2.2.1 _
            have HTY : Hid (Y.heap[Tb]? = some (.cells #[.slice ap ps.length cp, .slice ao' o.length c', .int .i64 TM] 70 (0, 0))) := by rw [hY]; exact blk_set HTr.out 1 _
            have HQY : Hid (Y.heap[Q]? = some (.cells #[.int .i64 cl, .int .i64 nu, .int .i64 kd, .string (bs key), .string (bs val), .int .i64 m, .int .i64 tq] 75 (0, 0))) := KY1.out.block _ _ (HKr.out.block _ _ HQ3.out (fun x => x.elim)) (fun x => HLs.out.2.2.2.2.2.2 x)
            have HAY : Hid (Y.heap[A]? = some (.cells #[.slice none 0 0, .slice none 0 0, .int .i64 0] 70 (0, 0))) := KY1.out.block _ _ (HKr.out.block _ _ HA3.out (fun x => x.elim)) (fun x => HN.out.2.2.2.1 (Eq.symm x))
            have HDY : Hid (Y.heap[D]? = some (.cells #[.int .i64 0, .string ⟨#[]⟩, .int .i64 0, .slice none 0 0] 55 (0, 0))) := KY1.out.block _ _ (HKr.out.block _ _ HD3.out (fun x => x.elim)) (fun x => HN.out.2.2.2.2 (Eq.symm x))
            have HPY : Hid (PIn Gd Y ap cp ps) := (HP3.out.kept HKr.out).far KY1.out (fun k o hk hx => (HGx.out k hk).1 hx)
            have HSY : Hid (SIn Gd Y ao' c' o) := HSo.out.far KY1.out (fun k o hk hx => (HGx.out k hk).1 hx)
            have HGY : Hid (∀ k, Y.heap.size ≤ k → Gd k) := fun k hk => HGn.out k (by have := HWz.out; have := HKr.out.size; have := KY1.out.size; omega)
            clear hY t0 t1 t2 tz0 tz1 tz2 HTr HO HF HSo HKr KY1
            have ho8 : o.length ≤ 8 := by omega
            obtain ⟨q0, q1, q2, q3, q4, q5, q6⟩ : Y.cell? ⟨Q, 0, none⟩ = some (.int .i64 cl) ∧ Y.cell? ⟨Q, 1, none⟩ = some (.int .i64 nu) ∧ Y.cell? ⟨Q, 2, none⟩ = some (.int .i64 kd) ∧ Y.cell? ⟨Q, 3, none⟩ = some (.string (bs key)) ∧ Y.cell? ⟨Q, 4, none⟩ = some (.string (bs val)) ∧ Y.cell? ⟨Q, 5, none⟩ = some (.int .i64 m) ∧ Y.cell? ⟨Q, 6, none⟩ = some (.int .i64 tq) := ⟨blk_at HQY.out 0 rfl, blk_at HQY.out 1 rfl, blk_at HQY.out 2 rfl, blk_at HQY.out 3 rfl, blk_at HQY.out 4 rfl, blk_at HQY.out 5 rfl, blk_at HQY.out 6 rfl⟩
            by_cases hc0 : cl = 0
            · subst hc0
              have OP := refOpened_any Gd cp c' TM ix ap ao' ps o Y HPY.out HSY.out HGY.out HSr'.out ho8
              rw [HFo.out] at OP
              have HE0 : Hid (R = ((openT ps SF TM ix).1, (openT ps SF TM ix).2.1, TM, (openT ps SF TM ix).2.2)) := by
                show _ = _
                rw [HRs.out]
                unfold runT
                rw [if_pos rfl]
              generalize openT ps SF TM ix = RO at *
              obtain ⟨P1, S1, rk, rv, rn, rks⟩ := RO
              have HE : Hid (R = (P1, S1, TM, ⟨rk, rv, rn, rks⟩)) := HE0.out
              clear HE0 HRs
              obtain ⟨t0, t1, t2, _, _, _⟩ := tab_cells HTY.out
              go_wp2_with fail
              go_fit OP
              rintro _ X ⟨a1, c1, a2, c2, xs, ko, kc, rfl, mx, qp, qs, qk, kx⟩
              dsimp only at mx qp qk
              have MX : Hid (xs.map Se.s = S1) := mx
              have QP : Hid (PIn Gd X a1 c1 P1) := qp
              have QS : Hid (SIn Gd X a2 c2 xs) := qs
              have QK : Hid (KIn Gd X ko kc rks) := qk
              have KX : Hid (Kept Nil Y X) := kx
              have KXw : Hid (Kept Nil w X) := KYw.out.trans kx
              have B6x : Hid (X.heap[A]? = some (.cells #[.slice none 0 0, .slice none 0 0, .int .i64 0] 70 (0, 0))) := kx.block _ _ HAY.out (fun x => x.elim)
              have B7x : Hid (X.heap[D]? = some (.cells #[.int .i64 0, .string ⟨#[]⟩, .int .i64 0, .slice none 0 0] 55 (0, 0))) := kx.block _ _ HDY.out (fun x => x.elim)
              clear mx qp qs qk kx OP t0 t1 t2 q0 q1 q2 q3 q4 q5 q6
              unfold rrV
              dsimp only
              have B6 : Hid (X.heap[A]? = some (.cells #[.slice none 0 0, .slice none 0 0, .int .i64 0] 70 (0, 0))) := B6x.out
              have B7 : Hid (X.heap[D]? = some (.cells #[.int .i64 0, .string ⟨#[]⟩, .int .i64 0, .slice none 0 0] 55 (0, 0))) := B7x.out
              obtain ⟨r0, r1, r2, z0, z1, z2⟩ := tab_cells B6.out
              obtain ⟨s0, s1, s2, s3, y0, y1, y2, y3⟩ := res_cells B7.out
              obtain ⟨V, hV⟩ : ∃ V, V = (((((((X.setCell ⟨A, 0, none⟩ (.slice a1 P1.length c1)).setCell ⟨A, 1, none⟩ (.slice a2 xs.length c2)).setCell ⟨A, 2, none⟩ (.int .i64 TM)).setCell ⟨D, 0, none⟩ (.int .i64 rk)).setCell ⟨D, 1, none⟩ (.string (bs rv))).setCell ⟨D, 2, none⟩ (.int .i64 rn)).setCell ⟨D, 3, none⟩ (.slice ko rks.length kc)) := ⟨_, rfl⟩
              have HV : Hid (_) := ret_world hV B6.out B7.out HN.out.1 HN.out.2.1 HN.out.2.2.1 KXw.out
              obtain ⟨hAD, _, _, hTA, hTD⟩ := HN.out
              have hDA : D ≠ A := fun e => hAD e.symm
              have hAT : A ≠ Tb := fun e => hTA e.symm
              have hDT : D ≠ Tb := fun e => hTD e.symm
              go_wp2
              rw [← hV]
              clear hV
              obtain ⟨j0, j1, j2, _⟩ := tab_cells HV.out.1
              obtain ⟨j3, j4, j5, j6, _⟩ := res_cells HV.out.2.1
              refine bodyPost_ret (v := .tuple #[.agg #[.slice a1 P1.length c1, .slice a2 xs.length c2, .int .i64 TM], rrV ⟨rk, rv, rn, rks⟩ ko kc]) (by simp [results, Try.results48, go_sem, rrV, j0, j1, j2, j3, j4, j5, j6]) rfl ?_
              rw [HE.out]
              exact ⟨a1, c1, a2, c2, xs, ko, kc, rfl, MX.out, (QP.out.far HV.out.2.2.2 (fun q o hk hx => by have h9 := HGx.out q hk; rcases hx with h | h; exact h9.2.1 h; exact h9.2.2 h)).mono (fun k _ hk => HGi.out k hk), (QS.out.far HV.out.2.2.2 (fun q o hk hx => by have h9 := HGx.out q hk; rcases hx with h | h; exact h9.2.1 h; exact h9.2.2 h)).mono (fun k _ hk => HGi.out k hk), (QK.out.far HV.out.2.2.2 (fun q o hk hx => by have h9 := HGx.out q hk; rcases hx with h | h; exact h9.2.1 h; exact h9.2.2 h)).mono (fun k _ hk => HGi.out k hk), HV.out.2.2.1⟩
            · have hcb : (cl == 0) = false := beq_eq_false_iff_ne.2 hc0
              have HRt : Hid (R = ((servT ps SF TM cl nu kd key val m).1, (servT ps SF TM cl nu kd key val m).2.1, TM, (servT ps SF TM cl nu kd key val m).2.2)) := by
                show _ = _
                rw [HRs.out]
                unfold runT
                rw [if_neg hc0]
              clear HRs hc0
              go_wp2_with fail
              go_loopg [13] o.length (fun g s13 wq => ∃ j : Nat, j ≤ o.length ∧ g = o.length - j ∧ s13 = .int .i64 j ∧ Hid (∀ s ∈ SF.take j, s.cl ≠ cl) ∧ Hid (Kept Nil Y wq))
              case atStart => exact ⟨0, Nat.zero_le _, rfl, rfl, fun s hs => by simp at hs, Kept.refl _ _⟩
              case round =>
                obtain ⟨j, hj, rfl, rfl, HNo, HKq⟩ := hrel
                rename World => wq
                clear q0 q1 q2 q3 q4 q5 q6
                have HQq : Hid (wq.heap[Q]? = some (.cells #[.int .i64 cl, .int .i64 nu, .int .i64 kd, .string (bs key), .string (bs val), .int .i64 m, .int .i64 tq] 75 (0, 0))) := HKq.out.block _ _ HQY.out (fun x => x.elim)
                have HTq : Hid (wq.heap[Tb]? = some (.cells #[.slice ap ps.length cp, .slice ao' o.length c', .int .i64 TM] 70 (0, 0))) := HKq.out.block _ _ HTY.out (fun x => x.elim)
                by_cases hlt : j < o.length
                · have hji : (j : Int) < o.length := by omega
                  have HLF : Hid (SF.length = o.length) := by show _ = _; rw [← HFo.out, List.length_map]
                  have hsf : j < SF.length := by rw [HLF.out]; exact hlt
                  obtain ⟨a, rfl, c0, _⟩ := (HSY.out.kept HKq.out).row.at7 hlt
                  have q0 : wq.cell? ⟨Q, 0, none⟩ = some (.int .i64 cl) := blk_at HQq.out 0 rfl
                  have HSj : Hid (SF[j] = o[j].s) := by
                    have h := HFo.out
                    subst h
                    show _ = _
                    simp
                  by_cases hcl : o[j].s.cl = cl
                  · have AK := fun (Z : World) (hZ : Kept Nil Y Z) => refAsked_any Gd cp c' j TM cl nu kd m tq key val ap (some a) ps o Z (HPY.out.kept hZ) (HSY.out.kept hZ) (fun k hk => HGY.out k (Nat.le_trans hZ.size hk)) hlt ho8 HLo.out hlp hkey hval
                    have HE0 : Hid (R = ((askT ps SF j o[j].s TM nu kd key val m).1, (askT ps SF j o[j].s TM nu kd key val m).2.1, TM, (askT ps SF j o[j].s TM nu kd key val m).2.2)) := by
                      show _ = _
                      rw [HRt.out, askT_is HSr.out hsf (by rw [HSj.out]; exact hcl), HSj.out]
                    rw [HFo.out] at AK
                    rw [hcl] at c0
                    clear hcl HRt
                    generalize askT ps SF j o[j].s TM nu kd key val m = RO at *
                    obtain ⟨P1, S1, rk, rv, rn, rks⟩ := RO
                    have HE : Hid (R = (P1, S1, TM, ⟨rk, rv, rn, rks⟩)) := HE0.out
                    clear HE0
                    go_upto_region 19 with fail
                    go_region
                    all_goals
                      obtain ⟨wd, hwd⟩ : ∃ wd, wd = wq.drew := ⟨_, rfl⟩
                      have KD : Hid (Kept Nil Y wd) := by rw [hwd]; exact HKq.out.drew
                      try rw [← hwd]
                      have HQd : Hid (wd.heap[Q]? = some (.cells #[.int .i64 cl, .int .i64 nu, .int .i64 kd, .string (bs key), .string (bs val), .int .i64 m, .int .i64 tq] 75 (0, 0))) := KD.out.block _ _ HQY.out (fun x => x.elim)
                      have HTd : Hid (wd.heap[Tb]? = some (.cells #[.slice ap ps.length cp, .slice (some a) o.length c', .int .i64 TM] 70 (0, 0))) := KD.out.block _ _ HTY.out (fun x => x.elim)
                      clear hwd q0 c0
                      obtain ⟨t0, t1, t2, _, _, _⟩ := tab_cells HTd.out
                      obtain ⟨q0, q1, q2, q3, q4, q5, q6⟩ : wd.cell? ⟨Q, 0, none⟩ = some (.int .i64 cl) ∧ wd.cell? ⟨Q, 1, none⟩ = some (.int .i64 nu) ∧ wd.cell? ⟨Q, 2, none⟩ = some (.int .i64 kd) ∧ wd.cell? ⟨Q, 3, none⟩ = some (.string (bs key)) ∧ wd.cell? ⟨Q, 4, none⟩ = some (.string (bs val)) ∧ wd.cell? ⟨Q, 5, none⟩ = some (.int .i64 m) ∧ wd.cell? ⟨Q, 6, none⟩ = some (.int .i64 tq) := ⟨blk_at HQd.out 0 rfl, blk_at HQd.out 1 rfl, blk_at HQd.out 2 rfl, blk_at HQd.out 3 rfl, blk_at HQd.out 4 rfl, blk_at HQd.out 5 rfl, blk_at HQd.out 6 rfl⟩
                      have AK1 := AK wd KD.out
                      go_wp2_with fail
                      go_fit AK1
                      rintro _ X ⟨a1, c1, a2, c2, xs, ko, kc, rfl, mx, qp, qs, qk, kx⟩
                      dsimp only at mx qp qk
                      have MX : Hid (xs.map Se.s = S1) := mx
                      have QP : Hid (PIn Gd X a1 c1 P1) := qp
                      have QS : Hid (SIn Gd X a2 c2 xs) := qs
                      have QK : Hid (KIn Gd X ko kc rks) := qk
                      have KX : Hid (Kept Nil Y X) := KD.out.trans kx
                      have KXw : Hid (Kept Nil w X) := KYw.out.trans KX.out
                      have B6x : Hid (X.heap[A]? = some (.cells #[.slice none 0 0, .slice none 0 0, .int .i64 0] 70 (0, 0))) := KX.out.block _ _ HAY.out (fun x => x.elim)
                      have B7x : Hid (X.heap[D]? = some (.cells #[.int .i64 0, .string ⟨#[]⟩, .int .i64 0, .slice none 0 0] 55 (0, 0))) := KX.out.block _ _ HDY.out (fun x => x.elim)
                      clear mx qp qs qk kx AK1 AK t0 t1 t2 q0 q1 q2 q3 q4 q5 q6
                      unfold rrV
                      dsimp only
                      have B6 : Hid (X.heap[A]? = some (.cells #[.slice none 0 0, .slice none 0 0, .int .i64 0] 70 (0, 0))) := B6x.out
                      have B7 : Hid (X.heap[D]? = some (.cells #[.int .i64 0, .string ⟨#[]⟩, .int .i64 0, .slice none 0 0] 55 (0, 0))) := B7x.out
                      obtain ⟨r0, r1, r2, z0, z1, z2⟩ := tab_cells B6.out
                      obtain ⟨s0, s1, s2, s3, y0, y1, y2, y3⟩ := res_cells B7.out
                      obtain ⟨V, hV⟩ : ∃ V, V = (((((((X.setCell ⟨A, 0, none⟩ (.slice a1 P1.length c1)).setCell ⟨A, 1, none⟩ (.slice a2 xs.length c2)).setCell ⟨A, 2, none⟩ (.int .i64 TM)).setCell ⟨D, 0, none⟩ (.int .i64 rk)).setCell ⟨D, 1, none⟩ (.string (bs rv))).setCell ⟨D, 2, none⟩ (.int .i64 rn)).setCell ⟨D, 3, none⟩ (.slice ko rks.length kc)) := ⟨_, rfl⟩
                      have HV : Hid (_) := ret_world hV B6.out B7.out HN.out.1 HN.out.2.1 HN.out.2.2.1 KXw.out
                      obtain ⟨hAD, _, _, hTA, hTD⟩ := HN.out
                      have hDA : D ≠ A := fun e => hAD e.symm
                      have hAT : A ≠ Tb := fun e => hTA e.symm
                      have hDT : D ≠ Tb := fun e => hTD e.symm
                      go_wp2
                      rw [← hV]
                      clear hV
                      obtain ⟨j0, j1, j2, _⟩ := tab_cells HV.out.1
                      obtain ⟨j3, j4, j5, j6, _⟩ := res_cells HV.out.2.1
                      refine bodyPost_ret (v := .tuple #[.agg #[.slice a1 P1.length c1, .slice a2 xs.length c2, .int .i64 TM], rrV ⟨rk, rv, rn, rks⟩ ko kc]) (by simp [results, Try.results48, go_sem, rrV, j0, j1, j2, j3, j4, j5, j6]) rfl ?_
                      rw [HE.out]
                      exact ⟨a1, c1, a2, c2, xs, ko, kc, rfl, MX.out, (QP.out.far HV.out.2.2.2 (fun q o hk hx => by have h9 := HGx.out q hk; rcases hx with h | h; exact h9.2.1 h; exact h9.2.2 h)).mono (fun k _ hk => HGi.out k hk), (QS.out.far HV.out.2.2.2 (fun q o hk hx => by have h9 := HGx.out q hk; rcases hx with h | h; exact h9.2.1 h; exact h9.2.2 h)).mono (fun k _ hk => HGi.out k hk), (QK.out.far HV.out.2.2.2 (fun q o hk hx => by have h9 := HGx.out q hk; rcases hx with h | h; exact h9.2.1 h; exact h9.2.2 h)).mono (fun k _ hk => HGi.out k hk), HV.out.2.2.1⟩
                  · have hcq : (o[j].s.cl == cl) = false := beq_eq_false_iff_ne.2 hcl
                    have HNo2 : Hid (∀ s ∈ SF.take (j + 1), s.cl ≠ cl) := by
                      intro s hs
                      rw [List.take_succ_eq_append_getElem hsf] at hs
                      rcases List.mem_append.1 hs with hs | hs
                      · exact HNo.out s hs
                      · rw [List.mem_singleton.1 hs, HSj.out]
                        exact hcl
                    clear hcl
                    generalize o[j].s.cl = z at *
                    go_wp2_with fail
                    go_region
                    all_goals
                      go_wp2
                      go_roundg (o.length - (j + 1))
                      case measure => omega
                      case rel => exact ⟨j + 1, by omega, rfl, by go_num, HNo2.out, HKq.out.drew⟩
                · obtain rfl : j = o.length := by omega
                  have HE : Hid (R = (ps, SF, TM, rr0 8)) := by
                    show _ = _
                    have h := HNo.out
                    rw [List.take_of_length_le (by rw [← HFo.out, List.length_map]; exact Nat.le_refl _)] at h
                    rw [HRt.out]
                    unfold servT
                    rw [if_pos (find_none h)]
                  have KYq : Hid (Kept Nil w wq) := KYw.out.trans HKq.out
                  obtain ⟨t0, t1, t2, _, _, _⟩ := tab_cells HTq.out
                  have B6 : Hid (wq.heap[A]? = some (.cells #[.slice none 0 0, .slice none 0 0, .int .i64 0] 70 (0, 0))) := HKq.out.block _ _ HAY.out (fun x => x.elim)
                  have B7 : Hid (wq.heap[D]? = some (.cells #[.int .i64 0, .string ⟨#[]⟩, .int .i64 0, .slice none 0 0] 55 (0, 0))) := HKq.out.block _ _ HDY.out (fun x => x.elim)
                  obtain ⟨r0, r1, r2, z0, z1, z2⟩ := tab_cells B6.out
                  obtain ⟨s0, s1, s2, s3, y0, y1, y2, y3⟩ := res_cells B7.out
                  obtain ⟨V, hV⟩ : ∃ V, V = (((((((wq.setCell ⟨A, 0, none⟩ (.slice ap ps.length cp)).setCell ⟨A, 1, none⟩ (.slice ao' o.length c')).setCell ⟨A, 2, none⟩ (.int .i64 TM)).setCell ⟨D, 0, none⟩ (.int .i64 8)).setCell ⟨D, 1, none⟩ (.string ⟨#[]⟩)).setCell ⟨D, 2, none⟩ (.int .i64 0)).setCell ⟨D, 3, none⟩ (.slice none 0 0)) := ⟨_, rfl⟩
                  have HV : Hid (_) := ret_world hV B6.out B7.out HN.out.1 HN.out.2.1 HN.out.2.2.1 KYq.out
                  obtain ⟨hAD, _, _, hTA, hTD⟩ := HN.out
                  have hDA : D ≠ A := fun e => hAD e.symm
                  have hAT : A ≠ Tb := fun e => hTA e.symm
                  have hDT : D ≠ Tb := fun e => hTD e.symm
                  go_wp2
                  rw [← hV]
                  clear hV
                  obtain ⟨j0, j1, j2, _⟩ := tab_cells HV.out.1
                  obtain ⟨j3, j4, j5, j6, _⟩ := res_cells HV.out.2.1
                  refine bodyPost_ret (v := .tuple #[.agg #[.slice ap ps.length cp, .slice ao' o.length c', .int .i64 TM], rrV (rr0 8) none 0]) (by simp [results, Try.results48, go_sem, rrV, rr0, bs, j0, j1, j2, j3, j4, j5, j6]) rfl ?_
                  rw [HE.out]
                  exact ⟨ap, cp, ao', c', o, none, 0, rfl, HFo.out, ((HPY.out.kept HKq.out).far HV.out.2.2.2 (fun q o hk hx => by have h9 := HGx.out q hk; rcases hx with h | h; exact h9.2.1 h; exact h9.2.2 h)).mono (fun k _ hk => HGi.out k hk), ((HSY.out.kept HKq.out).far HV.out.2.2.2 (fun q o hk hx => by have h9 := HGx.out q hk; rcases hx with h | h; exact h9.2.1 h; exact h9.2.2 h)).mono (fun k _ hk => HGi.out k hk), KIn.none, HV.out.2.2.1⟩
  · have HE : Hid (R = (ps, ss, tm, rr0 5)) := by
      show _ = _
      rw [HR.out]
      unfold sesT
      rw [if_neg (by rw [hrq]; simp)]
    obtain ⟨t0, t1, t2, _, _, _⟩ := tab_cells HT2.out
    have B6 : Hid (w2.heap[A]? = some (.cells #[.slice none 0 0, .slice none 0 0, .int .i64 0] 70 (0, 0))) := K2.out.block _ _ HZA.out (fun x => x.elim)
    have B7 : Hid (w2.heap[D]? = some (.cells #[.int .i64 0, .string ⟨#[]⟩, .int .i64 0, .slice none 0 0] 55 (0, 0))) := K2.out.block _ _ HZD.out (fun x => x.elim)
    obtain ⟨r0, r1, r2, z0, z1, z2⟩ := tab_cells B6.out
    obtain ⟨s0, s1, s2, s3, y0, y1, y2, y3⟩ := res_cells B7.out
    obtain ⟨V, hV⟩ : ∃ V, V = (((((((w2.setCell ⟨A, 0, none⟩ (.slice ap ps.length cp)).setCell ⟨A, 1, none⟩ (.slice sa es.length cs)).setCell ⟨A, 2, none⟩ (.int .i64 tm)).setCell ⟨D, 0, none⟩ (.int .i64 5)).setCell ⟨D, 1, none⟩ (.string ⟨#[]⟩)).setCell ⟨D, 2, none⟩ (.int .i64 0)).setCell ⟨D, 3, none⟩ (.slice none 0 0)) := ⟨_, rfl⟩
    have HV : Hid (_) := ret_world hV B6.out B7.out HN.out.1 HN.out.2.1 HN.out.2.2.1 (KW.out.trans K2.out)
    obtain ⟨hAD, _, _, hTA, hTD⟩ := HN.out
    have hDA : D ≠ A := fun e => hAD e.symm
    have hAT : A ≠ Tb := fun e => hTA e.symm
    have hDT : D ≠ Tb := fun e => hTD e.symm
    go_wp2
    rw [← hV]
    clear hV
    obtain ⟨j0, j1, j2, _⟩ := tab_cells HV.out.1
    obtain ⟨j3, j4, j5, j6, _⟩ := res_cells HV.out.2.1
    refine bodyPost_ret (v := .tuple #[.agg #[.slice ap ps.length cp, .slice sa es.length cs, .int .i64 tm], rrV (rr0 5) none 0]) (by simp [results, Try.results48, go_sem, rrV, rr0, bs, j0, j1, j2, j3, j4, j5, j6]) rfl ?_
    rw [HE.out]
    exact ⟨ap, cp, sa, cs, es, none, 0, rfl, HSS.out.symm, ((HP.out.kept K2.out).far HV.out.2.2.2 (fun q o hk hx => by have h9 := HGx.out q hk; rcases hx with h | h; exact h9.2.1 h; exact h9.2.2 h)).mono (fun k _ hk => HGi.out k hk), ((HS.out.kept K2.out).far HV.out.2.2.2 (fun q o hk hx => by have h9 := HGx.out q hk; rcases hx with h | h; exact h9.2.1 h; exact h9.2.2 h)).mono (fun k _ hk => HGi.out k hk), KIn.none, HV.out.2.2.1⟩

end Go.Proofs.Ytblmmbghnkplkaa
