/-
  SessionExact: the document's opened.
-/
import Derived.Test.YtblmmbghnkplkaaWSx3
import Derived.Deep.DeepCutAuto
import Derived.Deep.DeepFit
namespace Go.Proofs.Ytblmmbghnkplkaa
open Go.RowKit

theorem goIn_step {cl : Int} {x s : Ss} {d full : Bool} {old k : Nat} {t o REF : List Ss} (h : o ++ goIn cl x d (flagAt full old k (s :: t)) = REF) : ((o ++ (if (!d && decide (cl < s.cl)) = true then [x] else [])) ++ (if (!full || decide (k ≠ old)) = true then [s] else [])) ++ goIn cl x (d || decide (cl < s.cl)) (flagAt full old (k + 1) t) = REF := by
  rw [← h]
  show _ = o ++ ((if d = false ∧ cl < s.cl then [x] else []) ++ (if (!full || decide (k ≠ old)) = true then [s] else []) ++ goIn cl x (d || decide (cl < s.cl)) (flagAt full old (k + 1) t))
  have e : (if (!d && decide (cl < s.cl)) = true then [x] else []) = if d = false ∧ cl < s.cl then [x] else [] := by
    cases d <;> simp
  rw [e, List.append_assoc, List.append_assoc, List.append_assoc]
theorem keys_push {P : Se → Prop} {o : List Se} {x : Se} (h : ∀ e ∈ o, P e) (hx : P x) : ∀ e ∈ o ++ [x], P e := fun e he => by
  rcases List.mem_append.1 he with he | he
  · exact h e he
  · rw [List.mem_singleton.1 he]
    exact hx

set_option maxRecDepth 100000 in
set_option maxHeartbeats 8000000 in
theorem refOpened_any (G : Nat → Prop) (cp cs : Nat) (tm ix : Int) (ap sa : Option Addr) (ps : List Pr) (es : List Se) (w : World) (hp : PIn G w ap cp ps) (hs : SIn G w sa cs es) (hG : ∀ k, w.heap.size ≤ k → G k) (hsrt : SrtS (es.map Se.s)) (hl : es.length ≤ 8) :
    Calls Try.prog 91 #[.agg #[.slice ap ps.length cp, .slice sa es.length cs, .int .i64 tm], .int .i64 ix] w (RunPost G w ((openT ps (es.map Se.s) tm ix).1, (openT ps (es.map Se.s) tm ix).2.1, tm, (openT ps (es.map Se.s) tm ix).2.2)) := by
  obtain ⟨i0, hi, hz0, hz1, hz2⟩ := info_parts Try.infoSe
  obtain ⟨ss, HSS⟩ : ∃ ss, Hid (ss = es.map Se.s) := ⟨_, rfl⟩
  rw [← HSS.out] at hsrt ⊢
  have HSrt : Hid (SrtS ss) := hsrt
  have HSL : Hid (ss.length = es.length) := by show _ = _; rw [HSS.out, List.length_map]
  obtain ⟨R, HR⟩ : ∃ R, Hid (R = openT ps ss tm ix) := ⟨_, rfl⟩
  rw [← HR.out]
  obtain ⟨W, hW⟩ : ∃ W, W = ((w.alloc (.cells #[.slice ap ps.length cp, .slice sa es.length cs, .int .i64 tm] 70)).alloc (.cells #[.slice none 0 0, .slice none 0 0, .int .i64 0] 70)).alloc (.cells #[.int .i64 0, .string ⟨#[]⟩, .int .i64 0, .slice none 0 0] 55) := ⟨_, rfl⟩
  obtain ⟨Tb, HTe⟩ : ∃ Tb, Hid (Tb = w.heap.size) := ⟨_, rfl⟩
  obtain ⟨A, HAe⟩ : ∃ A, Hid (A = w.heap.size + 1) := ⟨_, rfl⟩
  obtain ⟨D, HDe⟩ : ∃ D, Hid (D = w.heap.size + 1 + 1) := ⟨_, rfl⟩
  have KW : Hid (Kept Nil w W) := by rw [hW]; exact (((Kept.refl _ _).alloc _).alloc _).alloc _
  have hq1 : (w.alloc (.cells #[.slice ap ps.length cp, .slice sa es.length cs, .int .i64 tm] 70)).heap.size = w.heap.size + 1 := by simp
  have hq2 : ((w.alloc (.cells #[.slice ap ps.length cp, .slice sa es.length cs, .int .i64 tm] 70)).alloc (.cells #[.slice none 0 0, .slice none 0 0, .int .i64 0] 70)).heap.size = w.heap.size + 1 + 1 := by simp
  have HWs : Hid (W.heap.size = w.heap.size + 1 + 1 + 1) := by rw [hW]; show _ = _; simp
  have HT : Hid (W.heap[Tb]? = some (.cells #[.slice ap ps.length cp, .slice sa es.length cs, .int .i64 tm] 70 (0, 0))) := by rw [hW, HTe.out]; exact blk_past (blk_past (blk_new _ _) _) _
  have HZA : Hid (W.heap[A]? = some (.cells #[.slice none 0 0, .slice none 0 0, .int .i64 0] 70 (0, 0))) := by rw [hW, HAe.out, ← hq1]; exact blk_past (blk_new _ _) _
  have HZD : Hid (W.heap[D]? = some (.cells #[.int .i64 0, .string ⟨#[]⟩, .int .i64 0, .slice none 0 0] 55 (0, 0))) := by rw [hW, HDe.out, ← hq2]; exact blk_new _ _
  have HN : Hid (A ≠ D ∧ w.heap.size ≤ A ∧ w.heap.size ≤ D ∧ Tb ≠ A ∧ Tb ≠ D) := by
    have h1 := HTe.out
    have h2 := HAe.out
    have h3 := HDe.out
    exact ⟨by omega, by omega, by omega, by omega, by omega⟩
  clear hq1 hq2
  obtain ⟨Gd, HGd⟩ : ∃ Gd : Nat → Prop, Hid (Gd = fun k => G k ∧ (k < w.heap.size ∨ W.heap.size ≤ k)) := ⟨_, rfl⟩
  have HGi : Hid (∀ k, Gd k → G k) := fun k hk => by rw [HGd.out] at hk; exact hk.1
  have HGn : Hid (∀ k, W.heap.size ≤ k → Gd k) := fun k hk => by rw [HGd.out]; exact ⟨hG k (by have := KW.out.size; omega), .inr hk⟩
  have HGx : Hid (∀ k, Gd k → k ≠ Tb ∧ k ≠ A ∧ k ≠ D) := fun k hk => by
    rw [HGd.out] at hk
    have h0 := hk.2
    have h1 := HTe.out
    have h2 := HAe.out
    have h3 := HDe.out
    have h4 := HWs.out
    exact ⟨by omega, by omega, by omega⟩
  have HP : Hid (PIn Gd W ap cp ps) := (hp.mono (fun k hk hg => by rw [HGd.out]; exact ⟨hg, .inl hk⟩)).kept KW.out
  have HS : Hid (SIn Gd W sa cs es) := (hs.mono (fun k hk hg => by rw [HGd.out]; exact ⟨hg, .inl hk⟩)).kept KW.out
  clear hp hs hG HGd hsrt
  go_enter Try.func91, Try.ntmps91
  go_upto_region 1 with fail
  rw [← hW, ← HDe.out, ← HAe.out, ← HTe.out]
  clear hW
  go_wp2_with fail
  go_loopg [6, 7] es.length (fun g s6 s7 wr => ∃ k old : Nat, k ≤ es.length ∧ g = es.length - k ∧ s6 = .int .i64 old ∧ s7 = .int .i64 k ∧ old ≤ k ∧ Hid (oldAt ss old k (ss.drop k) = oldAt ss 0 0 ss) ∧ Hid (∀ s ∈ ss.take k, s.cl ≠ ix) ∧ Hid (Kept Nil W wr))
  case atStart => exact ⟨0, 0, Nat.zero_le _, rfl, rfl, rfl, Nat.le_refl _, rfl, fun s hs => by simp at hs, Kept.refl _ _⟩
  case round =>
    obtain ⟨k, old, hk, rfl, rfl, rfl, hok, HOl, HNo, HKr⟩ := hrel
    rename World => wr
    have HTr : Hid (wr.heap[Tb]? = some (.cells #[.slice ap ps.length cp, .slice sa es.length cs, .int .i64 tm] 70 (0, 0))) := HKr.out.block _ _ HT.out (fun x => x.elim)
    by_cases hlt : k < es.length
    · have t1 : wr.cell? ⟨Tb, 1, none⟩ = some (.slice sa es.length cs) := blk_at HTr.out 1 rfl
      have hki : (k : Int) < es.length := by omega
      have hoi : (old : Int) < es.length := by omega
      have hss : k < ss.length := by rw [HSL.out]; exact hlt
      obtain ⟨a, ha, c0, _, _, _, _, _, c6⟩ := (HS.out.kept HKr.out).row.at7 hlt
      obtain ⟨a', ha', _, _, _, _, _, _, o6⟩ := (HS.out.kept HKr.out).row.at7 (show old < es.length by omega)
      rw [ha] at ha'
      cases ha'
      obtain ⟨y, HY⟩ : ∃ y : Se, Hid (y = es[k]) := ⟨es[k], (rfl : es[k] = es[k])⟩
      obtain ⟨z, HZ⟩ : ∃ z : Se, Hid (z = es[old]'(by omega)) := ⟨es[old]'(by omega), (rfl : es[old]'(by omega) = es[old]'(by omega))⟩
      rw [← HY.out] at c0 c6
      rw [← HZ.out] at o6
      have HSk : Hid (ss[k] = y.s) := by
        have h := HSS.out
        subst h
        rw [HY.out]
        show _ = _
        simp
      have HSo : Hid (ss[old]? = some z.s) := by
        have h := HSS.out
        subst h
        rw [HZ.out]
        show _ = _
        simp [show old < es.length by omega]
      subst ha
      by_cases hcl : y.s.cl = ix
      · have HE : Hid (R = (ps, ss, rr0 5)) := by
          show _ = _
          rw [HR.out]
          unfold openT
          rw [if_pos (.inl (find_low HSrt.out hss (by rw [HSk.out]; exact hcl)).1)]
        rw [hcl] at c0
        clear hcl
        obtain ⟨t0, t1, t2, _, _, _⟩ := tab_cells HTr.out
        have B6 : Hid (wr.heap[A]? = some (.cells #[.slice none 0 0, .slice none 0 0, .int .i64 0] 70 (0, 0))) := HKr.out.block _ _ HZA.out (fun x => x.elim)
        have B7 : Hid (wr.heap[D]? = some (.cells #[.int .i64 0, .string ⟨#[]⟩, .int .i64 0, .slice none 0 0] 55 (0, 0))) := HKr.out.block _ _ HZD.out (fun x => x.elim)
        obtain ⟨r0, r1, r2, z0, z1, z2⟩ := tab_cells B6.out
        obtain ⟨s0, s1, s2, s3, y0, y1, y2, y3⟩ := res_cells B7.out
        obtain ⟨V, hV⟩ : ∃ V, V = (((((((wr.setCell ⟨A, 0, none⟩ (.slice ap ps.length cp)).setCell ⟨A, 1, none⟩ (.slice (some a) es.length cs)).setCell ⟨A, 2, none⟩ (.int .i64 tm)).setCell ⟨D, 0, none⟩ (.int .i64 5)).setCell ⟨D, 1, none⟩ (.string ⟨#[]⟩)).setCell ⟨D, 2, none⟩ (.int .i64 0)).setCell ⟨D, 3, none⟩ (.slice none 0 0)) := ⟨_, rfl⟩
        have HV : Hid (_) := ret_world hV B6.out B7.out HN.out.1 HN.out.2.1 HN.out.2.2.1 (KW.out.trans HKr.out)
        obtain ⟨hAD, _, _, hTA, hTD⟩ := HN.out
        have hDA : D ≠ A := fun e => hAD e.symm
        have hAT : A ≠ Tb := fun e => hTA e.symm
        have hDT : D ≠ Tb := fun e => hTD e.symm
        go_wp2
        rw [← hV]
        clear hV
        obtain ⟨j0, j1, j2, _⟩ := tab_cells HV.out.1
        obtain ⟨j3, j4, j5, j6, _⟩ := res_cells HV.out.2.1
        refine bodyPost_ret (v := .tuple #[.agg #[.slice ap ps.length cp, .slice (some a) es.length cs, .int .i64 tm], rrV (rr0 5) none 0]) (by simp [results, Try.results91, go_sem, rrV, rr0, bs, j0, j1, j2, j3, j4, j5, j6]) rfl ?_
        rw [HE.out]
        exact ⟨ap, cp, some a, cs, es, none, 0, rfl, HSS.out.symm, ((HP.out.kept HKr.out).far HV.out.2.2.2 (fun k o hk hx => by have h9 := HGx.out k hk; rcases hx with rfl | rfl; exact h9.2.1 rfl; exact h9.2.2 rfl)).mono (fun k _ hk => HGi.out k hk), ((HS.out.kept HKr.out).far HV.out.2.2.2 (fun k o hk hx => by have h9 := HGx.out k hk; rcases hx with rfl | rfl; exact h9.2.1 rfl; exact h9.2.2 rfl)).mono (fun k _ hk => HGi.out k hk), KIn.none, HV.out.2.2.1⟩
      · have hcb : (y.s.cl == ix) = false := beq_eq_false_iff_ne.2 hcl
        have HNo2 : Hid (∀ s ∈ ss.take (k + 1), s.cl ≠ ix) := by
          intro s hs
          rw [List.take_succ_eq_append_getElem hss] at hs
          rcases List.mem_append.1 hs with hs | hs
          · exact HNo.out s hs
          · rw [List.mem_singleton.1 hs, HSk.out]
            exact hcl
        have HOs : Hid (∀ b, b = (if y.s.sn < z.s.sn then k else old) → oldAt ss b (k + 1) (ss.drop (k + 1)) = oldAt ss 0 0 ss) := fun b hb => by
          rw [← HOl.out, List.drop_eq_getElem_cons hss, hb]
          show _ = oldAt ss (if (ss[k]).sn < ((ss[old]?).map Ss.sn).getD 0 then k else old) (k + 1) _
          rw [HSk.out, HSo.out]
          rfl
        clear hcl
        by_cases hsn : y.s.sn < z.s.sn
        · have hsb : decide (y.s.sn < z.s.sn) = true := decide_eq_true hsn
          have HO2 : Hid (oldAt ss k (k + 1) (ss.drop (k + 1)) = oldAt ss 0 0 ss) := HOs.out k (by rw [if_pos hsn])
          go_wp2_with fail
          go_region
          all_goals
            go_wp2
            go_roundg (es.length - (k + 1))
            case measure => omega
            case rel => exact ⟨k + 1, k, by omega, rfl, rfl, by go_num, by omega, HO2.out, HNo2.out, HKr.out.drew⟩
        · have hsb : decide (y.s.sn < z.s.sn) = false := decide_eq_false hsn
          have HO2 : Hid (oldAt ss old (k + 1) (ss.drop (k + 1)) = oldAt ss 0 0 ss) := HOs.out old (by rw [if_neg hsn])
          go_wp2_with fail
          go_region
          all_goals
            go_wp2
            go_roundg (es.length - (k + 1))
            case measure => omega
            case rel => exact ⟨k + 1, old, by omega, rfl, rfl, by go_num, by omega, HO2.out, HNo2.out, HKr.out.drew⟩
    · obtain rfl : k = es.length := by omega
      have HOle : Hid (old = oldAt ss 0 0 ss) := by
        have h := HOl.out
        rw [List.drop_eq_nil_of_le (by rw [HSL.out]; exact Nat.le_refl _)] at h
        exact h
      have HNa : Hid (∀ s ∈ ss, s.cl ≠ ix) := by
        have h := HNo.out
        rw [List.take_of_length_le (by rw [HSL.out]; exact Nat.le_refl _)] at h
        exact h
      have t1 : wr.cell? ⟨Tb, 1, none⟩ = some (.slice sa es.length cs) := blk_at HTr.out 1 rfl
      clear HOl HNo
      by_cases h1 : ix < 1
      · have h1b : decide (ix < 1) = true := decide_eq_true h1
        have HE : Hid (R = (ps, ss, rr0 5)) := by
          show _ = _
          rw [HR.out]
          unfold openT
          rw [if_pos (.inr (by unfold isCnt; rw [decide_eq_false (by omega)]; rfl))]
        obtain ⟨t0, t1, t2, _, _, _⟩ := tab_cells HTr.out
        have B6 : Hid (wr.heap[A]? = some (.cells #[.slice none 0 0, .slice none 0 0, .int .i64 0] 70 (0, 0))) := HKr.out.block _ _ HZA.out (fun x => x.elim)
        have B7 : Hid (wr.heap[D]? = some (.cells #[.int .i64 0, .string ⟨#[]⟩, .int .i64 0, .slice none 0 0] 55 (0, 0))) := HKr.out.block _ _ HZD.out (fun x => x.elim)
        obtain ⟨r0, r1, r2, z0, z1, z2⟩ := tab_cells B6.out
        obtain ⟨s0, s1, s2, s3, y0, y1, y2, y3⟩ := res_cells B7.out
        obtain ⟨V, hV⟩ : ∃ V, V = (((((((wr.setCell ⟨A, 0, none⟩ (.slice ap ps.length cp)).setCell ⟨A, 1, none⟩ (.slice sa es.length cs)).setCell ⟨A, 2, none⟩ (.int .i64 tm)).setCell ⟨D, 0, none⟩ (.int .i64 5)).setCell ⟨D, 1, none⟩ (.string ⟨#[]⟩)).setCell ⟨D, 2, none⟩ (.int .i64 0)).setCell ⟨D, 3, none⟩ (.slice none 0 0)) := ⟨_, rfl⟩
        have HV : Hid (_) := ret_world hV B6.out B7.out HN.out.1 HN.out.2.1 HN.out.2.2.1 (KW.out.trans HKr.out)
        obtain ⟨hAD, _, _, hTA, hTD⟩ := HN.out
        have hDA : D ≠ A := fun e => hAD e.symm
        have hAT : A ≠ Tb := fun e => hTA e.symm
        have hDT : D ≠ Tb := fun e => hTD e.symm
        go_wp2
        rw [← hV]
        clear hV
        obtain ⟨j0, j1, j2, _⟩ := tab_cells HV.out.1
        obtain ⟨j3, j4, j5, j6, _⟩ := res_cells HV.out.2.1
        refine bodyPost_ret (v := .tuple #[.agg #[.slice ap ps.length cp, .slice sa es.length cs, .int .i64 tm], rrV (rr0 5) none 0]) (by simp [results, Try.results91, go_sem, rrV, rr0, bs, j0, j1, j2, j3, j4, j5, j6]) rfl ?_
        rw [HE.out]
        exact ⟨ap, cp, sa, cs, es, none, 0, rfl, HSS.out.symm, ((HP.out.kept HKr.out).far HV.out.2.2.2 (fun k o hk hx => by have h9 := HGx.out k hk; rcases hx with rfl | rfl; exact h9.2.1 rfl; exact h9.2.2 rfl)).mono (fun k _ hk => HGi.out k hk), ((HS.out.kept HKr.out).far HV.out.2.2.2 (fun k o hk hx => by have h9 := HGx.out k hk; rcases hx with rfl | rfl; exact h9.2.1 rfl; exact h9.2.2 rfl)).mono (fun k _ hk => HGi.out k hk), KIn.none, HV.out.2.2.1⟩
      · have h1b : decide (ix < 1) = false := decide_eq_false h1
        by_cases h2 : 1099511627775 < ix
        · have h2b : decide (1099511627775 < ix) = true := decide_eq_true h2
          have HE : Hid (R = (ps, ss, rr0 5)) := by
            show _ = _
            rw [HR.out]
            unfold openT
            rw [if_pos (.inr (by unfold isCnt; rw [decide_eq_false (show ¬ ix ≤ 1099511627775 by omega), Bool.and_false]))]
          obtain ⟨t0, t1, t2, _, _, _⟩ := tab_cells HTr.out
          have B6 : Hid (wr.heap[A]? = some (.cells #[.slice none 0 0, .slice none 0 0, .int .i64 0] 70 (0, 0))) := HKr.out.block _ _ HZA.out (fun x => x.elim)
          have B7 : Hid (wr.heap[D]? = some (.cells #[.int .i64 0, .string ⟨#[]⟩, .int .i64 0, .slice none 0 0] 55 (0, 0))) := HKr.out.block _ _ HZD.out (fun x => x.elim)
          obtain ⟨r0, r1, r2, z0, z1, z2⟩ := tab_cells B6.out
          obtain ⟨s0, s1, s2, s3, y0, y1, y2, y3⟩ := res_cells B7.out
          obtain ⟨V, hV⟩ : ∃ V, V = (((((((wr.setCell ⟨A, 0, none⟩ (.slice ap ps.length cp)).setCell ⟨A, 1, none⟩ (.slice sa es.length cs)).setCell ⟨A, 2, none⟩ (.int .i64 tm)).setCell ⟨D, 0, none⟩ (.int .i64 5)).setCell ⟨D, 1, none⟩ (.string ⟨#[]⟩)).setCell ⟨D, 2, none⟩ (.int .i64 0)).setCell ⟨D, 3, none⟩ (.slice none 0 0)) := ⟨_, rfl⟩
          have HV : Hid (_) := ret_world hV B6.out B7.out HN.out.1 HN.out.2.1 HN.out.2.2.1 (KW.out.trans HKr.out)
          obtain ⟨hAD, _, _, hTA, hTD⟩ := HN.out
          have hDA : D ≠ A := fun e => hAD e.symm
          have hAT : A ≠ Tb := fun e => hTA e.symm
          have hDT : D ≠ Tb := fun e => hTD e.symm
          go_wp2
          rw [← hV]
          clear hV
          obtain ⟨j0, j1, j2, _⟩ := tab_cells HV.out.1
          obtain ⟨j3, j4, j5, j6, _⟩ := res_cells HV.out.2.1
          refine bodyPost_ret (v := .tuple #[.agg #[.slice ap ps.length cp, .slice sa es.length cs, .int .i64 tm], rrV (rr0 5) none 0]) (by simp [results, Try.results91, go_sem, rrV, rr0, bs, j0, j1, j2, j3, j4, j5, j6]) rfl ?_
          rw [HE.out]
          exact ⟨ap, cp, sa, cs, es, none, 0, rfl, HSS.out.symm, ((HP.out.kept HKr.out).far HV.out.2.2.2 (fun k o hk hx => by have h9 := HGx.out k hk; rcases hx with rfl | rfl; exact h9.2.1 rfl; exact h9.2.2 rfl)).mono (fun k _ hk => HGi.out k hk), ((HS.out.kept HKr.out).far HV.out.2.2.2 (fun k o hk hx => by have h9 := HGx.out k hk; rcases hx with rfl | rfl; exact h9.2.1 rfl; exact h9.2.2 rfl)).mono (fun k _ hk => HGi.out k hk), KIn.none, HV.out.2.2.1⟩
        · have h2b : decide (1099511627775 < ix) = false := decide_eq_false h2
          have HE : Hid (R = (ps, refIn ss tm ix, ⟨1, [], ix, []⟩)) := by
            show _ = _
            rw [HR.out]
            unfold openT
            rw [if_neg (by rw [find_none HNa.out]; unfold isCnt; simp; omega), refIn_is HSrt.out (by rw [HSL.out]; exact hl) HNa.out]
          obtain ⟨full, HFl⟩ : ∃ full : Bool, Hid (full = decide (ss.length = 8)) := ⟨_, rfl⟩
          have hfull : ((es.length : Int) == 8) = full := by
            rw [HFl.out, HSL.out]
            by_cases h8 : es.length = 8
            · rw [h8]; rfl
            · rw [decide_eq_false h8]; exact beq_eq_false_iff_ne.2 (by omega)
          have HRI : Hid (refIn ss tm ix = goIn ix (newS ix tm) false (flagAt full old 0 ss)) := by show _ = _; rw [HFl.out, HOle.out]; rfl
          go_wp2_with fail
          clear t1
          go_loopg [9, 10, 11] es.length (fun g s9 s10 s11 wq => ∃ k : Nat, ∃ o : List Se, ∃ d : Bool, ∃ ao' c', k ≤ es.length ∧ g = es.length - k ∧ s9 = .slice ao' o.length c' ∧ s10 = .bool d ∧ s11 = .int .i64 k ∧ o.length ≤ 2 * k ∧ Hid (o.map Se.s ++ goIn ix (newS ix tm) d (flagAt full old k (ss.drop k)) = refIn ss tm ix) ∧ Hid (OwnE W.heap.size wq ao' c' o) ∧ Hid (∀ e ∈ o, KIn Gd W e.ao e.c e.s.ks ∧ e.s.val.length ≤ maxLen) ∧ Hid (Kept Nil W wq))
          case atStart => exact ⟨0, [], false, none, 0, Nat.zero_le _, rfl, rfl, rfl, rfl, by simp, HRI.out.symm, World.ownsRow_nil _ _ _ _, fun e he => by simp at he, HKr.out⟩
          case round =>
            obtain ⟨k, o, d, ao', c', hk, rfl, rfl, rfl, rfl, hol, HF, HO, HKe, HKq⟩ := hrel
            clear HKr HTr
            rename World => wq
            have HTq : Hid (wq.heap[Tb]? = some (.cells #[.slice ap ps.length cp, .slice sa es.length cs, .int .i64 tm] 70 (0, 0))) := HKq.out.block _ _ HT.out (fun x => x.elim)
            have t1 : wq.cell? ⟨Tb, 1, none⟩ = some (.slice sa es.length cs) := blk_at HTq.out 1 rfl
            have t2 : wq.cell? ⟨Tb, 2, none⟩ = some (.int .i64 tm) := blk_at HTq.out 2 rfl
            by_cases hlt : k < es.length
            · have hki : (k : Int) < es.length := by omega
              have hss : k < ss.length := by rw [HSL.out]; exact hlt
              obtain ⟨a, rfl, c0, c1, c2, c3, c4, c5, c6⟩ := (HS.out.kept HKq.out).row.at7 hlt
              obtain ⟨y, HY⟩ : ∃ y : Se, Hid (y = es[k]) := ⟨es[k], (rfl : es[k] = es[k])⟩
              rw [← HY.out] at c0 c1 c2 c3 c4 c5 c6
              have HSk : Hid (ss[k] = y.s) := by
                have h := HSS.out
                subst h
                rw [HY.out]
                show _ = _
                simp
              have HKy : Hid (KIn Gd W y.ao y.c y.s.ks ∧ y.s.val.length ≤ maxLen) := by rw [HY.out]; exact ⟨HS.out.keys _ (List.getElem_mem hlt), HS.out.val _ (List.getElem_mem hlt)⟩
              have HF1 : Hid (o.map Se.s ++ goIn ix (newS ix tm) d (flagAt full old k (y.s :: ss.drop (k + 1))) = refIn ss tm ix) := by
                have h := HF.out
                rw [List.drop_eq_getElem_cons hss, HSk.out] at h
                exact h
              have HF2 : Hid (_) := goIn_step HF1.out
              clear HF1
              obtain ⟨t, HTt⟩ : ∃ t : Bool, Hid (t = (!d && decide (ix < y.s.cl))) := ⟨_, rfl⟩
              obtain ⟨d2, HD2⟩ : ∃ d2 : Bool, Hid (d2 = (d || decide (ix < y.s.cl))) := ⟨_, rfl⟩
              obtain ⟨t3, HT3⟩ : ∃ t3 : Bool, Hid (t3 = (!full || decide (k ≠ old))) := ⟨_, rfl⟩
              rw [← HTt.out, ← HD2.out, ← HT3.out] at HF2
              have HDt : Hid ((t = true → d2 = true) ∧ (t = false → d2 = d)) := by
                rw [HTt.out, HD2.out]
                cases d <;> cases decide (ix < y.s.cl) <;> simp [Hid]
              go_upto_region 17 with fail
              go_cut [73] (fun s wc => s = .bool t ∧ wc = wq)
              case first =>
                cases d with
                | true =>
                  have HEe : Hid (t = false) := by show _ = _; rw [HTt.out]; rfl
                  go_wp2
                  go_meet
                  exact ⟨by rw [HEe.out], rfl⟩
                | false =>
                  have HEe : Hid (t = decide (ix < y.s.cl)) := by show _ = _; rw [HTt.out]; rfl
                  go_wp2
                  go_meet
                  exact ⟨by rw [HEe.out], rfl⟩
              case rest =>
                obtain ⟨rfl, rfl⟩ := hcut
                rename World => wq
                go_upto_if 73 with fail
                go_cut [9, 10] (fun s9 s10 wc => ∃ o2 : List Se, ∃ ao2 c2, s9 = .slice ao2 o2.length c2 ∧ s10 = .bool d2 ∧ Hid (o2.map Se.s = o.map Se.s ++ (if t = true then [newS ix tm] else [])) ∧ o2.length ≤ 2 * k + 1 ∧ Hid (OwnE W.heap.size wc ao2 c2 o2) ∧ Hid (∀ e ∈ o2, KIn Gd W e.ao e.c e.s.ks ∧ e.s.val.length ≤ maxLen) ∧ Hid (Kept Nil W wc))
                case first =>
                  cases t with
                  | true =>
                    have HEd : Hid (d2 = true) := HDt.out.1 rfl
                    have HOO : Hid (wq.ownsRow W.heap.size 121 7 (.slice ao' o.length c') o.length (seCells o)) := HO.out
                    have HLL : Hid (o.length + 1 ≤ maxLen ∧ (o.length + 1) * 80 ≤ 140737488355328) := by constructor <;> (try unfold maxLen) <;> omega
                    go_wp2_with (at_builtin; go_must (refine wpList_append_src _ rfl _ _ 68 68 rfl W.heap.size 121 i0 (.agg #[.int .i64 0, .int .i64 0, .int .i64 0, .string ⟨#[]⟩, .int .i64 0, .slice none 0 0, .int .i64 0]) 7 80 Try.underlying68 hi hz0 hz1 hz2 rfl _ _ _ rfl (World.ownsRow.alloc HOO.out _) (.slice (some ⟨wq.heap.size, 0, none⟩) 1 1) 1 (seCell (⟨newS ix tm, none, 0⟩ : Se)) rfl (src_se (⟨newS ix tm, none, 0⟩ : Se)) HLL.out.1 HLL.out.2 (le_alloc HKq.out.size _) ?_); intro ao2 c2 w4 ho' hg'; have HO4 : Hid (OwnE W.heap.size w4 ao2 c2 (o ++ [(⟨newS ix tm, none, 0⟩ : Se)])) := OwnE.push (x := (⟨newS ix tm, none, 0⟩ : Se)) ho'; have HK4 : Hid (Kept Nil W w4) := (HKq.out.alloc _).grown hg' (own_row HOO.out); have HKe4 : Hid (∀ e ∈ o ++ [(⟨newS ix tm, none, 0⟩ : Se)], KIn Gd W e.ao e.c e.s.ks ∧ e.s.val.length ≤ maxLen) := keys_push HKe.out ⟨KIn.none, by simp [newS]⟩; clear ho' hg')
                    go_meet
                    exact ⟨o ++ [(⟨newS ix tm, none, 0⟩ : Se)], ao2, c2, by rw [List.length_append]; rfl, by rw [HEd.out], by show _ = _; simp, by rw [List.length_append]; simp; omega, HO4.out, HKe4.out, HK4.out⟩
                  | false =>
                    have HEd : Hid (d2 = d) := HDt.out.2 rfl
                    go_wp2
                    go_meet
                    exact ⟨o, ao', c', rfl, by rw [HEd.out], by show _ = _; simp, by omega, HO.out, HKe.out, HKq.out⟩
                case rest =>
                  obtain ⟨o2, ao2', c2', rfl, rfl, HM2, hol2, HO2, HKe2, HKq2⟩ := hcut
                  rename World => wz
                  clear t1 t2 c0 c1 c2 c3 c4 c5 c6 HTq
                  have HTz : Hid (wz.heap[Tb]? = some (.cells #[.slice ap ps.length cp, .slice (some a) es.length cs, .int .i64 tm] 70 (0, 0))) := HKq2.out.block _ _ HT.out (fun x => x.elim)
                  have t1 : wz.cell? ⟨Tb, 1, none⟩ = some (.slice (some a) es.length cs) := blk_at HTz.out 1 rfl
                  obtain ⟨_, ha', c0, c1, c2, c3, c4, c5, c6⟩ := (HS.out.kept HKq2.out).row.at7 hlt
                  cases ha'
                  rw [← HY.out] at c0 c1 c2 c3 c4 c5 c6
                  rw [← HM2.out] at HF2
                  go_upto_region 20 with fail
                  go_cut [87] (fun s wc => s = .bool t3 ∧ wc = wz)
                  case first =>
                    cases full with
                    | false =>
                      have HEe : Hid (t3 = true) := by show _ = _; rw [HT3.out]; rfl
                      go_wp2
                      go_meet
                      exact ⟨by rw [HEe.out], rfl⟩
                    | true =>
                      have HEe : Hid (t3 = ((k : Int) != (old : Int))) := by
                        show _ = _
                        rw [HT3.out]
                        by_cases e : k = old
                        · subst e; simp
                        · have e2 : ¬ (k : Int) = (old : Int) := by omega
                          simp [e, e2]
                      go_wp2
                      go_meet
                      exact ⟨by rw [HEe.out], rfl⟩
                  case rest =>
                    obtain ⟨rfl, rfl⟩ := hcut
                    rename World => wz
                    go_upto_if 87 with fail
                    cases t3 with
                    | true =>
                      have HOO : Hid (wz.ownsRow W.heap.size 121 7 (.slice ao2' o2.length c2') o2.length (seCells o2)) := HO2.out
                      have HLL : Hid (o2.length + 1 ≤ maxLen ∧ (o2.length + 1) * 80 ≤ 140737488355328) := by constructor <;> (try unfold maxLen) <;> omega
                      go_wp2_with (at_builtin; go_must (refine wpList_append_src _ rfl _ _ 68 68 rfl W.heap.size 121 i0 (.agg #[.int .i64 0, .int .i64 0, .int .i64 0, .string ⟨#[]⟩, .int .i64 0, .slice none 0 0, .int .i64 0]) 7 80 Try.underlying68 hi hz0 hz1 hz2 rfl _ _ _ rfl (World.ownsRow.alloc HOO.out _) (.slice (some ⟨wz.heap.size, 0, none⟩) 1 1) 1 (seCell y) rfl (src_se y) HLL.out.1 HLL.out.2 (le_alloc HKq2.out.size _) ?_); intro ao2 c2 w4 ho' hg'; have HO4 : Hid (OwnE W.heap.size w4 ao2 c2 (o2 ++ [y])) := OwnE.push (x := y) ho'; have HK4 : Hid (Kept Nil W w4) := (HKq2.out.alloc _).grown hg' (own_row HOO.out); have HKe4 : Hid (∀ e ∈ o2 ++ [y], KIn Gd W e.ao e.c e.s.ks ∧ e.s.val.length ≤ maxLen) := keys_push HKe2.out HKy.out; clear ho' hg')
                      go_roundg (es.length - (k + 1))
                      case measure => omega
                      case rel => exact ⟨k + 1, o2 ++ [y], d2, ao2, c2, by omega, rfl, by rw [List.length_append]; rfl, rfl, by go_num, by rw [List.length_append]; simp; omega, by have h := HF2.out; show _ = _; rw [← h]; simp, HO4.out, HKe4.out, HK4.out⟩
                    | false =>
                      go_wp2
                      go_roundg (es.length - (k + 1))
                      case measure => omega
                      case rel => exact ⟨k + 1, o2, d2, ao2', c2', by omega, rfl, rfl, rfl, by go_num, by omega, by have h := HF2.out; show _ = _; rw [← h]; simp, HO2.out, HKe2.out, HKq2.out⟩
            · obtain rfl : k = es.length := by omega
              have HFe : Hid (o.map Se.s ++ (if d = true then [] else [newS ix tm]) = refIn ss tm ix) := by
                have h := HF.out
                rw [List.drop_eq_nil_of_le (by rw [HSL.out]; exact Nat.le_refl _)] at h
                exact h
              go_upto_region 22 with fail
              go_upto_if 97 with fail
              go_cut [9] (fun s9 wc => ∃ o2 : List Se, ∃ ao2 c2, s9 = .slice ao2 o2.length c2 ∧ Hid (o2.map Se.s = refIn ss tm ix) ∧ Hid (OwnE W.heap.size wc ao2 c2 o2) ∧ Hid (∀ e ∈ o2, KIn Gd W e.ao e.c e.s.ks ∧ e.s.val.length ≤ maxLen) ∧ Hid (Kept Nil W wc))
              case first =>
                cases d with
                | true =>
                  go_wp2
                  go_meet
                  exact ⟨o, ao', c', rfl, by have h := HFe.out; show _ = _; rw [← h]; simp, HO.out, HKe.out, HKq.out⟩
                | false =>
                  have HOO : Hid (wq.ownsRow W.heap.size 121 7 (.slice ao' o.length c') o.length (seCells o)) := HO.out
                  have HLL : Hid (o.length + 1 ≤ maxLen ∧ (o.length + 1) * 80 ≤ 140737488355328) := by constructor <;> (try unfold maxLen) <;> omega
                  go_wp2_with (at_builtin; go_must (refine wpList_append_src _ rfl _ _ 68 68 rfl W.heap.size 121 i0 (.agg #[.int .i64 0, .int .i64 0, .int .i64 0, .string ⟨#[]⟩, .int .i64 0, .slice none 0 0, .int .i64 0]) 7 80 Try.underlying68 hi hz0 hz1 hz2 rfl _ _ _ rfl (World.ownsRow.alloc HOO.out _) (.slice (some ⟨wq.heap.size, 0, none⟩) 1 1) 1 (seCell (⟨newS ix tm, none, 0⟩ : Se)) rfl (src_se (⟨newS ix tm, none, 0⟩ : Se)) HLL.out.1 HLL.out.2 (le_alloc HKq.out.size _) ?_); intro ao2 c2 w4 ho' hg'; have HO4 : Hid (OwnE W.heap.size w4 ao2 c2 (o ++ [(⟨newS ix tm, none, 0⟩ : Se)])) := OwnE.push (x := (⟨newS ix tm, none, 0⟩ : Se)) ho'; have HK4 : Hid (Kept Nil W w4) := (HKq.out.alloc _).grown hg' (own_row HOO.out); have HKe4 : Hid (∀ e ∈ o ++ [(⟨newS ix tm, none, 0⟩ : Se)], KIn Gd W e.ao e.c e.s.ks ∧ e.s.val.length ≤ maxLen) := keys_push HKe.out ⟨KIn.none, by simp [newS]⟩; clear ho' hg')
                  go_meet
                  exact ⟨o ++ [(⟨newS ix tm, none, 0⟩ : Se)], ao2, c2, by rw [List.length_append]; rfl, by have h := HFe.out; show _ = _; rw [← h]; simp, HO4.out, HKe4.out, HK4.out⟩
              case rest =>
                obtain ⟨o9, ao9, c9, rfl, HM9, HO9, HKe9, HK9⟩ := hcut
                rename World => wz
                clear t1 t2 HTq HO HKe HKq HF HFe
                have HTz : Hid (wz.heap[Tb]? = some (.cells #[.slice ap ps.length cp, .slice sa es.length cs, .int .i64 tm] 70 (0, 0))) := HK9.out.block _ _ HT.out (fun x => x.elim)
                have B60 : Hid (wz.heap[A]? = some (.cells #[.slice none 0 0, .slice none 0 0, .int .i64 0] 70 (0, 0))) := HK9.out.block _ _ HZA.out (fun x => x.elim)
                have B70 : Hid (wz.heap[D]? = some (.cells #[.int .i64 0, .string ⟨#[]⟩, .int .i64 0, .slice none 0 0] 55 (0, 0))) := HK9.out.block _ _ HZD.out (fun x => x.elim)
                have HS9 : Hid (SIn Gd wz ao9 c9 o9) := SIn.own HO9.out HGn.out (fun e he => (HKe9.out e he).1.kept HK9.out) (fun e he => (HKe9.out e he).2)
                have HP9 : Hid (PIn Gd wz ap cp ps) := HP.out.kept HK9.out
                obtain ⟨t0, t1, t2, tz0, tz1, tz2⟩ := tab_cells HTz.out
                go_upto_region 25 with fail
                obtain ⟨Y, hY⟩ : ∃ Y, Y = wz.setCell ⟨Tb, 1, none⟩ (.slice ao9 o9.length c9) := ⟨_, rfl⟩
                rw [← hY]
                have KYo : Hid (Kept (One Tb) wz Y) := by rw [hY]; exact (Kept.refl _ _).setCell (fun _ => rfl) _
                have KYw : Hid (Kept Nil w Y) := by rw [hY]; exact (KW.out.trans HK9.out).setNew (p := ⟨Tb, 1, none⟩) (by rw [HTe.out]; exact Nat.le_refl _) _
                have HTY : Hid (Y.heap[Tb]? = some (.cells #[.slice ap ps.length cp, .slice ao9 o9.length c9, .int .i64 tm] 70 (0, 0))) := by rw [hY]; exact blk_set HTz.out 1 _
                have HSY : Hid (SIn Gd Y ao9 c9 o9) := HS9.out.far KYo.out (fun k o hk hx => (HGx.out k hk).1 hx)
                have HPY : Hid (PIn Gd Y ap cp ps) := HP9.out.far KYo.out (fun k o hk hx => (HGx.out k hk).1 hx)
                have B61 : Hid (Y.heap[A]? = some (.cells #[.slice none 0 0, .slice none 0 0, .int .i64 0] 70 (0, 0))) := KYo.out.block _ _ B60.out (fun x => HN.out.2.2.2.1 x.symm)
                have B71 : Hid (Y.heap[D]? = some (.cells #[.int .i64 0, .string ⟨#[]⟩, .int .i64 0, .slice none 0 0] 55 (0, 0))) := KYo.out.block _ _ B70.out (fun x => HN.out.2.2.2.2 x.symm)
                clear hY t0 t1 t2 tz0 tz1 tz2
                obtain ⟨t0, t1, t2, _, _, _⟩ := tab_cells HTY.out
                have B6 : Hid (Y.heap[A]? = some (.cells #[.slice none 0 0, .slice none 0 0, .int .i64 0] 70 (0, 0))) := B61.out
                have B7 : Hid (Y.heap[D]? = some (.cells #[.int .i64 0, .string ⟨#[]⟩, .int .i64 0, .slice none 0 0] 55 (0, 0))) := B71.out
                obtain ⟨r0, r1, r2, z0, z1, z2⟩ := tab_cells B6.out
                obtain ⟨s0, s1, s2, s3, y0, y1, y2, y3⟩ := res_cells B7.out
                obtain ⟨V, hV⟩ : ∃ V, V = (((((((Y.setCell ⟨A, 0, none⟩ (.slice ap ps.length cp)).setCell ⟨A, 1, none⟩ (.slice ao9 o9.length c9)).setCell ⟨A, 2, none⟩ (.int .i64 tm)).setCell ⟨D, 0, none⟩ (.int .i64 1)).setCell ⟨D, 1, none⟩ (.string ⟨#[]⟩)).setCell ⟨D, 2, none⟩ (.int .i64 ix)).setCell ⟨D, 3, none⟩ (.slice none 0 0)) := ⟨_, rfl⟩
                have HV : Hid (_) := ret_world hV B6.out B7.out HN.out.1 HN.out.2.1 HN.out.2.2.1 KYw.out
                obtain ⟨hAD, _, _, hTA, hTD⟩ := HN.out
                have hDA : D ≠ A := fun e => hAD e.symm
                have hAT : A ≠ Tb := fun e => hTA e.symm
                have hDT : D ≠ Tb := fun e => hTD e.symm
                go_wp2
                rw [← hV]
                clear hV
                obtain ⟨j0, j1, j2, _⟩ := tab_cells HV.out.1
                obtain ⟨j3, j4, j5, j6, _⟩ := res_cells HV.out.2.1
                refine bodyPost_ret (v := .tuple #[.agg #[.slice ap ps.length cp, .slice ao9 o9.length c9, .int .i64 tm], rrV ⟨1, [], ix, []⟩ none 0]) (by simp [results, Try.results91, go_sem, rrV, bs, j0, j1, j2, j3, j4, j5, j6]) rfl ?_
                rw [HE.out]
                exact ⟨ap, cp, ao9, c9, o9, none, 0, rfl, HM9.out, (HPY.out.far HV.out.2.2.2 (fun k o hk hx => by have h9 := HGx.out k hk; rcases hx with rfl | rfl; exact h9.2.1 rfl; exact h9.2.2 rfl)).mono (fun k _ hk => HGi.out k hk), (HSY.out.far HV.out.2.2.2 (fun k o hk hx => by have h9 := HGx.out k hk; rcases hx with rfl | rfl; exact h9.2.1 rfl; exact h9.2.2 rfl)).mono (fun k _ hk => HGi.out k hk), KIn.none, HV.out.2.2.1⟩

end Go.Proofs.Ytblmmbghnkplkaa
