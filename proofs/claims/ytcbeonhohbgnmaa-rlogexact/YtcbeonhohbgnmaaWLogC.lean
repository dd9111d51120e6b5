/-
  Extend by the document's answer, of logs that may be.
-/
import Derived.Test.YtcbeonhohbgnmaaWLogA
import Derived.Test.YtcbeonhohbgnmaaWLogB
import Derived.Test.YtcbeonhohbgnmaaWLog9
namespace Go.Proofs.Ytcbeonhohbgnmaa
open Go.RowKit

theorem cell_set3 {w6 : World} {N : Nat} {a : Addr} {v : Value} (h : w6.cell? a = some v) (hne : a.block ≠ N) (x y z : Value) : (((w6.setCell ⟨N, 0, none⟩ x).setCell ⟨N, 1, none⟩ y).setCell ⟨N, 2, none⟩ z).cell? a = some v := by
  have k : Kept (One N) w6 (((w6.setCell ⟨N, 0, none⟩ x).setCell ⟨N, 1, none⟩ y).setCell ⟨N, 2, none⟩ z) := (((Kept.refl (One N) w6).setCell (p := ⟨N, 0, none⟩) (fun _ => rfl) x).setCell (p := ⟨N, 1, none⟩) (fun _ => rfl) y).setCell (p := ⟨N, 2, none⟩) (fun _ => rfl) z
  exact cell_kept k (fun _ e => hne e) h
/-- Where the document's Extend stands: its log, and nothing yet. -/
structure RS (w wr : World) (base bt : Int) (ao : Option Addr) (c n : Nat) : Prop where
  kept : Kept Nil w wr
  log : wr.heap[w.heap.size]? = some (.cells #[.int .i64 base, .int .i64 bt, .slice ao n c] 108 (0, 0))
  out : wr.heap[w.heap.size + 1]? = some (.cells #[.int .i64 0, .int .i64 0, .slice none 0 0] 108 (0, 0))
theorem RS.nil {w wr w' : World} {base bt : Int} {ao : Option Addr} {c n : Nat} (h : RS w wr base bt ao c n) (k : Kept Nil wr w') : RS w w' base bt ao c n :=
  ⟨h.kept.trans k, k.block _ _ h.log (fun x => x.elim), k.block _ _ h.out (fun x => x.elim)⟩
theorem RS.outc {w wr : World} {base bt : Int} {ao : Option Addr} {c n : Nat} (h : RS w wr base bt ao c n) : (wr.cell? ⟨w.heap.size + 1, 0, none⟩ = some (.int .i64 0) ∧ wr.cell? ⟨w.heap.size + 1, 1, none⟩ = some (.int .i64 0) ∧ wr.cell? ⟨w.heap.size + 1, 2, none⟩ = some (.slice none 0 0)) ∧ wr.frozen? ⟨w.heap.size + 1, 0, none⟩ = false ∧ wr.frozen? ⟨w.heap.size + 1, 1, none⟩ = false ∧ wr.frozen? ⟨w.heap.size + 1, 2, none⟩ = false :=
  ⟨⟨blk_at h.out 0 rfl, blk_at h.out 1 rfl, blk_at h.out 2 rfl⟩, blk_free h.out 0, blk_free h.out 1, blk_free h.out 2⟩
theorem RS.fin {w wr : World} {base bt : Int} {ao : Option Addr} {c n : Nat} {es : List En} {B : Nat} (h : RS w wr base bt ao c n) (hr : EntRow B w ao es) (x y z : Value) : EntRow (((wr.setCell ⟨w.heap.size + 1, 0, none⟩ x).setCell ⟨w.heap.size + 1, 1, none⟩ y).setCell ⟨w.heap.size + 1, 2, none⟩ z).heap.size (((wr.setCell ⟨w.heap.size + 1, 0, none⟩ x).setCell ⟨w.heap.size + 1, 1, none⟩ y).setCell ⟨w.heap.size + 1, 2, none⟩ z) ao es ∧ Kept Nil w (((wr.setCell ⟨w.heap.size + 1, 0, none⟩ x).setCell ⟨w.heap.size + 1, 1, none⟩ y).setCell ⟨w.heap.size + 1, 2, none⟩ z) := by
  have hk : Kept Nil w (((wr.setCell ⟨w.heap.size + 1, 0, none⟩ x).setCell ⟨w.heap.size + 1, 1, none⟩ y).setCell ⟨w.heap.size + 1, 2, none⟩ z) := ((h.kept.setNew (Nat.le_succ _) _).setNew (Nat.le_succ _) _).setNew (Nat.le_succ _) _
  exact ⟨(hr.nil hk).full, hk⟩

set_option maxRecDepth 100000 in
set_option maxHeartbeats 8000000 in
theorem refExtend_any (B c d : Nat) (base bt prev term : Int) (ao bo : Option Addr) (es ns : List En) (w : World) (h1 : EntRow B w ao es) (h2 : EntRow B w bo ns) (hb : 0 ≤ base ∧ base ≤ 1099511627775) (hl1 : (es.length : Int) ≤ 1099511627776) (hl2 : (ns.length : Int) ≤ 1099511627776) (hc : es.length ≤ c) (hd : ns.length ≤ d) (hp : 0 ≤ prev ∧ prev ≤ 1099511627775) (hix : ∀ j, (hj : j < ns.length) → ns[j].ix = prev + 1 + j) :
    Calls Try.prog 71 #[.agg #[.int .i64 base, .int .i64 bt, .slice ao es.length c], .int .i64 prev, .int .i64 term, .slice bo ns.length d] w fun e w' => ∃ ao' c', e = .returned (.tuple #[.agg #[.int .i64 base, .int .i64 bt, .slice ao' (ext base bt es prev term ns).1.length c'], .int .i64 (ext base bt es prev term ns).2.1, .int .i64 (ext base bt es prev term ns).2.2.1, .int .i64 (ext base bt es prev term ns).2.2.2]) ∧ EntRow w'.heap.size w' ao' (ext base bt es prev term ns).1 ∧ Kept Nil w w' := by
  obtain ⟨i0, hii, hz0, hz1, hz2⟩ := info_parts Try.infoEn
  have HR : Hid (EntRow B w ao es) := h1
  have HR2 : Hid (EntRow B w bo ns) := h2
  have HIX : Hid (∀ j, (hj : j < ns.length) → ns[j].ix = prev + 1 + j) := hix
  have HBB : Hid (0 ≤ base ∧ base ≤ 1099511627775) := hb
  have HLL1 : Hid ((es.length : Int) ≤ 281474976710656) := by show _ ≤ _; omega
  have HQ : Hid (((w.alloc (.cells #[.int .i64 base, .int .i64 bt, .slice ao es.length c] 108)).alloc (.cells #[.int .i64 0, .int .i64 0, .slice none 0 0] 108)).heap[w.heap.size]? = some (.cells #[.int .i64 base, .int .i64 bt, .slice ao es.length c] 108 (0, 0)) ∧ ((w.alloc (.cells #[.int .i64 base, .int .i64 bt, .slice ao es.length c] 108)).alloc (.cells #[.int .i64 0, .int .i64 0, .slice none 0 0] 108)).heap[w.heap.size + 1]? = some (.cells #[.int .i64 0, .int .i64 0, .slice none 0 0] 108 (0, 0))) := by
    refine ⟨blk_past (blk_new w _) _, ?_⟩
    have := blk_new (w.alloc (.cells #[.int .i64 base, .int .i64 bt, .slice ao es.length c] 108)) (.cells #[.int .i64 0, .int .i64 0, .slice none 0 0] 108)
    rwa [show (w.alloc (.cells #[.int .i64 base, .int .i64 bt, .slice ao es.length c] 108)).heap.size = w.heap.size + 1 by simp] at this
  have HX0 : Hid (RS w ((w.alloc (.cells #[.int .i64 base, .int .i64 bt, .slice ao es.length c] 108)).alloc (.cells #[.int .i64 0, .int .i64 0, .slice none 0 0] 108)) base bt ao c es.length) := ⟨((Kept.refl _ _).alloc _).alloc _, HQ.out.1, HQ.out.2⟩
  obtain ⟨hb0, hb1⟩ := hb
  obtain ⟨hp0, hp1⟩ := hp
  clear h1 h2 hix HQ
  go_enter Try.func71, Try.ntmps71
  go_upto_block 0 with fail
  generalize (w.alloc (.cells #[.int .i64 base, .int .i64 bt, .slice ao es.length c] 108)).alloc (.cells #[.int .i64 0, .int .i64 0, .slice none 0 0] 108) = w2 at HX0 ⊢
  go_cut [1, 2, 12] from 18 to 39 (fun s1 s2 s3 wc => ∃ k : Nat, ∃ pt : Int, k ≤ ns.length ∧ s1 = .int .i64 (prev + k) ∧ s2 = .int .i64 pt ∧ s3 = .int .i64 k ∧ Hid (skip base prev term ns = (prev + k, pt, ns.drop k)) ∧ Hid (RS w wc base bt ao c es.length))
  case first =>
    go_wp2_with fail
    go_loopg [1, 2, 12] ns.length (fun g s1 s2 s3 wr => ∃ k : Nat, ∃ pt : Int, k ≤ ns.length ∧ g = ns.length - k ∧ s1 = .int .i64 (prev + k) ∧ s2 = .int .i64 pt ∧ s3 = .int .i64 k ∧ Hid (skip base prev term ns = skip base (prev + k) pt (ns.drop k)) ∧ Hid (RS w wr base bt ao c es.length))
    case atStart => exact ⟨0, term, Nat.zero_le _, rfl, by go_num, rfl, rfl, (by show _ = _; simp), HX0.out⟩
    case round =>
      obtain ⟨k, pt, hk, rfl, rfl, rfl, rfl, HS, HX⟩ := hrel
      obtain ⟨x0, x1, x2⟩ := lookB HX.out.log
      clear HX0
      by_cases hgo : k < ns.length ∧ prev + k < base
      · obtain ⟨g1, g2⟩ := hgo
        obtain ⟨a, rfl, _, q0, q1, _⟩ := (HR2.out.nil HX.out.kept) k g1
        have hxk := HIX.out k g1
        have HF : Hid (skip base prev term ns = skip base (prev + (k + 1 : Nat)) ns[k].tm (ns.drop (k + 1))) := by
          show _ = _
          rw [HS.out, List.drop_eq_getElem_cons g1, skip_more g2, hxk, show prev + 1 + (k : Int) = prev + ((k + 1 : Nat) : Int) by omega]
        have hki : (k : Int) < ns.length := by omega
        rw [hxk] at q0
        generalize ns[k].tm = tm at *
        clear hxk
        go_wp2
        go_roundg (ns.length - (k + 1))
        case measure => omega
        case rel => exact ⟨k + 1, tm, by omega, rfl, by rw [show prev + ((k + 1 : Nat) : Int) = prev + 1 + (k : Int) by omega], rfl, by go_num, HF.out, HX.out⟩
      · have HF : Hid (skip base prev term ns = (prev + k, pt, ns.drop k)) := HS.out.trans (skip_end (fun h => hgo ⟨by have := h.2; rw [ne_eq, List.drop_eq_nil_iff] at this; omega, h.1⟩))
        by_cases g1 : k < ns.length
        · have hki : (k : Int) < ns.length := by omega
          have g2 : ¬ prev + (k : Int) < base := fun g2 => hgo ⟨g1, g2⟩
          clear hgo
          go_wp2
          go_meet
          exact ⟨k, pt, hk, rfl, rfl, rfl, HF.out, HX.out⟩
        · have hki : ¬ (k : Int) < ns.length := by omega
          clear hgo
          go_wp2
          go_meet
          exact ⟨k, pt, hk, rfl, rfl, rfl, HF.out, HX.out⟩
  case rest =>
    obtain ⟨k, pt, hk, rfl, rfl, rfl, HS, HX⟩ := hcut
    rename World => wk
    clear HX0
    have hE : ext base bt es prev term ns = extAt base bt es (prev + k) pt (ns.drop k) := by unfold ext; rw [HS.out]
    obtain ⟨x0, x1, x2⟩ := lookB HX.out.log
    obtain ⟨po, hpo⟩ : ∃ po, prev + (k : Int) = po := ⟨_, rfl⟩
    have HPO : Hid (prev + (k : Int) = po) := hpo
    rw [hpo] at hE ⊢
    have hpob : 0 ≤ po ∧ po ≤ 4611686018427387904 := by omega
    obtain ⟨hpo0, hpo1⟩ := hpob
    clear hpo
    by_cases hlt : po < base
    · have HF : Hid (ext base bt es prev term ns = (es, po, 0, 0)) := hE.trans (if_pos hlt)
      obtain ⟨⟨p0, p1, p2⟩, f0, f1, f2⟩ := HX.out.outc
      clear hE
      go_wp2
      refine bodyPost_ret (v := .tuple #[.agg #[.int .i64 base, .int .i64 bt, .slice ao es.length c], .int .i64 po, .int .i64 0, .int .i64 0]) (by simp [results, Try.results71, go_sem, p0, p1, p2]) rfl ?_
      rw [HF.out]
      exact ⟨ao, c, rfl, (HX.out.fin HR.out _ _ _).1, (HX.out.fin HR.out _ _ _).2⟩
    · have T := fun (i : Int) w' (hk : Kept Nil w w') hi => refTermAt_any B c base bt i ao es w' (HR.out.nil hk) HBB.out HLL1.out hi
      have T1 := T po wk HX.out.kept (by omega)
      by_cases hover : base + es.length < po
      · have e1 : tAt base bt es po = (0, 12) := (if_neg hlt).trans (if_pos hover)
        have HF : Hid (ext base bt es prev term ns = (es, 0, 0, base + es.length + 1)) := by
          show _ = _
          rw [hE]
          unfold extAt
          rw [if_neg hlt, if_neg (by rw [e1]; simp)]
          unfold look
          rw [if_pos hover]
        rw [e1] at T1
        have E := fun w' => refEndL_any c base bt ao es.length w' HBB.out HLL1.out
        clear hE e1
        go_wp2_with fail
        refine T1.mono ?_
        rintro e wm ⟨rfl, km⟩
        have HXm : Hid (RS w wm base bt ao c es.length) := HX.out.nil km
        obtain ⟨y0, y1, y2⟩ := lookB HXm.out.log
        obtain ⟨⟨p0, p1, p2⟩, f0, f1, f2⟩ := HXm.out.outc
        have hwr : IntKind.i64.wrap (base + (es.length : Int) + 1) = base + es.length + 1 := by rw [IntKind.wrap_i64]; omega
        clear km x0 x1 x2 T1
        go_wp2
        go_region_with (go_at_call 164; go_must (refine (E _).mono ?_); rintro e wn ⟨rfl, kn⟩; have HXn : Hid (RS w wn base bt ao c es.length) := (HXm.out.nil ((Kept.refl _ _).drew)).nil kn; obtain ⟨⟨r0, r1, r2⟩, g0, g1, g2⟩ := HXn.out.outc; obtain ⟨v0, v1, v2⟩ := lookB HXn.out.log; clear kn)
        all_goals
          go_wp2
          refine bodyPost_ret (v := .tuple #[.agg #[.int .i64 base, .int .i64 bt, .slice ao es.length c], .int .i64 0, .int .i64 0, .int .i64 (base + es.length + 1)]) (by simp [results, Try.results71, go_sem, r0, r1, r2]) rfl ?_
          rw [HF.out]
          exact ⟨ao, c, rfl, (HXn.out.fin HR.out _ _ _).1, (HXn.out.fin HR.out _ _ _).2⟩
      · obtain ⟨q, rfl⟩ : ∃ q : Nat, po = base + q := ⟨(po - base).toNat, by omega⟩
        have hq : q ≤ es.length := by omega
        have hqs : (base + (q : Int) - base).toNat = q := by omega
        rw [tAt_in hq] at T1
        simp only at T1
        by_cases hta : tmAt bt es q = pt
        · have hE2 : ext base bt es prev term ns = if cnt (es.drop q) (ns.drop k) < (ns.drop k).length then (es.take (q + cnt (es.drop q) (ns.drop k)) ++ (ns.drop k).drop (cnt (es.drop q) (ns.drop k)), base + q + ((ns.drop k).length : Nat), base + q + (cnt (es.drop q) (ns.drop k) : Nat) + 1, 0) else (es, base + q + ((ns.drop k).length : Nat), 0, 0) := by
            rw [hE]
            unfold extAt
            rw [if_neg hlt, if_pos (by rw [tAt_in hq, hta]), hqs]
          have HE2 : Hid _ := hE2
          rw [hta] at T1
          clear hE hE2 hqs hta
          go_wp2_with fail
          refine T1.mono ?_
          rintro e wm ⟨rfl, km⟩
          have HXm : Hid (RS w wm base bt ao c es.length) := HX.out.nil km
          clear km x0 x1 x2 T1 HX
          have hne : (pt != pt) = false := by simp
          go_wp2
          go_loopg [16] (ns.length - k) (fun g s16 wr => ∃ i : Nat, k ≤ i ∧ i ≤ ns.length ∧ g = ns.length - i ∧ s16 = .int .i64 i ∧ Hid (cnt (es.drop q) (ns.drop k) = (i - k) + cnt ((es.drop q).drop (i - k)) ((ns.drop k).drop (i - k))) ∧ Hid (RS w wr base bt ao c es.length))
          case atStart => exact ⟨k, Nat.le_refl _, hk, by omega, rfl, (by show _ = _; rw [Nat.sub_self]; simp), HXm.out⟩
          case round =>
            obtain ⟨i, hki, hin, rfl, rfl, HC, HX⟩ := hrel
            clear HXm
            by_cases g1 : i < ns.length
            · obtain ⟨j, hj⟩ : ∃ j, i - k = j := ⟨_, rfl⟩
              have HJ : Hid (i - k = j ∧ i = k + j) := ⟨hj, by omega⟩
              have hjq : q + j ≤ es.length := by
                have h1 := cnt_le (es.drop q) (ns.drop k)
                have h2 := HC.out
                rw [List.length_drop] at h1
                omega
              rw [hj] at HC
              obtain ⟨b, hbo, _, z0, z1, _⟩ := (HR2.out.nil HX.out.kept) i g1
              have hxi := HIX.out i g1
              have hixi : prev + 1 + (i : Int) = base + (q + 1 + j : Nat) := by have := HPO.out; have := HJ.out.2; omega
              rw [hxi, hixi] at z0
              obtain ⟨tm, htm⟩ : ∃ tm, ns[i].tm = tm := ⟨_, rfl⟩
              rw [htm] at z1
              have T2 := fun w' hk => T (base + (q + 1 + j : Nat)) w' hk (by omega)
              obtain ⟨x0, x1, x2⟩ := lookB HX.out.log
              have hil : (i : Int) < ns.length := by omega
              have HFIN : Hid ((tAt base bt es (base + (q + 1 + j : Nat)) = (tm, 0) → cnt (es.drop q) (ns.drop k) = (i + 1 - k) + cnt ((es.drop q).drop (i + 1 - k)) ((ns.drop k).drop (i + 1 - k))) ∧ (tAt base bt es (base + (q + 1 + j : Nat)) ≠ (tm, 0) → cnt (es.drop q) (ns.drop k) = j)) := by
                have hjn : j < (ns.drop k).length := by rw [List.length_drop]; have := HJ.out.2; omega
                have hnt : (ns.drop k)[j].tm = tm := by
                  rw [List.getElem_drop, ← htm]
                  congr 1
                  congr 1
                  exact HJ.out.2.symm
                have e9 : i + 1 - k = j + 1 := by have := HJ.out.2; omega
                by_cases hin2 : q + j < es.length
                · have hje : j < (es.drop q).length := by rw [List.length_drop]; omega
                  have hta2 : tAt base bt es (base + (q + 1 + j : Nat)) = ((es.drop q)[j].tm, 0) := by
                    rw [tAt_in (show q + 1 + j ≤ es.length by omega), tmAt_pos (by omega) (show q + 1 + j - 1 < es.length by omega), List.getElem_drop]
                    congr 3
                    omega
                  have hst := cnt_at hje hjn
                  rw [hnt] at hst
                  rw [hta2, e9]
                  refine ⟨fun h => ?_, fun h => ?_⟩
                  · rw [HC.out, hst, if_pos (by simpa using h)]; omega
                  · rw [HC.out, hst, if_neg (fun e => h (by rw [e]))]; rfl
                · have hta2 : tAt base bt es (base + (q + 1 + j : Nat)) = (0, 12) := by
                    unfold tAt
                    rw [if_neg (by omega), if_pos (by omega)]
                  rw [hta2]
                  refine ⟨fun h => by simp at h, fun _ => ?_⟩
                  rw [HC.out, cnt_end (fun h => by rw [List.length_drop] at h; omega)]
                  rfl
              generalize hta3 : tAt base bt es (base + (q + 1 + j : Nat)) = ta at T2 HFIN
              obtain ⟨t, x⟩ := ta
              simp only at T2
              have HTM : Hid (ns[i].tm = tm) := htm
              clear hta3 htm hxi hj HC
              go_upto_region 17 with fail
              go_cut [13, 14] from 67 to 129 (fun a b wx => a = .int .i64 t ∧ b = .int .i64 x ∧ Hid (RS w wx base bt ao c es.length))
              case first =>
                subst hbo
                go_region_with (go_at_call 79; go_must (refine (T2 _ (HX.out.kept.drew)).mono ?_); rintro e wn ⟨rfl, kn⟩; have HXn : Hid (RS w wn base bt ao c es.length) := (HX.out.nil ((Kept.refl _ _).drew)).nil kn; clear kn)
                all_goals
                  go_wp2_with fail
                  go_meet
                  exact ⟨rfl, rfl, HXn.out⟩
              case rest =>
                obtain ⟨rfl, rfl, HXn⟩ := hcut
                rename World => wn
                obtain ⟨b', hbo', _, y0, y1, _⟩ := (HR2.out.nil HXn.out.kept) i g1
                rw [HIX.out i g1, hixi] at y0
                rw [HTM.out] at y1
                rw [hbo] at hbo'
                cases hbo'
                clear z0 z1 x0 x1 x2 HX T2
                by_cases hok : x = 0 ∧ t = tm
                · obtain ⟨rfl, rfl⟩ := hok
                  have HF : Hid _ := HFIN.out.1 rfl
                  have htt : (t == t) = true := by simp
                  clear HFIN
                  subst hbo
                  go_wp2
                  go_roundg (ns.length - (i + 1))
                  case measure => omega
                  case rel => exact ⟨i + 1, by omega, by omega, rfl, by go_num, HF.out, HXn.out⟩
                · have hcj := HFIN.out.2 (fun e => by simp only [Prod.mk.injEq] at e; exact hok ⟨e.2, e.1⟩)
                  have HF : Hid (ext base bt es prev term ns = (es.take (q + j) ++ ns.drop i, base + q + ns.length - k, base + (q + 1 + j : Nat), 0)) := by
                    show _ = _
                    rw [HE2.out, hcj, List.length_drop, if_pos (by have := HJ.out.2; omega), List.drop_drop, show k + j = i from HJ.out.2.symm, show base + (q : Int) + ((ns.length - k : Nat) : Int) = base + q + ns.length - k by omega, show base + (q : Int) + (j : Int) + 1 = base + ((q + 1 + j : Nat) : Int) by omega]
                  clear HFIN hcj HE2
                  subst hbo
                  obtain ⟨sx, hsx⟩ : ∃ sx, q + j = sx := ⟨_, rfl⟩
                  rw [hsx] at hjq HF
                  obtain ⟨ixv, hixv⟩ : ∃ v : Int, base + ((q + 1 + j : Nat) : Int) = v := ⟨_, rfl⟩
                  rw [hixv] at y0 HF
                  have hw1 : IntKind.i64.wrap (ixv - base) = (sx : Int) + 1 := by rw [IntKind.wrap_i64]; omega
                  have hw2 : IntKind.i64.wrap (sx : Int) = sx := by rw [IntKind.wrap_i64]; omega
                  have hw3 : (sx : Int) ≤ c := by omega
                  have HIV : Hid (prev + 1 + (i : Int) = ixv) := hixi.trans hixv
                  have hid1 : i < d := by omega
                  have hid2 : ¬ d = i := by omega
                  have hid3 : (i : Int) ≤ ns.length := by omega
                  have hid4 : (ns.length : Int) ≤ d := by omega
                  have HPR : Hid ((es.take sx).length = sx) := by show _ = _; rw [List.length_take]; omega
                  obtain ⟨x0, x1, x2⟩ := lookB HXn.out.log
                  have hmt : 0 ≤ base + (q : Int) + ns.length ∧ base + (q : Int) + ns.length ≤ 4611686018427387904 := by omega
                  obtain ⟨hmt0, hmt1⟩ := hmt
                  have hw4 : IntKind.i64.wrap (base + (q : Int) + (ns.length : Int)) = base + q + ns.length := by rw [IntKind.wrap_i64]; omega
                  have hw5 : IntKind.i64.wrap (base + (q : Int) + (ns.length : Int) - (k : Int)) = base + q + ns.length - k := by rw [IntKind.wrap_i64]; omega
                  clear hsx hixv hixi HJ
                  go_upto_region 18 with fail
                  go_cut [93] from 67 to 129 (fun r wx => r = .bool false ∧ wx = wn)
                  case first =>
                    by_cases hx : x = 0
                    · have hx1 : (x == 0) = true := by simpa using hx
                      have ht1 : (t == tm) = false := by simp only [beq_eq_false_iff_ne]; exact fun e => hok ⟨hx, e⟩
                      clear hx hok
                      go_wp2
                      go_meet
                      exact ⟨rfl, rfl⟩
                    · have hx1 : (x == 0) = false := by simpa using hx
                      clear hx hok
                      go_wp2
                      go_meet
                      exact ⟨rfl, rfl⟩
                  case rest =>
                    obtain ⟨rfl, rfl⟩ := hcut
                    rename World => wn
                    clear hok
                    have HSRC : Hid (Src Try.prog 4 78 (.slice ao sx c) sx (enCells (es.take sx)) wn.drew) := by
                      have := ((HR.out.nil HXn.out.kept.drew).take sx).src (c := c)
                      rw [HPR.out] at this
                      exact this
                    have HLL : Hid (0 + sx ≤ maxLen ∧ (0 + sx) * 40 ≤ 140737488355328) := by constructor <;> (try unfold maxLen) <;> omega
                    have HSZ : Hid (w.heap.size + 2 ≤ wn.heap.size) := lt_of_block HXn.out.out
                    go_upto_region 20 with fail
                    go_cut [17] from 67 to 129 (fun v wx => ∃ ao2 : Option Addr, ∃ c2 : Nat, v = .slice ao2 sx c2 ∧ Hid (wx.ownsRow (w.heap.size + 2) 48 4 (.slice ao2 sx c2) sx (enCells (es.take sx))) ∧ Hid (RS w wx base bt ao c es.length))
                    case first =>
                      go_region_law (refine step_append_src _ rfl (.tmp 94) (.tmp 106) 78 78 rfl (w.heap.size + 2) 48 i0 (.agg #[.int .i64 0, .int .i64 0, .int .i64 0, .string ⟨#[]⟩]) 4 40 Try.underlying78 hii hz0 hz1 hz2 rfl (.slice none 0 0) 0 [] (by simp [Act.eval, Act.put]) (World.ownsRow_nil _ _ _ _) (.slice ao sx c) sx (enCells (es.take sx)) (by simp [Act.eval, Act.put]) HSRC.out HLL.out.1 HLL.out.2 HSZ.out ?_; intro ao2 c2 w4 ho' hg'; have HO4 : Hid (w4.ownsRow (w.heap.size + 2) 48 4 (.slice ao2 (0 + sx) c2) (0 + sx) ([] ++ enCells (es.take sx))) := ho'; have HX4 : Hid (RS w w4 base bt ao c es.length) := ⟨(HXn.out.kept.drew).grown hg' (fun k hk => by simp [Value.ownBlock] at hk), (hg'.block _ (lt_of_block HXn.out.log) (by simp [Value.ownBlock])).trans HXn.out.log, (hg'.block _ (lt_of_block HXn.out.out) (by simp [Value.ownBlock])).trans HXn.out.out⟩; clear ho' hg')
                      all_goals
                        go_wp2
                        go_meet
                        have ho4 := HO4.out
                        rw [Nat.zero_add, List.nil_append] at ho4
                        exact ⟨ao2, c2, by first | rfl | rw [Nat.zero_add], ho4, HX4.out⟩
                    case rest =>
                      obtain ⟨ao2, c2, rfl, HO2, HX2⟩ := hcut
                      rename World => w5
                      have HSR2 : Hid (Src Try.prog 4 78 (.slice (some (b.add (i * 4))) (ns.length - i) (d - i)) (ns.length - i) (enCells (ns.drop i)) w5) := by
                        have := ((HR2.out.nil HX2.out.kept).drop i).src (c := d - i)
                        rw [List.length_drop] at this
                        exact this
                      have HLL2 : Hid (sx + (ns.length - i) ≤ maxLen ∧ (sx + (ns.length - i)) * 40 ≤ 140737488355328) := by constructor <;> (try unfold maxLen) <;> omega
                      have HSZ2 : Hid (w.heap.size + 2 ≤ w5.heap.size) := lt_of_block HX2.out.out
                      clear x0 x1 x2 y0 y1
                      go_upto_region 22 with (at_builtin; go_must (refine wpList_append_src _ rfl _ _ 78 78 rfl (w.heap.size + 2) 48 i0 (.agg #[.int .i64 0, .int .i64 0, .int .i64 0, .string ⟨#[]⟩]) 4 40 Try.underlying78 hii hz0 hz1 hz2 rfl _ _ _ rfl HO2.out (.slice (some (b.add (i * 4))) (ns.length - i) (d - i)) (ns.length - i) (enCells (ns.drop i)) rfl HSR2.out HLL2.out.1 HLL2.out.2 HSZ2.out ?_); intro ao3 c3 w6 ho' hg'; have HO6 : Hid (w6.ownsRow (w.heap.size + 2) 48 4 (.slice ao3 (sx + (ns.length - i)) c3) (sx + (ns.length - i)) (enCells (es.take sx) ++ enCells (ns.drop i))) := ho'; have HX6 : Hid (RS w w6 base bt ao c es.length) := ⟨HX2.out.kept.grown hg' (fun k hk => by have := own_row HO2.out k hk; omega), grown_oldB hg' HO2.out (show w.heap.size < w.heap.size + 2 by omega) HX2.out.log, grown_oldB hg' HO2.out (Nat.lt_succ_self _) HX2.out.out⟩; clear ho' hg')
                      obtain ⟨x0, x1, x2⟩ := lookB HX6.out.log
                      obtain ⟨⟨p0, p1, p2⟩, f0, f1, f2⟩ := HX6.out.outc
                      obtain ⟨b'', hbo'', _, y0, _⟩ := (HR2.out.nil HX6.out.kept) i g1
                      cases hbo''
                      have hy0 := HIX.out i g1
                      rw [hy0, HIV.out] at y0
                      clear hy0
                      have hbne : b.block ≠ w.heap.size + 1 := by
                        obtain ⟨b3, hb3, hlt3, _⟩ := HR2.out.full i g1
                        cases hb3
                        omega
                      have y0' : ∀ x y z : Value, (((w6.setCell ⟨w.heap.size + 1, 0, none⟩ x).setCell ⟨w.heap.size + 1, 1, none⟩ y).setCell ⟨w.heap.size + 1, 2, none⟩ z).cell? (b.add (i * 4)) = some (.int .i64 ixv) := fun x y z => cell_set3 y0 (by rw [add_block]; exact hbne) x y z
                      clear hbne
                      go_region
                      all_goals
                        go_wp2
                        refine bodyPost_ret (v := .tuple #[.agg #[.int .i64 base, .int .i64 bt, .slice ao3 (sx + (ns.length - i)) c3], .int .i64 (base + q + ns.length - k), .int .i64 ixv, .int .i64 0]) (by simp [results, Try.results71, go_sem, p0, p1, p2]) rfl ?_
                        rw [HF.out]
                        have hk6 : Kept Nil w (((w6.setCell ⟨w.heap.size + 1, 0, none⟩ (.int .i64 base)).setCell ⟨w.heap.size + 1, 1, none⟩ (.int .i64 bt)).setCell ⟨w.heap.size + 1, 2, none⟩ (.slice ao3 (sx + (ns.length - i)) c3)) := ((HX6.out.kept.setNew (Nat.le_succ _) _).setNew (Nat.le_succ _) _).setNew (Nat.le_succ _) _
                        have hw9 : w.heap.size + 1 < w.heap.size + 2 := by omega
                        have hlen9 : (es.take sx ++ ns.drop i).length = sx + (ns.length - i) := by rw [List.length_append, HPR.out, List.length_drop]
                        have ho9 : OwnEs (w.heap.size + 2) w6 ao3 c3 (es.take sx ++ ns.drop i) := by
                          unfold OwnEs
                          rw [enCells_append, hlen9]
                          exact HO6.out
                        have hro := OwnEs.row (ownsRow_setCell_below (ownsRow_setCell_below (ownsRow_setCell_below ho9 hw9 (.int .i64 base) (a := ⟨w.heap.size + 1, 0, none⟩)) hw9 (.int .i64 bt) (a := ⟨w.heap.size + 1, 1, none⟩)) hw9 (.slice ao3 (sx + (ns.length - i)) c3) (a := ⟨w.heap.size + 1, 2, none⟩)) (fun e he => by
                          rcases List.mem_append.mp he with he | he
                          · exact HR.out.small e (List.mem_of_mem_take he)
                          · exact HR2.out.small e (List.mem_of_mem_drop he))
                        first
                          | exact ⟨ao3, ⟨c3, by simp only [hlen9]⟩, hro, hk6.drew⟩
                          | exact ⟨ao3, c3, by simp only [hlen9], hro, hk6.drew⟩
            · have HF : Hid (ext base bt es prev term ns = (es, base + q + ns.length - k, 0, 0)) := by
                show _ = _
                have hc2 : cnt (es.drop q) (ns.drop k) = ns.length - k := by
                  rw [HC.out, cnt_end (fun h => by rw [List.length_drop] at h; rw [List.length_drop] at h; omega)]
                  omega
                rw [HE2.out, hc2, List.length_drop, if_neg (by omega), show base + (q : Int) + ((ns.length - k : Nat) : Int) = base + q + ns.length - k by omega]
              have hil : ¬ (i : Int) < ns.length := by omega
              obtain ⟨x0, x1, x2⟩ := lookB HX.out.log
              obtain ⟨⟨p0, p1, p2⟩, f0, f1, f2⟩ := HX.out.outc
              clear HE2 HC
              go_wp2
              refine bodyPost_ret (v := .tuple #[.agg #[.int .i64 base, .int .i64 bt, .slice ao es.length c], .int .i64 (base + q + ns.length - k), .int .i64 0, .int .i64 0]) (by simp [results, Try.results71, go_sem, p0, p1, p2]) rfl ?_
              rw [HF.out]
              exact ⟨ao, ⟨c, rfl⟩, (HX.out.fin HR.out _ _ _).1, (HX.out.fin HR.out _ _ _).2⟩
        · have HF : Hid (ext base bt es prev term ns = (es, 0, 0, base + (down bt es (tmAt bt es q) q : Nat))) := by
            show _ = _
            rw [hE]
            unfold extAt
            rw [if_neg hlt, if_neg (by rw [tAt_in hq]; intro e; simp only [Prod.mk.injEq] at e; exact hta e.1)]
            unfold look
            rw [if_neg hover, hqs]
          have F := fun w' (hk : Kept Nil w w') => refFirst_any B c q base bt ao es w' (HR.out.nil hk) HBB.out HLL1.out hq
          generalize (down bt es (tmAt bt es q) q : Nat) = dn at HF F
          generalize tmAt bt es q = t at T1 hta
          have hta' : (t != pt) = true := by simpa using hta
          clear hE hqs hta
          go_wp2_with fail
          refine T1.mono ?_
          rintro e wm ⟨rfl, km⟩
          have HXm : Hid (RS w wm base bt ao c es.length) := HX.out.nil km
          obtain ⟨y0, y1, y2⟩ := lookB HXm.out.log
          clear km x0 x1 x2 T1 HX
          go_wp2_with fail
          refine (F _ HXm.out.kept).mono ?_
          rintro e wn ⟨rfl, kn⟩
          have HXn : Hid (RS w wn base bt ao c es.length) := HXm.out.nil kn
          obtain ⟨v0, v1, v2⟩ := lookB HXn.out.log
          obtain ⟨⟨p0, p1, p2⟩, f0, f1, f2⟩ := HXn.out.outc
          clear kn y0 y1 y2 HXm
          go_wp2
          refine bodyPost_ret (v := .tuple #[.agg #[.int .i64 base, .int .i64 bt, .slice ao es.length c], .int .i64 0, .int .i64 0, .int .i64 (base + dn)]) (by simp [results, Try.results71, go_sem, p0, p1, p2]) rfl ?_
          rw [HF.out]
          exact ⟨ao, c, rfl, (HXn.out.fin HR.out _ _ _).1, (HXn.out.fin HR.out _ _ _).2⟩

end Go.Proofs.Ytcbeonhohbgnmaa
