/-
  Extend: the program's.
-/
import Derived.Test.YtopdgkebbdheiaaWLog8
namespace Go.Proofs.Ytopdgkebbdheiaa
open Go.RowKit

theorem own_take {w : World} {B s n c : Nat} {e : TypeId} {ao : Option Addr} {xs : List Value} (h : w.ownsRow B e s (.slice ao n c) n xs) {k : Nat} (hk : k ≤ n) : w.ownsRow B e s (.slice ao k c) k (xs.take (k * s)) := by
  have hks : k * s ≤ n * s := Nat.mul_le_mul_right _ hk
  refine ⟨by rw [List.length_take, h.1]; omega, ?_⟩
  rcases h.2 with ⟨h1, h2⟩ | ⟨g, cap, cur, h1, h2, h3, h4, h5, h6, h7⟩
  · left
    simp only [Value.slice.injEq] at h1 ⊢
    exact ⟨⟨h1.1, by omega, h1.2.2⟩, by omega⟩
  · right
    simp only [Value.slice.injEq] at h1
    refine ⟨g, cap, cur, by simp only [Value.slice.injEq]; exact ⟨h1.1, trivial, h1.2.2⟩, h2, h3, by omega, h5, h6, ?_⟩
    rw [← h7, List.take_take, Nat.min_eq_left hks]
theorem enCells_take (es : List En) (k : Nat) : enCells (es.take k) = (enCells es).take (k * 4) := by
  by_cases h : k ≤ es.length
  · have h1 : enCells es = enCells (es.take k) ++ enCells (es.drop k) := by rw [← enCells_append, List.take_append_drop]
    have h2 : (enCells (es.take k)).length = k * 4 := by rw [enCells_len, List.length_take]; omega
    rw [h1, ← h2, List.take_left]
  · rw [List.take_of_length_le (by omega), List.take_of_length_le (by rw [enCells_len]; omega)]
theorem own_capE {w : World} {B c : Nat} {ao : Option Addr} {es : List En} (h : OwnEs B w ao c es) : es.length ≤ c := by
  rcases h.2 with ⟨h1, h2⟩ | ⟨g, cap, cur, h1, h2, h3, h4, _⟩
  · simp only [Value.slice.injEq] at h1
    omega
  · simp only [Value.slice.injEq] at h1
    omega
/-- A block ahead of the rows stays where a row grows. -/
theorem grown_oldE {wa w' : World} {B n s : Nat} {e : TypeId} {v : Value} {xs : List Value} {k : Nat} {o : Obj} (hg : wa.drew.grownBy w' v.ownBlock) (ho : wa.ownsRow B e s v n xs) (hk : k < B) (hb : wa.heap[k]? = some o) : w'.heap[k]? = some o := by
  have hlt : k < wa.drew.heap.size := lt_of_block hb
  rw [hg.block k hlt (fun e => by have := own_row ho k e.symm; omega)]
  exact hb
theorem some_no {a : Addr} {P : Prop} : some a = none → P := fun h => by cases h
theorem nil_is {bo : Option Addr} {d : Nat} (h : bo = none → (True ∧ d = 0)) : bo = none → (([] : List En) = [] ∧ d = 0) := fun e => ⟨rfl, (h e).2⟩
/-- Where Extend stands: its log, what comes out. -/
structure XS (w wr : World) (base bt : Int) (ao : Option Addr) (c : Nat) (es : List En) (ao1 : Option Addr) (c1 : Nat) : Prop where
  kept : Kept Nil w wr
  log : wr.heap[w.heap.size]? = some (.cells #[.int .i64 base, .int .i64 bt, .slice ao es.length c] 53 (0, 0))
  out : wr.heap[w.heap.size + 1]? = some (.cells #[.int .i64 base, .int .i64 bt, .slice ao1 es.length c1] 53 (0, 0))
  own : OwnEs (w.heap.size + 2) wr ao1 c1 es
theorem XS.nil {w wr w' : World} {base bt : Int} {ao ao1 : Option Addr} {c c1 : Nat} {es : List En} (h : XS w wr base bt ao c es ao1 c1) (k : Kept Nil wr w') : XS w w' base bt ao c es ao1 c1 :=
  ⟨h.kept.trans k, k.block _ _ h.log (fun x => x.elim), k.block _ _ h.out (fun x => x.elim), own_kept h.own k (fun _ _ _ x => x.elim)⟩

theorem XS.fin {w wr : World} {base bt : Int} {ao ao1 : Option Addr} {c c1 : Nat} {es : List En} (h : XS w wr base bt ao c es ao1 c1) (x y z : Value) : OwnEs w.heap.size (((wr.setCell ⟨w.heap.size + 1, 0, none⟩ x).setCell ⟨w.heap.size + 1, 1, none⟩ y).setCell ⟨w.heap.size + 1, 2, none⟩ z) ao1 c1 es ∧ Kept Nil w (((wr.setCell ⟨w.heap.size + 1, 0, none⟩ x).setCell ⟨w.heap.size + 1, 1, none⟩ y).setCell ⟨w.heap.size + 1, 2, none⟩ z) := by
  have hw1 : w.heap.size + 1 < w.heap.size + 2 := by omega
  exact ⟨own_mono (ownsRow_setCell_below (ownsRow_setCell_below (ownsRow_setCell_below h.own hw1 _) hw1 _) hw1 _) (by omega), ((h.kept.setNew (Nat.le_succ _) _).setNew (Nat.le_succ _) _).setNew (Nat.le_succ _) _⟩
theorem XS.outc {w wr : World} {base bt : Int} {ao ao1 : Option Addr} {c c1 : Nat} {es : List En} (h : XS w wr base bt ao c es ao1 c1) : (wr.cell? ⟨w.heap.size + 1, 0, none⟩ = some (.int .i64 base) ∧ wr.cell? ⟨w.heap.size + 1, 1, none⟩ = some (.int .i64 bt) ∧ wr.cell? ⟨w.heap.size + 1, 2, none⟩ = some (.slice ao1 es.length c1)) ∧ wr.frozen? ⟨w.heap.size + 1, 0, none⟩ = false ∧ wr.frozen? ⟨w.heap.size + 1, 1, none⟩ = false ∧ wr.frozen? ⟨w.heap.size + 1, 2, none⟩ = false :=
  ⟨⟨blk_at h.out 0 rfl, blk_at h.out 1 rfl, blk_at h.out 2 rfl⟩, blk_free h.out 0, blk_free h.out 1, blk_free h.out 2⟩

set_option maxRecDepth 100000 in
set_option maxHeartbeats 8000000 in
theorem extend_any (B c d : Nat) (base bt prev term : Int) (ao bo : Option Addr) (es ns : List En) (w : World) (h1 : EntRow B w ao es) (h2 : EntRow B w bo ns) (hn1 : ao = none → es = [] ∧ c = 0) (hn2 : bo = none → ns = [] ∧ d = 0) (hb : 0 ≤ base ∧ base ≤ 1099511627775) (hl1 : (es.length : Int) ≤ 1099511627776) (hl2 : (ns.length : Int) ≤ 1099511627776) (hc : es.length ≤ c) (hd : ns.length ≤ d) (hp : 0 ≤ prev ∧ prev ≤ 1099511627775) (hix : ∀ e ∈ ns, 0 ≤ e.ix ∧ e.ix ≤ 1099511627775) :
    Calls Try.prog 38 #[.agg #[.int .i64 base, .int .i64 bt, .slice ao es.length c], .int .i64 prev, .int .i64 term, .slice bo ns.length d] w fun e w' => ∃ ao' c', e = .returned (.tuple #[.agg #[.int .i64 base, .int .i64 bt, .slice ao' (ext base bt es prev term ns).1.length c'], .int .i64 (ext base bt es prev term ns).2.1, .int .i64 (ext base bt es prev term ns).2.2.1, .int .i64 (ext base bt es prev term ns).2.2.2]) ∧ OwnEs w.heap.size w' ao' c' (ext base bt es prev term ns).1 ∧ Kept Nil w w' := by
  obtain ⟨i0, hi, hz0, hz1, hz2⟩ := info_parts Try.infoEn
  have HR : Hid (EntRow B w ao es) := h1
  have HR2 : Hid (EntRow B w bo ns) := h2
  have HIX : Hid (∀ e ∈ ns, 0 ≤ e.ix ∧ e.ix ≤ 1099511627775) := hix
  have HN2 : Hid (bo = none → ns = [] ∧ d = 0) := hn2
  have HBB : Hid (0 ≤ base ∧ base ≤ 1099511627775) := hb
  have HLL1 : Hid ((es.length : Int) ≤ 1099511627776 ∧ (es.length : Int) ≤ 281474976710656) := ⟨hl1, by omega⟩
  have CL := logClone_any B c base bt ao es _ ((h1.alloc (.cells #[.int .i64 base, .int .i64 bt, .slice ao es.length c] 53)).alloc (.cells #[.int .i64 0, .int .i64 0, .slice none 0 0] 53)) hn1 (by omega)
  have HQ : Hid (((w.alloc (.cells #[.int .i64 base, .int .i64 bt, .slice ao es.length c] 53)).alloc (.cells #[.int .i64 0, .int .i64 0, .slice none 0 0] 53)).heap[w.heap.size]? = some (.cells #[.int .i64 base, .int .i64 bt, .slice ao es.length c] 53 (0, 0)) ∧ ((w.alloc (.cells #[.int .i64 base, .int .i64 bt, .slice ao es.length c] 53)).alloc (.cells #[.int .i64 0, .int .i64 0, .slice none 0 0] 53)).heap[w.heap.size + 1]? = some (.cells #[.int .i64 0, .int .i64 0, .slice none 0 0] 53 (0, 0))) := by
    refine ⟨blk_past (blk_new w _) _, ?_⟩
    have := blk_new (w.alloc (.cells #[.int .i64 base, .int .i64 bt, .slice ao es.length c] 53)) (.cells #[.int .i64 0, .int .i64 0, .slice none 0 0] 53)
    rwa [show (w.alloc (.cells #[.int .i64 base, .int .i64 bt, .slice ao es.length c] 53)).heap.size = w.heap.size + 1 by simp] at this
  obtain ⟨hb0, hb1⟩ := hb
  obtain ⟨hp0, hp1⟩ := hp
  clear h1 h2 hix hn2
  go_enter Try.func38, Try.ntmps38
  go_wp2_with fail
  refine CL.mono ?_
  rintro e w1 ⟨ao1, c1, rfl, o1, k1⟩
  have B1 := k1.block _ _ HQ.out.1 (fun x => x.elim)
  have B2 := k1.block _ _ HQ.out.2 (fun x => x.elim)
  have f0 := blk_free B2 0
  have f1 := blk_free B2 1
  have f2 := blk_free B2 2
  have z0 := blk_at B2 0 rfl
  have z1 := blk_at B2 1 rfl
  have z2 := blk_at B2 2 rfl
  have HX1 : Hid (XS w (((w1.setCell ⟨w.heap.size + 1, 0, none⟩ (.int .i64 base)).setCell ⟨w.heap.size + 1, 1, none⟩ (.int .i64 bt)).setCell ⟨w.heap.size + 1, 2, none⟩ (.slice ao1 es.length c1)) base bt ao c es ao1 c1) := by
    have hw1 : w.heap.size + 1 < w.heap.size + 2 := by omega
    have hne : w.heap.size ≠ w.heap.size + 1 := by omega
    exact ⟨((((((Kept.refl _ _).alloc _).alloc _).trans k1).setNew (Nat.le_succ _) _).setNew (Nat.le_succ _) _).setNew (Nat.le_succ _) _, blk_other (blk_other (blk_other B1 hne _) hne _) hne _, blk_set (blk_set (blk_set B2 0 _) 1 _) 2 _, ownsRow_setCell_below (ownsRow_setCell_below (ownsRow_setCell_below (own_mono o1 (by simp)) hw1 _) hw1 _) hw1 _⟩
  clear B1 B2 o1 k1 CL HQ
  go_upto_block 0 with fail
  generalize ((w1.setCell ⟨w.heap.size + 1, 0, none⟩ (.int .i64 base)).setCell ⟨w.heap.size + 1, 1, none⟩ (.int .i64 bt)).setCell ⟨w.heap.size + 1, 2, none⟩ (.slice ao1 es.length c1) = w2 at HX1 ⊢
  clear f0 f1 f2 z0 z1 z2
  go_cut [1, 2, 3] from 18 to 36 (fun s1 s2 s3 wc => ∃ ms : List En, ∃ po pt : Int, ∃ bo' : Option Addr, ∃ d' : Nat, s1 = .int .i64 po ∧ s2 = .int .i64 pt ∧ s3 = .slice bo' ms.length d' ∧ Hid (EntRow B w bo' ms) ∧ Hid (bo' = none → ms = [] ∧ d' = 0) ∧ ms.length ≤ d' ∧ (ms.length : Int) ≤ 1099511627776 ∧ 0 ≤ po ∧ po ≤ 1099511627775 ∧ Hid (skip base prev term ns = (po, pt, ms)) ∧ Hid (XS w wc base bt ao c es ao1 c1))
  case first =>
    go_wp2_with fail
    go_loopg [1, 2, 3] ns.length (fun g s1 s2 s3 wr => ∃ ms : List En, ∃ po pt : Int, ∃ bo' : Option Addr, ∃ d' : Nat, g = ms.length ∧ s1 = .int .i64 po ∧ s2 = .int .i64 pt ∧ s3 = .slice bo' ms.length d' ∧ Hid (EntRow B w bo' ms) ∧ Hid (bo' = none → ms = [] ∧ d' = 0) ∧ ms.length ≤ d' ∧ (ms.length : Int) ≤ 1099511627776 ∧ 0 ≤ po ∧ po ≤ 1099511627775 ∧ Hid (skip base prev term ns = skip base po pt ms) ∧ Hid (∀ e ∈ ms, 0 ≤ e.ix ∧ e.ix ≤ 1099511627775) ∧ Hid (XS w wr base bt ao c es ao1 c1))
    case atStart => exact ⟨ns, prev, term, bo, d, rfl, rfl, rfl, rfl, HR2.out, HN2.out, hd, hl2, hp0, hp1, rfl, HIX.out, HX1.out⟩
    case round =>
      obtain ⟨ms, po, pt, bo', d', rfl, rfl, rfl, rfl, HM, HMN, hmd, hml, hpo0, hpo1, HS, HMI, HX⟩ := hrel
      obtain ⟨x0, x1, x2⟩ := lookB HX.out.log
      clear HX1
      by_cases hlt : po < base
      · cases ms with
        | nil =>
          have HF : Hid (skip base prev term ns = (po, pt, [])) := HS.out
          have HMN0 : Hid (bo' = none → ([] : List En) = [] ∧ d' = 0) := HMN.out
          go_wp2
          go_meet
          exact ⟨[], po, pt, bo', d', rfl, rfl, rfl, entRow_nil _ _ _, nil_is HMN0.out, hmd, hml, hpo0, hpo1, HF.out, HX.out⟩
        | cons e r =>
          have HF : Hid (skip base prev term ns = skip base e.ix e.tm r) := HS.out.trans (skip_more hlt)
          obtain ⟨a, rfl, _, q0, q1, _⟩ := (HM.out.nil HX.out.kept) 0 (by simp)
          have HMR : Hid (EntRow B w (some (a.add 4)) r) := HM.out.drop 1
          have HMI2 : Hid ((0 ≤ e.ix ∧ e.ix ≤ 1099511627775) ∧ ∀ e ∈ r, 0 ≤ e.ix ∧ e.ix ≤ 1099511627775) := ⟨HMI.out e (by simp), fun x hx => HMI.out x (by simp [hx])⟩
          simp only [List.getElem_cons_zero, Nat.zero_mul] at q0 q1
          rw [show a.add 0 = a from rfl] at q0 q1
          obtain ⟨eix, hei⟩ : ∃ x, e.ix = x := ⟨_, rfl⟩
          obtain ⟨etm, het⟩ : ∃ x, e.tm = x := ⟨_, rfl⟩
          rw [hei] at q0 HF HMI2
          rw [het] at q1 HF
          have hrl : (e :: r).length = r.length + 1 := rfl
          rw [hrl] at hmd hml ⊢
          clear hei het HM HMN HS HMI hrl
          have hr1 : (r.length : Int) + 1 ≤ 1099511627776 := by omega
          have h0 : (0 : Int) < (r.length : Int) + 1 := by omega
          by_cases hd1 : d' = 1
          · have hr0 : r = [] := List.length_eq_zero_iff.1 (by omega)
            subst hr0
            subst hd1
            go_wp2
            go_quiet (fail)
            go_wp2
            go_roundg 0
            case measure => simp
            case rel => exact ⟨[], eix, etm, some a, 0, rfl, rfl, rfl, rfl, entRow_nil _ _ _, some_no, Nat.le_refl _, by simp, HMI2.out.1.1, HMI2.out.1.2, HF.out, fun _ h => by simp at h, HX.out.nil ((Kept.refl _ _).drewN _)⟩
          · have hd2 : 1 < d' := by omega
            go_wp2
            go_quiet (fail)
            go_wp2
            go_roundg r.length
            case measure => simp
            case rel => exact ⟨r, eix, etm, some (a.add 4), d' - 1, rfl, rfl, rfl, rfl, HMR.out, some_no, by omega, by omega, HMI2.out.1.1, HMI2.out.1.2, HF.out, HMI2.out.2, HX.out.nil ((Kept.refl _ _).drewN _)⟩
      · have HF : Hid (skip base prev term ns = (po, pt, ms)) := HS.out.trans (skip_end (fun h => hlt h.1))
        go_wp2
        go_meet
        exact ⟨ms, po, pt, bo', d', rfl, rfl, rfl, HM.out, HMN.out, hmd, hml, hpo0, hpo1, HF.out, HX.out⟩
  case rest =>
    obtain ⟨ms, po, pt, bo', d', rfl, rfl, rfl, HM, HMN, hmd, hml, hpo0, hpo1, HS, HX⟩ := hcut
    rename World => wk
    clear HX1 HR2 HN2 HIX
    have hE : ext base bt es prev term ns = extAt base bt es po pt ms := by unfold ext; rw [HS.out]
    obtain ⟨x0, x1, x2⟩ := lookB HX.out.log
    by_cases hlt : po < base
    · have HF : Hid (ext base bt es prev term ns = (es, po, 0, 0)) := hE.trans (if_pos hlt)
      obtain ⟨⟨p0, p1, p2⟩, f0, f1, f2⟩ := HX.out.outc
      clear hE
      go_wp2
      refine bodyPost_ret (v := .tuple #[.agg #[.int .i64 base, .int .i64 bt, .slice ao1 es.length c1], .int .i64 po, .int .i64 0, .int .i64 0]) (by simp [results, Try.results38, go_sem, p0, p1, p2]) rfl ?_
      rw [HF.out]
      exact ⟨ao1, c1, rfl, (HX.out.fin _ _ _).1, (HX.out.fin _ _ _).2⟩
    · have T := termAt_any B c base bt po ao es wk (HR.out.nil HX.out.kept) HBB.out HLL1.out.2 (by omega)
      obtain ⟨q, rfl⟩ : ∃ q : Nat, po = base + q := ⟨(po - base).toNat, by omega⟩
      have hqs : (base + (q : Int) - base).toNat = q := by omega
      have hsub : base + (q : Int) - base = (q : Int) := by omega
      by_cases hta : tAt base bt es (base + q) = (pt, 0)
      · have hE2 : ext base bt es prev term ns = if cnt (es.drop q) ms < ms.length then (es.take (q + cnt (es.drop q) ms) ++ ms.drop (cnt (es.drop q) ms), base + q + ms.length, base + q + (cnt (es.drop q) ms : Nat) + 1, 0) else (es, base + q + ms.length, 0, 0) := by
          rw [hE]
          unfold extAt
          rw [if_neg hlt, if_pos hta, hqs]
        have hq : q ≤ es.length := by have := tAt_ok (show (tAt base bt es (base + q)).2 = 0 by rw [hta]); omega
        rw [hta] at T
        obtain ⟨m, hm⟩ : ∃ m, cnt (es.drop q) ms = m := ⟨_, rfl⟩
        have hmle := cnt_le (es.drop q) ms
        rw [hm] at hE2 hmle
        rw [List.length_drop] at hmle
        have HM2 : Hid (cnt (es.drop q) ms = m) := hm
        have HE2 : Hid (ext base bt es prev term ns = if m < ms.length then (es.take (q + m) ++ ms.drop m, base + q + ms.length, base + q + (m : Nat) + 1, 0) else (es, base + q + ms.length, 0, 0)) := hE2
        obtain ⟨hm1, hm2⟩ := hmle
        clear hE hE2 hta hqs hm
        go_wp2_with fail
        refine T.mono ?_
        rintro e wm ⟨rfl, km⟩
        have HXm : Hid (XS w wm base bt ao c es ao1 c1) := HX.out.nil km
        obtain ⟨y0, y1, y2⟩ := lookB HXm.out.log
        clear km x0 x1 x2 HX T
        go_upto_region 10 with fail
        go_cut [15] from 37 (fun r wx => r = .int .i64 m ∧ Hid (XS w wx base bt ao c es ao1 c1))
        case first =>
          by_cases hcq : q < c
          · have CS := countSame_any B (c - q) d' (ao.map (fun x => x.add (q * 4))) bo' (es.drop q) ms wm ((HR.out.nil HXm.out.kept).sub q) (HM.out.nil HXm.out.kept) (by rw [List.length_drop]; omega) (by omega)
            rw [List.length_drop, HM2.out] at CS
            go_wp2_with fail
            refine CS.mono ?_
            rintro e wn ⟨rfl, kn⟩
            go_wp2
            go_meet
            exact ⟨rfl, HXm.out.nil kn⟩
          · obtain rfl : c = q := by omega
            have CS := countSame_any B 0 d' ao bo' [] ms wm (entRow_nil _ _ _) (HM.out.nil HXm.out.kept) (by simp) (by omega)
            rw [show cnt [] ms = m by rw [← HM2.out, show es.drop c = [] from List.drop_eq_nil_of_le (by omega)]] at CS
            go_wp2_with fail
            refine CS.mono ?_
            rintro e wn ⟨rfl, kn⟩
            go_wp2
            go_meet
            exact ⟨rfl, HXm.out.nil kn⟩
        case rest =>
          obtain ⟨rfl, HXn⟩ := hcut
          rename World => wn
          clear HXm y0 y1 y2
          by_cases hml2 : m < ms.length
          · have HF : Hid (ext base bt es prev term ns = (es.take (q + m) ++ ms.drop m, base + q + ms.length, base + q + (m : Nat) + 1, 0)) := HE2.out.trans (if_pos hml2)
            have hmi : (m : Int) < ms.length := by omega
            obtain ⟨⟨p0, p1, p2⟩, f0, f1, f2⟩ := HXn.out.outc
            have hcap := own_capE HXn.out.own
            have HOT : Hid (wn.ownsRow (w.heap.size + 2) 57 4 (.slice ao1 (q + m) c1) (q + m) (enCells (es.take (q + m)))) := by rw [enCells_take]; exact own_take HXn.out.own (by omega)
            obtain ⟨b, hbo, _⟩ := HM.out 0 (by omega)
            have HSRC : Hid (Src Try.prog 4 51 (.slice (some (b.add (m * 4))) (ms.length - m) (d' - m)) (ms.length - m) (enCells (ms.drop m)) wn.drew) := by
              have hrow := HM.out
              rw [hbo] at hrow
              have := ((hrow.nil HXn.out.kept.drew).drop m).src (c := d' - m)
              rw [List.length_drop] at this
              exact this
            have HLL : Hid (q + m + (ms.length - m) ≤ maxLen ∧ (q + m + (ms.length - m)) * 40 ≤ 140737488355328) := by constructor <;> (try unfold maxLen) <;> omega
            have HSZ : Hid (w.heap.size + 2 ≤ wn.heap.size) := lt_of_block HXn.out.out
            have hqm : q + m ≤ c1 := by omega
            have hmd' : m < d' := by omega
            have hmd2 : m ≤ d' := by omega
            have hsl : q + m ≤ es.length := by omega
            have hwq : IntKind.i64.wrap ((q : Int) + (m : Int)) = (q : Int) + m := by rw [IntKind.wrap_i64]; omega
            have hw1' : (0 : Int) ≤ (q : Int) + m := by omega
            have hw2' : (q : Int) + (m : Int) ≤ c1 := by omega
            have hw3' : ((q : Int) + (m : Int)).toNat = q + m := by omega
            have hw4' : (m : Int) ≤ ms.length := by omega
            have hw5' : ¬ d' = m := by omega
            have hw6' : (ms.length : Int) ≤ d' := by omega
            clear HE2 HM2
            subst hbo
            go_upto_region 12 with fail
            go_cut [15] from 37 (fun r wx => r = .int .i64 m ∧ ∃ ao' : Option Addr, ∃ c' : Nat, Hid (Kept Nil w wx) ∧ Hid (wx.heap[w.heap.size + 1]? = some (.cells #[.int .i64 base, .int .i64 bt, .slice ao' (q + m + (ms.length - m)) c'] 53 (0, 0))) ∧ Hid (OwnEs (w.heap.size + 2) wx ao' c' (es.take (q + m) ++ ms.drop m)))
            case first =>
              go_region_law (refine step_append_src _ rfl (.tmp 79) (.tmp 82) 51 51 rfl (w.heap.size + 2) 57 i0 (.agg #[.int .i64 0, .int .i64 0, .int .i64 0, .string ⟨#[]⟩]) 4 40 Try.underlying51 hi hz0 hz1 hz2 rfl (.slice ao1 (q + m) c1) (q + m) (enCells (es.take (q + m))) (by simp [Act.eval, Act.put]) HOT.out (.slice (some (b.add (m * 4))) (ms.length - m) (d' - m)) (ms.length - m) (enCells (ms.drop m)) (by simp [Act.eval, Act.put]) HSRC.out HLL.out.1 HLL.out.2 HSZ.out ?_; intro ao' c' w4 ho' hg'; have HO4 : Hid (w4.ownsRow (w.heap.size + 2) 57 4 (.slice ao' (q + m + (ms.length - m)) c') (q + m + (ms.length - m)) (enCells (es.take (q + m)) ++ enCells (ms.drop m))) := ho'; have HB4 := grown_oldE hg' HOT.out (Nat.lt_succ_self (w.heap.size + 1)) HXn.out.out; have q4 := blk_at HB4 2 rfl; have f4 := blk_free HB4 2; have HB4' : Hid _ := HB4; have HK4 : Hid (Kept Nil w w4) := (HXn.out.kept.drew).grown hg' (fun k hk => by have := own_row HOT.out k hk; omega); clear ho' hg' HB4)
              all_goals
                go_wp2
                go_meet
                have hO : OwnEs (w.heap.size + 2) w4 ao' c' (es.take (q + m) ++ ms.drop m) := by
                  unfold OwnEs
                  rw [enCells_append, show (es.take (q + m) ++ ms.drop m).length = q + m + (ms.length - m) by rw [List.length_append, List.length_take, List.length_drop, Nat.min_eq_left hsl]]
                  exact HO4.out
                exact ⟨rfl, ao', c', HK4.out.setNew (Nat.le_succ _) _, blk_set HB4'.out 2 _, ownsRow_setCell_below hO (show w.heap.size + 1 < w.heap.size + 2 by omega) _⟩
            case rest =>
              obtain ⟨rfl, ao', c', K5, B5, O5⟩ := hcut
              rename World => w5
              have r0 := blk_at B5.out 0 rfl
              have r1 := blk_at B5.out 1 rfl
              have r2 := blk_at B5.out 2 rfl
              have g0 := blk_free B5.out 0
              have g1 := blk_free B5.out 1
              have g2 := blk_free B5.out 2
              clear p0 p1 p2 f0 f1 f2
              go_wp2
              refine bodyPost_ret (v := .tuple #[.agg #[.int .i64 base, .int .i64 bt, .slice ao' (q + m + (ms.length - m)) c'], .int .i64 (base + q + ms.length), .int .i64 (base + q + m + 1), .int .i64 0]) (by simp [results, Try.results38, go_sem, r0, r1, r2]) rfl ?_
              rw [HF.out]
              have hw1 : w.heap.size + 1 < w.heap.size + 2 := by omega
              exact ⟨ao', c', by rw [show (es.take (q + m) ++ ms.drop m).length = q + m + (ms.length - m) by rw [List.length_append, List.length_take, List.length_drop, Nat.min_eq_left hsl]], own_mono (ownsRow_setCell_below (ownsRow_setCell_below (ownsRow_setCell_below O5.out hw1 _) hw1 _) hw1 _) (by omega), ((K5.out.setNew (Nat.le_succ _) _).setNew (Nat.le_succ _) _).setNew (Nat.le_succ _) _⟩
          · have HF : Hid (ext base bt es prev term ns = (es, base + q + ms.length, 0, 0)) := HE2.out.trans (if_neg hml2)
            have hmi : ¬ (m : Int) < ms.length := by omega
            obtain ⟨⟨p0, p1, p2⟩, f0, f1, f2⟩ := HXn.out.outc
            clear HE2 HM2
            go_wp2
            refine bodyPost_ret (v := .tuple #[.agg #[.int .i64 base, .int .i64 bt, .slice ao1 es.length c1], .int .i64 (base + q + ms.length), .int .i64 0, .int .i64 0]) (by simp [results, Try.results38, go_sem, p0, p1, p2]) rfl ?_
            rw [HF.out]
            exact ⟨ao1, c1, rfl, (HXn.out.fin _ _ _).1, (HXn.out.fin _ _ _).2⟩
      · have HF : Hid (ext base bt es prev term ns = (es, 0, 0, look base bt es (base + q))) := by
          show _ = _
          rw [hE]
          unfold extAt
          rw [if_neg hlt, if_neg hta]
        have LK := fun w' (hk : Kept Nil w w') => lookFor_any B c base bt (base + q) ao es w' (HR.out.nil hk) HBB.out HLL1.out.2 (by omega)
        generalize look base bt es (base + q) = lk at HF LK
        generalize tAt base bt es (base + q) = ta at T hta
        obtain ⟨t, x⟩ := ta
        simp only at T
        have hcond : (x != 0) = true ∨ (x = 0 ∧ (t != pt) = true) := by
          by_cases hx : x = 0
          · right
            refine ⟨hx, ?_⟩
            rw [bne_iff_ne]
            intro e
            exact hta (by rw [e, hx])
          · left
            simpa using hx
        clear hE hta hqs
        go_wp2_with fail
        refine T.mono ?_
        rintro e wm ⟨rfl, km⟩
        have HXm : Hid (XS w wm base bt ao c es ao1 c1) := HX.out.nil km
        obtain ⟨y0, y1, y2⟩ := lookB HXm.out.log
        obtain ⟨⟨p0, p1, p2⟩, f0, f1, f2⟩ := HXm.out.outc
        clear km x0 x1 x2 HX T
        rcases hcond with hx' | ⟨rfl, ht'⟩
        all_goals
          go_wp2
          go_region_with (go_at_call 82; go_must (refine (LK _ (HXm.out.kept.drew)).mono ?_); rintro e wn ⟨rfl, kn⟩; have HXn : Hid (XS w wn base bt ao c es ao1 c1) := (HXm.out.nil ((Kept.refl _ _).drew)).nil kn; obtain ⟨⟨r0, r1, r2⟩, g0, g1, g2⟩ := HXn.out.outc; clear kn)
          all_goals
            go_wp2
            refine bodyPost_ret (v := .tuple #[.agg #[.int .i64 base, .int .i64 bt, .slice ao1 es.length c1], .int .i64 0, .int .i64 0, .int .i64 lk]) (by simp [results, Try.results38, go_sem, r0, r1, r2]) rfl ?_
            rw [HF.out]
            exact ⟨ao1, c1, rfl, (HXn.out.fin _ _ _).1, (HXn.out.fin _ _ _).2⟩

end Go.Proofs.Ytopdgkebbdheiaa
