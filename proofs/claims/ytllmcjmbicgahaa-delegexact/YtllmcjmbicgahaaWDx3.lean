/-
  DelegExact: the document's Delegate, HasAll.
-/
import Derived.Test.YtllmcjmbicgahaaWDx4
namespace Go.Proofs.Ytllmcjmbicgahaa
open Go.RowKit

theorem cmpF_last : ∀ (l : List Bd) (p : Option Int), (match (cmpF p l).getLast? with | some x => some x.h | none => p) = lastH p l
  | [], _ => rfl
  | x :: t, p => by
    have ih := cmpF_last t (some x.h)
    show (match ((if p = some x.h then [] else [x]) ++ cmpF (some x.h) t).getLast? with | some x => some x.h | none => p) = lastH (some x.h) t
    rw [← ih, List.getLast?_append]
    cases hc : (cmpF (some x.h) t).getLast? with
    | some y => rfl
    | none =>
      by_cases e : p = some x.h
      · rw [if_pos e]; exact e
      · rw [if_neg e]; rfl
theorem comp_last {L : List Bd} {i : Nat} (h0 : 0 < i) (hi : i ≤ L.length) : ∃ hn : 0 < (compB (L.take i)).length, ((compB (L.take i))[(compB (L.take i)).length - 1]'(by omega)).h = (L[i - 1]'(by omega)).h := by
  have h := cmpF_last (L.take i) none
  rw [lastH_take h0 hi] at h
  cases hc : (cmpF none (L.take i)).getLast? with
  | none => rw [hc] at h; cases h
  | some y =>
    rw [hc] at h
    have hne : cmpF none (L.take i) ≠ [] := fun e => by rw [e] at hc; cases hc
    have hn : 0 < (compB (L.take i)).length := List.length_pos_iff.2 hne
    refine ⟨hn, ?_⟩
    have e2 : (compB (L.take i))[(compB (L.take i)).length - 1]? = some y := by rw [← List.getLast?_eq_getElem?]; exact hc
    rw [List.getElem?_eq_getElem (by omega)] at e2
    rw [Option.some.inj e2]
    exact Option.some.inj h
theorem oneB_src (w : World) (x : Bd) : Src Try.prog 2 22 (.slice (some ⟨w.heap.size, 0, none⟩) 1 1) 1 [.string (bs x.f), .int .i64 x.h] (w.alloc (.cells #[.string (bs x.f), .int .i64 x.h] 26)) := by
  refine Src.ofSlice _ Try.underlying22 ⟨w.heap.size, 0, none⟩ 1 1 _ rfl ?_ (fun u hu => by simp at hu; rcases hu with rfl | rfl <;> rfl)
  intro j u hj
  rw [addr_addE, blk_cell (blk_new w (.cells #[.string (bs x.f), .int .i64 x.h] 26)), ← hj]
  simp
theorem lab_len (l : List Bd) (fr up : List UInt8) (ho : Int) : (labL l fr up ho).length = (edgesL l fr up).length := by simp [labL]
theorem lab_at {l : List Bd} {fr up : List UInt8} {ho : Int} {i : Nat} (hi : i < (edgesL l fr up).length) : (labL l fr up ho)[i]'(by rw [lab_len]; exact hi) = ⟨(edgesL l fr up)[i], giveH l fr up ho (edgesL l fr up)[i]⟩ := by simp [labL]

set_option maxRecDepth 100000 in
set_option maxHeartbeats 8000000 in
theorem delegate_any (B c : Nat) (a : Addr) (ps : List Bd) (fr up : List UInt8) (ho : Int) (w : World) (h : BdRow B w (some a) ps) (hl : (ps.length : Int) ≤ 5864062014800) :
    Calls Try.prog 11 #[.slice (some a) ps.length c, .string (bs fr), .string (bs up), .int .i64 ho] w fun e w' => ∃ ao co, e = .returned (.slice ao (delegL ps fr up ho).length co) ∧ OwnB w.heap.size w' ao co (delegL ps fr up ho) ∧ Kept Nil w w' := by
  have HR : Hid (BdRow B w (some a) ps) := h
  obtain ⟨i0, hi, hz0, hz1, hz2⟩ := info_parts Try.infoBd
  have ED := edges_any B c a ps fr up w h hl
  have hel := edges_len ps fr up
  obtain ⟨L, HL⟩ : ∃ L, Hid (L = labL ps fr up ho) := ⟨_, rfl⟩
  have HLn : Hid (L.length = (edgesL ps fr up).length) := by show _ = _; rw [HL.out]; exact lab_len _ _ _ _
  have HLa : Hid (∀ i, (hi : i < (edgesL ps fr up).length) → L[i]? = some ⟨(edgesL ps fr up)[i], giveH ps fr up ho (edgesL ps fr up)[i]⟩) := fun i hi => by
    rw [HL.out, List.getElem?_eq_getElem (by rw [lab_len]; exact hi), lab_at hi]
  obtain ⟨rs, HRS⟩ : ∃ rs, Hid (rs = delegL ps fr up ho) := ⟨_, rfl⟩
  have HRE : Hid (rs = compB L) := by show _ = _; rw [HRS.out, HL.out]; rfl
  rw [← HRS.out]
  generalize edgesL ps fr up = es at *
  have HO := fun (y : List UInt8) (X : World) (kX : Kept Nil w X) => hostOf_any B c a ps y X (HR.out.nil kX) (by omega)
  have WI := fun (y : List UInt8) (X : World) => within_any y fr up X
  clear h
  go_enter Try.func11, Try.ntmps11
  go_wp2_with fail
  go_fit ED
  rintro e w1 ⟨aE, cE, rfl, oE, kE⟩
  have HE : Hid (OwnTd w.heap.size w1 aE cE es) := oE
  have K1 : Hid (Kept Nil w w1) := kE
  clear oE kE ED
  go_wp2
  go_loopw [10, 11] (fun s u wr => ∃ i co : Nat, ∃ ao : Option Addr, ∃ out : List Bd, i ≤ es.length ∧ u = .int .i64 i ∧ s = .slice ao out.length co ∧ Hid (out = compB (L.take i)) ∧ out.length ≤ i ∧ Hid (OwnB w1.heap.size wr ao co out) ∧ Hid (Kept Nil w1 wr)) (fun _ u _ => es.length - (intOf u).toNat)
  case atStart => exact ⟨0, 0, none, [], Nat.zero_le _, rfl, rfl, rfl, Nat.le_refl _, World.ownsRow_nil _ _ _ _, Kept.refl _ _⟩
  case round =>
    obtain ⟨i, co, ao, out, hin, rfl, rfl, HOut, hon, HOw, HK⟩ := hrel
    by_cases hlt : i < es.length
    · have hli : (i : Int) < es.length := by omega
      obtain ⟨gE, eE, _, c0⟩ := (HE.out.kept HK.out).cell hlt
      cases eE
      obtain ⟨y, HY⟩ : ∃ y : List UInt8, Hid (y = es[i]) := ⟨es[i], (rfl : es[i] = es[i])⟩
      rw [← HY.out] at c0
      have HCy : ∀ X, Kept Nil wr X → X.cell? ⟨gE, i, none⟩ = some (.string (bs y)) := fun X kX => cell_kept kX (fun _ x => x) c0
      obtain ⟨g, HG⟩ : ∃ g, Hid (g = giveH ps fr up ho y) := ⟨_, rfl⟩
      have HLi : Hid (L[i]? = some ⟨y, g⟩) := by show _ = _; rw [HLa.out i hlt, HG.out, HY.out]
      have hLl : i < L.length := by rw [HLn.out]; exact hlt
      have HLi2 : Hid (L[i] = ⟨y, g⟩) := by have e := HLi.out; rw [List.getElem?_eq_getElem hLl] at e; exact Option.some.inj e
      obtain ⟨hy, HHy⟩ : ∃ z, Hid (z = hoF y ps) := ⟨_, rfl⟩
      obtain ⟨b, HBe⟩ : ∃ z, Hid (z = inR y fr up) := ⟨_, rfl⟩
      have HGe : Hid (g = if b = true then ho else hy) := by show _ = _; rw [HG.out, HBe.out, HHy.out]; rfl
      have HOy := HO y wr (K1.out.trans HK.out)
      have WIy := WI y wr
      rw [← HHy.out] at HOy
      rw [← HBe.out] at WIy
      go_wp2_with fail
      go_fit HOy
      rintro e _ ⟨rfl, hw9⟩
      rw [hw9]
      clear hw9 HOy
      go_wp2_with fail
      go_fit WIy
      rintro e _ ⟨rfl, hw9⟩
      rw [hw9]
      clear hw9 WIy
      go_upto_if 38 with fail
      go_cut [12] (fun s wc => s = .int .i64 g ∧ Hid (wc = wr))
      case first =>
        cases b with
        | true =>
          go_wp2
          go_meet
          exact ⟨by rw [HGe.out]; rfl, rfl⟩
        | false =>
          go_wp2
          go_meet
          exact ⟨by rw [HGe.out]; rfl, rfl⟩
      case rest =>
        obtain ⟨rfl, hwc⟩ := hcut
        rw [hwc.out]
        clear hwc
        obtain ⟨t, HTt⟩ : ∃ t : Bool, Hid (t = decide (i = 0 ∨ (L[i - 1]?).map Bd.h ≠ some g)) := ⟨_, rfl⟩
        have HNx : Hid (compB (L.take (i + 1)) = out ++ (if t = true then [⟨y, g⟩] else [])) := by
          show _ = _
          by_cases h0 : i = 0
          · have et : t = true := by rw [HTt.out]; exact decide_eq_true (.inl h0)
            rw [et, if_pos rfl, HOut.out, List.take_succ_eq_append_getElem hLl, HLi2.out, h0]
            rfl
          · have e1 : (L[i - 1]?).map Bd.h = some (L[i - 1]'(by omega)).h := by rw [List.getElem?_eq_getElem (by omega)]; rfl
            rw [compB_next (by omega) hLl, ← HOut.out, HLi2.out]
            congr 1
            by_cases e : g = (L[i - 1]'(by omega)).h
            · have et : t = false := by rw [HTt.out, e1, e]; simp [h0]
              rw [et, if_pos e]
              rfl
            · have et : t = true := by rw [HTt.out, e1]; exact decide_eq_true (.inr (fun x => e (Option.some.inj x).symm))
              rw [et, if_neg e]
              rfl
        go_upto_region 11 with fail
        go_cut [53] from 19 to 62 (fun s wc => s = .bool t ∧ Hid (wc = wr))
        case first =>
          by_cases h0 : i = 0
          · have et : Hid (t = true) := by show _ = _; rw [HTt.out]; exact decide_eq_true (.inl h0)
            have hol : out.length = 0 := by omega
            go_wp2
            go_meet
            exact ⟨by rw [et.out], rfl⟩
          · obtain ⟨hn, hlast⟩ := comp_last (L := L) (i := i) (by omega) (by omega)
            have e1 : (L[i - 1]?).map Bd.h = some (L[i - 1]'(by omega)).h := by rw [List.getElem?_eq_getElem (by omega)]; rfl
            have hon0 : 0 < out.length := by rw [HOut.out]; exact hn
            have hlt1 : out.length - 1 < out.length := by omega
            obtain ⟨gO, eO, _, _, _, _, hc⟩ := HOw.out.cells hon0
            cases eO
            obtain ⟨_, d1, _, _⟩ := hc (out.length - 1) hlt1
            obtain ⟨z, HZ⟩ : ∃ z : Int, Hid (z = out[out.length - 1].h) := ⟨out[out.length - 1].h, (rfl : out[out.length - 1].h = out[out.length - 1].h)⟩
            rw [← HZ.out] at d1
            have HZe : Hid (z = (L[i - 1]'(by omega)).h) := by
              show _ = _
              rw [HZ.out, ← hlast]
              have e := HOut.out
              subst e
              rfl
            have HTe : Hid (t = decide (z ≠ g)) := by
              show _ = _
              rw [HTt.out, e1, ← HZe.out]
              simp [h0]
            clear hc e1 hlast HZe
            have hn0 : ¬ (out.length : Int) = 0 := by omega
            have hn0b : ((out.length : Int) == 0) = false := beq_eq_false_iff_ne.2 hn0
            have hn1 : ((out.length : Int) - 1) < out.length := by omega
            have hn2 : 0 ≤ ((out.length : Int) - 1) := by omega
            go_wp2
            go_meet
            exact ⟨by rw [HTe.out]; first | rfl | (simp; rfl), rfl⟩
        case rest =>
          obtain ⟨rfl, hwc⟩ := hcut
          rw [hwc.out]
          clear hwc
          have HLe : Hid ((compB (L.take (i + 1))).length ≤ i + 1) := by have := cmpF_len (L.take (i + 1)) none; rw [List.length_take] at this; show (cmpF none (L.take (i + 1))).length ≤ _; omega
          cases t with
          | false =>
            have HNe : Hid (out = compB (L.take (i + 1))) := by show _ = _; rw [HNx.out]; exact (List.append_nil _).symm
            go_wp2
            go_roundw
            case rel => exact ⟨i + 1, co, ao, out, by omega, by go_num, rfl, HNe.out, by omega, HOw.out, HK.out⟩
            case measure => simp [intOf]; omega
          | true =>
            have HNe : Hid (out ++ [(⟨y, g⟩ : Bd)] = compB (L.take (i + 1))) := by show _ = _; rw [HNx.out]; rfl
            have HLL : Hid (out.length + 1 ≤ maxLen ∧ (out.length + 1) * 24 ≤ 140737488355328) := by constructor <;> (try unfold maxLen) <;> omega
            have HOo : Hid (wr.ownsRow w1.heap.size 26 2 (.slice ao out.length co) out.length (bdCells out)) := HOw.out
            have SRC : Hid (Src Try.prog 2 22 (.slice (some ⟨wr.heap.size, 0, none⟩) 1 1) 1 [.string (bs y), .int .i64 g] (wr.alloc (.cells #[.string (bs y), .int .i64 g] 26))) := oneB_src wr ⟨y, g⟩
            go_wp2_with (at_builtin; go_must (refine wpList_append_src _ rfl _ _ 22 22 rfl w1.heap.size 26 i0 (.agg #[.string ⟨#[]⟩, .int .i64 0]) 2 24 Try.underlying22 hi hz0 hz1 hz2 rfl (.slice ao out.length co) out.length (bdCells out) rfl (World.ownsRow.alloc HOo.out _) (.slice (some ⟨wr.heap.size, 0, none⟩) 1 1) 1 [.string (bs y), .int .i64 g] rfl SRC.out HLL.out.1 HLL.out.2 (le_alloc HK.out.size _) ?_); intro ao' co' w9 ho9 hg9; have HO9 : Hid (OwnB w1.heap.size w9 ao' co' (out ++ [(⟨y, g⟩ : Bd)])) := OwnB.push ho9; have K9 : Hid (Kept Nil w1 w9) := (HK.out.alloc _).grown hg9 (fun k hk => own_row HOo.out k hk); clear ho9 hg9)
            go_roundw
            case rel => exact ⟨i + 1, co', ao', out ++ [(⟨y, g⟩ : Bd)], by omega, by go_num, by rw [List.length_append]; rfl, HNe.out, by rw [List.length_append]; show out.length + 1 ≤ i + 1; omega, HO9.out, K9.out⟩
            case measure => simp [intOf]; omega
    · obtain rfl : i = es.length := by omega
      have hirr : ¬ (es.length : Int) < es.length := by omega
      have HEq : Hid (out = rs) := by show _ = _; rw [HRE.out, HOut.out, ← HLn.out, List.take_length]
      go_wp2
      go_ret
      exact ⟨ao, co, by rw [← HEq.out]; rfl, by rw [← HEq.out]; exact HOw.out.mono K1.out.size, K1.out.trans HK.out⟩

set_option maxRecDepth 100000 in
set_option maxHeartbeats 8000000 in
theorem hasAll_any (B c : Nat) (a : Addr) (ps : List Bd) (fr up : List UInt8) (ho : Int) (w : World) (h : BdRow B w (some a) ps) (hl : (ps.length : Int) ≤ 5864062014800) :
    Calls Try.prog 16 #[.slice (some a) ps.length c, .string (bs fr), .string (bs up), .int .i64 ho] w fun e w' => e = .returned (.bool (hasE ps fr up ho)) ∧ Kept Nil w w' := by
  have HR : Hid (BdRow B w (some a) ps) := h
  have ED := edges_any B c a ps fr up w h hl
  have hel := edges_len ps fr up
  obtain ⟨z, HZ⟩ : ∃ z, Hid (z = hasE ps fr up ho) := ⟨_, rfl⟩
  rw [← HZ.out]
  have HZe : Hid (z = ((edgesL ps fr up).all (fun e => !inR e fr up || decide (hoF e ps = ho)) && someR fr up)) := HZ.out
  generalize edgesL ps fr up = es at *
  have HO := fun (y : List UInt8) (X : World) (kX : Kept Nil w X) => hostOf_any B c a ps y X (HR.out.nil kX) (by omega)
  have WI := fun (y : List UInt8) (X : World) => within_any y fr up X
  have t1 := bs_toList fr
  have t2 := bs_toList up
  clear h HZ
  go_enter Try.func16, Try.ntmps16
  go_wp2_with fail
  go_fit ED
  rintro e w1 ⟨aE, cE, rfl, oE, kE⟩
  have HE : Hid (OwnTd w.heap.size w1 aE cE es) := oE
  have K1 : Hid (Kept Nil w w1) := kE
  clear oE kE ED
  go_wp2
  go_loopw [10] (fun u wr => ∃ i : Nat, i ≤ es.length ∧ u = .int .i64 i ∧ Hid (z = ((es.drop i).all (fun e => !inR e fr up || decide (hoF e ps = ho)) && someR fr up)) ∧ Hid (wr = w1)) (fun u _ => es.length - (intOf u).toNat)
  case atStart => exact ⟨0, Nat.zero_le _, rfl, HZe.out, rfl⟩
  case round =>
    obtain ⟨i, hin, rfl, HI, hwr⟩ := hrel
    rw [hwr.out]
    clear hwr
    by_cases hlt : i < es.length
    · have hli : (i : Int) < es.length := by omega
      obtain ⟨gE, eE, _, c0⟩ := HE.out.cell hlt
      cases eE
      have HN : Hid (z = ((!inR es[i] fr up || decide (hoF es[i] ps = ho)) && ((es.drop (i + 1)).all (fun e => !inR e fr up || decide (hoF e ps = ho)) && someR fr up))) := by
        have e := HI.out
        rw [List.drop_eq_getElem_cons hlt, List.all_cons, Bool.and_assoc] at e
        exact e
      obtain ⟨y, HY⟩ : ∃ y : List UInt8, Hid (y = es[i]) := ⟨es[i], (rfl : es[i] = es[i])⟩
      rw [← HY.out] at c0 HN
      obtain ⟨hy, HHy⟩ : ∃ z, Hid (z = hoF y ps) := ⟨_, rfl⟩
      obtain ⟨b, HBe⟩ : ∃ z, Hid (z = inR y fr up) := ⟨_, rfl⟩
      rw [← HHy.out, ← HBe.out] at HN
      have HOy := HO y w1 K1.out
      have WIy := WI y w1
      rw [← HHy.out] at HOy
      rw [← HBe.out] at WIy
      go_wp2_with fail
      go_fit WIy
      rintro e _ ⟨rfl, hw9⟩
      rw [hw9]
      clear hw9 WIy
      cases b with
      | false =>
        go_wp2
        go_roundw
        case rel => exact ⟨i + 1, by omega, by go_num, HN.out, trivial⟩
        case measure => simp [intOf]; omega
      | true =>
        by_cases he : hy = ho
        · have hb : (hy == ho) = true := by simp [he]
          have HN2 : Hid (z = ((es.drop (i + 1)).all (fun e => !inR e fr up || decide (hoF e ps = ho)) && someR fr up)) := by have e := HN.out; rw [decide_eq_true he] at e; exact e
          go_wp2_with fail
          go_fit HOy
          rintro e _ ⟨rfl, hw9⟩
          rw [hw9]
          clear hw9 HOy
          go_wp2
          go_roundw
          case rel => exact ⟨i + 1, by omega, by go_num, HN2.out, trivial⟩
          case measure => simp [intOf]; omega
        · have hb : (hy == ho) = false := beq_eq_false_iff_ne.2 he
          have HN2 : Hid (z = false) := by have e := HN.out; rw [decide_eq_false he] at e; exact e
          go_wp2_with fail
          go_fit HOy
          rintro e _ ⟨rfl, hw9⟩
          rw [hw9]
          clear hw9 HOy
          go_wp2
          go_ret
          exact ⟨by rw [HN2.out]; rfl, K1.out⟩
    · obtain rfl : i = es.length := by omega
      have hirr : ¬ (es.length : Int) < es.length := by omega
      have HF : Hid (z = someR fr up) := by have e := HI.out; rw [List.drop_length] at e; exact e
      by_cases hu : up = []
      · have HF2 : Hid (z = true) := by show _ = _; rw [HF.out, hu]; rfl
        have a2 : up.isEmpty = true := by rw [hu]; rfl
        clear hu
        go_wp2
        go_ret
        exact ⟨by rw [HF2.out]; rfl, K1.out⟩
      · have a2 : up.isEmpty = false := by cases hx : up with | nil => exact absurd hx hu | cons x t => rfl
        have HF2 : Hid (z = Op.bytesLess fr up) := by show _ = _; rw [HF.out]; unfold someR; rw [a2]; rfl
        go_wp2
        go_ret
        exact ⟨by rw [HF2.out]; first | rfl | simp, K1.out⟩
end Go.Proofs.Ytllmcjmbicgahaa
