/-
  Could a message's entries stand behind its index; does what its kind has go together?
-/
import Derived.Test.YtijklginabipgaaWOlc
import Derived.BigQuiet
namespace Go.Proofs.Ytijklginabipgaa
open Go.RowKit
set_option maxRecDepth 100000 in
set_option maxHeartbeats 4000000 in
theorem follow_any (fr td tm ix lg cm cx : Int) (ae : Option Addr) (B ce : Nat) (es : List En) (w : World) (hr : EntRow B w ae es) (h0 : 0 ≤ ix) (h1 : ix ≤ 1099511627775) (hl : (es.length : Int) ≤ 9223372036854775807) :
    Calls Try.prog 210 #[.agg #[.int .i64 5, .int .i64 fr, .int .i64 td, .int .i64 tm, .int .i64 ix, .int .i64 lg, .int .i64 cm, .slice ae es.length ce, .int .i64 0, .int .i64 0, .slice none 0 0, .slice none 0 0, .slice none 0 0, .string (bs []), .bool false, .int .i64 0, .int .i64 cx]] w fun e w' => e = .returned (.bool (decide (es.length ≤ 8) && followB tm ix lg es)) ∧ Kept Nil w w' := by
  have HB : Hid (_) := blk_new w (.cells #[.int .i64 5, .int .i64 fr, .int .i64 td, .int .i64 tm, .int .i64 ix, .int .i64 lg, .int .i64 cm, .slice ae es.length ce, .int .i64 0, .int .i64 0, .slice none 0 0, .slice none 0 0, .slice none 0 0, .string (bs []), .bool false, .int .i64 0, .int .i64 cx] 85)
  have HR : Hid (EntRow B (w.alloc (.cells #[.int .i64 5, .int .i64 fr, .int .i64 td, .int .i64 tm, .int .i64 ix, .int .i64 lg, .int .i64 cm, .slice ae es.length ce, .int .i64 0, .int .i64 0, .slice none 0 0, .slice none 0 0, .slice none 0 0, .string (bs []), .bool false, .int .i64 0, .int .i64 cx] 85)) ae es) := hr.alloc _
  have HS : Hid (∀ e ∈ es, e.dt.length ≤ maxLen) := hr.small
  clear hr
  by_cases h8 : es.length ≤ 8
  · have h8' : (es.length : Int) ≤ 8 := by omega
    rw [decide_eq_true h8, Bool.true_and]
    clear hl
    go_enter Try.func210, Try.ntmps210
    go_wp2
    go_region
    go_wp2
    go_loopw [3, 4, 18] (fun vi vt i wr => ∃ k : Nat, ∃ xi xt : Int, k ≤ es.length ∧ i = .int .i64 k ∧ vi = .int .i64 xi ∧ vt = .int .i64 xt ∧ xi = ix + k ∧ Hid (followB tm ix lg es = followB tm xi xt (es.drop k)) ∧ Hid (Kept Nil (w.alloc (.cells #[.int .i64 5, .int .i64 fr, .int .i64 td, .int .i64 tm, .int .i64 ix, .int .i64 lg, .int .i64 cm, .slice ae es.length ce, .int .i64 0, .int .i64 0, .slice none 0 0, .slice none 0 0, .slice none 0 0, .string (bs []), .bool false, .int .i64 0, .int .i64 cx] 85)) wr)) (fun _ _ i _ => es.length - (intOf i).toNat)
    case atStart => exact ⟨0, ix, lg, Nat.zero_le _, rfl, rfl, rfl, by simp, rfl, by first | exact (Kept.refl _ _ : Kept _ _ _) | exact ((Kept.refl _ _).drew : Kept _ _ _)⟩
    case round =>
      obtain ⟨k, xi, xt, hk, rfl, rfl, rfl, hxi, HE, HK⟩ := hrel
      have hx0 : 0 ≤ xi := by omega
      have hx1 : xi ≤ 1099511627783 := by omega
      have HXI : Hid (xi = ix + k) := hxi
      clear hxi
      by_cases hlt : k < es.length
      · obtain ⟨a, rfl, _, hc0, hc1, hc2, hc3, _⟩ := (HR.out.nil HK.out) k hlt
        have q3 := blk_at (HK.out.block _ _ HB.out (fun x => x.elim)) 3 rfl
        have HD : Hid (followB tm ix lg es = (es[k].ok && (es[k].ix == xi + 1) && decide (xt ≤ es[k].tm) && decide (es[k].tm ≤ tm) && followB tm es[k].ix es[k].tm (es.drop (k + 1)))) := by
          show _ = _
          rw [HE.out, List.drop_eq_getElem_cons hlt]
          rfl
        have H := fun w' => isEntry_any es[k].ix es[k].tm es[k].kd es[k].dt w' (HS.out _ (List.getElem_mem hlt))
        obtain ⟨x, HX⟩ : ∃ x : En, Hid (x = es[k]) := ⟨es[k], (rfl : es[k] = es[k])⟩
        rw [← HX.out] at hc0 hc1 hc2 hc3 HD H
        obtain ⟨eix, etm, ekd, edt⟩ := x
        simp only at hc0 hc1 hc2 hc3 H
        have HD2 : Hid (followB tm ix lg es = (En.ok ⟨eix, etm, ekd, edt⟩ && (eix == xi + 1) && decide (xt ≤ etm) && decide (etm ≤ tm) && followB tm eix etm (es.drop (k + 1)))) := HD.out
        clear HD HX
        generalize En.ok ⟨eix, etm, ekd, edt⟩ = okb at H HD2
        have HN : Hid (_) := blk_new wr (.cells #[.int .i64 eix, .int .i64 etm, .int .i64 ekd, .string (bs edt)] 52)
        cases okb with
        | false =>
          have HV : Hid (followB tm ix lg es = false) := by show _ = _; rw [HD2.out]; simp
          go_wp2_with fail
          refine (H _).mono ?_
          rintro e w1 ⟨rfl, k1⟩
          go_wp2
          go_ret
          rw [HV.out]
          exact ⟨rfl, (((Kept.refl _ _).alloc _).trans HK.out).trans (((Kept.refl _ _).alloc _).trans k1)⟩
        | true =>
          by_cases c1 : eix = xi + 1
          · by_cases c2 : xt ≤ etm
            · by_cases c3 : etm ≤ tm
              · have HV : Hid (followB tm ix lg es = followB tm (xi + 1) etm (es.drop (k + 1))) := by show _ = _; rw [HD2.out, c1]; simp [c2, c3]
                have c1' : (eix != xi + 1) = false := by simp [c1]
                have c2' : ¬ etm < xt := by omega
                have c3' : ¬ tm < etm := by omega
                have hix : xi + 1 = ix + (k + 1 : Nat) ∨ True := .inr trivial
                clear c1 c2 c3 hix
                go_wp2_with fail
                refine (H _).mono ?_
                rintro e w1 ⟨rfl, k1⟩
                have X1 := k1.block _ _ HN.out (fun x => x.elim)
                have p0 := blk_at X1 0 rfl
                have p1 := blk_at X1 1 rfl
                have q3' := blk_at (k1.block _ _ (blk_past (HK.out.block _ _ HB.out (fun x => x.elim)) _) (fun x => x.elim)) 3 rfl
                have HK1 : Hid (Kept Nil (w.alloc (.cells #[.int .i64 5, .int .i64 fr, .int .i64 td, .int .i64 tm, .int .i64 ix, .int .i64 lg, .int .i64 cm, .slice (some a) es.length ce, .int .i64 0, .int .i64 0, .slice none 0 0, .slice none 0 0, .slice none 0 0, .string (bs []), .bool false, .int .i64 0, .int .i64 cx] 85)) w1) := HK.out.trans (((Kept.refl _ _).alloc _).trans k1)
                go_wp2
                go_roundw
                case rel => exact ⟨k + 1, xi + 1, etm, by omega, by go_num, rfl, rfl, by have := HXI.out; omega, HV, HK1.out⟩
                case measure => simp [intOf]; omega
              · have HV : Hid (followB tm ix lg es = false) := by show _ = _; rw [HD2.out]; simp [c3]
                have c1' : (eix != xi + 1) = false := by simp [c1]
                have c2' : ¬ etm < xt := by omega
                have c3' : tm < etm := by omega
                clear c1 c2 c3
                go_wp2_with fail
                refine (H _).mono ?_
                rintro e w1 ⟨rfl, k1⟩
                have X1 := k1.block _ _ HN.out (fun x => x.elim)
                have p0 := blk_at X1 0 rfl
                have p1 := blk_at X1 1 rfl
                have q3' := blk_at (k1.block _ _ (blk_past (HK.out.block _ _ HB.out (fun x => x.elim)) _) (fun x => x.elim)) 3 rfl
                go_wp2
                go_ret
                rw [HV.out]
                exact ⟨rfl, (((Kept.refl _ _).alloc _).trans HK.out).trans (((Kept.refl _ _).alloc _).trans k1)⟩
            · have HV : Hid (followB tm ix lg es = false) := by show _ = _; rw [HD2.out]; simp [c2]
              have c1' : (eix != xi + 1) = false := by simp [c1]
              have c2' : etm < xt := by omega
              clear c1 c2
              go_wp2_with fail
              refine (H _).mono ?_
              rintro e w1 ⟨rfl, k1⟩
              have X1 := k1.block _ _ HN.out (fun x => x.elim)
              have p0 := blk_at X1 0 rfl
              have p1 := blk_at X1 1 rfl
              have q3' := blk_at (k1.block _ _ (blk_past (HK.out.block _ _ HB.out (fun x => x.elim)) _) (fun x => x.elim)) 3 rfl
              go_wp2
              go_ret
              rw [HV.out]
              exact ⟨rfl, (((Kept.refl _ _).alloc _).trans HK.out).trans (((Kept.refl _ _).alloc _).trans k1)⟩
          · have HV : Hid (followB tm ix lg es = false) := by show _ = _; rw [HD2.out]; simp [c1]
            have c1' : (eix != xi + 1) = true := by simp [c1]
            clear c1
            go_wp2_with fail
            refine (H _).mono ?_
            rintro e w1 ⟨rfl, k1⟩
            have X1 := k1.block _ _ HN.out (fun x => x.elim)
            have p0 := blk_at X1 0 rfl
            have p1 := blk_at X1 1 rfl
            have q3' := blk_at (k1.block _ _ (blk_past (HK.out.block _ _ HB.out (fun x => x.elim)) _) (fun x => x.elim)) 3 rfl
            go_wp2
            go_ret
            rw [HV.out]
            exact ⟨rfl, (((Kept.refl _ _).alloc _).trans HK.out).trans (((Kept.refl _ _).alloc _).trans k1)⟩
      · have HV : Hid (followB tm ix lg es = true) := by show _ = _; rw [HE.out, List.drop_eq_nil_of_le (by omega)]; rfl
        have hke : (k : Int) = es.length := by omega
        go_wp2
        go_ret
        rw [HV.out]
        exact ⟨rfl, ((Kept.refl _ _).alloc _).trans HK.out⟩
  · have h8' : ¬ (es.length : Int) ≤ 8 := by omega
    rw [decide_eq_false h8, Bool.false_and]
    go_enter Try.func210, Try.ntmps210
    go_wp2
    go_ret
    exact ⟨rfl, (Kept.refl _ _).alloc _⟩
set_option maxRecDepth 100000 in
set_option maxHeartbeats 4000000 in
theorem fits_5 (fr td tm ix lg cm cx : Int) (ae : Option Addr) (B ce : Nat) (es : List En) (w : World) (hr : EntRow B w ae es) (h0 : 0 ≤ ix) (h1 : ix ≤ 1099511627775) (hl : (es.length : Int) ≤ 9223372036854775807) :
    Calls Try.prog 177 #[.agg #[.int .i64 5, .int .i64 fr, .int .i64 td, .int .i64 tm, .int .i64 ix, .int .i64 lg, .int .i64 cm, .slice ae es.length ce, .int .i64 0, .int .i64 0, .slice none 0 0, .slice none 0 0, .slice none 0 0, .string (bs []), .bool false, .int .i64 0, .int .i64 cx]] w fun e w' => e = .returned (.bool (decide (lg ≤ tm) && (decide (es.length ≤ 8) && followB tm ix lg es) && ((ix == 0) == (lg == 0)))) ∧ Kept Nil w w' := by
  have HB : Hid (_) := blk_new w (.cells #[.int .i64 5, .int .i64 fr, .int .i64 td, .int .i64 tm, .int .i64 ix, .int .i64 lg, .int .i64 cm, .slice ae es.length ce, .int .i64 0, .int .i64 0, .slice none 0 0, .slice none 0 0, .slice none 0 0, .string (bs []), .bool false, .int .i64 0, .int .i64 cx] 85)
  have HF := follow_any fr td tm ix lg cm cx ae B ce es _ (hr.alloc (.cells #[.int .i64 5, .int .i64 fr, .int .i64 td, .int .i64 tm, .int .i64 ix, .int .i64 lg, .int .i64 cm, .slice ae es.length ce, .int .i64 0, .int .i64 0, .slice none 0 0, .slice none 0 0, .slice none 0 0, .string (bs []), .bool false, .int .i64 0, .int .i64 cx] 85)) h0 h1 hl
  clear hr h0 h1 hl
  generalize (decide (es.length ≤ 8) && followB tm ix lg es) = fb at HF ⊢
  by_cases c1 : lg ≤ tm
  · have c1' : ¬ tm < lg := by omega
    rw [decide_eq_true c1, Bool.true_and]
    clear c1
    cases fb with
    | false =>
      go_enter Try.func177, Try.ntmps177
      go_wp2_with fail
      refine HF.mono ?_
      rintro e w1 ⟨rfl, k1⟩
      go_wp2
      go_ret
      exact ⟨rfl, ((Kept.refl _ _).alloc _).trans k1⟩
    | true =>
      go_enter Try.func177, Try.ntmps177
      go_wp2_with fail
      refine HF.mono ?_
      rintro e w1 ⟨rfl, k1⟩
      have X1 := k1.block _ _ HB.out (fun x => x.elim)
      have q4 := blk_at X1 4 rfl
      have q5 := blk_at X1 5 rfl
      go_wp2
      go_ret
      exact ⟨ret_bool (by simp), ((Kept.refl _ _).alloc _).trans k1⟩
  · have c1' : tm < lg := by omega
    rw [decide_eq_false c1, Bool.false_and, Bool.false_and]
    clear c1
    go_enter Try.func177, Try.ntmps177
    go_wp2
    go_ret
    exact ⟨rfl, (Kept.refl _ _).alloc _⟩

set_option maxRecDepth 100000 in
set_option maxHeartbeats 4000000 in
theorem fits_7 (fr td tm cx si st : Int) (B c1 c2 c3 : Nat) (a1 a2 a3 : Option Addr) (v n l : List Int) (dt : List UInt8) (w : World) (hr : CfRows B w a1 a2 a3 v n l) (h1 : (v.length : Int) ≤ 9223372036854775807) (h2 : (n.length : Int) ≤ 9223372036854775807) (h3 : (l.length : Int) ≤ 9223372036854775807) (hd : dt.length ≤ maxLen) :
    Calls Try.prog 177 #[.agg #[.int .i64 7, .int .i64 fr, .int .i64 td, .int .i64 tm, .int .i64 0, .int .i64 0, .int .i64 0, .slice none 0 0, .int .i64 si, .int .i64 st, .slice a1 v.length c1, .slice a2 n.length c2, .slice a3 l.length c3, .string (bs dt), .bool false, .int .i64 0, .int .i64 cx]] w fun e w' => e = .returned (.bool (snOk si st v n l dt && decide (st ≤ tm))) ∧ Kept Nil w w' := by
  have HB : Hid (_) := blk_new w (.cells #[.int .i64 7, .int .i64 fr, .int .i64 td, .int .i64 tm, .int .i64 0, .int .i64 0, .int .i64 0, .slice none 0 0, .int .i64 si, .int .i64 st, .slice a1 v.length c1, .slice a2 n.length c2, .slice a3 l.length c3, .string (bs dt), .bool false, .int .i64 0, .int .i64 cx] 85)
  have HF := isSnapshot_any si st B c1 c2 c3 a1 a2 a3 v n l dt _ (hr.alloc (.cells #[.int .i64 7, .int .i64 fr, .int .i64 td, .int .i64 tm, .int .i64 0, .int .i64 0, .int .i64 0, .slice none 0 0, .int .i64 si, .int .i64 st, .slice a1 v.length c1, .slice a2 n.length c2, .slice a3 l.length c3, .string (bs dt), .bool false, .int .i64 0, .int .i64 cx] 85)) h1 h2 h3 hd
  clear hr h1 h2 h3 hd
  generalize snOk si st v n l dt = fb at HF ⊢
  cases fb with
  | false =>
    go_enter Try.func177, Try.ntmps177
    go_wp2_with fail
    refine HF.mono ?_
    rintro e w1 ⟨rfl, k1⟩
    go_wp2
    go_ret
    exact ⟨rfl, ((Kept.refl _ _).alloc _).trans k1⟩
  | true =>
    rw [Bool.true_and]
    go_enter Try.func177, Try.ntmps177
    go_wp2_with fail
    refine HF.mono ?_
    rintro e w1 ⟨rfl, k1⟩
    have X1 := k1.block _ _ HB.out (fun x => x.elim)
    have q3 := blk_at X1 3 rfl
    have q9 := blk_at X1 9 rfl
    go_wp2
    go_ret
    exact ⟨rfl, ((Kept.refl _ _).alloc _).trans k1⟩

end Go.Proofs.Ytijklginabipgaa
