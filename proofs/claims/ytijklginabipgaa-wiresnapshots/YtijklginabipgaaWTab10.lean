/-
  A table written by the document's answer: the same bytes.
-/
import Derived.Test.YtijklginabipgaaWTab6
import Derived.Test.YtijklginabipgaaWTabP
namespace Go.Proofs.Ytijklginabipgaa
open Go.RowKit

theorem refInt_any (x : Int) (hx : isNum x = true) (w : World) :
    Calls Try.prog 99 #[.int .i64 x] w fun e w' => e = .returned (.string (bs (enc x.toNat))) ∧ Kept Nil w w' := by
  obtain ⟨e, hm⟩ := isNum_nat hx
  have H := refNum_any x.toNat hm w
  rw [e] at H
  exact H
theorem cat_le {a b : List UInt8} {n m : Nat} (ha : (bs a).size ≤ n) (hb : (bs b).size ≤ m) : (bs a ++ bs b).size ≤ n + m := by
  rw [bs_append, bs_size, List.length_append]
  rw [bs_size] at ha hb
  omega
theorem bs_le {a : List UInt8} {n : Nat} (h : a.length ≤ n) : (bs a).size ≤ n := by rw [bs_size]; exact h
theorem ints4 (w : World) (o : Obj) (x y z u : Int) : IntsAt ((w.alloc o).alloc (.cells #[.int .i64 x, .int .i64 y, .int .i64 z, .int .i64 u] 3)) (w.heap.size + 1) [x, y, z, u] := by
  intro j hj
  have hb := blk_new (w.alloc o) (.cells #[.int .i64 x, .int .i64 y, .int .i64 z, .int .i64 u] 3)
  rw [show (w.alloc o).heap.size = w.heap.size + 1 by simp] at hb
  simp only [List.length_cons, List.length_nil] at hj
  rcases (show j = 0 ∨ j = 1 ∨ j = 2 ∨ j = 3 by omega) with rfl | rfl | rfl | rfl <;> exact blk_cell hb _
def numGet (zs : List Int) (j : Nat) : Int := zs.getD j 0
theorem encAll_step4 (x y z u : Int) {j : Nat} (h : j < 4) : encAll (([x, y, z, u].map Int.toNat).take (j + 1)) = encAll (([x, y, z, u].map Int.toNat).take j) ++ enc (numGet [x, y, z, u] j).toNat := by
  rcases (show j = 0 ∨ j = 1 ∨ j = 2 ∨ j = 3 by omega) with rfl | rfl | rfl | rfl <;> simp [encAll, numGet]
theorem numGet_ok {x y z u : Int} (h1 : isNum x = true) (h2 : isNum y = true) (h3 : isNum z = true) (h4 : isNum u = true) {j : Nat} (h : j < 4) : isNum (numGet [x, y, z, u] j) = true := by
  rcases (show j = 0 ∨ j = 1 ∨ j = 2 ∨ j = 3 by omega) with rfl | rfl | rfl | rfl <;> simp [numGet, *]
theorem encAll_four {x y z u : Int} (h1 : isNum x = true) (h2 : isNum y = true) (h3 : isNum z = true) (h4 : isNum u = true) (j : Nat) : (encAll (([x, y, z, u].map Int.toNat).take j)).length ≤ 24 := by
  have := encAll_len (([x, y, z, u].map Int.toNat).take j) (fun n hn => by
    have hn := List.mem_of_mem_take hn
    simp at hn
    rcases hn with rfl | rfl | rfl | rfl
    · exact (isNum_nat h1).2
    · exact (isNum_nat h2).2
    · exact (isNum_nat h3).2
    · exact (isNum_nat h4).2)
  simp only [List.length_take, List.length_map, List.length_cons, List.length_nil] at this
  omega

set_option maxRecDepth 100000 in
set_option maxHeartbeats 8000000 in
theorem refPutTable_any (B cp cs : Nat) (tm : Int) (ao so : Option Addr) (ps : List Pr) (ss : List Ss) (w : World) (hp : PairRow B w ao ps) (hq : SessRow B w so ss) (hl : (ps.length : Int) ≤ 9223372036854775807) (hl2 : (ss.length : Int) ≤ 9223372036854775807) :
    Calls Try.prog 47 #[.agg #[.slice ao ps.length cp, .slice so ss.length cs, .int .i64 tm]] w fun e w' => e = .returned (.tuple #[.string (bs (putTab tm ps ss).1), .int .i64 (putTab tm ps ss).2]) ∧ Kept Nil w w' := by
  have HP : Hid (PairRow B w ao ps ∧ SessRow B w so ss) := ⟨hp, hq⟩
  have H1 := refIsTable_any B cp cs tm ao so ps ss _ (hp.alloc (.cells #[.slice ao ps.length cp, .slice so ss.length cs, .int .i64 tm] 65)) (hq.alloc (.cells #[.slice ao ps.length cp, .slice so ss.length cs, .int .i64 tm] 65)) hl hl2
  have HB0 : Hid (_) := blk_new w (.cells #[.slice ao ps.length cp, .slice so ss.length cs, .int .i64 tm] 65)
  have HV : Hid (putTab tm ps ss = if tabOk tm ps ss then (encTab tm ps ss, 0) else ([], 6)) := rfl
  rw [HV.out]
  clear hp hq HV
  cases hok : tabOk tm ps ss with
  | false =>
    rw [hok] at H1
    clear hok
    simp only [Bool.false_eq_true, if_false]
    go_enter Try.func47, Try.ntmps47
    go_wp2_with fail
    refine H1.mono ?_
    rintro e w1 ⟨rfl, k1⟩
    go_wp2
    go_ret2
    exact ⟨rfl, ((Kept.refl _ _).alloc _).trans k1⟩
  | true =>
    rw [hok] at H1
    have HF : Hid (TFine tm ps ss) := tabOk_fine hok
    simp only [if_true]
    have hpl : (ps.length : Int) ≤ 32 := by have := HF.out.pl; omega
    have hsl : (ss.length : Int) ≤ 8 := by have := HF.out.sl; omega
    have za : (bs (enc tm.toNat)).size ≤ 6 := bs_le (enc_len6 (isNum_nat HF.out.ht).2)
    have zb : (bs (enc ps.length)).size ≤ 6 := bs_le (enc_len6 (by omega))
    have zc : (bs (enc ss.length)).size ≤ 6 := bs_le (enc_len6 (by omega))
    clear hok hl hl2
    go_enter Try.func47, Try.ntmps47
    go_wp2_with fail
    refine H1.mono ?_
    rintro e w1 ⟨rfl, k1⟩
    have K1 : Hid (Kept Nil w w1) := ((Kept.refl _ _).alloc _).trans k1
    have X1 : Hid (w1.heap[w.heap.size]? = some (.cells #[.slice ao ps.length cp, .slice so ss.length cs, .int .i64 tm] 65)) := k1.block _ _ HB0.out (fun x => x.elim)
    have q2 := blk_at X1.out 2 rfl
    clear k1 HB0 H1
    go_wp2_with fail
    refine (refInt_any tm HF.out.ht _).mono ?_
    rintro e w2 ⟨rfl, k2⟩
    have K2 : Hid (Kept Nil w w2) := K1.out.trans k2
    have X2 : Hid (w2.heap[w.heap.size]? = some (.cells #[.slice ao ps.length cp, .slice so ss.length cs, .int .i64 tm] 65)) := k2.block _ _ X1.out (fun x => x.elim)
    have p0 := blk_at X2.out 0 rfl
    clear k2 X1 q2 K1
    go_wp2_with fail
    refine (refNum_any ps.length (by omega) _).mono ?_
    rintro e w3 ⟨rfl, k3⟩
    have K3 : Hid (Kept Nil w w3) := K2.out.trans k3
    have X3 : Hid (w3.heap[w.heap.size]? = some (.cells #[.slice ao ps.length cp, .slice so ss.length cs, .int .i64 tm] 65)) := k3.block _ _ X2.out (fun x => x.elim)
    clear k3 X2 p0 K2
    go_wp2
    go_loopw [7, 8] (fun s i wr => ∃ k : Nat, ∃ L : List UInt8, k ≤ ps.length ∧ i = .int .i64 k ∧ s = .string (bs L) ∧ Hid (L = (enc tm.toNat ++ enc ps.length) ++ catAll encPr (ps.take k)) ∧ Hid (Kept Nil w wr) ∧ Hid (wr.heap[w.heap.size]? = some (.cells #[.slice ao ps.length cp, .slice so ss.length cs, .int .i64 tm] 65))) (fun _ i _ => ps.length - (intOf i).toNat)
    case atStart => exact ⟨0, _, Nat.zero_le _, rfl, by rw [bs_append], by show _ = _; simp [catAll], K3.out, X3.out⟩
    case round =>
      obtain ⟨k, L, hk, rfl, rfl, HQ, HK, HB⟩ := hrel
      clear K3 X3
      have q0 := blk_at HB.out 0 rfl
      have zL : (bs L).size ≤ 4000 := by
        apply bs_le
        rw [HQ.out]
        have h1 := catAll_le encPr 98 (ps.take k) (fun x hx => (HF.out.hps x (List.mem_of_mem_take hx)).enc)
        rw [bs_size] at za zb
        have := HF.out.pl
        simp only [List.length_append, List.length_take] at h1 ⊢
        omega
      by_cases hlt : k < ps.length
      · obtain ⟨a, rfl, _, hc0, hc1, hc2, hm1, hm2⟩ := (HP.out.1.nil HK.out) k hlt
        have hfine := HF.out.hps ps[k] (List.getElem_mem hlt)
        have HE : Hid (L ++ encPr ps[k] = (enc tm.toNat ++ enc ps.length) ++ catAll encPr (ps.take (k + 1))) := by
          show _ = _
          rw [catAll_step encPr hlt, HQ.out, List.append_assoc]
        have HPF : Hid (PFine ps[k]) := hfine
        have N1 := fun w => refTextOf_any ps[k].k w (by have := HPF.out.k; omega)
        have N2 := fun w => refTextOf_any ps[k].v w (by have := HPF.out.v; omega)
        have N3 := refInt_any ps[k].n HPF.out.n
        have z1 : (bs (encText ps[k].k)).size ≤ 22 := bs_le (by have := HPF.out.k; have := encText_len (l := ps[k].k) (by omega); omega)
        have z2 : (bs (encText ps[k].v)).size ≤ 70 := bs_le (by have := HPF.out.v; have := encText_len (l := ps[k].v) (by omega); omega)
        have z3 : (bs (enc ps[k].n.toNat)).size ≤ 6 := bs_le (enc_len6 (isNum_nat HPF.out.n).2)
        have z4 : (bs L ++ bs (encText ps[k].k)).size ≤ 4022 := cat_le zL z1
        have z5 : (bs L ++ bs (encText ps[k].k) ++ bs (encText ps[k].v)).size ≤ 4092 := by have := cat_le (a := L ++ encText ps[k].k) (by rw [← bs_append]; exact z4) z2; rw [← bs_append] at this; exact this
        have HC : Hid (bs L ++ bs (encText ps[k].k) ++ bs (encText ps[k].v) ++ bs (enc ps[k].n.toNat) = bs (L ++ encPr ps[k])) := by show _ = _; rw [bs_append, bs_append, bs_append]; simp [encPr]
        generalize ps[k] = px at *
        obtain ⟨key, val, n⟩ := px
        simp only at hc0 hc1 hc2 N1 N2 N3 z1 z2 z3 z4 z5 HC
        clear hfine HPF HQ hm1 hm2
        go_wp2_with fail
        refine (N1 _).mono ?_
        rintro e v1 ⟨rfl, k1⟩
        have r1 := blk_at (k1.block _ _ HB.out (fun x => x.elim)) 0 rfl
        have g1 := cell_kept k1 (fun _ x => x) hc1
        go_wp2_with fail
        refine (N2 _).mono ?_
        rintro e v2 ⟨rfl, k2⟩
        have r2 := blk_at (k2.block _ _ (k1.block _ _ HB.out (fun x => x.elim)) (fun x => x.elim)) 0 rfl
        have g2 := cell_kept k2 (fun _ x => x) (cell_kept k1 (fun _ x => x) hc2)
        go_wp2_with fail
        refine (N3 _).mono ?_
        rintro e v3 ⟨rfl, k3⟩
        have XX : Hid (v3.heap[w.heap.size]? = some (.cells #[.slice (some a) ps.length cp, .slice so ss.length cs, .int .i64 tm] 65)) := k3.block _ _ (k2.block _ _ (k1.block _ _ HB.out (fun x => x.elim)) (fun x => x.elim)) (fun x => x.elim)
        have KK : Hid (Kept Nil w v3) := ((HK.out.trans k1).trans k2).trans k3
        clear k1 k2 k3
        go_wp2
        go_roundw
        case rel => exact ⟨k + 1, _, by omega, by go_num, by rw [HC.out], HE.out, KK.out, XX.out⟩
        case measure => simp [intOf]; omega
      · have HQ2 : Hid (L = (enc tm.toNat ++ enc ps.length) ++ catAll encPr ps) := by show L = _; rw [HQ.out, List.take_of_length_le (by omega)]
        have q1 := blk_at HB.out 1 rfl
        clear HQ
        go_wp2_with fail
        refine (refNum_any ss.length (by omega) _).mono ?_
        rintro e u1 ⟨rfl, k1⟩
        have K1 : Hid (Kept Nil w u1) := HK.out.trans k1
        have X1 : Hid (u1.heap[w.heap.size]? = some (.cells #[.slice ao ps.length cp, .slice so ss.length cs, .int .i64 tm] 65)) := k1.block _ _ HB.out (fun x => x.elim)
        clear k1 q1 q0 HB HK
        go_wp2
        go_loopw [7, 13] (fun s i wr => ∃ k : Nat, ∃ M : List UInt8, k ≤ ss.length ∧ i = .int .i64 k ∧ s = .string (bs M) ∧ Hid (M = (L ++ enc ss.length) ++ catAll encSs (ss.take k)) ∧ Hid (Kept Nil w wr) ∧ Hid (wr.heap[w.heap.size]? = some (.cells #[.slice ao ps.length cp, .slice so ss.length cs, .int .i64 tm] 65))) (fun _ i _ => ss.length - (intOf i).toNat)
        case atStart => exact ⟨0, _, Nat.zero_le _, rfl, by rw [bs_append], by show _ = _; simp [catAll], K1.out, X1.out⟩
        case round =>
          obtain ⟨k2, M, hk2, rfl, rfl, HM, HK, HB⟩ := hrel
          rename World => wo
          clear K1 X1
          have q1 := blk_at HB.out 1 rfl
          have zM : (bs M).size ≤ 12000 := by
            apply bs_le
            rw [HM.out]
            have h1 := catAll_le encSs 818 (ss.take k2) (fun x hx => (HF.out.hss x (List.mem_of_mem_take hx)).enc)
            rw [bs_size] at zL zc
            have := HF.out.sl
            simp only [List.length_append, List.length_take] at h1 ⊢
            omega
          by_cases hlt2 : k2 < ss.length
          · obtain ⟨a, ao2, c2, rfl, _, hc0, hc1, hc2, hc3, hc4, hc5, hc6, hst, hm1, hm2⟩ := (HP.out.2.nil HK.out) k2 hlt2
            have HE : Hid (M ++ encSs ss[k2] = (L ++ enc ss.length) ++ catAll encSs (ss.take (k2 + 1))) := by
              show _ = _
              rw [catAll_step encSs hlt2, HM.out, List.append_assoc]
            have HSF : Hid (SFine ss[k2]) := HF.out.hss ss[k2] (List.getElem_mem hlt2)
            generalize ss[k2] = sx at *
            obtain ⟨cl, ls, kd, val, ver, ks, sn⟩ := sx
            simp only at hc0 hc1 hc2 hc3 hc4 hc5 hc6 hst hm1 hm2
            have HKW : Hid (Kept Nil w ((wo.alloc (.cells #[.int .i64 cl, .int .i64 ls, .int .i64 kd, .string (bs val), .int .i64 ver, .slice ao2 ks.length c2, .int .i64 sn] 133)).alloc (.cells #[.int .i64 cl, .int .i64 ls, .int .i64 sn, .int .i64 kd] 3))) := (HK.out.alloc _).alloc _
            have HBW : Hid (((wo.alloc (.cells #[.int .i64 cl, .int .i64 ls, .int .i64 kd, .string (bs val), .int .i64 ver, .slice ao2 ks.length c2, .int .i64 sn] 133)).alloc (.cells #[.int .i64 cl, .int .i64 ls, .int .i64 sn, .int .i64 kd] 3)).heap[w.heap.size]? = some (.cells #[.slice ao ps.length cp, .slice (some a) ss.length cs, .int .i64 tm] 65)) := blk_past (blk_past HB.out _) _
            have HXW : Hid (((wo.alloc (.cells #[.int .i64 cl, .int .i64 ls, .int .i64 kd, .string (bs val), .int .i64 ver, .slice ao2 ks.length c2, .int .i64 sn] 133)).alloc (.cells #[.int .i64 cl, .int .i64 ls, .int .i64 sn, .int .i64 kd] 3)).heap[wo.heap.size]? = some (.cells #[.int .i64 cl, .int .i64 ls, .int .i64 kd, .string (bs val), .int .i64 ver, .slice ao2 ks.length c2, .int .i64 sn] 133)) := blk_past (blk_new wo _) _
            have HIW : Hid (IntsAt ((wo.alloc (.cells #[.int .i64 cl, .int .i64 ls, .int .i64 kd, .string (bs val), .int .i64 ver, .slice ao2 ks.length c2, .int .i64 sn] 133)).alloc (.cells #[.int .i64 cl, .int .i64 ls, .int .i64 sn, .int .i64 kd] 3)) (wo.heap.size + 1) [cl, ls, sn, kd]) := ints4 wo _ cl ls sn kd
            have HST : Hid (StrRow B ((wo.alloc (.cells #[.int .i64 cl, .int .i64 ls, .int .i64 kd, .string (bs val), .int .i64 ver, .slice ao2 ks.length c2, .int .i64 sn] 133)).alloc (.cells #[.int .i64 cl, .int .i64 ls, .int .i64 sn, .int .i64 kd] 3)) ao2 ks) := (hst.alloc _).alloc _
            clear hst HM
            go_wp2
            go_loopw [7, 16] (fun s i w3 => ∃ j : Nat, ∃ N : List UInt8, j ≤ 4 ∧ i = .int .i64 j ∧ s = .string (bs N) ∧ Hid (N = M ++ encAll (([cl, ls, sn, kd].map Int.toNat).take j)) ∧ Hid (Kept Nil ((wo.alloc (.cells #[.int .i64 cl, .int .i64 ls, .int .i64 kd, .string (bs val), .int .i64 ver, .slice ao2 ks.length c2, .int .i64 sn] 133)).alloc (.cells #[.int .i64 cl, .int .i64 ls, .int .i64 sn, .int .i64 kd] 3)) w3)) (fun _ i _ => 4 - (intOf i).toNat)
            case atStart => exact ⟨0, _, by omega, rfl, rfl, by show _ = _; simp [encAll], Kept.refl _ _⟩
            case round =>
              obtain ⟨j, N, hj, rfl, rfl, HN, HK3⟩ := hrel
              have zN : (bs N).size ≤ 12024 := by
                apply bs_le
                rw [HN.out]
                have h1 := encAll_four HSF.out.cl HSF.out.ls HSF.out.sn HSF.out.kd j
                simp only at h1
                rw [bs_size] at zM
                simp only [List.length_append]
                omega
              by_cases hj4 : j < 4
              · have hnum := numGet_ok HSF.out.cl HSF.out.ls HSF.out.sn HSF.out.kd hj4
                simp only at hnum
                have hcj : wr.cell? ⟨wo.heap.size + 1, j, none⟩ = some (.int .i64 (numGet [cl, ls, sn, kd] j)) := cell_kept HK3.out (fun _ x => x) (HIW.out j hj4)
                have HE3 : Hid (N ++ enc (numGet [cl, ls, sn, kd] j).toNat = M ++ encAll (([cl, ls, sn, kd].map Int.toNat).take (j + 1))) := by
                  show _ = _
                  rw [encAll_step4 cl ls sn kd hj4, HN.out, List.append_assoc]
                have N1 := refInt_any (numGet [cl, ls, sn, kd] j) hnum
                have z1 : (bs (enc (numGet [cl, ls, sn, kd] j).toNat)).size ≤ 6 := bs_le (enc_len6 (isNum_nat hnum).2)
                generalize numGet [cl, ls, sn, kd] j = x at *
                clear hnum HN
                go_wp2_with fail
                refine (N1 _).mono ?_
                rintro e v1 ⟨rfl, k1⟩
                have KK : Hid (Kept Nil ((wo.alloc (.cells #[.int .i64 cl, .int .i64 ls, .int .i64 kd, .string (bs val), .int .i64 ver, .slice ao2 ks.length c2, .int .i64 sn] 133)).alloc (.cells #[.int .i64 cl, .int .i64 ls, .int .i64 sn, .int .i64 kd] 3)) v1) := HK3.out.trans k1
                clear k1
                go_wp2
                go_roundw
                case rel => exact ⟨j + 1, _, by omega, by go_num, by rw [bs_append], HE3.out, KK.out⟩
                case measure => simp [intOf]; omega
              · have HN2 : Hid (N = M ++ encAll ([cl, ls, sn, kd].map Int.toNat)) := by
                  show N = _
                  rw [HN.out, List.take_of_length_le (by simp; omega)]
                rename World => w4
                have X4 : Hid (w4.heap[wo.heap.size]? = some (.cells #[.int .i64 cl, .int .i64 ls, .int .i64 kd, .string (bs val), .int .i64 ver, .slice ao2 ks.length c2, .int .i64 sn] 133)) := HK3.out.block _ _ HXW.out (fun x => x.elim)
                have s3 := blk_at X4.out 3 rfl
                have Nv := fun w => refTextOf_any val w (by have h := HSF.out.val; simp only at h; omega)
                have Nn := refInt_any ver HSF.out.ver
                have hkl : ks.length ≤ 32 := HSF.out.ks.len
                have Nk := refNum_any ks.length (by omega)
                have z1 : (bs (encText val)).size ≤ 70 := bs_le (by have h := HSF.out.val; simp only at h; have := encText_len (l := val) (by omega); omega)
                have z2 : (bs (enc ver.toNat)).size ≤ 6 := bs_le (enc_len6 (isNum_nat HSF.out.ver).2)
                have z3 : (bs (enc ks.length)).size ≤ 6 := bs_le (enc_len6 (by omega))
                have z4 : (bs N ++ bs (encText val)).size ≤ 12094 := cat_le zN z1
                have z5 : (bs N ++ bs (encText val) ++ bs (enc ver.toNat)).size ≤ 12100 := by have := cat_le (a := N ++ encText val) (by rw [← bs_append]; exact z4) z2; rw [← bs_append] at this; exact this
                clear HN
                go_wp2_with fail
                refine (Nv _).mono ?_
                rintro e v1 ⟨rfl, k1⟩
                have X5 : Hid (v1.heap[wo.heap.size]? = some (.cells #[.int .i64 cl, .int .i64 ls, .int .i64 kd, .string (bs val), .int .i64 ver, .slice ao2 ks.length c2, .int .i64 sn] 133)) := k1.block _ _ X4.out (fun x => x.elim)
                have s4 := blk_at X5.out 4 rfl
                go_wp2_with fail
                refine (Nn _).mono ?_
                rintro e v2 ⟨rfl, k2'⟩
                have X6 : Hid (v2.heap[wo.heap.size]? = some (.cells #[.int .i64 cl, .int .i64 ls, .int .i64 kd, .string (bs val), .int .i64 ver, .slice ao2 ks.length c2, .int .i64 sn] 133)) := k2'.block _ _ X5.out (fun x => x.elim)
                have s5 := blk_at X6.out 5 rfl
                go_wp2_with fail
                refine (Nk _).mono ?_
                rintro e v3 ⟨rfl, k3⟩
                have K4 : Hid (Kept Nil ((wo.alloc (.cells #[.int .i64 cl, .int .i64 ls, .int .i64 kd, .string (bs val), .int .i64 ver, .slice ao2 ks.length c2, .int .i64 sn] 133)).alloc (.cells #[.int .i64 cl, .int .i64 ls, .int .i64 sn, .int .i64 kd] 3)) v3) := ((HK3.out.trans k1).trans k2').trans k3
                clear k1 k2' k3 X4 X5 X6 s3 s4 s5 Nv Nn Nk HK3
                go_wp2
                go_loopw [7, 21] (fun s i w3 => ∃ j : Nat, ∃ R : List UInt8, j ≤ ks.length ∧ i = .int .i64 j ∧ s = .string (bs R) ∧ Hid (R = (N ++ encText val ++ enc ver.toNat ++ enc ks.length) ++ catAll encText (ks.take j)) ∧ Hid (Kept Nil ((wo.alloc (.cells #[.int .i64 cl, .int .i64 ls, .int .i64 kd, .string (bs val), .int .i64 ver, .slice ao2 ks.length c2, .int .i64 sn] 133)).alloc (.cells #[.int .i64 cl, .int .i64 ls, .int .i64 sn, .int .i64 kd] 3)) w3)) (fun _ i _ => ks.length - (intOf i).toNat)
                case atStart => exact ⟨0, _, by omega, rfl, by rw [bs_append, bs_append, bs_append], by show _ = _; simp [catAll], K4.out⟩
                case round =>
                  obtain ⟨j2, R, hj2, rfl, rfl, HRq, HK5⟩ := hrel
                  clear K4
                  have X7 : Hid (wr.heap[wo.heap.size]? = some (.cells #[.int .i64 cl, .int .i64 ls, .int .i64 kd, .string (bs val), .int .i64 ver, .slice ao2 ks.length c2, .int .i64 sn] 133)) := HK5.out.block _ _ HXW.out (fun x => x.elim)
                  have s5 := blk_at X7.out 5 rfl
                  have zR : (bs R).size ≤ 13000 := by
                    apply bs_le
                    rw [HRq.out]
                    have h1 := catAll_le encText 22 (ks.take j2) (fun x hx => by have h := HSF.out.ks.le x (List.mem_of_mem_take hx); have := encText_len (l := x) (by omega); omega)
                    rw [bs_size] at zN z1 z2 z3
                    simp only [List.length_append, List.length_take] at h1 ⊢
                    omega
                  by_cases hlt3 : j2 < ks.length
                  · obtain ⟨a3, rfl, _, hcell, _⟩ := (HST.out.nil HK5.out) j2 hlt3
                    have hle := HSF.out.ks.le ks[j2] (List.getElem_mem hlt3)
                    have HE5 : Hid (R ++ encText ks[j2] = (N ++ encText val ++ enc ver.toNat ++ enc ks.length) ++ catAll encText (ks.take (j2 + 1))) := by
                      show _ = _
                      rw [catAll_step encText hlt3, HRq.out]
                      simp only [List.append_assoc]
                    have N1 := fun w => refTextOf_any ks[j2] w (by omega)
                    have y1 : (bs (encText ks[j2])).size ≤ 22 := bs_le (by have := encText_len (l := ks[j2]) (by omega); omega)
                    generalize ks[j2] = x at *
                    clear HRq hle
                    go_wp2_with fail
                    refine (N1 _).mono ?_
                    rintro e v1 ⟨rfl, k1⟩
                    have KK := HK5.out.trans k1
                    go_wp2
                    go_roundw
                    case rel => exact ⟨j2 + 1, _, by omega, by go_num, by rw [bs_append], HE5.out, KK⟩
                    case measure => simp [intOf]; omega
                  · have HR2 : Hid (R = (L ++ enc ss.length) ++ catAll encSs (ss.take (k2 + 1))) := by
                      show R = _
                      rw [HRq.out, List.take_of_length_le (by omega), HN2.out, ← HE.out]
                      simp [encSs, encRs, encList, encAll]
                    have KF : Hid (Kept Nil w wr) := HKW.out.trans HK5.out
                    have XF : Hid (wr.heap[w.heap.size]? = some (.cells #[.slice ao ps.length cp, .slice (some a) ss.length cs, .int .i64 tm] 65)) := HK5.out.block _ _ HBW.out (fun x => x.elim)
                    clear HRq
                    go_wp2
                    go_roundw
                    case rel => exact ⟨k2 + 1, _, by omega, by go_num, rfl, HR2.out, KF.out, XF.out⟩
                    case measure => simp [intOf]; omega
          · have HZ : Hid (M = encTab tm ps ss) := by
              show M = _
              rw [HM.out, List.take_of_length_le (by omega), HQ2.out]
              simp [encTab, encList]
            go_wp2
            go_ret2
            rw [HZ.out]
            exact ⟨rfl, HK.out⟩

end Go.Proofs.Ytijklginabipgaa
