/-
  TrackSafe, walked.
-/
import Derived.Test.YtopdgkebbdheiaaWTrk7
import Derived.Deep.DeepFit
namespace Go.Proofs.Ytopdgkebbdheiaa
open Go.RowKit

theorem mem_len {v n l : List Int} (h1 : v.length ≤ 9) (h2 : n.length ≤ 9) (h3 : l.length ≤ 9) : (mem v n l).length ≤ 27 := by
  unfold mem
  have h := Lib.compact_length_le ((v ++ n ++ l).mergeSort fun x y => decide (x ≤ y))
  rw [List.length_mergeSort, List.length_append, List.length_append] at h
  omega

set_option maxRecDepth 100000 in
set_option maxHeartbeats 8000000 in
theorem trackSafe_walk (B k1 k2 : Nat) (so mo : Option Addr) (zs ys : List Int) (voters commit : Int) (w : World) (h1 : IntRow B w so zs) (h2 : IntRow B w mo ys) (hl1 : (zs.length : Int) ≤ 16384) (hl2 : (ys.length : Int) ≤ 16384) :
    Calls Try.prog 7 #[.int .i64 voters, .slice so zs.length k1, .slice mo ys.length k2, .int .i64 commit] w fun e w' => e = .returned (.bool true) ∧ Kept Nil w w' := by
  obtain ⟨i0, hi, hz0, hz1, hz2⟩ := info_parts Try.infoPg
  obtain ⟨j0, hj, hy0, hy1, hy2⟩ := info_parts Try.infoInt
  have HR : Hid (IntRow B w so zs ∧ IntRow B w mo ys) := ⟨h1, h2⟩
  have hd1 : decide ((16384 : Int) < zs.length) = false := by simp; omega
  have hd2 : decide ((16384 : Int) < ys.length) = false := by simp; omega
  have CM0 := commit0_any w
  clear h1 h2
  go_enter Try.func7, Try.ntmps7
  go_wp2_with fail
  go_fit CM0
  rintro e w1 ⟨rfl, k1'⟩
  have K1 : Hid (Kept Nil w w1) := k1'
  clear k1' CM0
  go_wp2_with fail
  go_fit (configOf_any voters 0 w1)
  rintro e w2 ⟨cf, vv, rfl, ⟨a1, a2, a3, c1, c2, c3, rfl, o1, o2, o3⟩, hok, nv, hn0, nl, k2'⟩
  have hv0 : 0 < (intsOf cf.v).length := by
    unfold Cf.ok isCfg at hok
    cases hq : intsOf cf.v with
    | nil => rw [hq] at hok; simp at hok
    | cons a t => simp
  have hv9 : (intsOf cf.v).length ≤ 9 := by rw [intsOf_len]; exact nv.few
  have hn9 : (intsOf cf.n).length ≤ 9 := by rw [hn0]; simp [intsOf]
  have hl9 : (intsOf cf.l).length ≤ 9 := by rw [intsOf_len]; exact nl.few
  have HCF : Hid (CfRows w2.heap.size w2 a1 a2 a3 (intsOf cf.v) (intsOf cf.n) (intsOf cf.l)) := ⟨nats_row o1, nats_row o2, nats_row o3⟩
  rw [← intsOf_len cf.v, ← intsOf_len cf.n, ← intsOf_len cf.l]
  have K2 : Hid (Kept Nil w w2) := K1.out.trans k2'
  clear o1 o2 o3 hok nv hn0 nl k2' K1
  generalize intsOf cf.v = v at *
  generalize intsOf cf.n = n at *
  generalize intsOf cf.l = l at *
  go_wp2_with fail
  go_fit (grown_any B k1 so zs _ (HR.out.1.nil (K2.out.alloc _)) hl1)
  rintro e w3 ⟨L, lo, cl, rfl, oL, lL, k3⟩
  have HI : Hid (TsInv w w3.heap.size w2.heap.size w3.heap.size a1 a2 a3 lo c1 c2 c3 cl v n l L (w3.alloc (.cells #[.int .i64 0, .int .i64 0, .slice lo L.length cl] 53))) := ⟨((HCF.out.alloc _).nil k3).full.alloc _, (oL.row (fun e he => by rw [lL.dt e he]; unfold maxLen; omega)).alloc _, blk_past (k3.block _ _ (blk_new _ _) (fun x => x.elim)) _, blk_new _ _, ((K2.out.alloc _).trans k3).alloc _⟩
  have hL40 := lL.few
  clear k3 oL lL HCF
  go_wp2_with fail
  go_fit (termOf_any w3.heap.size cl L.length lo L _ HI.out.en (Nat.le_refl _) (by omega))
  rintro e w5 ⟨rfl, k5⟩
  have I5 : Hid (TsInv w w3.heap.size w2.heap.size w3.heap.size a1 a2 a3 lo c1 c2 c3 cl v n l L w5) := HI.out.nil k5
  clear k5 HI
  generalize tmAt 0 L L.length = term at *
  have q0 := blk_at I5.out.hc 0 rfl
  have q1 := blk_at I5.out.hc 1 rfl
  have q2 := blk_at I5.out.hc 2 rfl
  go_wp2_with fail
  go_fit (members_any _ c1 c2 c3 a1 a2 a3 v n l w5 I5.out.cf hv0 (by omega) (by omega) (by omega))
  rintro e w6 ⟨ro, rc, rfl, oM, k6⟩
  have hms : (mem v n l).length ≤ 27 := mem_len hv9 hn9 hl9
  have HM : Hid (IntRow w6.heap.size w6 ro (mem v n l)) := oM.row
  have I6 : Hid (TsInv w w3.heap.size w2.heap.size w3.heap.size a1 a2 a3 lo c1 c2 c3 cl v n l L w6) := I5.out.nil k6
  generalize mem v n l = ms at *
  clear oM k6 I5 q0 q1 q2
  go_wp2
  go_loopw [14, 16] (fun u i wr => ∃ k : Nat, ∃ po pc, ∃ ps : List Pg, k ≤ ms.length ∧ i = .int .i64 k ∧ u = .slice po ps.length pc ∧ ps.length ≤ k ∧ Hid (OwnPs w6.heap.size wr po pc ps) ∧ Hid (Kept Nil w6 wr)) (fun _ i _ => ms.length - (intOf i).toNat)
  case atStart => exact ⟨0, none, 0, [], Nat.zero_le _, rfl, rfl, Nat.le_refl _, World.ownsRow_nil _ _ _ _, Kept.refl _ _⟩
  case round =>
    obtain ⟨k, po, pc, ps, hk, rfl, rfl, hps, HO, HK⟩ := hrel
    by_cases hlt : k < ms.length
    · obtain ⟨a, rfl, _, hcell⟩ := (HM.out.nil HK.out) k hlt
      have hki : (k : Int) < ms.length := by omega
      generalize ms[k] = z at *
      have HLL : Hid (ps.length + 1 ≤ maxLen ∧ (ps.length + 1) * 48 ≤ 140737488355328) := by
        constructor
        · unfold maxLen; omega
        · omega
      have ho : wr.ownsRow w6.heap.size 65 6 (.slice po ps.length pc) ps.length (pgCells ps) := HO.out
      by_cases hm : k < ys.length
      · obtain ⟨b, rfl, _, hy⟩ := (HR.out.2.nil (I6.out.kp.trans HK.out)) k hm
        have hkm : (k : Int) < ys.length := by omega
        have g1 : ∀ o, (wr.alloc o).cell? (b.add k) = some (.int .i64 ys[k]) := fun o => by
          obtain ⟨b', e, _, h⟩ := (HR.out.2.nil ((I6.out.kp.trans HK.out).alloc o)) k hm
          simp only [Option.some.injEq] at e
          subst e
          exact h
        generalize ys[k] = y at *
        have PK := fun w' => pick_any y ((L.length : Int) + 1) w' (by omega) (by omega)
        generalize y % ((L.length : Int) + 1) = x at *
        have hwl : IntKind.i64.wrap ((L.length : Int) + 1) = (L.length : Int) + 1 := by rw [IntKind.wrap_i64]; omega
        have AK := fun w' => ack_any z 0 ((L.length : Int) + 1) 1 0 x false w'
        go_wp2
        obtain ⟨wa, hwa⟩ : ∃ wa, wa = wr.alloc (.cells #[.int .i64 z, .int .i64 0, .int .i64 ((L.length : Int) + 1), .int .i64 1, .bool false, .int .i64 0] 65) := ⟨_, rfl⟩
        have HBa : Hid (wa.heap[wr.heap.size]? = some (.cells #[.int .i64 z, .int .i64 0, .int .i64 ((L.length : Int) + 1), .int .i64 1, .bool false, .int .i64 0] 65 (0, 0))) := by show _ = _; rw [hwa]; exact blk_new _ _
        have HKa0 : Hid (Kept Nil wr wa) := by show Kept _ _ _; rw [hwa]; exact (Kept.refl _ _).alloc _
        have gy : wa.cell? (b.add k) = some (.int .i64 y) := by rw [hwa]; exact g1 _
        have p0 := blk_at HBa.out 0 rfl
        have p1 := blk_at HBa.out 1 rfl
        have p2 := blk_at HBa.out 2 rfl
        have p3 := blk_at HBa.out 3 rfl
        have p4 := blk_at HBa.out 4 rfl
        have p5 := blk_at HBa.out 5 rfl
        rw [← hwa]
        clear hwa g1 hy hcell
        go_region_with (first | (go_at_call 33; go_must (go_fit (PK _)); rintro e w7 ⟨rfl, rfl⟩) | (go_at_call 43; go_must (go_fit (AK _)); rintro e w8 ⟨mt, nx, rfl, k8⟩; have B8 : Hid (w8.heap[wr.heap.size]? = some (.cells #[.int .i64 z, .int .i64 0, .int .i64 ((L.length : Int) + 1), .int .i64 1, .bool false, .int .i64 0] 65 (0, 0))) := k8.block _ _ HBa.out (fun x => x.elim); have K8 : Hid (Kept Nil wr w8) := HKa0.out.trans (by first | exact ((Kept.refl _ _).drew).trans k8 | exact k8); have f0 := blk_free B8.out 0; have f1 := blk_free B8.out 1; have f2 := blk_free B8.out 2; have f3 := blk_free B8.out 3; have f4 := blk_free B8.out 4; have f5 := blk_free B8.out 5; have e0 := blk_at B8.out 0 rfl; have e1 := blk_at B8.out 1 rfl; have e2 := blk_at B8.out 2 rfl; have e3 := blk_at B8.out 3 rfl; have e4 := blk_at B8.out 4 rfl; have e5 := blk_at B8.out 5 rfl; clear k8))
        all_goals
          obtain ⟨w9, hw9⟩ : ∃ w9, w9 = (((((w8.setCell ⟨wr.heap.size, 0, none⟩ (.int .i64 z)).setCell ⟨wr.heap.size, 1, none⟩ (.int .i64 mt)).setCell ⟨wr.heap.size, 2, none⟩ (.int .i64 nx)).setCell ⟨wr.heap.size, 3, none⟩ (.int .i64 2)).setCell ⟨wr.heap.size, 4, none⟩ (.bool false)).setCell ⟨wr.heap.size, 5, none⟩ (.int .i64 0) := ⟨_, rfl⟩
          have B9 : Hid (w9.heap[wr.heap.size]? = some (.cells #[.int .i64 z, .int .i64 mt, .int .i64 nx, .int .i64 2, .bool false, .int .i64 0] 65 (0, 0))) := by show _ = _; rw [hw9]; exact blk_set (blk_set (blk_set (blk_set (blk_set (blk_set B8.out 0 _) 1 _) 2 _) 3 _) 4 _) 5 _
          have hne : (Value.slice po ps.length pc).ownBlock ≠ some wr.heap.size := fun e => by have := (ho.lt _ e).2; omega
          have o8 : w8.ownsRow w6.heap.size 65 6 (.slice po ps.length pc) ps.length (pgCells ps) := own_kept ho K8.out (fun _ _ _ x => x.elim)
          have o9 : w9.ownsRow w6.heap.size 65 6 (.slice po ps.length pc) ps.length (pgCells ps) := by rw [hw9]; exact ownsRow_setCell_other (ownsRow_setCell_other (ownsRow_setCell_other (ownsRow_setCell_other (ownsRow_setCell_other (ownsRow_setCell_other o8 hne _) hne _) hne _) hne _) hne _) hne _
          have K9 : Hid (Kept Nil w6 w9) := by show Kept _ _ _; rw [hw9]; exact (((((((HK.out.trans K8.out).setNew HK.out.size _).setNew HK.out.size _).setNew HK.out.size _).setNew HK.out.size _).setNew HK.out.size _).setNew HK.out.size _)
          have d0 := blk_at B9.out 0 rfl
          have d1 := blk_at B9.out 1 rfl
          have d2 := blk_at B9.out 2 rfl
          have d3 := blk_at B9.out 3 rfl
          have d4 := blk_at B9.out 4 rfl
          have d5 := blk_at B9.out 5 rfl
          rw [← hw9]
          clear hw9 f0 f1 f2 f3 f4 f5 e0 e1 e2 e3 e4 e5 o8 hne B8 K8
          go_wp2_with (first | (at_builtin; go_must (refine wpList_append_src _ rfl _ _ 62 62 rfl w6.heap.size 65 i0 (.agg #[.int .i64 0, .int .i64 0, .int .i64 0, .int .i64 0, .bool false, .int .i64 0]) 6 48 Try.underlying62 hi hz0 hz1 hz2 rfl _ _ _ rfl (o9.alloc _) (.slice (some ⟨w9.heap.size, 0, none⟩) 1 1) 1 [.int .i64 z, .int .i64 mt, .int .i64 nx, .int .i64 2, .bool false, .int .i64 0] rfl (src_pg ⟨z, mt, nx, 2, false, 0⟩) HLL.out.1 HLL.out.2 (le_alloc K9.out.size _) ?_); intro po' pc' wa ho' hg'; have HKa : Hid (Kept Nil w6 wa) := (K9.out.alloc _).grown hg' (fun k hk => (own_row o9 k hk)); clear hg'))
          go_roundw
          case rel => exact ⟨k + 1, po', pc', ps ++ [Pg.mk z mt nx 2 false 0], by omega, by go_num, by rw [List.length_append]; rfl, by rw [List.length_append]; simp; omega, OwnPs.push (x := ⟨z, mt, nx, 2, false, 0⟩) ho', HKa.out⟩
          case measure => simp [intOf]; omega
      · have hkm : ¬ (k : Int) < ys.length := by omega
        have ho1 := ho.alloc (.cells #[.int .i64 z, .int .i64 0, .int .i64 ((L.length : Int) + 1), .int .i64 1, .bool false, .int .i64 0] 65)
        have HSRC : Hid (Src Try.prog 6 62 (.slice (some ⟨wr.heap.size + 1, 0, none⟩) 1 1) 1 [.int .i64 z, .int .i64 0, .int .i64 ((L.length : Int) + 1), .int .i64 1, .bool false, .int .i64 0] ((wr.alloc (.cells #[.int .i64 z, .int .i64 0, .int .i64 ((L.length : Int) + 1), .int .i64 1, .bool false, .int .i64 0] 65)).alloc (.cells #[.int .i64 z, .int .i64 0, .int .i64 ((L.length : Int) + 1), .int .i64 1, .bool false, .int .i64 0] 65))) := by
          have h := src_pg (w := wr.alloc (.cells #[.int .i64 z, .int .i64 0, .int .i64 ((L.length : Int) + 1), .int .i64 1, .bool false, .int .i64 0] 65)) ⟨z, 0, (L.length : Int) + 1, 1, false, 0⟩
          rw [show (wr.alloc (.cells #[.int .i64 z, .int .i64 0, .int .i64 ((L.length : Int) + 1), .int .i64 1, .bool false, .int .i64 0] 65)).heap.size = wr.heap.size + 1 by simp] at h
          exact h
        have HK1 : Hid (Kept Nil w6 (wr.alloc (.cells #[.int .i64 z, .int .i64 0, .int .i64 ((L.length : Int) + 1), .int .i64 1, .bool false, .int .i64 0] 65))) := HK.out.alloc _
        go_wp2_with (first | (at_builtin; go_must (refine wpList_append_src _ rfl _ _ 62 62 rfl w6.heap.size 65 i0 (.agg #[.int .i64 0, .int .i64 0, .int .i64 0, .int .i64 0, .bool false, .int .i64 0]) 6 48 Try.underlying62 hi hz0 hz1 hz2 rfl _ _ _ rfl (ho1.alloc _) (.slice (some ⟨wr.heap.size + 1, 0, none⟩) 1 1) 1 [.int .i64 z, .int .i64 0, .int .i64 ((L.length : Int) + 1), .int .i64 1, .bool false, .int .i64 0] rfl HSRC.out HLL.out.1 HLL.out.2 (le_alloc HK1.out.size _) ?_); intro po' pc' wa ho' hg'; have HKa : Hid (Kept Nil w6 wa) := (HK1.out.alloc _).grown hg' (fun k hk => (own_row ho1 k hk)); clear hg'))
        go_roundw
        case rel => exact ⟨k + 1, po', pc', ps ++ [Pg.mk z 0 ((L.length : Int) + 1) 1 false 0], by omega, by go_num, by rw [List.length_append]; rfl, by rw [List.length_append]; simp; omega, OwnPs.push (x := ⟨z, 0, (L.length : Int) + 1, 1, false, 0⟩) ho', HKa.out⟩
        case measure => simp [intOf]; omega
    · have hki : ¬ (k : Int) < ms.length := by omega
      have hpl : ps.length ≤ 1000 := by omega
      have I7 : Hid (TsInv w w3.heap.size w2.heap.size w3.heap.size a1 a2 a3 lo c1 c2 c3 cl v n l L wr) := I6.out.nil HK.out
      have P7 : Hid (PgRow wr.heap.size wr po ps) := HO.out.row
      clear HM I6
      obtain ⟨old, hold⟩ : ∃ old : Nat, commit % ((L.length : Int) + 1) = old := ⟨(commit % ((L.length : Int) + 1)).toNat, by have := Int.emod_nonneg commit (show (L.length : Int) + 1 ≠ 0 by omega); omega⟩
      have hol : old ≤ L.length := by have := Int.emod_lt_of_pos commit (show 0 < (L.length : Int) + 1 by omega); omega
      have PC := fun w' => pick_any commit ((L.length : Int) + 1) w' (by omega) (by omega)
      rw [hold] at PC
      clear hold
      go_wp2_with fail
      go_fit (PC _)
      rintro e w7 ⟨rfl, rfl⟩
      have q0 := blk_at I7.out.hc 0 rfl
      have q1 := blk_at I7.out.hc 1 rfl
      have q2 := blk_at I7.out.hc 2 rfl
      have r0 := blk_at I7.out.hl 0 rfl
      have r1 := blk_at I7.out.hl 1 rfl
      have r2 := blk_at I7.out.hl 2 rfl
      have CM := commit_any w7.heap.size c1 c2 c3 pc cl old a1 a2 a3 po lo v n l ps L term w7 I7.out.cf.full P7.out I7.out.en.full (by omega) (by omega) hpl (by omega)
      have HG : Hid (∀ i : Nat, goodAt v n ps L term i = ((tmAt 0 L i == term) && quo v n (haveAt i ps))) := fun i => rfl
      have hsp := comDown_spec (goodAt v n ps L term) old L.length
      generalize goodAt v n ps L term = g at *
      generalize comDown g old L.length = now at *
      have hno : now ≤ L.length := by rcases hsp.2.1 with h | h <;> omega
      have hon : old ≤ now := hsp.1
      have HSP : Hid (∀ i : Nat, old < i → i ≤ L.length → (i = now → g i = true) ∧ (now < i → g i = false)) := fun i h1 h2 => ⟨fun e => by
        rcases hsp.2.1 with h | h
        · omega
        · rw [e]; exact h.1, fun h => hsp.2.2 i h h1 h2⟩
      clear hsp PC
      go_wp2_with fail
      go_fit CM
      rintro e w8 ⟨rfl, k8⟩
      have I8 : Hid (TsInv w w3.heap.size w2.heap.size w3.heap.size a1 a2 a3 lo c1 c2 c3 cl v n l L w8) := I7.out.nil k8
      have P8 : Hid (PgRow w8.heap.size w8 po ps) := (P7.out.nil k8).full
      have hc1 : decide (now < old) = false := by simp; omega
      have hc2 : decide (L.length < now) = false := by simp; omega
      have hc3 : ¬ (now : Int) < old := by omega
      have hc4 : ¬ (L.length : Int) < now := by omega
      clear k8 CM I7 P7 q0 q1 q2 r0 r1 r2
      go_wp2
      clear hc1 hc2 hc3 hc4
      go_loopw [20] (fun i wr => ∃ m : Nat, old + 1 ≤ m ∧ m ≤ L.length + 1 ∧ i = .int .i64 m ∧ Hid (Kept Nil w8 wr)) (fun i _ => L.length + 1 - (intOf i).toNat)
      case atStart => exact ⟨old + 1, by omega, by omega, by go_num, Kept.refl _ _⟩
      case round =>
        obtain ⟨m, hm1, hm2, rfl, HK8⟩ := hrel
        by_cases hml : m ≤ L.length
        · have hmi : (m : Int) ≤ L.length := by omega
          go_wp2
          go_loopw [21, 22] (fun u i wq => ∃ j : Nat, ∃ ho hc, ∃ xs : List Int, j ≤ ps.length ∧ i = .int .i64 j ∧ u = .slice ho xs.length hc ∧ xs.length ≤ j ∧ Hid (xs = haveAt m (ps.take j)) ∧ Hid (OwnInts w8.heap.size wq ho hc xs) ∧ Hid (Kept Nil w8 wq)) (fun _ i _ => ps.length - (intOf i).toNat)
          case atStart => exact ⟨0, none, 0, [], Nat.zero_le _, rfl, rfl, Nat.le_refl _, rfl, World.ownsRow_nil _ _ _ _, HK8.out⟩
          case round =>
            obtain ⟨j, ho, hc, xs, hj1, rfl, rfl, hxl, HX, HOX, HKX⟩ := hrel
            rename World => wq
            by_cases hjl : j < ps.length
            · obtain ⟨a, rfl, _, q0, q1, q2, q3, q4, q5⟩ := (P8.out.nil HKX.out) j hjl
              have hst := haveAt_succ m hjl
              have hji : (j : Int) < ps.length := by omega
              rw [← HX.out] at hst
              generalize ps[j].nd = nd at *
              generalize ps[j].mt = mt at *
              by_cases hx : (m : Int) ≤ mt
              · rw [if_pos hx] at hst
                have HST : Hid (xs ++ [nd] = haveAt m (ps.take (j + 1))) := hst.symm
                have HLL : Hid (xs.length + 1 ≤ maxLen ∧ (xs.length + 1) * 8 ≤ 140737488355328) := by
                  constructor
                  · unfold maxLen; omega
                  · omega
                have hox : wq.ownsRow w8.heap.size 3 1 (.slice ho xs.length hc) xs.length (xs.map (Value.int .i64)) := HOX.out
                clear hst q2 q3 q4 q5
                go_wp2_with (first | (at_builtin; go_must (refine wpList_append_src _ rfl _ _ 22 22 rfl w8.heap.size 3 j0 (.int .i64 0) 1 8 Try.underlying22 hj hy0 hy1 hy2 rfl _ _ _ rfl (hox.alloc _) (.slice (some ⟨wq.heap.size, 0, none⟩) 1 1) 1 [.int .i64 nd] rfl (src_int _) HLL.out.1 HLL.out.2 (le_alloc HKX.out.size _) ?_); intro ho' hc' wa hoa hga; have HKa : Hid (Kept Nil w8 wa) := (HKX.out.alloc _).grown hga (own_row hox); clear hga))
                go_roundw
                case rel => first | exact ⟨j + 1, ho', hc', xs ++ [nd], by omega, by go_num, by rw [List.length_append]; rfl, by rw [List.length_append]; simp; omega, HST.out, OwnInts.push hoa, HKa.out⟩ | ((repeat apply Exists.intro); exact ⟨⟨j + 1, ho', hc', xs ++ [nd], by omega, by go_num, by rw [List.length_append]; rfl, by rw [List.length_append]; simp; omega, HST.out, OwnInts.push hoa, HKa.out⟩, rfl⟩)
                case measure => simp [intOf]; omega
              · rw [if_neg hx] at hst
                have HST : Hid (xs = haveAt m (ps.take (j + 1))) := hst.symm
                clear hst q2 q3 q4 q5
                go_wp2
                go_roundw
                case rel => first | exact ⟨j + 1, ho, hc, xs, by omega, by go_num, rfl, by omega, HST.out, HOX.out, HKX.out⟩ | ((repeat apply Exists.intro); exact ⟨⟨j + 1, ho, hc, xs, by omega, by go_num, rfl, by omega, HST.out, HOX.out, HKX.out⟩, rfl⟩)
                case measure => simp [intOf]; omega
            · obtain rfl : j = ps.length := by omega
              have hgi := HG.out m
              have hsx : xs = haveAt m ps := by have := HX.out; rwa [List.take_length] at this
              rw [← hsx] at hgi
              have IQ : Hid (TsInv w w3.heap.size w2.heap.size w3.heap.size a1 a2 a3 lo c1 c2 c3 cl v n l L wq) := I8.out.nil HKX.out
              have Q := quorum_any wq.heap.size c1 c2 c3 hc a1 a2 a3 ho v n l xs wq IQ.out.cf.full HOX.out.row (by omega) (by omega) (by omega)
              have T := fun w' (hk : Kept Nil wq w') => termOf_any w3.heap.size cl m lo L w' (IQ.out.en.nil hk) hml (by omega)
              have hs := HSP.out m (by omega) hml
              have q0 := blk_at IQ.out.hc 0 rfl
              have q1 := blk_at IQ.out.hc 1 rfl
              have q2 := blk_at IQ.out.hc 2 rfl
              generalize tmAt 0 L m = t at *
              generalize g m = gm at *
              have HKW : Hid (Kept Nil w wq) := IQ.out.kp
              clear hsx
              cases hb : quo v n xs with
              | false =>
                rw [hb] at Q hgi
                have hgf : gm = false := by rw [hgi]; simp
                have hne : m ≠ now := fun e => by have := hs.1 e; rw [hgf] at this; cases this
                have hn1 : ((m : Int) == now) = false := by simp; omega
                clear hb hgi hgf hs T
                go_wp2_with fail
                go_fit Q
                rintro e wz ⟨rfl, kz⟩
                have KZ : Hid (Kept Nil w8 wz) := HKX.out.trans kz
                clear kz Q q0 q1 q2
                go_wp2
                all_goals
                  go_roundw
                  case rel => first | exact ⟨m + 1, by omega, by omega, by go_num, KZ.out⟩ | ((repeat apply Exists.intro); exact ⟨⟨m + 1, by omega, by omega, by go_num, KZ.out⟩, rfl⟩)
                  case measure => simp [intOf]; omega
              | true =>
                rw [hb] at Q hgi
                by_cases ht : t = term
                · have hgt : gm = true := by rw [hgi, ht]; simp
                  have hle : ¬ now < m := fun e => by have := hs.2 e; rw [hgt] at this; cases this
                  have hn2 : decide ((now : Int) < m) = false := by simp; omega
                  have hn3 : ¬ (now : Int) < m := by omega
                  have htt : (t == term) = true := by simpa using ht
                  clear hb hgi hgt hs
                  go_wp2_with fail
                  go_fit Q
                  rintro e wz ⟨rfl, kz⟩
                  have KZ : Hid (Kept Nil w8 wz) := HKX.out.trans kz
                  have r2 := blk_at (IQ.out.nil kz).hl 2 rfl
                  have T2 := T wz kz
                  clear kz Q q0 q1 q2 T
                  go_wp2_with fail
                  go_fit T2
                  rintro e wy ⟨rfl, ky⟩
                  have KY : Hid (Kept Nil w8 wy) := KZ.out.trans ky
                  clear ky T2 r2
                  by_cases hmn : m = now
                  · have hmn1 : ((m : Int) == now) = true := by simp; omega
                    go_wp2
                    all_goals
                      go_roundw
                      case rel => first | exact ⟨m + 1, by omega, by omega, by go_num, KY.out⟩ | ((repeat apply Exists.intro); exact ⟨⟨m + 1, by omega, by omega, by go_num, KY.out⟩, rfl⟩)
                      case measure => simp [intOf]; omega
                  · have hmn1 : ((m : Int) == now) = false := by simp; omega
                    go_wp2
                    all_goals
                      go_roundw
                      case rel => first | exact ⟨m + 1, by omega, by omega, by go_num, KY.out⟩ | ((repeat apply Exists.intro); exact ⟨⟨m + 1, by omega, by omega, by go_num, KY.out⟩, rfl⟩)
                      case measure => simp [intOf]; omega
                · have htt : (t == term) = false := by simpa using ht
                  have hgf : gm = false := by rw [hgi, htt]; simp
                  have hne : m ≠ now := fun e => by have := hs.1 e; rw [hgf] at this; cases this
                  have hn1 : ((m : Int) == now) = false := by simp; omega
                  clear hb hgi hgf hs
                  go_wp2_with fail
                  go_fit Q
                  rintro e wz ⟨rfl, kz⟩
                  have KZ : Hid (Kept Nil w8 wz) := HKX.out.trans kz
                  have r2 := blk_at (IQ.out.nil kz).hl 2 rfl
                  have T2 := T wz kz
                  clear kz Q q0 q1 q2 T
                  go_wp2_with fail
                  go_fit T2
                  rintro e wy ⟨rfl, ky⟩
                  have KY : Hid (Kept Nil w8 wy) := KZ.out.trans ky
                  clear ky T2 r2
                  go_wp2
                  all_goals
                    go_roundw
                    case rel => first | exact ⟨m + 1, by omega, by omega, by go_num, KY.out⟩ | ((repeat apply Exists.intro); exact ⟨⟨m + 1, by omega, by omega, by go_num, KY.out⟩, rfl⟩)
                    case measure => simp [intOf]; omega
        · have hmi : ¬ (m : Int) ≤ L.length := by omega
          go_wp2
          go_ret
          exact ⟨rfl, I8.out.kp.trans HK8.out⟩

end Go.Proofs.Ytopdgkebbdheiaa
