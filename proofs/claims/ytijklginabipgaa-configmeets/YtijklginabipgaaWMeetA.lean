/-
  ConfigMeets, walked.
-/
import Derived.Test.YtijklginabipgaaWMeetP
import Derived.Deep.DeepCutAuto
import Derived.Deep.RegionHeld3
import Derived.Deep.CutBlock
import Derived.Deep.DeepFit
namespace Go.Proofs.Ytijklginabipgaa
open Go.RowKit

set_option maxRecDepth 1000000 in
set_option maxHeartbeats 40000000 in
theorem configMeets_walk (hB : PartB) (B ck : Nat) (ro : Option Addr) (raw : List (Int × Int)) (voters learners one two : Int) (w : World) (h : OpRow B w ro raw) (hr : raw.length * 16 ≤ 140737488355328) :
    Calls Try.prog 4 #[.int .i64 voters, .int .i64 learners, .slice ro raw.length ck, .int .i64 one, .int .i64 two] w fun e w' => e = .returned (.bool true) ∧ Kept Nil w w' := by
  obtain ⟨i0, hi, hz0, hz1, hz2⟩ := info_parts Try.infoOp
  obtain ⟨j0, hj, hy0, hy1, hy2⟩ := info_parts Try.infoInt
  have HR : Hid (OpRow B w ro raw) := h
  have HLL : Hid (0 + raw.length ≤ maxLen ∧ (0 + raw.length) * 16 ≤ 140737488355328) := by constructor; unfold maxLen; omega; omega
  have hrl : (raw.length : Int) ≤ 9223372036854775807 := by omega
  have CO := configOf_any voters learners w
  have HPB : Hid PartB := hB
  clear h hr hB
  go_enter Try.func4, Try.ntmps4
  go_wp2_with fail
  go_fit CO
  rintro e w1 ⟨cf, vv, rfl, ⟨a1, a2, a3, c1, c2, c3, rfl, o1, o2, o3⟩, hok, nv, hn0, nl, k1⟩
  have hv0 : intsOf cf.v ≠ [] := by
    intro hq
    unfold Cf.ok isCfg at hok
    rw [hq] at hok
    simp at hok
  have hv9 : (intsOf cf.v).length ≤ 9 := by rw [intsOf_len]; exact nv.few
  have hl9 : (intsOf cf.l).length ≤ 9 := by rw [intsOf_len]; exact nl.few
  have HNN : Hid (intsOf cf.n = []) := by rw [hn0]; rfl
  have HOK : Hid (isCfg (intsOf cf.v) (intsOf cf.n) (intsOf cf.l) = true) := hok
  have OC : Hid (OwnInts w.heap.size w1 a1 c1 (intsOf cf.v) ∧ OwnInts w.heap.size w1 a2 c2 (intsOf cf.n) ∧ OwnInts w.heap.size w1 a3 c3 (intsOf cf.l)) := ⟨own_nats o1, own_nats o2, own_nats o3⟩
  rw [← intsOf_len cf.v, ← intsOf_len cf.n, ← intsOf_len cf.l]
  have K1 : Hid (Kept Nil w w1) := k1
  have hn9 : (intsOf cf.n).length ≤ 9 := by rw [HNN.out]; simp
  clear o1 o2 o3 hok nv hn0 nl k1 CO
  generalize intsOf cf.v = v at *
  generalize intsOf cf.n = n at *
  generalize intsOf cf.l = l at *
  have HV0 : Hid (v ≠ []) := hv0
  clear hv0
  have HSRC : Hid (Src Try.prog 2 25 (.slice ro raw.length ck) raw.length (opCells raw) (w1.alloc (.cells #[.slice a1 v.length c1, .slice a2 n.length c2, .slice a3 l.length c3] 24))) := (HR.out.nil (K1.out.alloc _)).src
  have HB1 : Hid (w1.heap.size + 1 ≤ (w1.alloc (.cells #[.slice a1 v.length c1, .slice a2 n.length c2, .slice a3 l.length c3] 24)).heap.size) := by show _ ≤ _; simp
  have hnil : (w1.alloc (.cells #[.slice a1 v.length c1, .slice a2 n.length c2, .slice a3 l.length c3] 24)).ownsRow (w1.heap.size + 1) 32 2 (.slice none 0 0) 0 [] := World.ownsRow_nil _ _ _ _
  go_wp2_with (first | (at_builtin; go_must (refine wpList_append_src _ rfl _ _ 25 25 rfl (w1.heap.size + 1) 32 i0 (.agg #[.int .i64 0, .int .i64 0]) 2 16 Try.underlying25 hi hz0 hz1 hz2 rfl _ _ _ rfl hnil (.slice ro raw.length ck) raw.length (opCells raw) rfl HSRC.out HLL.out.1 HLL.out.2 HB1.out ?_); intro oo oc w2 ho' hg'; have HG2 : Hid ((w1.alloc (.cells #[.slice a1 v.length c1, .slice a2 n.length c2, .slice a3 l.length c3] 24)).grownBy w2 none) := hg'; have HO2 : Hid (OwnOps (w1.heap.size + 1) w2 oo oc raw) := (by have := ho'; rw [Nat.zero_add, List.nil_append] at this; exact this); clear hg' ho'))
  have HKW : Hid (Kept Nil (w1.alloc (.cells #[.slice a1 v.length c1, .slice a2 n.length c2, .slice a3 l.length c3] 24)) w2) := (Kept.refl _ _).grown HG2.out (fun k hk => by cases hk)
  have HBC : Hid ((w1.alloc (.cells #[.slice a1 v.length c1, .slice a2 n.length c2, .slice a3 l.length c3] 24)).heap[w1.heap.size]? = some (.cells #[.slice a1 v.length c1, .slice a2 n.length c2, .slice a3 l.length c3] 24 (0, 0))) := blk_new _ _
  have KA : Hid (Kept Nil w1 (w1.alloc (.cells #[.slice a1 v.length c1, .slice a2 n.length c2, .slice a3 l.length c3] 24))) := (Kept.refl _ _).alloc _
  have HSZ : Hid ((w1.alloc (.cells #[.slice a1 v.length c1, .slice a2 n.length c2, .slice a3 l.length c3] 24)).heap.size = w1.heap.size + 1) := by show _ = _; simp
  generalize w1.alloc (.cells #[.slice a1 v.length c1, .slice a2 n.length c2, .slice a3 l.length c3] 24) = W1 at *
  generalize w1.heap.size = bc at *
  clear HG2 HSRC HB1 hnil
  go_loopw [13] (fun i wr => ∃ k : Nat, ∃ os : List (Int × Int), k ≤ raw.length ∧ i = .int .i64 k ∧ Hid (os.length = raw.length) ∧ Hid (OwnOps (bc + 1) wr oo oc os) ∧ Hid (Kept Nil W1 wr)) (fun i _ => raw.length - (intOf i).toNat)
  case atStart => exact ⟨0, raw, Nat.zero_le _, rfl, rfl, HO2.out, HKW.out⟩
  case round =>
    obtain ⟨k, os, hk, rfl, HL, HOo, HKo⟩ := hrel
    clear HO2 HKW
    by_cases hlt : k < raw.length
    · have hlo : k < os.length := by rw [HL.out]; exact hlt
      obtain ⟨g, rfl, hbg, hgl, hc⟩ := HOo.out.cells (by omega)
      obtain ⟨e0, e1, z0, z1⟩ := hc k hlo
      have hki : (k : Int) < raw.length := by omega
      generalize os[k].1 = kd at *
      generalize os[k].2 = nd at *
      clear hc
      go_wp2_with fail
      go_fit (pick_any _ 3 _ (by decide) (by decide))
      rintro e w3 ⟨rfl, rfl⟩
      go_wp2_with fail
      go_fit (pick_any _ 9 _ (by decide) (by decide))
      rintro e w4 ⟨rfl, rfl⟩
      go_wp2
      go_roundw
      case rel =>
        obtain ⟨os1, l1, O1⟩ := HOo.out.set (k := k * 2) (by omega) (1 + wrap64 (kd - 1) % 3)
        obtain ⟨os2, l2, O2⟩ := O1.set (k := k * 2 + 1) (by omega) (1 + wrap64 (nd - 1) % 9)
        have hW1 := HSZ.out
        exact ⟨k + 1, os2, by omega, by go_num, (l2.trans l1).trans HL.out, O2, (HKo.out.setNew (by show W1.heap.size ≤ g; omega) _).setNew (by show W1.heap.size ≤ g; omega) _⟩
      case measure => simp [intOf]; omega
    · obtain rfl : k = raw.length := by omega
      have RC : Hid (OwnInts w.heap.size wr a1 c1 v ∧ OwnInts w.heap.size wr a2 c2 n ∧ OwnInts w.heap.size wr a3 c3 l) := ⟨(OC.out.1.kept KA.out).kept HKo.out, (OC.out.2.1.kept KA.out).kept HKo.out, (OC.out.2.2.kept KA.out).kept HKo.out⟩
      have RWS : Hid (CfRows wr.heap.size wr a1 a2 a3 v n l) := ⟨RC.out.1.row, RC.out.2.1.row, RC.out.2.2.row⟩
      have BC0 : Hid (wr.heap[bc]? = some (.cells #[.slice a1 v.length c1, .slice a2 n.length c2, .slice a3 l.length c3] 24 (0, 0))) := HKo.out.block _ _ HBC.out (fun x => x.elim)
      have K3 : Hid (Kept Nil w wr) := (K1.out.trans KA.out).trans HKo.out
      have V := valid_any _ c1 c2 c3 a1 a2 a3 v n l wr RWS.out (by omega) (by omega) (by omega)
      rw [HOK.out] at V
      have QU := fun (X : World) (hx : Kept Nil wr X) (ao : Option Addr) (cc : Nat) (hs : List Int) (hh : IntRow X.heap.size X ao hs) (hb : (hs.length : Int) ≤ 1000) => quorum_any X.heap.size c1 c2 c3 cc a1 a2 a3 ao v n l hs X (RWS.out.nil hx).full hh (by omega) (by omega) (by omega)
      have HQA : Hid (quo v n v = true) := by show quo v n v = true; rw [HNN.out]; unfold quo; rw [maj_all HV0.out]; rfl
      have HQN : Hid (quo v n [] = false) := by show quo v n [] = false; unfold quo; rw [maj_none]; rfl
      clear OC KA HKo HBC HSZ K1 hlt
      have q0 : wr.cell? ⟨bc, 0, none⟩ = some (.slice a1 v.length c1) := blk_at BC0.out 0 rfl
      have q1 : wr.cell? ⟨bc, 1, none⟩ = some (.slice a2 n.length c2) := blk_at BC0.out 1 rfl
      have q2 : wr.cell? ⟨bc, 2, none⟩ = some (.slice a3 l.length c3) := blk_at BC0.out 2 rfl
      go_wp2_with fail
      go_fit V
      rintro e w4 ⟨rfl, k4⟩
      have KK4 : Hid (Kept Nil wr w4) := k4
      have BC4 : Hid (w4.heap[bc]? = some (.cells #[.slice a1 v.length c1, .slice a2 n.length c2, .slice a3 l.length c3] 24 (0, 0))) := k4.block _ _ BC0.out (fun x => x.elim)
      clear k4 q0 q1 q2
      have q0 : w4.cell? ⟨bc, 0, none⟩ = some (.slice a1 v.length c1) := blk_at BC4.out 0 rfl
      have q1 : w4.cell? ⟨bc, 1, none⟩ = some (.slice a2 n.length c2) := blk_at BC4.out 1 rfl
      have q2 : w4.cell? ⟨bc, 2, none⟩ = some (.slice a3 l.length c3) := blk_at BC4.out 2 rfl
      have Q5 := QU w4 KK4.out a1 c1 v (RWS.out.nil KK4.out).full.r1 (by omega)
      rw [HQA.out] at Q5
      go_wp2_with fail
      go_fit Q5
      rintro e w5 ⟨rfl, k5⟩
      have KK5 : Hid (Kept Nil wr w5) := KK4.out.trans k5
      have BC5 : Hid (w5.heap[bc]? = some (.cells #[.slice a1 v.length c1, .slice a2 n.length c2, .slice a3 l.length c3] 24 (0, 0))) := k5.block _ _ BC4.out (fun x => x.elim)
      clear k5 q0 q1 q2
      have q0 : w5.cell? ⟨bc, 0, none⟩ = some (.slice a1 v.length c1) := blk_at BC5.out 0 rfl
      have q1 : w5.cell? ⟨bc, 1, none⟩ = some (.slice a2 n.length c2) := blk_at BC5.out 1 rfl
      have q2 : w5.cell? ⟨bc, 2, none⟩ = some (.slice a3 l.length c3) := blk_at BC5.out 2 rfl
      have Q6 := QU w5 KK5.out none 0 [] (intRow_nil _ _ _) (by simp)
      rw [HQN.out] at Q6
      clear Q5 V
      go_wp2_with fail
      go_fit Q6
      rintro e w6 ⟨rfl, k6⟩
      have KK6 : Hid (Kept Nil wr w6) := KK5.out.trans k6
      have BC6 : Hid (w6.heap[bc]? = some (.cells #[.slice a1 v.length c1, .slice a2 n.length c2, .slice a3 l.length c3] 24 (0, 0))) := k6.block _ _ BC5.out (fun x => x.elim)
      clear k6 q0 q1 q2
      have q0 : w6.cell? ⟨bc, 0, none⟩ = some (.slice a1 v.length c1) := blk_at BC6.out 0 rfl
      have q1 : w6.cell? ⟨bc, 1, none⟩ = some (.slice a2 n.length c2) := blk_at BC6.out 1 rfl
      have q2 : w6.cell? ⟨bc, 2, none⟩ = some (.slice a3 l.length c3) := blk_at BC6.out 2 rfl
      clear Q6
      go_wp2_with fail
      go_fit (nodes_any one w6)
      rintro e w7 ⟨an, ao, ac, rfl, oa, na, k7⟩
      have OA : Hid (OwnInts w6.heap.size w7 ao ac (intsOf an)) := own_nats oa
      have ha9 : (intsOf an).length ≤ 9 := by rw [intsOf_len]; exact na.few
      rw [← intsOf_len an]
      have KK7 : Hid (Kept Nil wr w7) := KK6.out.trans k7
      have BC7 : Hid (w7.heap[bc]? = some (.cells #[.slice a1 v.length c1, .slice a2 n.length c2, .slice a3 l.length c3] 24 (0, 0))) := k7.block _ _ BC6.out (fun x => x.elim)
      clear k7 q0 q1 q2
      have q0 : w7.cell? ⟨bc, 0, none⟩ = some (.slice a1 v.length c1) := blk_at BC7.out 0 rfl
      have q1 : w7.cell? ⟨bc, 1, none⟩ = some (.slice a2 n.length c2) := blk_at BC7.out 1 rfl
      have q2 : w7.cell? ⟨bc, 2, none⟩ = some (.slice a3 l.length c3) := blk_at BC7.out 2 rfl
      clear oa na
      generalize intsOf an = av at *
      go_wp2_with fail
      go_fit (nodes_any two w7)
      rintro e w8 ⟨bn, bo, bk, rfl, ob, nb, k8⟩
      have OB : Hid (OwnInts w7.heap.size w8 bo bk (intsOf bn)) := own_nats ob
      have OA8 : Hid (OwnInts w6.heap.size w8 ao ac av) := OA.out.kept k8
      have hb9 : (intsOf bn).length ≤ 9 := by rw [intsOf_len]; exact nb.few
      rw [← intsOf_len bn]
      have KK8 : Hid (Kept Nil wr w8) := KK7.out.trans k8
      have BC8 : Hid (w8.heap[bc]? = some (.cells #[.slice a1 v.length c1, .slice a2 n.length c2, .slice a3 l.length c3] 24 (0, 0))) := k8.block _ _ BC7.out (fun x => x.elim)
      clear k8 q0 q1 q2
      have q0 : w8.cell? ⟨bc, 0, none⟩ = some (.slice a1 v.length c1) := blk_at BC8.out 0 rfl
      have q1 : w8.cell? ⟨bc, 1, none⟩ = some (.slice a2 n.length c2) := blk_at BC8.out 1 rfl
      have q2 : w8.cell? ⟨bc, 2, none⟩ = some (.slice a3 l.length c3) := blk_at BC8.out 2 rfl
      clear ob nb OA
      generalize intsOf bn = bv at *
      go_upto_region 15 with fail
      go_cut [103] (fun b wx => b = .bool false ∧ Hid (Kept Nil w8 wx))
      case first =>
        have P1 := QU w8 KK8.out ao ac av OA8.out.row (by omega)
        cases h1 : quo v n av with
        | false =>
          rw [h1] at P1
          clear h1
          go_wp2_with fail
          go_fit P1
          rintro e x1 ⟨rfl, kx1⟩
          have KX1 : Hid (Kept Nil w8 x1) := kx1
          clear kx1
          go_wp2
          go_meet
          case rel => exact ⟨rfl, KX1.out⟩
        | true =>
          rw [h1] at P1
          have H1 : Hid (quo v n av = true) := h1
          clear h1
          go_wp2_with fail
          go_fit P1
          rintro e x1 ⟨rfl, kx1⟩
          have KX1 : Hid (Kept Nil w8 x1) := kx1
          clear kx1 P1
          have BX1 : Hid (x1.heap[bc]? = some (.cells #[.slice a1 v.length c1, .slice a2 n.length c2, .slice a3 l.length c3] 24 (0, 0))) := KX1.out.block _ _ BC8.out (fun x => x.elim)
          clear q0 q1 q2
          have q0 : x1.cell? ⟨bc, 0, none⟩ = some (.slice a1 v.length c1) := blk_at BX1.out 0 rfl
          have q1 : x1.cell? ⟨bc, 1, none⟩ = some (.slice a2 n.length c2) := blk_at BX1.out 1 rfl
          have q2 : x1.cell? ⟨bc, 2, none⟩ = some (.slice a3 l.length c3) := blk_at BX1.out 2 rfl
          have P2 := QU x1 (KK8.out.trans KX1.out) bo bk bv (OB.out.kept KX1.out).row (by omega)
          cases h2 : quo v n bv with
          | false =>
            rw [h2] at P2
            clear h2
            go_wp2_with fail
            go_fit P2
            rintro e x2 ⟨rfl, kx2⟩
            have KX2 : Hid (Kept Nil w8 x2) := KX1.out.trans kx2
            clear kx2
            go_wp2
            go_meet
            case rel => exact ⟨rfl, KX2.out⟩
          | true =>
            rw [h2] at P2
            have H2 : Hid (quo v n bv = true) := h2
            clear h2
            go_wp2_with fail
            go_fit P2
            rintro e x2 ⟨rfl, kx2⟩
            have KX2 : Hid (Kept Nil w8 x2) := KX1.out.trans kx2
            clear kx2 P2
            have BX2 : Hid (x2.heap[bc]? = some (.cells #[.slice a1 v.length c1, .slice a2 n.length c2, .slice a3 l.length c3] 24 (0, 0))) := KX2.out.block _ _ BC8.out (fun x => x.elim)
            clear q0 q1 q2
            have q0 : x2.cell? ⟨bc, 0, none⟩ = some (.slice a1 v.length c1) := blk_at BX2.out 0 rfl
            have q1 : x2.cell? ⟨bc, 1, none⟩ = some (.slice a2 n.length c2) := blk_at BX2.out 1 rfl
            have q2 : x2.cell? ⟨bc, 2, none⟩ = some (.slice a3 l.length c3) := blk_at BX2.out 2 rfl
            have P3 := meet_any _ _ _ ac bk c1 ao bo a1 av bv v x2 (OA8.out.kept KX2.out).row (OB.out.kept KX2.out).row (RWS.out.nil (KK8.out.trans KX2.out)).r1 (by omega) (by omega) (by omega)
            rw [meets_one H1.out H2.out (fun x hx => hx)] at P3
            go_wp2_with fail
            go_fit P3
            rintro e x3 ⟨rfl, kx3⟩
            have KX3 : Hid (Kept Nil w8 x3) := KX2.out.trans kx3
            clear kx3 P3
            go_wp2
            go_meet
            case rel => exact ⟨rfl, KX3.out⟩
      case rest =>
        obtain ⟨rfl, KC⟩ := hcut
        rename World => w9
        have KK9 : Hid (Kept Nil wr w9) := KK8.out.trans KC.out
        have BC9 : Hid (w9.heap[bc]? = some (.cells #[.slice a1 v.length c1, .slice a2 n.length c2, .slice a3 l.length c3] 24 (0, 0))) := KC.out.block _ _ BC8.out (fun x => x.elim)
        have OA9 : Hid (OwnInts w6.heap.size w9 ao ac av) := OA8.out.kept KC.out
        have OB9 : Hid (OwnInts w7.heap.size w9 bo bk bv) := OB.out.kept KC.out
        clear KC q0 q1 q2 OA8 OB BC8 KK8
        have q0 : w9.cell? ⟨bc, 0, none⟩ = some (.slice a1 v.length c1) := blk_at BC9.out 0 rfl
        have q1 : w9.cell? ⟨bc, 1, none⟩ = some (.slice a2 n.length c2) := blk_at BC9.out 1 rfl
        have q2 : w9.cell? ⟨bc, 2, none⟩ = some (.slice a3 l.length c3) := blk_at BC9.out 2 rfl
        have BG := begin_any w.heap.size wr.heap.size c1 c2 c3 oc a1 a2 a3 oo v n l os w9 (RC.out.1.kept KK9.out) (RC.out.2.1.kept KK9.out) (RC.out.2.2.kept KK9.out) (HOo.out.row.nil KK9.out) (by rw [HL.out]; omega)
        rw [HL.out] at BG
        obtain ⟨r, HRB⟩ : ∃ r, Hid (r = begZ v n l os) := ⟨_, rfl⟩
        rw [← HRB.out] at BG
        go_wp2_with fail
        go_fit BG
        rintro e w10 (⟨ec, her, rfl, k10⟩ | ⟨v', n', l', her, b1, b2, b3, e1, e2, e3, rfl, own10, k10⟩)
        · have hec : (ec != 0) = true := begZ_err (HRB.out.symm.trans her)
          have K10 : Hid (Kept Nil w w10) := (K3.out.trans KK9.out).trans k10
          clear k10 BG her HRB q0 q1 q2
          obtain ⟨X, hX⟩ : ∃ X, X = ((w10.alloc (.cells #[.slice none 0 0, .slice none 0 0, .slice none 0 0] 24)).alloc (.cells #[.int .i64 1, .int .i64 2] 3)).alloc (.cells #[.int .i64 3, .int .i64 1] 32) := ⟨_, rfl⟩
          have KX : Hid (Kept Nil w10 X) := by rw [hX]; exact (((Kept.refl _ _).alloc _).alloc _).alloc _
          have es1 : (w10.alloc (.cells #[.slice none 0 0, .slice none 0 0, .slice none 0 0] 24)).heap.size = w10.heap.size + 1 := by simp
          have es2 : ((w10.alloc (.cells #[.slice none 0 0, .slice none 0 0, .slice none 0 0] 24)).alloc (.cells #[.int .i64 1, .int .i64 2] 3)).heap.size = w10.heap.size + 1 + 1 := by simp
          have HX1 : X.heap[w10.heap.size + 1]? = some (.cells #[.int .i64 1, .int .i64 2] 3 (0, 0)) := by rw [hX, ← es1]; exact blk_past (blk_new _ _) _
          have HX2 : X.heap[w10.heap.size + 1 + 1]? = some (.cells #[.int .i64 3, .int .i64 1] 32 (0, 0)) := by rw [hX, ← es2]; exact blk_new _ _
          have BF := begin_any 0 X.heap.size 2 0 0 1 (some ⟨w10.heap.size + 1, 0, none⟩) none none (some ⟨w10.heap.size + 1 + 1, 0, none⟩) [1, 2] [] [] [(3, 1)] X (own_of_blk (Nat.zero_le _) HX1 rfl (by decide) (by decide) (fun i hi => by match i, hi with | 0, _ => rfl | 1, _ => rfl)) (World.ownsRow_nil _ _ _ _) (World.ownsRow_nil _ _ _ _) (fun j hj => by
            obtain rfl : j = 0 := by simpa using hj
            exact ⟨_, rfl, lt_of_block HX2, blk_at HX2 0 rfl, blk_at HX2 1 rfl⟩) (by decide)
          rw [begZ_first] at BF
          clear HX1 HX2 es1 es2
          go_wp2_with fail
          rw [← hX]
          clear hX
          go_fit BF
          rintro e w11 (⟨ec2, her2, _, _⟩ | ⟨v2, n2, l2, her2, f1, f2, f3, g1, g2, g3, rfl, own11, k11⟩)
          · cases her2
          · simp only [Except.ok.injEq, Prod.mk.injEq] at her2
            obtain ⟨rfl, rfl, rfl⟩ := her2
            obtain ⟨g, cur, rfl, _, hb, _, _, _, ht⟩ := own_blockI own11.o2 (by decide)
            have hcell : ∀ o, (w11.alloc o).cell? ⟨g, 0, none⟩ = some (.int .i64 2) := fun o => by
              rw [blk_cell (blk_past hb o) 0]
              have := congrArg (fun l => l[0]?) ht
              simpa using this
            have K11 : Hid (Kept Nil w w11) := (K10.out.trans KX.out).trans k11
            clear own11 k11 BF hb ht
            go_wp2
            go_ret
            exact ⟨rfl, K11.out.alloc _⟩
        · have HZ := begZ_ok (HRB.out.symm.trans her)
          obtain ⟨hvv, hnn0, hcf, nx, hda, hnx0, hn'⟩ := HZ
          clear hnn0
          have hvv := hvv.symm
          subst hvv
          have HDA : Hid (doAll v os v l = some (nx, l')) := hda
          have HNX : Hid (nx ≠ []) := hnx0
          have HN1 : Hid (n' = if v = nx then [] else nx) := hn'
          have HDR : Hid (Dr v nx l') := doAll_keeps (dr_start hcf) hda
          have hx9 := HDR.out.len
          have hn9' : n'.length ≤ 9 := by rw [hn']; split; simp; exact hx9.2.1
          have K10 : Hid (Kept Nil w9 w10) := k10
          have O10 : Hid (Own3 w9.heap.size b1 b2 b3 e1 e2 e3 v n' l' w10) := own10
          clear k10 own10 BG her HRB q0 q1 q2 hda hnx0 hn' hcf
          go_upto_region 21 with fail
          obtain ⟨w11, hw11⟩ : ∃ x, x = w10.alloc (.cells #[.slice b1 v.length e1, .slice b2 n'.length e2, .slice b3 l'.length e3] 24) := ⟨_, rfl⟩
          have K11 : Hid (Kept Nil w9 w11) := by rw [hw11]; exact K10.out.alloc _
          have BD11 : Hid (w11.heap[w10.heap.size]? = some (.cells #[.slice b1 v.length e1, .slice b2 n'.length e2, .slice b3 l'.length e3] 24 (0, 0))) := by rw [hw11]; exact blk_new _ _
          have OD11 : Hid (Own3 w9.heap.size b1 b2 b3 e1 e2 e3 v n' l' w11) := by rw [hw11]; exact O10.out.grown ((Kept.refl _ _).alloc _)
          rw [← hw11]
          clear hw11 O10
          obtain ⟨bd, hbd⟩ : ∃ bd, bd = w10.heap.size := ⟨_, rfl⟩
          rw [← hbd] at BD11
          rw [← hbd]
          clear hbd K10
          have KK11 : Hid (Kept Nil wr w11) := KK9.out.trans K11.out
          have BC11 : Hid (w11.heap[bc]? = some (.cells #[.slice a1 v.length c1, .slice a2 n.length c2, .slice a3 l.length c3] 24 (0, 0))) := K11.out.block _ _ BC9.out (fun x => x.elim)
          have OA11 : Hid (OwnInts w6.heap.size w11 ao ac av) := OA9.out.kept K11.out
          have OB11 : Hid (OwnInts w7.heap.size w11 bo bk bv) := OB9.out.kept K11.out
          clear OA9 OB9 BC9 KK9
          have q0 : w11.cell? ⟨bc, 0, none⟩ = some (.slice a1 v.length c1) := blk_at BC11.out 0 rfl
          have q1 : w11.cell? ⟨bc, 1, none⟩ = some (.slice a2 n.length c2) := blk_at BC11.out 1 rfl
          have q2 : w11.cell? ⟨bc, 2, none⟩ = some (.slice a3 l.length c3) := blk_at BC11.out 2 rfl
          have d0 : w11.cell? ⟨bd, 0, none⟩ = some (.slice b1 v.length e1) := blk_at BD11.out 0 rfl
          have d1 : w11.cell? ⟨bd, 1, none⟩ = some (.slice b2 n'.length e2) := blk_at BD11.out 1 rfl
          have d2 : w11.cell? ⟨bd, 2, none⟩ = some (.slice b3 l'.length e3) := blk_at BD11.out 2 rfl
          obtain ⟨M, HM⟩ : ∃ M : List Int, Hid (M = v ++ n') := ⟨_, rfl⟩
          have HMn : Hid (M.length ≤ 18) := by show _ ≤ _; rw [HM.out, List.length_append]; omega
          go_cut [23] (fun m wx => ∃ mo mc, m = .slice mo M.length mc ∧ Hid (OwnInts w11.heap.size wx mo mc M) ∧ Hid (Kept Nil w11 wx))
          case first =>
            have SRC1 : Hid (Src Try.prog 1 22 (.slice a1 v.length c1) v.length (v.map (Value.int .i64)) w11.drew) := ((RWS.out.nil KK11.out).r1.nil (Kept.refl _ _).drew).src
            have LL1 : Hid (0 + v.length ≤ maxLen ∧ (0 + v.length) * 8 ≤ 140737488355328) := by constructor; unfold maxLen; omega; omega
            have LL2 : Hid ((0 + v.length) + n'.length ≤ maxLen ∧ ((0 + v.length) + n'.length) * 8 ≤ 140737488355328) := by constructor; unfold maxLen; omega; omega
            have sD : w11.drew.cell? ⟨bc, 0, none⟩ = some (.slice a1 v.length c1) ∧ w11.drew.cell? ⟨bd, 1, none⟩ = some (.slice b2 n'.length e2) := ⟨q0, d1⟩
            go_region_held3 (fun w' => w'.cell? ⟨bc, 0, none⟩ = some (.slice a1 v.length c1) ∧ w'.cell? ⟨bd, 1, none⟩ = some (.slice b2 n'.length e2)) (first | assumption | go_keep) (first | ((refine step_append_src w11.drew (by rfl) (.const (.slice none 0 0)) (.tmp 136) 22 22 (by rfl) w11.heap.size 3 j0 (.int .i64 0) 1 8 Try.underlying22 hj hy0 hy1 hy2 rfl (.slice none 0 0) 0 [] (by simp [Act.eval]) (World.ownsRow_nil _ _ _ _) (.slice a1 v.length c1) v.length (v.map (Value.int .i64)) (by simp [Act.eval]) SRC1.out LL1.out.1 LL1.out.2 (Nat.le_refl _) ?_; intro mo1 mc1 wx1 ho1 hg1; have HO1 : wx1.ownsRow w11.heap.size 3 1 (.slice mo1 (0 + v.length) mc1) (0 + v.length) ([] ++ v.map (Value.int .i64)) := ho1; have KX1 : Hid (Kept Nil w11 wx1) := ((Kept.refl _ _).drew).grown hg1 (fun k hk => by cases hk); have sA : wx1.cell? ⟨bc, 0, none⟩ = some (.slice a1 v.length c1) ∧ wx1.cell? ⟨bd, 1, none⟩ = some (.slice b2 n'.length e2) := ⟨blk_at (KX1.out.block _ _ BC11.out (fun x => x.elim)) 0 rfl, blk_at (KX1.out.block _ _ BD11.out (fun x => x.elim)) 1 rfl⟩; have SRC2 : Hid (Src Try.prog 1 22 (.slice b2 n'.length e2) n'.length (n'.map (Value.int .i64)) wx1) := (OD11.out.o2.kept KX1.out).row.src; clear ho1 hg1)) | ((refine step_append_src wx1 (by rfl) (.tmp 137) (.tmp 139) 22 22 (by rfl) w11.heap.size 3 j0 (.int .i64 0) 1 8 Try.underlying22 hj hy0 hy1 hy2 rfl (.slice mo1 (0 + v.length) mc1) (0 + v.length) ([] ++ v.map (Value.int .i64)) (by simp [Act.eval]) HO1 (.slice b2 n'.length e2) n'.length (n'.map (Value.int .i64)) (by simp [Act.eval]) SRC2.out LL2.out.1 LL2.out.2 KX1.out.size ?_; intro mo2 mc2 wx2 ho2 hg2; have HO2 : Hid (OwnInts w11.heap.size wx2 mo2 mc2 (v ++ n')) := (by have := ho2; simp only [Nat.zero_add, List.nil_append] at this; rw [← List.map_append, ← List.length_append] at this; exact this); have KX2 : Hid (Kept Nil w11 wx2) := KX1.out.grown hg2 (own_row HO1); have sB : wx2.cell? ⟨bc, 0, none⟩ = some (.slice a1 v.length c1) ∧ wx2.cell? ⟨bd, 1, none⟩ = some (.slice b2 n'.length e2) := ⟨blk_at (KX2.out.block _ _ BC11.out (fun x => x.elim)) 0 rfl, blk_at (KX2.out.block _ _ BD11.out (fun x => x.elim)) 1 rfl⟩; clear ho2 hg2)))
            all_goals
              go_wp2
              go_meet
              case rel => exact ⟨mo2, mc2, by rw [HM.out]; simp, by rw [HM.out]; exact HO2.out, KX2.out⟩
          case rest =>
            obtain ⟨mo, mc, rfl, OM, KC⟩ := hcut
            rename World => w12
            have S11 : Hid (MS w bc bd oc ac bk c1 c2 c3 e1 e2 e3 a1 a2 a3 oo ao bo b1 b2 b3 v n l av bv n' l' nx os w11) := ⟨K3.out.trans KK11.out, BC11.out, BD11.out, (RWS.out.nil KK11.out).full, own_mono OA11.out (Nat.zero_le _), own_mono OB11.out (Nat.zero_le _), ⟨own_mono OD11.out.o1 (Nat.zero_le _), own_mono OD11.out.o2 (Nat.zero_le _), own_mono OD11.out.o3 (Nat.zero_le _), OD11.out.d12, OD11.out.d13, OD11.out.d23⟩, own_mono (HOo.out.kept KK11.out) (Nat.zero_le _), HDA.out, HNX.out, HN1.out, HDR.out, HV0.out, ha9, hb9, hn9, hl9, by rw [HL.out]; omega⟩
            rw [← HL.out]
            apply_assumption
            exact HPB.out w bc bd oc ac bk c1 c2 c3 e1 e2 e3 a1 a2 a3 oo ao bo b1 b2 b3 v n l av bv n' l' nx os w11 w12 mo mc M _ _ _ _ _ _ _ _ _ _ _ _ _ _ _ _ _ _ _ _ _ _ _ _ _ _ _ _ _ _ _ _ _ _ _ _ _ _ _ _ _ _ _ _ _ _ _ _ _ _ _ _ _ _ _ _ _ _ _ _ _ _ _ _ _ _ _ _ _ _ _ _ _ _ _ _ _ _ _ _ _ _ _ _ _ _ _ _ _ _ _ _ _ _ _ _ _ _ _ _ _ _ _ _ _ _ _ _ _ _ _ _ _ _ _ _ _ _ _ _ _ _ _ _ _ _ _ _ _ _ _ _ _ _ _ _ _ _ _ _ _ _ _ _ _ _ _ _ _ _ _ _ _ _ _ _ _ _ _ _ _ _ _ _ _ _ _ _ _ _ _ _ _ _ _ _ _ _ _ _ _ _ _ _ _ _ _ _ _ _ _ _ _ _ _ _ _ _ _ _ _ _ _ _ _ _ _ _ _ _ _ _ _ _ _ _ _ _ _ _ _ _ _ _ _ _ _ _ _ _ _ _ _ _ _ _ _ _ _ _ _ _ _ _ _ _ _ _ _ _ _ _ _ _ _ _ _ _ _ _ _ _ _ _ _ _ _ _ _ _ _ _ _ _ _ _ _ _ _ _ _ _ S11.out HMn.out (fun x hx => by rw [HM.out]; exact List.mem_append_left _ hx) KC.out OM.out
end Go.Proofs.Ytijklginabipgaa
