/-
  WireBack's walk.
-/
import Derived.Test.YtijklginabipgaaWBkA
import Derived.Test.YtijklginabipgaaWOln
import Derived.Deep.DeepCutAuto
import Derived.Deep.DeepFit
import Derived.Deep.RegionHeld3
import Derived.Deep.CutBlock
import Derived.Deep.QuietTactic
import Derived.BigQuiet
namespace Go.Proofs.Ytijklginabipgaa
open Go.RowKit

set_option maxRecDepth 1000000 in
set_option maxHeartbeats 40000000 in
theorem wireBack_walk (n0 n1 n2 n3 n4 n5 : Int) (key value rest : List UInt8) (w : World) (hk : key.length ≤ 140737488351232) (hv : value.length ≤ 140737488351232) (hr : rest.length ≤ 140737488351232) :
    Calls Try.prog 7 #[.agg #[.int .i64 n0, .int .i64 n1, .int .i64 n2, .int .i64 n3, .int .i64 n4, .int .i64 n5], .string (bs key), .string (bs value), .string (bs rest)] w fun e w' => e = .returned (.bool true) ∧ Kept Nil w w' := by
  obtain ⟨i0, hi0⟩ : ∃ i0 : Nat, n0 % 1099511627775 = i0 := ⟨(n0 % 1099511627775).toNat, by have := Int.emod_nonneg n0 (show (1099511627775 : Int) ≠ 0 by decide); omega⟩
  obtain ⟨nm, hnm⟩ : ∃ nm : Nat, n1 % 1099511627776 = nm := ⟨(n1 % 1099511627776).toNat, by have := Int.emod_nonneg n1 (show (1099511627776 : Int) ≠ 0 by decide); omega⟩
  obtain ⟨tq, htq⟩ : ∃ tq : Nat, n2 % 1099511627776 = tq := ⟨(n2 % 1099511627776).toNat, by have := Int.emod_nonneg n2 (show (1099511627776 : Int) ≠ 0 by decide); omega⟩
  obtain ⟨i3, hi3⟩ : ∃ i3 : Nat, n3 % 1073741824 = i3 := ⟨(n3 % 1073741824).toNat, by have := Int.emod_nonneg n3 (show (1073741824 : Int) ≠ 0 by decide); omega⟩
  obtain ⟨i4, hi4⟩ : ∃ i4 : Nat, n4 % 1073741824 = i4 := ⟨(n4 % 1073741824).toNat, by have := Int.emod_nonneg n4 (show (1073741824 : Int) ≠ 0 by decide); omega⟩
  obtain ⟨cm, hcm⟩ : ∃ cm : Nat, n1 % 1073741824 = cm := ⟨(n1 % 1073741824).toNat, by have := Int.emod_nonneg n1 (show (1073741824 : Int) ≠ 0 by decide); omega⟩
  obtain ⟨cx, hcx⟩ : ∃ cx : Nat, n2 % 1073741824 = cx := ⟨(n2 % 1073741824).toNat, by have := Int.emod_nonneg n2 (show (1073741824 : Int) ≠ 0 by decide); omega⟩
  have li0 : i0 < 1099511627775 := by have := Int.emod_lt_of_pos n0 (show (0 : Int) < 1099511627775 by decide); omega
  have lnm : nm ≤ 1099511627775 := by have := Int.emod_lt_of_pos n1 (show (0 : Int) < 1099511627776 by decide); omega
  have ltq : tq ≤ 1099511627775 := by have := Int.emod_lt_of_pos n2 (show (0 : Int) < 1099511627776 by decide); omega
  have HM : Hid (n0 % 1099511627775 = i0 ∧ n1 % 1099511627776 = nm ∧ n2 % 1099511627776 = tq ∧ n3 % 1073741824 = i3 ∧ n4 % 1073741824 = i4 ∧ n1 % 1073741824 = cm ∧ n2 % 1073741824 = cx) := ⟨hi0, hnm, htq, hi3, hi4, hcm, hcx⟩
  have HL : Hid (i0 < 1099511627775 ∧ nm ≤ 1099511627775 ∧ tq ≤ 1099511627775 ∧ rest.length ≤ 140737488351232) := ⟨li0, lnm, ltq, hr⟩
  have HW : Hid (IntKind.i64.wrap (1 + (i0 : Int)) = ((i0 + 1 : Nat) : Int)) := by show _ = _; rw [IntKind.wrap_i64]; omega
  clear hi0 hnm htq hi3 hi4 hcm hcx li0 lnm ltq hr
  have HN0 : Hid ((w.alloc (.cells #[.int .i64 n0, .int .i64 n1, .int .i64 n2, .int .i64 n3, .int .i64 n4, .int .i64 n5] 75)).heap[w.heap.size]? = some (.cells #[.int .i64 n0, .int .i64 n1, .int .i64 n2, .int .i64 n3, .int .i64 n4, .int .i64 n5] 75 (0, 0))) := blk_new w _
  have hs1 := bs_size key
  have hs2 := bs_size value
  have ex1 : (bs key).extract 0 16 = bs (key.take 16) := bs_take _ _
  have ex2 : (bs value).extract 0 64 = bs (value.take 64) := bs_take _ _
  go_enter Try.func7, Try.ntmps7
  go_upto_if 29 with fail
  go_cut [1] (fun r wc => ∃ K : List UInt8, r = .string (bs K) ∧ Hid (K.length ≤ 16) ∧ wc = w.alloc (.cells #[.int .i64 n0, .int .i64 n1, .int .i64 n2, .int .i64 n3, .int .i64 n4, .int .i64 n5] 75))
  case first =>
    by_cases h : (16 : Int) < key.length
    · have HT : Hid ((key.take 16).length ≤ 16) := by show _ ≤ _; rw [List.length_take]; omega
      go_wp2
      go_meet
      exact ⟨key.take 16, rfl, HT.out, rfl⟩
    · have HT : Hid (key.length ≤ 16) := by show _ ≤ _; omega
      go_wp2
      go_meet
      exact ⟨key, rfl, HT.out, rfl⟩
  case rest =>
    obtain ⟨K, rfl, HKl, rfl⟩ := hcut
    clear hs1 ex1 hk
    go_upto_if 34 with fail
    go_cut [2] (fun r wc => ∃ V : List UInt8, r = .string (bs V) ∧ Hid (V.length ≤ 64) ∧ wc = w.alloc (.cells #[.int .i64 n0, .int .i64 n1, .int .i64 n2, .int .i64 n3, .int .i64 n4, .int .i64 n5] 75))
    case first =>
      by_cases h : (64 : Int) < value.length
      · have HT : Hid ((value.take 64).length ≤ 64) := by show _ ≤ _; rw [List.length_take]; omega
        go_wp2
        go_meet
        exact ⟨value.take 64, rfl, HT.out, rfl⟩
      · have HT : Hid (value.length ≤ 64) := by show _ ≤ _; omega
        go_wp2
        go_meet
        exact ⟨value, rfl, HT.out, rfl⟩
    case rest =>
      obtain ⟨V, rfl, HVl, rfl⟩ := hcut
      clear hs2 ex2 hv
      obtain ⟨W, HWW⟩ : ∃ W : World, Hid (W = w.alloc (.cells #[.int .i64 n0, .int .i64 n1, .int .i64 n2, .int .i64 n3, .int .i64 n4, .int .i64 n5] 75)) := ⟨_, rfl⟩
      have HN : Hid (W.heap[w.heap.size]? = some (.cells #[.int .i64 n0, .int .i64 n1, .int .i64 n2, .int .i64 n3, .int .i64 n4, .int .i64 n5] 75 (0, 0))) := by show _ = _; rw [HWW.out]; exact HN0.out
      have HK0 : Hid (Kept Nil w W) := by show Kept Nil w W; rw [HWW.out]; exact (Kept.refl _ _).alloc _
      rw [← HWW.out]
      clear HWW HN0
      obtain ⟨k, HKK⟩ : ∃ k : List UInt8, Hid (k = 107 :: K.take (K.length / 2)) := ⟨_, rfl⟩
      have hkl : k.length ≤ 16 ∧ k ≠ [] := by rw [HKK.out]; exact ⟨by have := HKl.out; simp; omega, by simp⟩
      have hq := bkRqOk (cl := i0 + 1) (nm := nm) (tq := tq) (k := k) (V := V) (by have := HL.out; omega) HL.out.2.1 HL.out.2.2.1 (by omega) hkl.1 hkl.2 HVl.out
      have PR := fun X => putRequest_any ((i0 + 1 : Nat) : Int) nm 1 0 tq k V X (by have := hkl.1; unfold maxLen; omega) (by have := HVl.out; unfold maxLen; omega)
      rw [bkRqPut hq] at PR
      have GR := fun X => getRequest_any (encReq (i0 + 1) nm 1 k V 0 tq) X
      rw [bkRqGet hq (by omega)] at GR
      have HAL : Hid ((encReq (i0 + 1) nm 1 k V 0 tq).length ≤ 256) := bkRqLen (by have := HL.out; omega) HL.out.2.1 HL.out.2.2.1 (by omega) hkl.1 HVl.out
      simp only at PR GR
      generalize encReq (i0 + 1) nm 1 k V 0 tq = ab at PR GR HAL
      clear hq hkl
      go_upto_region 5 with fail
      go_cut [9] (fun r wc => ∃ qB : Nat, r = .pointer (some ⟨qB, 0, none⟩) ∧ Hid (wc.heap[qB]? = some (.cells #[.int .i64 ((i0 + 1 : Nat) : Int), .int .i64 nm, .int .i64 1, .string (bs k), .string (bs V), .int .i64 0, .int .i64 tq] 79 (0, 0))) ∧ Hid (Kept Nil W wc))
      case first =>
        refine backA5 W (i0 + 1) nm tq i0 (K.length / 2) w.heap.size n0 n1 n2 K V rest _ _ _ _ _ _ _ _ _ _ _ _ _ _ _ _ _ _ _ _ _ _ _ _ _ _ _ _ _ _ _ _ _ _ _ _ _ _ _ _ _ _ _ _ _ _ _ _ _ _ _ _ _ _ _ _ _ _ _ _ _ _ _ _ _ _ _ _ _ _ _ _ _ _ _ _ _ _ _ _ _ _ _ _ _ _ _ _ _ _ _ _ _ _ _ _ _ _ _ _ _ _ _ _ _ _ _ _ _ _ _ _ _ _ _ _ _ _ _ _ _ _ _ _ _ _ _ _ _ _ _ _ _ _ _ _ _ _ _ _ _ _ _ _ _ _ _ _ _ _ _ _ _ _ _ _ _ _ _ _ _ _ _ _ _ _ _ _ _ _ _ _ _ _ _ _ _ _ _ _ _ _ _ _ _ _ _ _ _ _ _ _ _ _ _ _ _ _ _ _ _ _ _ _ _ _ _ _ _ _ _ _ _ _ _ _ _ _ _ _ _ _ _ _ _ _ _ _ _ _ _ _ _ _ _ _ _ _ _ _ _ _ _ _ _ _ _ _ _ ?_ (blk_at HN.out 0 rfl) (blk_at HN.out 1 rfl) (blk_at HN.out 2 rfl) (lt_of_block HN.out) HM.out.1 HM.out.2.1 HM.out.2.2.1 HW.out HKl.out rfl
        intro u9 u37 u38 u39 u40 u41 u42 u43 u44 u45 u46 u47 u48 u49 u50 u51 u52 u53 u54 u55 wc qB h1 h2 h3
        subst h1
        rw [← HKK.out] at h2
        (try dsimp only)
        go_wp2
        go_meet
        exact ⟨qB, rfl, h2, h3⟩
      case rest =>
        obtain ⟨qB, rfl, HQ, KC⟩ := hcut
        rename World => wc
        have x0 := blk_at HQ.out 0 rfl
        have x1 := blk_at HQ.out 1 rfl
        have x2 := blk_at HQ.out 2 rfl
        have x3 := blk_at HQ.out 3 rfl
        have x4 := blk_at HQ.out 4 rfl
        have x5 := blk_at HQ.out 5 rfl
        have x6 := blk_at HQ.out 6 rfl
        go_wp2_with fail
        refine (PR _).mono ?_
        rintro e w1 ⟨rfl, k1⟩
        go_wp2_with fail
        refine (GR _).mono ?_
        rintro e w2 ⟨rfl, k2⟩
        have HQ2 : Hid (w2.heap[qB]? = some (.cells #[.int .i64 ((i0 + 1 : Nat) : Int), .int .i64 nm, .int .i64 1, .string (bs k), .string (bs V), .int .i64 0, .int .i64 tq] 79 (0, 0))) := k2.block _ _ (k1.block _ _ HQ.out (fun x => x.elim)) (fun x => x.elim)
        have HK2 : Hid (Kept Nil W w2) := KC.out.trans (k1.trans k2)
        have y0 := blk_at HQ2.out 0 rfl
        have y1 := blk_at HQ2.out 1 rfl
        have y2 := blk_at HQ2.out 2 rfl
        have y3 := blk_at HQ2.out 3 rfl
        have y4 := blk_at HQ2.out 4 rfl
        have y5 := blk_at HQ2.out 5 rfl
        have y6 := blk_at HQ2.out 6 rfl
        have hlt : qB < w2.heap.size := lt_of_block HQ2.out
        have htl := bs_toList
        clear k1 k2 PR GR
        go_upto_if 76 with fail
        go_cut [] (fun wd => Hid (Kept Nil w2 wd))
        case first =>
          go_wp2
          go_meet
          exact (Kept.refl _ _).alloc _
        case rest =>
          have K4 : Hid (Kept Nil w2 _) := hcut
          have HK4 := HK2.out.trans K4.out
          apply_assumption
          exact backB10w w _ (1 + i3) (1 + i4) i3 i4 cm cx w.heap.size n0 n1 n2 n3 n4 n5 ab rest _ _ _ _ _ _ _ _ _ _ _ _ _ _ _ _ _ _ _ _ _ _ _ _ _ _ _ _ _ _ _ _ _ _ _ _ _ _ _ _ _ _ _ _ _ _ _ _ _ _ _ _ _ _ _ _ _ _ _ _ _ _ _ _ _ _ _ _ _ _ _ _ _ _ _ _ _ _ _ _ _ _ _ _ _ _ _ _ _ _ _ _ _ _ _ _ _ _ _ _ _ _ _ _ _ _ _ _ _ _ _ _ _ _ _ _ _ _ _ _ _ _ _ _ _ _ _ _ _ _ _ _ _ _ _ _ _ _ _ _ _ _ _ _ _ _ _ _ _ _ _ _ _ _ _ _ _ _ _ _ _ _ _ _ _ _ _ _ _ _ _ _ _ _ _ _ _ _ _ _ _ _ _ _ _ _ _ _ _ _ _ _ _ _ _ _ _ _ _ _ _ _ _ _ _ _ _ _ _ _ _ _ _ _ _ _ _ _ _ _ _ _ _ _ _ _ _ _ _ _ _ _ _ _ _ _ _ _ _ _ _ _ _ _ _ _ _ _ (HK0.out.trans HK4) (HK4.block _ _ HN.out (fun x => x.elim)) HM.out.2.2.2.2.2.1 HM.out.2.2.2.2.2.2 HM.out.2.2.2.1 HM.out.2.2.2.2.1 rfl rfl HAL.out HL.out.2.2.2

end Go.Proofs.Ytijklginabipgaa
