/-
  WireStrict's walk.
-/
import Derived.Test.YtijklginabipgaaGreatWStrQ
import Derived.Deep.CutRange
import Derived.Deep.CutBlock
import Derived.Deep.DeepCutAuto
namespace Go.Proofs.YtijklginabipgaaGreat
open Go.RowKit

set_option maxRecDepth 100000 in
set_option maxHeartbeats 4000000 in
theorem wireStrict_walk (l : List UInt8) (w : World) (hl : l.length ≤ 140737488351232) :
    Calls Tryz.prog 3 #[.string (bs l)] w fun e w' => e = .returned (.bool true) ∧ Kept Nil w w' := by
  have HKN := fun w => getRequest_any [0, 5, 7] w
  rw [show getReq [0, 5, 7] = (⟨0, 5, 0, [], [], 0, 7⟩, 0) by first | rfl | kernel_rfl] at HKN
  have ht := bs_toList
  go_enter Tryz.func3, Tryz.ntmps3
  go_wp2_with fail
  refine (HKN _).mono ?_
  rintro e w0 ⟨rfl, k0⟩
  have K0 : Hid (Kept Nil w w0) := k0
  clear k0 HKN
  go_wp2_with fail
  refine (strictReq l _).mono ?_
  rintro e w1 ⟨cl_1, nm_1, kd_1, ifv_1, tm_1, key_1, val_1, c1, f1, p1, rfl, k1, hz1, HP1⟩
  go_wp2_with fail
  refine (HP1 _ ((Kept.refl _ _).alloc _)).mono ?_
  rintro e v1 ⟨rfl, q1⟩
  have K1 : Hid (Kept Nil w v1) := (K0.out.alloc _).trans (k1.trans (((Kept.refl _ _).alloc _).trans q1))
  have HZ1 : Hid (c1 = 0 → f1 = 0 ∧ p1 = l) := hz1
  clear HP1 k1 q1 hz1
  go_upto_region 6 with fail
  go_cut [50] (fun r wx => r = .bool false ∧ wx = v1)
  case first =>
    by_cases hc : c1 = 0
    · obtain ⟨hf, hp⟩ := HZ1.out hc
      subst hc hf hp
      go_wp2
      go_meet
      exact ⟨by simp, rfl⟩
    · have hc1 : (c1 == 0) = false := by simp [hc]
      clear hc
      go_wp2
      go_meet
      exact ⟨by simp, rfl⟩
  case rest =>
    obtain ⟨rfl, rfl⟩ := hcut
    clear HZ1
    go_wp2_with fail
    refine (strictEnt l _).mono ?_
    rintro e w2 ⟨ix_2, tm_2, kd_2, dt_2, c2, f2, p2, rfl, k2, hz2, HP2⟩
    go_wp2_with fail
    refine (HP2 _ ((Kept.refl _ _).alloc _)).mono ?_
    rintro e v2 ⟨rfl, q2⟩
    have K2 : Hid (Kept Nil w v2) := (K1.out).trans (k2.trans (((Kept.refl _ _).alloc _).trans q2))
    have HZ2 : Hid (c2 = 0 → f2 = 0 ∧ p2 = l) := hz2
    clear HP2 k2 q2 hz2
    go_upto_region 10 with fail
    go_cut [71] (fun r wx => r = .bool false ∧ wx = v2)
    case first =>
      by_cases hc : c2 = 0
      · obtain ⟨hf, hp⟩ := HZ2.out hc
        subst hc hf hp
        go_wp2
        go_meet
        exact ⟨by simp, rfl⟩
      · have hc1 : (c2 == 0) = false := by simp [hc]
        clear hc
        go_wp2
        go_meet
        exact ⟨by simp, rfl⟩
    case rest =>
      obtain ⟨rfl, rfl⟩ := hcut
      clear HZ2
      go_wp2_with fail
      refine (strictCfg l _).mono ?_
      rintro e w3 ⟨a1_3, a2_3, a3_3, n1_3, n2_3, n3_3, c1_3, c2_3, c3_3, c3, f3, p3, rfl, k3, hz3, HP3⟩
      go_wp2_with fail
      refine (HP3 _ ((Kept.refl _ _).alloc _)).mono ?_
      rintro e v3 ⟨rfl, q3⟩
      have K3 : Hid (Kept Nil w v3) := (K2.out).trans (k3.trans (((Kept.refl _ _).alloc _).trans q3))
      have HZ3 : Hid (c3 = 0 → f3 = 0 ∧ p3 = l) := hz3
      clear HP3 k3 q3 hz3
      go_upto_region 14 with fail
      go_cut [92] (fun r wx => r = .bool false ∧ wx = v3)
      case first =>
        by_cases hc : c3 = 0
        · obtain ⟨hf, hp⟩ := HZ3.out hc
          subst hc hf hp
          go_wp2
          go_meet
          exact ⟨by simp, rfl⟩
        · have hc1 : (c3 == 0) = false := by simp [hc]
          clear hc
          go_wp2
          go_meet
          exact ⟨by simp, rfl⟩
      case rest =>
        obtain ⟨rfl, rfl⟩ := hcut
        clear HZ3
        go_wp2_with fail
        refine (strictSnap l _).mono ?_
        rintro e w4 ⟨ix_4, tm_4, a1_4, a2_4, a3_4, n1_4, n2_4, n3_4, c1_4, c2_4, c3_4, dt_4, c4, f4, p4, rfl, k4, hz4, HP4⟩
        go_wp2_with fail
        refine (HP4 _ ((Kept.refl _ _).alloc _)).mono ?_
        rintro e v4 ⟨rfl, q4⟩
        have K4 : Hid (Kept Nil w v4) := (K3.out).trans (k4.trans (((Kept.refl _ _).alloc _).trans q4))
        have HZ4 : Hid (c4 = 0 → f4 = 0 ∧ p4 = l) := hz4
        clear HP4 k4 q4 hz4
        go_upto_region 18 with fail
        go_cut [113] (fun r wx => r = .bool false ∧ wx = v4)
        case first =>
          by_cases hc : c4 = 0
          · obtain ⟨hf, hp⟩ := HZ4.out hc
            subst hc hf hp
            go_wp2
            go_meet
            exact ⟨by simp, rfl⟩
          · have hc1 : (c4 == 0) = false := by simp [hc]
            clear hc
            go_wp2
            go_meet
            exact ⟨by simp, rfl⟩
        case rest =>
          obtain ⟨rfl, rfl⟩ := hcut
          clear HZ4
          go_wp2_with fail
          refine (strictMsg l _).mono ?_
          rintro e w5 ⟨x0_5, x1_5, x2_5, x3_5, x4_5, x5_5, x6_5, x7_5, x8_5, x9_5, x10_5, x11_5, x12_5, x13_5, x14_5, x15_5, x16_5, c5, f5, p5, rfl, k5, hz5, ho_5, HP5⟩
          go_wp2_with (first | ((with_reducible refine atStore 49 ?_); go_must (refine wpList_storeW rfl _ _ _ rfl _ #[x0_5, x1_5, x2_5, x3_5, x4_5, x5_5, x6_5, x7_5, x8_5, x9_5, x10_5, x11_5, x12_5, x13_5, x14_5, x15_5, x16_5] _ _ rfl rfl (blk_new w5 _) rfl Tryz.sizeMsg rfl ho_5 ?_; intro wm hbm hkm hsm)) | ((with_reducible refine atLoad 49 ?_); go_must (refine wpList_loadW rfl _ _ rfl _ rfl _ _ _ hbm Tryz.underlying49 rfl Tryz.sizeMsg rfl ?_)))
          have km : Kept Nil w5 wm := Kept.ofNew ((Kept.refl _ _).alloc _) hkm (fun k _ h => by have : k = w5.heap.size := h; omega)
          refine (HP5 _ km).mono ?_
          rintro e v5 ⟨rfl, q5⟩
          have K5 : Hid (Kept Nil w v5) := K4.out.trans (k5.trans (km.trans q5))
          clear hbm hkm hsm km
          have HZ5 : Hid (c5 = 0 → f5 = 0 ∧ p5 = l) := hz5
          clear HP5 k5 q5 hz5 ho_5
          go_upto_region 22 with fail
          go_cut [134] (fun r wx => r = .bool false ∧ wx = v5)
          case first =>
            by_cases hc : c5 = 0
            · obtain ⟨hf, hp⟩ := HZ5.out hc
              subst hc hf hp
              go_wp2
              go_meet
              exact ⟨by simp, rfl⟩
            · have hc1 : (c5 == 0) = false := by simp [hc]
              clear hc
              go_wp2
              go_meet
              exact ⟨by simp, rfl⟩
          case rest =>
            obtain ⟨rfl, rfl⟩ := hcut
            clear HZ5
            go_wp2_with fail
            refine (strictTab l _).mono ?_
            rintro e w6 ⟨a1_6, a2_6, n1_6, n2_6, c1_6, c2_6, tm_6, c6, f6, p6, rfl, k6, hz6, HP6⟩
            go_wp2_with fail
            refine (HP6 _ ((Kept.refl _ _).alloc _)).mono ?_
            rintro e v6 ⟨rfl, q6⟩
            have K6 : Hid (Kept Nil w v6) := (K5.out).trans (k6.trans (((Kept.refl _ _).alloc _).trans q6))
            have HZ6 : Hid (c6 = 0 → f6 = 0 ∧ p6 = l) := hz6
            clear HP6 k6 q6 hz6
            by_cases hc : c6 = 0
            · obtain ⟨hf, hp⟩ := HZ6.out hc
              subst hc hf hp
              go_wp2
              go_ret
              exact ⟨ret_bool (by simp), K6.out⟩
            · have hc1 : (c6 != 0) = true := by simp [hc]
              clear hc
              go_wp2
              go_ret
              exact ⟨ret_bool (by simp), K6.out⟩

end Go.Proofs.YtijklginabipgaaGreat
