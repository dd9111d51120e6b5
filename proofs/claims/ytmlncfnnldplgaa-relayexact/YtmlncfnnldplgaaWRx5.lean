/-
  RelayExact: the law's walk.
-/
import Derived.Test.YtmlncfnnldplgaaWRx4
import Derived.Deep.DeepCutAuto
namespace Go.Proofs.Ytmlncfnnldplgaa
open Go.RowKit

set_option maxRecDepth 100000 in
set_option maxHeartbeats 20000000 in
theorem relayExact_any (w : World) (B c : Nat) (id : Int) (ao : Option Addr) (ss : List Rs) (h : RsRow B w ao ss) (hB : B ≤ w.heap.size) (hl : (ss.length : Int) ≤ 5864062014800) :
    Calls Try.prog 3 #[.int .i64 id, .slice ao ss.length c] w fun e w' => e = .returned (.bool true) ∧ Kept Nil w w' := by
  have HR : Hid (RsRow w.heap.size w ao ss) := h.up hB
  have NW := newR_any 1 w
  clear h
  go_enter Try.func3, Try.ntmps3
  go_wp2_with fail
  go_fit NW
  rintro e w1 (⟨hx, _⟩ | ⟨_, rfl, r1, k1⟩)
  · exact absurd hx (by decide)
  have HX1 : Hid (Rl (w.heap.size + 1) w1 w.heap.size 1 (fun _ => oh0) (fun _ => none) (fun _ => 0)) := r1
  have K1 : Hid (Kept Nil w w1) := k1
  have HZ1 : Hid (w.heap.size + 1 ≤ w1.heap.size) := by obtain ⟨_, hc⟩ := r1.cl; exact lt_of_block hc.blk
  clear r1 k1 NW
  have SD := sendX_all _ _ 0 1 2 [97] _ _ _ w1 HX1.out HZ1.out Sm.start
  rw [first_send] at SD
  go_wp2_with fail
  go_fit SD
  rintro e w2 ⟨rfl, ⟨ao2, cs2, r2⟩, k2⟩
  have K2 : Hid (Kept Nil w w2) := K1.out.newX k2 (tx_new (Nat.le_succ _) (Nat.le_refl _))
  have PK := packets_any _ _ _ _ _ _ w2 r2 ((Sm.start.send 1 2 [97]).fits (by omega))
  rw [first_len] at PK
  clear SD k2 r2 HX1 HZ1
  go_wp2_with fail
  go_fit PK
  rintro e w3 ⟨a3, c3, rfl, _, k3⟩
  have K3 : Hid (Kept Nil w w3) := K2.out.trans k3
  clear PK k3
  have NX := newR_any id w3
  go_wp2_with fail
  go_fit NX
  rintro e w4 (⟨hn, rfl, hw⟩ | ⟨hn, rfl, r4, k4⟩)
  · rw [hw]
    have NY := newY_no id w3 hn
    clear hw hn NX
    go_wp2_with fail
    go_fit NY
    rintro e _ ⟨rfl, hw9⟩
    rw [hw9]
    clear hw9 NY
    go_wp2
    go_ret
    exact ⟨rfl, K3.out⟩
  · have NY := newY_yes id w4 hn
    have HX4 : Hid (Rl (w3.heap.size + 1) w4 w3.heap.size id (fun _ => oh0) (fun _ => none) (fun _ => 0)) := r4
    have HZ4 : Hid (w3.heap.size < w4.heap.size) := by obtain ⟨_, hc⟩ := r4.cl; exact lt_of_block hc.blk
    have HZ3 : Hid (w.heap.size ≤ w3.heap.size) := K3.out.size
    have K4 : Hid (Kept Nil w w4) := K3.out.trans k4
    clear hn NX r4 k4
    go_wp2_with fail
    go_fit NY
    rintro e w5 ⟨rfl, r5, k5⟩
    obtain ⟨bx, HBx⟩ : ∃ b, Hid (b = w3.heap.size) := ⟨_, rfl⟩
    obtain ⟨vy, HVy⟩ : ∃ b, Hid (b = w4.heap.size) := ⟨_, rfl⟩
    rw [← HBx.out] at HX4 HZ4 ⊢
    rw [← HVy.out] at r5 ⊢
    have HX5 : Hid (Rl (bx + 1) w5 bx id (fun _ => oh0) (fun _ => none) (fun _ => 0)) := HX4.out.kept k5
    have HY5 : Hid (Ry (fun g => g < w5.heap.size) w5 vy id (fun _ => oh0) (fun _ => none) (fun _ => 0)) := r5.up (fun _ x => x.elim)
    have K5 : Hid (Kept Nil w w5) := K4.out.trans k5
    have HTX : Hid (∀ q o, TX (bx + 1) bx q o → w.heap.size ≤ q) := tx_new (by have := HBx.out; have := HZ3.out; omega) (by have := HBx.out; have := HZ3.out; omega)
    have HTY : Hid (∀ q o, TY vy q o → w.heap.size ≤ q) := ty_new (by have := HVy.out; have := K4.out.size; omega)
    have HS5 : Hid (bx + 1 ≤ w5.heap.size) := by have := HZ4.out; have := k5.size; show _ ≤ _; omega
    clear r5 k5 NY HX4 HZ4 HZ3 K4 K3 K2 K1 HBx HVy
    go_wp2_with fail
    go_loopw [11] (fun u wr => ∃ k : Nat, ∃ os ax cx ay cy, k ≤ ss.length ∧ u = .int .i64 k ∧ Hid (Rl (bx + 1) wr bx id os ax cx) ∧ Hid (Ry (fun g => g < wr.heap.size) wr vy id os ay cy) ∧ Hid (Sm k os) ∧ Hid (bx + 1 ≤ wr.heap.size) ∧ Hid (Kept Nil w wr)) (fun u _ => ss.length - (intOf u).toNat)
    case atStart => exact ⟨0, _, _, _, _, _, Nat.zero_le _, rfl, HX5.out, HY5.out, Sm.start, HS5.out, K5.out⟩
    case round =>
      obtain ⟨k, os, ax, cx, ay, cy, hk, rfl, HX, HY, HSm, HSz, HK⟩ := hrel
      clear HX5 HY5 HS5 K5
      have HFt : Hid (∀ k, k < 10 → (os k).wt.length ≤ 16 ∧ (os k).ak ≤ 9000000000000000000 ∧ (os k).cm ≤ 9000000000000000000) := HSm.out.fits (by omega)
      by_cases hlt : k < ss.length
      · have hki : (k : Int) < ss.length := by omega
        obtain ⟨a, e, _, c0, c1, c2, c3, c4, c5, c6, c7, hnu⟩ := (HR.out.nil HK.out) k hlt
        subst e
        obtain ⟨y, HYe⟩ : ∃ y : Rs, Hid (y = ss[k]) := ⟨ss[k], (rfl : ss[k] = ss[k])⟩
        rw [← HYe.out] at c0 c1 c2 c3 c4 c5 c6 c7 hnu
        clear HYe
        obtain ⟨kd, dst, bd, p⟩ := y
        dsimp only at c0 c1 c2 c3 c4 c5 c6 c7 hnu
        go_upto_region 14 with fail
        obtain ⟨W, hW⟩ : ∃ W, W = wr.alloc (.cells #[.int .i64 kd, .int .i64 dst, .string (bs bd), .int .i64 p.fr, .int .i64 p.ds, .int .i64 p.nu, .bool p.ak, .string (bs p.bd)] 36) := ⟨_, rfl⟩
        obtain ⟨A, HAe⟩ : ∃ A, Hid (A = wr.heap.size) := ⟨_, rfl⟩
        have KW : Hid (Kept Nil wr W) := by rw [hW]; exact (Kept.refl _ _).alloc _
        have HAW : Hid (W.heap[A]? = some (.cells #[.int .i64 kd, .int .i64 dst, .string (bs bd), .int .i64 p.fr, .int .i64 p.ds, .int .i64 p.nu, .bool p.ak, .string (bs p.bd)] 36 (0, 0))) := by rw [hW, HAe.out]; exact blk_new _ _
        rw [← hW, ← HAe.out]
        have HKW : Hid (Kept Nil w W) := HK.out.trans KW.out
        have HXW : Hid (Rl (bx + 1) W bx id os ax cx) := HX.out.kept KW.out
        have HYW : Hid (Ry (fun g => g < W.heap.size) W vy id os ay cy) := (HY.out.kept KW.out).lt
        have HSW : Hid (bx + 1 ≤ W.heap.size) := Nat.le_trans HSz.out KW.out.size
        clear hW c0 c1 c2 c3 c4 c5 c6 c7 HX HY HSz
        have p0 : W.cell? ⟨A, 0, none⟩ = some (.int .i64 kd) := blk_at HAW.out 0 rfl
        by_cases h1 : kd = 1
        · subst h1
          have p1 : W.cell? ⟨A, 1, none⟩ = some (.int .i64 dst) := blk_at HAW.out 1 rfl
          have p2 : W.cell? ⟨A, 2, none⟩ = some (.string (bs bd)) := blk_at HAW.out 2 rfl
          have SX := sendX_all _ _ _ id dst bd _ _ _ W HXW.out HSW.out HSm.out
          obtain ⟨z, HZ⟩ : ∃ z, Hid (z = sndK id os dst) := ⟨_, rfl⟩
          rw [← HZ.out] at SX
          go_wp2_with fail
          go_fit SX
          rintro e w6 ⟨rfl, ⟨ax6, cx6, x6⟩, k6⟩
          have HX6 : Hid (Rl (bx + 1) w6 bx id (sndS id os dst bd) ax6 cx6) := x6
          have K6 : Hid (Kept Nil w w6) := HKW.out.newX k6 HTX.out
          have HY6 : Hid (Ry (fun g => g < W.heap.size) w6 vy id os ay cy) := HYW.out.keptT k6
          have HSz6 : Hid (bx + 1 ≤ w6.heap.size) := Nat.le_trans HSW.out k6.size
          have q1 : w6.cell? ⟨A, 1, none⟩ = some (.int .i64 dst) := (k6.cell HAW.out (by rintro (⟨_, _, e⟩ | ⟨_, _, e⟩) <;> simp at e) 1).trans p1
          have q2 : w6.cell? ⟨A, 2, none⟩ = some (.string (bs bd)) := (k6.cell HAW.out (by rintro (⟨_, _, e⟩ | ⟨_, _, e⟩) <;> simp at e) 2).trans p2
          have SY := sendY_all _ _ k id dst bd _ _ _ w6 HY6.out HSm.out (by omega)
          rw [← HZ.out] at SY
          have hzz : (z != z) = false := by simp
          clear SX x6 k6 p0 p1 p2
          go_wp2_with fail
          go_fit SY
          rintro e w7 ⟨rfl, ⟨ay7, cy7, y7⟩, k7⟩
          have HX7 : Hid (Rl (bx + 1) w7 bx id (sndS id os dst bd) ax6 cx6) := HX6.out.keptY k7
          have HY7 : Hid (Ry (fun g => g < w7.heap.size) w7 vy id (sndS id os dst bd) ay7 cy7) := y7.lt
          have K7 : Hid (Kept Nil w w7) := K6.out.newX k7 HTY.out
          have HSz7 : Hid (bx + 1 ≤ w7.heap.size) := Nat.le_trans HSz6.out k7.size
          clear SY y7 k7 q1 q2
          go_wp2
          go_roundw
          case rel => exact ⟨k + 1, _, _, _, _, _, by omega, by go_num, HX7.out, HY7.out, HSm.out.send id dst bd, HSz7.out, K7.out⟩
          case measure => simp [intOf]; omega
        · have n1 : (kd == 1) = false := by simpa using h1
          by_cases h3 : kd = 3
          · subst h3
            have p3 : W.cell? ⟨A, 3, none⟩ = some (.int .i64 p.fr) := blk_at HAW.out 3 rfl
            have p4 : W.cell? ⟨A, 4, none⟩ = some (.int .i64 p.ds) := blk_at HAW.out 4 rfl
            have p5 : W.cell? ⟨A, 5, none⟩ = some (.int .i64 p.nu) := blk_at HAW.out 5 rfl
            have p6 : W.cell? ⟨A, 6, none⟩ = some (.bool p.ak) := blk_at HAW.out 6 rfl
            have p7 : W.cell? ⟨A, 7, none⟩ = some (.string (bs p.bd)) := blk_at HAW.out 7 rfl
            have RX := receive_any _ _ id _ _ _ p W HXW.out hnu HFt.out
            unfold pkV at RX
            clear h1 n1
            go_wp2_with fail
            go_fit RX
            rintro e w6 ⟨⟨a6, c6, a7, c7, rfl, hc6, hk6⟩, ⟨ax6, cx6, x6⟩, k6⟩
            obtain ⟨lc, HLc⟩ : ∃ l, Hid (l = if goodP id p = true then rcvC (os p.fr.toNat) p else []) := ⟨_, rfl⟩
            obtain ⟨la, HLa⟩ : ∃ l, Hid (l = if goodP id p = true then rcvA id (os p.fr.toNat) p else []) := ⟨_, rfl⟩
            obtain ⟨os', HOs⟩ : ∃ l, Hid (l = if goodP id p = true then upd os p.fr.toNat (rcvO (os p.fr.toNat) p) else os) := ⟨_, rfl⟩
            have hlc : lc.length ≤ 1 := by rw [HLc.out]; exact rcvC_len _ _ _
            have hla : la.length ≤ 1 := by rw [HLa.out]; exact rcvA_len _ _ _ _
            rw [← HLc.out] at hc6 ⊢
            rw [← HLa.out] at hk6 ⊢
            rw [← HOs.out] at x6
            have HC6 : Hid (OwnPc W.heap.size w6 a6 c6 lc) := hc6
            have HP6 : Hid (OwnPk W.heap.size w6 a7 c7 la) := hk6
            have HX6 : Hid (Rl (bx + 1) w6 bx id os' ax6 cx6) := x6
            have K6 : Hid (Kept Nil w w6) := HKW.out.newX k6 HTX.out
            have HY6 : Hid (Ry (fun g => g < W.heap.size) w6 vy id os ay cy) := HYW.out.keptT k6
            have HSz6 : Hid (bx + 1 ≤ w6.heap.size) := Nat.le_trans HSW.out k6.size
            have HWz : Hid (w.heap.size ≤ W.heap.size) := HKW.out.size
            have HW6 : Hid (W.heap.size ≤ w6.heap.size) := k6.size
            have HA6 := k6.block _ _ HAW.out (by rintro (⟨_, _, e⟩ | ⟨_, _, e⟩) <;> simp at e)
            have q3 : w6.cell? ⟨A, 3, none⟩ = some (.int .i64 p.fr) := blk_at HA6 3 rfl
            have q4 : w6.cell? ⟨A, 4, none⟩ = some (.int .i64 p.ds) := blk_at HA6 4 rfl
            have q5 : w6.cell? ⟨A, 5, none⟩ = some (.int .i64 p.nu) := blk_at HA6 5 rfl
            have q6 : w6.cell? ⟨A, 6, none⟩ = some (.bool p.ak) := blk_at HA6 6 rfl
            have q7 : w6.cell? ⟨A, 7, none⟩ = some (.string (bs p.bd)) := blk_at HA6 7 rfl
            have RY := receiveY_any _ _ id _ _ _ p w6 HY6.out HFt.out
            unfold pkV at RY
            clear RX hc6 hk6 x6 k6 HA6 p0 p3 p4 p5 p6 p7 HXW HYW HKW
            go_wp2_with fail
            go_fit RY
            rintro e w7 ⟨⟨a8, c8, a9, c9, rfl, hc8, hk9⟩, ⟨ay7, cy7, y7⟩, k7⟩
            rw [← HLc.out] at hc8 ⊢
            rw [← HLa.out] at hk9 ⊢
            rw [← HOs.out] at y7
            have HC7 : Hid (OwnPc W.heap.size w7 a6 c6 lc) := HC6.out.keptY k7
            have HD7 : Hid (OwnPc w6.heap.size w7 a8 c8 lc) := hc8
            have HP7 : Hid (OwnPk W.heap.size w7 a7 c7 la) := HP6.out.keptY k7
            have HX7 : Hid (Rl (bx + 1) w7 bx id os' ax6 cx6) := HX6.out.keptY k7
            have HY7 : Hid (Ry (fun g => g < W.heap.size ∨ w6.heap.size ≤ g) w7 vy id os' ay7 cy7) := y7
            have K7 : Hid (Kept Nil w w7) := K6.out.newX k7 HTY.out
            have HSz7 : Hid (bx + 1 ≤ w7.heap.size) := Nat.le_trans HSz6.out k7.size
            have HW7 : Hid (w6.heap.size ≤ w7.heap.size) := k7.size
            have SM := samePk_yes _ _ c7 c9 a7 a9 la w7 HP7.out hk9 (by omega)
            clear RY hc8 hk9 y7 k7 q3 q4 q5 q6 q7 HX6 HY6 HSz6 K6
            go_wp2_with fail
            go_fit SM
            rintro e w8 ⟨rfl, k8⟩
            have HC8 : Hid (OwnPc W.heap.size w8 a6 c6 lc) := HC7.out.kept k8
            have HD8 : Hid (OwnPc w6.heap.size w8 a8 c8 lc) := HD7.out.kept k8
            have HP8 : Hid (OwnPk W.heap.size w8 a7 c7 la) := HP7.out.kept k8
            have HX8 : Hid (Rl (bx + 1) w8 bx id os' ax6 cx6) := HX7.out.kept k8
            have HY8 : Hid (Ry (fun g => g < W.heap.size ∨ w6.heap.size ≤ g) w8 vy id os' ay7 cy7) := HY7.out.kept k8
            have K8 : Hid (Kept Nil w w8) := K7.out.trans k8
            have HSz8 : Hid (bx + 1 ≤ w8.heap.size) := Nat.le_trans HSz7.out k8.size
            have HW8 : Hid (W.heap.size ≤ w8.heap.size) := Nat.le_trans (Nat.le_trans HW6.out HW7.out) k8.size
            clear SM k8 HC7 HD7 HP7 HX7 HY7 K7 HSz7 HW7
            go_wp2_with fail
            go_loopw [20] (fun u w9 => ∃ j : Nat, ∃ zs : List Pc, j ≤ lc.length ∧ u = .int .i64 j ∧ Hid (zs.length = lc.length) ∧ Hid (∀ i, j ≤ i → zs[i]? = lc[i]?) ∧ Hid (OwnPc W.heap.size w9 a6 c6 zs) ∧ Hid (OwnPc w6.heap.size w9 a8 c8 lc) ∧ Hid (Kept (TC fun q => W.heap.size ≤ q ∧ q < w6.heap.size) w8 w9)) (fun u _ => lc.length - (intOf u).toNat)
            case atStart => exact ⟨0, lc, Nat.zero_le _, rfl, rfl, fun _ _ => rfl, HC8.out, HD8.out, Kept.refl _ _⟩
            case round =>
              obtain ⟨j, zs, hj, rfl, HLz, HAt, HCz, HDz, HKz⟩ := hrel
              by_cases hjl : j < lc.length
              · have hji : (j : Int) < lc.length := by omega
                have hjz : j < zs.length := by rw [HLz.out]; exact hjl
                have HJe : Hid (zs[j] = lc[j]) := by
                  show zs[j] = lc[j]
                  have := HAt.out j (Nat.le_refl _)
                  rw [List.getElem?_eq_getElem hjz, List.getElem?_eq_getElem hjl] at this
                  simpa using this
                obtain ⟨g1, e1, hg1, _, d0, d1, f0, f1⟩ := HCz.out.cells hjz
                obtain ⟨g2, e2, hg2, _, b0, b1, _, _⟩ := HDz.out.cells hjl
                have HG1 : Hid (g1 < w6.heap.size) := (World.ownsRow.lt HC6.out g1 (by rw [e1]; rfl)).2
                subst e1
                subst e2
                rw [HJe.out] at d0 d1
                generalize lc[j] = v at d0 d1 b0 b1
                go_upto_region 29 with fail
                go_quiet (fail)
                have HTy : Hid (∀ o, w8.heap[g1]? = some o → TC (fun q => W.heap.size ≤ q ∧ q < w6.heap.size) g1 o) := fun o ho => by
                  obtain ⟨g', cs', eg, _, hh, _⟩ := HC8.out.block (by simp)
                  cases eg
                  rw [hh] at ho
                  cases ho
                  exact ⟨⟨hg1, HG1.out⟩, _, rfl⟩
                have HNe : Hid ((Value.slice (some ⟨g2, 0, none⟩) lc.length c8).ownBlock ≠ some g1) := fun e => by
                  have e : g2 = g1 := by simpa [Value.ownBlock] using e
                  have := HG1.out
                  omega
                clear HJe
                go_wp2
                go_roundw
                case rel => exact ⟨j + 1, zs.set j ⟨-7, []⟩, by omega, by go_num, (by show (zs.set j _).length = _; rw [List.length_set]; exact HLz.out), (fun i hi => by rw [List.getElem?_set_ne (by omega)]; exact HAt.out i (by omega)), ownPc_set2 (HCz.out.kept ((Kept.refl _ _).drewN _)) hjz ⟨-7, []⟩, own_setB (own_setB (HDz.out.kept ((Kept.refl _ _).drewN _)) HNe.out _ _) HNe.out _ _, ((HKz.out.drewN _).setT HTy.out _ _).setT HTy.out _ _⟩
                case measure => simp [intOf]; omega
              · obtain rfl : j = lc.length := by omega
                have hirr : ¬ (lc.length : Int) < lc.length := by omega
                obtain ⟨w9, hw9⟩ : ∃ x : World, x = wr := ⟨_, rfl⟩
                rw [← hw9] at HKz ⊢
                clear HCz HDz HAt HLz hw9
                have HP9 : Hid (OwnPk W.heap.size w9 a7 c7 la) := HP8.out.keptC HKz.out
                have OV := overPk_any W.heap.size c7 _ a7 w9 HP9.out.any (Nat.le_trans HW8.out HKz.out.size) (by omega)
                go_wp2_with fail
                go_fit OV
                rintro e w10 ⟨rfl, k10⟩
                have KP : Hid (Kept (TP fun q => W.heap.size ≤ q ∧ q < w6.heap.size) w9 w10) := HP6.out.over HP9.out k10
                have HX10 : Hid (Rl (bx + 1) w10 bx id os' ax6 cx6) := (HX8.out.keptC HKz.out).keptP KP.out
                have HY10 : Hid (Ry (fun g => g < w10.heap.size) w10 vy id os' ay7 cy7) := ((HY8.out.keptC HKz.out).keptP KP.out (fun g hg hq => by have := hq.1; have := hq.2; rcases hg with h | h <;> omega)).lt
                have K10 : Hid (Kept Nil w w10) := (K8.out.newX HKz.out (tc_new fun q hq => Nat.le_trans HWz.out hq.1)).newX KP.out (tp_new fun q hq => Nat.le_trans HWz.out hq.1)
                have HS10 : Hid (bx + 1 ≤ w10.heap.size) := Nat.le_trans HSz8.out (Nat.le_trans HKz.out.size KP.out.size)
                have HSm' : Hid (Sm (k + 1) os') := by rw [HOs.out]; exact HSm.out.rcv id p
                clear OV k10
                go_wp2
                go_roundw
                case rel => exact ⟨k + 1, _, _, _, _, _, by omega, by go_num, HX10.out, HY10.out, HSm'.out, HS10.out, K10.out⟩
                case measure => simp [intOf]; omega
          · have n3 : (kd == 3) = false := by simpa using h3
            by_cases h2 : kd = 2
            · subst h2
              have PX := packets_any _ _ _ _ _ _ W HXW.out HFt.out
              clear h1 n1 h3 n3
              go_wp2_with fail
              go_fit PX
              rintro e w6 ⟨a6, c6, rfl, o6, k6⟩
              have HO6 : Hid (OwnPk W.heap.size w6 a6 c6 (pksTo id os 10)) := o6
              have HYw6 : Hid (Ry (fun g => g < W.heap.size) w6 vy id os ay cy) := HYW.out.kept k6
              have PY := packetsY_any _ _ _ _ _ _ w6 HYw6.out (fun k hk => (HFt.out k hk).1)
              have K6 : Hid (Kept Nil w w6) := HKW.out.trans k6
              have HX6 : Hid (Rl (bx + 1) w6 bx id os ax cx) := HXW.out.kept k6
              have HS6 : Hid (bx + 1 ≤ w6.heap.size) := Nat.le_trans HSW.out k6.size
              have HZ6 : Hid (W.heap.size ≤ w6.heap.size) := k6.size
              clear PX o6 k6
              go_wp2_with fail
              go_fit PY
              rintro e w7 ⟨a7, c7, rfl, o7, k7⟩
              have HLp : Hid ((pksTo id os 10).length ≤ 160) := pksTo_len id os (fun k hk => (HFt.out k hk).1) 10 (by omega)
              have SM := samePk_yes _ _ c6 c7 a6 a7 (pksTo id os 10) w7 (HO6.out.kept k7) o7 (by have := HLp.out; omega)
              have K7 : Hid (Kept Nil w7 w7) := Kept.refl _ _
              have K67 : Hid (Kept Nil w6 w7) := k7
              clear PY o7 k7
              go_wp2_with fail
              go_fit SM
              rintro e w8 ⟨rfl, k8⟩
              have K68 : Hid (Kept Nil w6 w8) := K67.out.trans k8
              have HO8 : Hid (OwnPk W.heap.size w8 a6 c6 (pksTo id os 10)) := HO6.out.kept K68.out
              have OV := overPk_any W.heap.size c6 _ a6 w8 HO8.out.any (Nat.le_trans HZ6.out K68.out.size) (by have := HLp.out; omega)
              clear SM k8
              go_wp2_with fail
              go_fit OV
              rintro e w9 ⟨rfl, k9⟩
              have KP : Hid (Kept (TP fun q => W.heap.size ≤ q ∧ q < w6.heap.size) w8 w9) := HO6.out.over HO8.out k9
              have HX9 : Hid (Rl (bx + 1) w9 bx id os ax cx) := (HX6.out.kept K68.out).keptP KP.out
              have HY9 : Hid (Ry (fun g => g < w9.heap.size) w9 vy id os ay cy) := ((HYw6.out.kept K68.out).keptP KP.out (fun g hg hq => by have := hq.1; omega)).lt
              have K9 : Hid (Kept Nil w w9) := (K6.out.trans K68.out).newX KP.out (tp_new fun q hq => Nat.le_trans HKW.out.size hq.1)
              have HS9 : Hid (bx + 1 ≤ w9.heap.size) := Nat.le_trans HS6.out (Nat.le_trans K68.out.size KP.out.size)
              clear OV k9
              go_wp2
              go_roundw
              case rel => exact ⟨k + 1, _, _, _, _, _, by omega, by go_num, HX9.out, HY9.out, HSm.out.mono (Nat.le_succ _), HS9.out, K9.out⟩
              case measure => simp [intOf]; omega
            · have n2 : (kd == 2) = false := by simpa using h2
              go_wp2
              go_roundw
              case rel => exact ⟨k + 1, _, _, _, _, _, by omega, by go_num, HXW.out, HYW.out, HSm.out.mono (Nat.le_succ _), HSW.out, HKW.out⟩
              case measure => simp [intOf]; omega
      · obtain rfl : k = ss.length := by omega
        have hirr : ¬ (ss.length : Int) < ss.length := by omega
        have PX := packets_any _ _ _ _ _ _ wr HX.out HFt.out
        go_wp2_with fail
        go_fit PX
        rintro e w6 ⟨a6, c6, rfl, o6, k6⟩
        have HO6 : Hid (OwnPk wr.heap.size w6 a6 c6 (pksTo id os 10)) := o6
        have PY := packetsY_any _ _ _ _ _ _ w6 (HY.out.kept k6) (fun k hk => (HFt.out k hk).1)
        have K6 : Hid (Kept Nil w w6) := HK.out.trans k6
        clear PX o6 k6
        go_wp2_with fail
        go_fit PY
        rintro e w7 ⟨a7, c7, rfl, o7, k7⟩
        have HLp : Hid ((pksTo id os 10).length ≤ 160) := pksTo_len id os (fun k hk => (HFt.out k hk).1) 10 (by omega)
        have SM := samePk_yes _ _ c6 c7 a6 a7 (pksTo id os 10) w7 (HO6.out.kept k7) o7 (by have := HLp.out; omega)
        have K7 : Hid (Kept Nil w w7) := K6.out.trans k7
        clear PY o7 k7
        go_wp2_with fail
        go_fit SM
        rintro e w8 ⟨rfl, k8⟩
        go_wp2
        go_ret
        exact ⟨rfl, K7.out.trans k8⟩
end Go.Proofs.Ytmlncfnnldplgaa
