/-
  Cells: where a key is (the document's Place).
-/
import Derived.Test.YtflnjlbafchnaaaGreatDoorWCd6
import Derived.Test.YtflnjlbafchnaaaGreatDoorWCh6
import Derived.Test.YtflnjlbafchnaaaGreatDoorWKvW
import Derived.Test.YtflnjlbafchnaaaGreatDoorWCr3
namespace Go.Proofs.YtflnjlbafchnaaaGreatDoor
open Go.RowKit

def PrAt (X : World) (R : Nat) (k v : List UInt8) (n : Int) : Prop := X.heap[R]? = some (.cells #[.string (bs k), .string (bs v), .int .i64 n] 63 (0, 0))
theorem PrAt.all {X : World} {R : Nat} {k v : List UInt8} {n : Int} (a : PrAt X R k v n) (k' v' : List UInt8) (n' : Int) : PrAt (((X.setCell ⟨R, 0, none⟩ (.string (bs k'))).setCell ⟨R, 1, none⟩ (.string (bs v'))).setCell ⟨R, 2, none⟩ (.int .i64 n')) R k' v' n' := by
  have h0 := blk_set a 0 (.string (bs k'))
  have h1 := blk_set h0 1 (.string (bs v'))
  have h2 := blk_set h1 2 (.int .i64 n')
  exact h2
/-- What one map's answer means, as the document reads it. -/
theorem say_is (key : List UInt8) (ms : List (List Pr)) {g i : Nat} (hg : g = i + 1) (hi : i < ms.length) : sayM key ms g = sawC g (apR 2 (cKey key) [] 0 ms[i]) := by
  unfold sayM
  rw [if_neg (by omega), show g - 1 = i by omega, List.getElem?_eq_getElem hi]
  rfl
set_option maxRecDepth 100000 in
set_option maxHeartbeats 16000000 in
theorem refPlace_any (key : List UInt8) (ms : List (List Pr)) (mo : Option Addr) (mc : Nat) (w : World) (h : MRow w mo ms) (hk : (key.length : Int) ≤ 140737488351232) (hlen : (ms.length : Int) ≤ 6000000000000) :
    Calls Tryz.prog 36 #[.slice mo ms.length mc, .string (bs key)] w (FindPost w key (findG (sayM key ms) ms.length ms.length 1)) := by
  obtain ⟨F, HF⟩ : ∃ F, Hid (F = findG (sayM key ms) ms.length ms.length 1) := ⟨_, rfl⟩
  rw [← HF.out]
  obtain ⟨W, hW⟩ : ∃ W, W = w.alloc (.cells #[.string ⟨#[]⟩, .string ⟨#[]⟩, .int .i64 0] 63) := ⟨_, rfl⟩
  obtain ⟨R, HRe⟩ : ∃ A, Hid (A = w.heap.size) := ⟨_, rfl⟩
  have KW : Hid (Kept Nil w W) := by rw [hW]; exact (Kept.refl _ _).alloc _
  have HR : Hid (PrAt W R [] [] 0) := by rw [hW, HRe.out]; exact blk_new _ _
  have HRw : Hid (w.heap.size ≤ R) := by show _ ≤ _; rw [HRe.out]; exact Nat.le_refl _
  have HM : Hid (MRow w mo ms) := h
  obtain ⟨n, hn⟩ : ∃ n, n = ms.length := ⟨_, rfl⟩
  have Hn : Hid (n = ms.length) := hn
  rw [← hn] at hlen HF ⊢
  have HKL : Hid ((cKey key).length ≤ maxLen) := by show _ ≤ _; unfold cKey maxLen; simp; omega
  have HAP : Hid (∀ i, (hi : i < ms.length) → ∃ a ao c, mo = some a ∧ a.block < w.heap.size ∧ (∀ Y, Kept Nil w Y → Y.cell? (a.add i) = some (.slice ao (ms[i]).length c)) ∧ ∀ Y, Kept Nil w Y → Calls Tryz.prog 100 #[.slice ao (ms[i]).length c, .agg #[.int .i64 2, .string (bs (cKey key)), .string (bs []), .int .i64 0]] Y (fun e w' => ∃ ao' c' ko kc, e = .returned (.tuple #[.slice ao' (apP 2 (cKey key) [] 0 ms[i]).length c', rrV (apR 2 (cKey key) [] 0 ms[i]) ko kc]) ∧ Kept Nil Y w')) := fun i hi => by
    obtain ⟨a, ao, c, e, hab, hcell, hrow, hnone, hpl⟩ := HM.out i hi
    refine ⟨a, ao, c, e, hab, fun Y kY => cell_kept kY (fun _ x => x) hcell, fun Y kY => ?_⟩
    refine (refApply_any w.heap.size c ao ms[i] (cKey key) [] 2 0 Y (hrow.nil kY) hpl HKL.out (by unfold maxLen; simp)).mono ?_
    rintro e w' ⟨ao', c', ko, kc, h1, _, _, h4⟩
    exact ⟨ao', c', ko, kc, h1, h4⟩
  have HSC : Hid (∀ (g : Nat) (r : Rr) (ko : Option Addr) (kc : Nat), r.v.length ≤ 64 → ∀ Y, Calls Tryz.prog 95 #[.int .i64 g, rrV r ko kc] Y (SePost Y (sawC g r) (versR r))) := fun g r ko kc hr Y => refSeenCell_any g r ko kc (by omega) Y
  have hcat : (⟨#[99]⟩ : ByteArray) ++ bs key = bs (cKey key) := bs_append [99] key
  have hkz : (bs key).size = key.length := bs_size key
  clear h hn
  go_enter Tryz.func36, Tryz.ntmps36
  go_upto_region 1 with fail
  rw [← hW, ← HRe.out]
  clear hW HRe
  go_wp2_with fail
  go_loopw [4, 6, 7, 8] (fun _ _ x i wr => ∃ k at' : Nat, k ≤ n ∧ 1 ≤ at' ∧ x = .int .i64 at' ∧ i = .int .i64 k ∧ Hid (F = findG (sayM key ms) n (n - k) at') ∧ Hid (Kept Nil w wr) ∧ Hid (PrAt wr R [] [] 0)) (fun _ _ _ i _ => n - (intOf i).toNat)
  case atStart => exact ⟨0, 1, Nat.zero_le _, Nat.le_refl _, rfl, rfl, HF.out, KW.out, HR.out⟩
  case round =>
    obtain ⟨k, at', hkn, ha1, rfl, rfl, HI, HK, HRr⟩ := hrel
    clear HF HR
    obtain ⟨wo, hwo⟩ : ∃ x : World, x = wr := ⟨_, rfl⟩
    rw [← hwo] at HK HRr ⊢
    clear hwo
    by_cases hcond : k < n ∧ at' ≤ n
    · obtain ⟨hlt, ca⟩ := hcond
      have hlti : (k : Int) < n := by omega
      have hltd : decide ((k : Int) < (n : Int)) = true := decide_eq_true hlti
      have cai : (at' : Int) ≤ n := by omega
      have cad : decide ((at' : Int) ≤ (n : Int)) = true := decide_eq_true cai
      obtain ⟨i, hi⟩ : ∃ i, at' = i + 1 := ⟨at' - 1, by omega⟩
      have hil : i < ms.length := by have := Hn.out; omega
      obtain ⟨a, ao, c, ea, hab, hcell, hap⟩ := HAP.out i hil
      subst ea
      have HAB : Hid (a.block < w.heap.size) := hab
      obtain ⟨pl, Hpl⟩ : ∃ m, Hid (m = (ms[i]).length) := ⟨(ms[i]).length, (rfl : (ms[i]).length = (ms[i]).length)⟩
      obtain ⟨r, Hr⟩ : ∃ r, Hid (r = apR 2 (cKey key) [] 0 ms[i]) := ⟨apR 2 (cKey key) [] 0 ms[i], (rfl : apR 2 (cKey key) [] 0 ms[i] = apR 2 (cKey key) [] 0 ms[i])⟩
      obtain ⟨cc, Hc⟩ : ∃ c, Hid (c = sayM key ms at') := ⟨_, rfl⟩
      have HCS : Hid (cc = sawC at' r) := by show _ = _; rw [Hc.out, Hr.out]; exact say_is key ms hi hil
      have HOK : Hid cc.Ok := by rw [Hc.out]; exact sayM_ok _ _ _
      have c1 := hcell wo HK.out
      have AP := hap wo HK.out
      rw [← Hpl.out] at c1 AP
      rw [← Hr.out] at AP
      have hrv : r.v.length ≤ 64 := by rw [Hr.out]; exact apR_v _ _ _ _ _
      have hsub2 : (at' : Int) - 1 = (i : Int) := by omega
      have hi0 : (0 : Int) ≤ (i : Int) := by omega
      have hii : (i : Int) < n := by omega
      have HIN : Hid (F = if handed (sayM key ms) n cc = true then findG (sayM key ms) n (n - (k + 1)) cc.g else (at', cc.v, cc.n)) := by
        show _ = _
        rw [HI.out, show n - k = (n - (k + 1)) + 1 by omega, Hc.out]
        conv => lhs; unfold findG
        rw [if_neg (by omega)]
      clear hab hcell hap hi HI
      go_wp2_with fail
      go_fit AP
      rintro _ w1 ⟨ao1, c1', ko, kc, rfl, k1⟩
      unfold rrV
      obtain ⟨W1, hW1⟩ : ∃ Y, Y = w1.alloc (.cells #[.int .i64 r.kd, .string (bs r.v), .int .i64 r.n, .slice ko r.ks.length kc] 50) := ⟨_, rfl⟩
      obtain ⟨G, HGe⟩ : ∃ A, Hid (A = w1.heap.size) := ⟨_, rfl⟩
      have HGB : Hid (W1.heap[G]? = some (.cells #[.int .i64 r.kd, .string (bs r.v), .int .i64 r.n, .slice ko r.ks.length kc] 50 (0, 0))) := by rw [hW1, HGe.out]; exact blk_new _ _
      have K1 : Hid (Kept Nil wo W1) := by rw [hW1]; exact Kept.alloc k1 _
      go_upto_region 6 with fail
      rw [← hW1, ← HGe.out]
      clear hW1 HGe k1 AP c1 hsub2
      have g0 : W1.cell? ⟨G, 0, none⟩ = some (.int .i64 r.kd) := blk_at HGB.out 0 rfl
      have g1 : W1.cell? ⟨G, 1, none⟩ = some (.string (bs r.v)) := blk_at HGB.out 1 rfl
      have g2 : W1.cell? ⟨G, 2, none⟩ = some (.int .i64 r.n) := blk_at HGB.out 2 rfl
      have g3 : W1.cell? ⟨G, 3, none⟩ = some (.slice ko r.ks.length kc) := blk_at HGB.out 3 rfl
      have SC := HSC.out at' r ko kc hrv W1
      rw [← HCS.out] at SC
      unfold rrV SePost ccV at SC
      go_wp2_with fail
      go_fit SC
      rintro _ w2 ⟨rfl, k2⟩
      obtain ⟨W2, hW2⟩ : ∃ Y, Y = w2.alloc (.cells #[.int .i64 cc.s, .int .i64 cc.h, .int .i64 cc.g, .int .i64 cc.n, .string (bs cc.v)] 140) := ⟨_, rfl⟩
      obtain ⟨D, HDe⟩ : ∃ A, Hid (A = w2.heap.size) := ⟨_, rfl⟩
      have HDB : Hid (CcAt W2 D cc.s cc.h cc.g cc.n cc.v) := by rw [hW2, HDe.out]; exact blk_new _ _
      have K2 : Hid (Kept Nil wo W2) := by rw [hW2]; exact K1.out.trans (Kept.alloc k2 _)
      go_upto_region 8 with fail
      rw [← hW2, ← HDe.out]
      clear hW2 HDe k2 SC g0 g1 g2 g3
      have d0 : W2.cell? ⟨D, 0, none⟩ = some (.int .i64 cc.s) := blk_at HDB.out 0 rfl
      have d1 : W2.cell? ⟨D, 1, none⟩ = some (.int .i64 cc.h) := blk_at HDB.out 1 rfl
      have d2 : W2.cell? ⟨D, 2, none⟩ = some (.int .i64 cc.g) := blk_at HDB.out 2 rfl
      have HTH : Hid (handed (sayM key ms) n cc = (decide (cc.s = 2) || (decide (cc.s = 1) && (decide (cc.g ≤ n) && decide (cc.h ≤ (sayM key ms cc.g).h))))) := rfl
      obtain ⟨th, Hth⟩ : ∃ b, Hid (b = (decide (cc.s = 1) && (decide (cc.g ≤ n) && decide (cc.h ≤ (sayM key ms cc.g).h)))) := ⟨_, rfl⟩
      rw [← Hth.out] at HTH
      have hs1 : decide ((cc.s : Int) = 1) = decide (cc.s = 1) := by simp; omega
      by_cases c1 : cc.s = 1
      · have e1 : ((cc.s : Int) == 1) = true := by rw [c1]; rfl
        by_cases cg : cc.g ≤ n
        · have cgi : (cc.g : Int) ≤ n := by omega
          have cgd : decide ((cc.g : Int) ≤ (n : Int)) = true := decide_eq_true cgi
          have hg1 := (HOK.out.g1 (by omega)).1
          have HG1 : Hid (1 ≤ cc.g) := hg1
          obtain ⟨i2, hi2⟩ : ∃ i, cc.g = i + 1 := ⟨cc.g - 1, by omega⟩
          have hil2 : i2 < ms.length := by have := Hn.out; omega
          obtain ⟨a', ao2, c2, ea2, _, hcell2, hap2⟩ := HAP.out i2 hil2
          obtain rfl : a' = a := (Option.some.inj ea2).symm
          obtain ⟨pl2, Hpl2⟩ : ∃ m, Hid (m = (ms[i2]).length) := ⟨(ms[i2]).length, (rfl : (ms[i2]).length = (ms[i2]).length)⟩
          obtain ⟨r2, Hr2⟩ : ∃ r, Hid (r = apR 2 (cKey key) [] 0 ms[i2]) := ⟨apR 2 (cKey key) [] 0 ms[i2], (rfl : apR 2 (cKey key) [] 0 ms[i2] = apR 2 (cKey key) [] 0 ms[i2])⟩
          obtain ⟨oc, Hoc⟩ : ∃ c, Hid (c = sayM key ms cc.g) := ⟨_, rfl⟩
          have HOS : Hid (oc = sawC cc.g r2) := by show _ = _; rw [Hoc.out, Hr2.out]; exact say_is key ms hi2 hil2
          have q1 := hcell2 W2 (HK.out.trans K2.out)
          have AP2 := hap2 W2 (HK.out.trans K2.out)
          rw [← Hpl2.out] at q1 AP2
          rw [← Hr2.out] at AP2
          have hrv2 : r2.v.length ≤ 64 := by rw [Hr2.out]; exact apR_v _ _ _ _ _
          have hsub3 : (cc.g : Int) - 1 = (i2 : Int) := by omega
          have hsub4 : IntKind.i64.wrap ((cc.g : Int) - 1) = (i2 : Int) := by rw [hsub3, IntKind.wrap_i64]; omega
          have hi20 : (0 : Int) ≤ (i2 : Int) := by omega
          have hii2 : (i2 : Int) < n := by omega
          have HT2 : Hid (th = decide (cc.h ≤ oc.h)) := by rw [Hth.out, Hoc.out, decide_eq_true c1, decide_eq_true cg]; rfl
          clear hcell2 hap2 ea2 hi2 c1 cg hg1 hs1
          go_wp2_with fail
          go_fit AP2
          rintro _ w3 ⟨ao3, c3', ko3, kc3, rfl, k3⟩
          unfold rrV
          obtain ⟨W3, hW3⟩ : ∃ Y, Y = w3.alloc (.cells #[.int .i64 r2.kd, .string (bs r2.v), .int .i64 r2.n, .slice ko3 r2.ks.length kc3] 50) := ⟨_, rfl⟩
          obtain ⟨G3, HG3⟩ : ∃ A, Hid (A = w3.heap.size) := ⟨_, rfl⟩
          have HGB3 : Hid (W3.heap[G3]? = some (.cells #[.int .i64 r2.kd, .string (bs r2.v), .int .i64 r2.n, .slice ko3 r2.ks.length kc3] 50 (0, 0))) := by rw [hW3, HG3.out]; exact blk_new _ _
          have K3 : Hid (Kept Nil W2 W3) := by rw [hW3]; exact Kept.alloc k3 _
          go_upto_region 10 with fail
          rw [← hW3, ← HG3.out]
          clear hW3 HG3 k3 AP2 q1 hsub3 hsub4
          have g0 : W3.cell? ⟨G3, 0, none⟩ = some (.int .i64 r2.kd) := blk_at HGB3.out 0 rfl
          have g1 : W3.cell? ⟨G3, 1, none⟩ = some (.string (bs r2.v)) := blk_at HGB3.out 1 rfl
          have g2 : W3.cell? ⟨G3, 2, none⟩ = some (.int .i64 r2.n) := blk_at HGB3.out 2 rfl
          have g3 : W3.cell? ⟨G3, 3, none⟩ = some (.slice ko3 r2.ks.length kc3) := blk_at HGB3.out 3 rfl
          have HDB3 : Hid (CcAt W3 D cc.s cc.h cc.g cc.n cc.v) := K3.out.block _ _ HDB.out (fun x => x)
          have d23 : W3.cell? ⟨D, 2, none⟩ = some (.int .i64 cc.g) := blk_at HDB3.out 2 rfl
          have SC3 := HSC.out cc.g r2 ko3 kc3 hrv2 W3
          rw [← HOS.out] at SC3
          unfold rrV SePost ccV at SC3
          go_wp2_with fail
          go_fit SC3
          rintro _ w4 ⟨rfl, k4⟩
          obtain ⟨W4, hW4⟩ : ∃ Y, Y = w4.alloc (.cells #[.int .i64 oc.s, .int .i64 oc.h, .int .i64 oc.g, .int .i64 oc.n, .string (bs oc.v)] 140) := ⟨_, rfl⟩
          obtain ⟨E, HEe⟩ : ∃ A, Hid (A = w4.heap.size) := ⟨_, rfl⟩
          have HEB : Hid (CcAt W4 E oc.s oc.h oc.g oc.n oc.v) := by rw [hW4, HEe.out]; exact blk_new _ _
          have K4 : Hid (Kept Nil W2 W4) := by rw [hW4]; exact K3.out.trans (Kept.alloc k4 _)
          go_upto_region 11 with fail
          rw [← hW4, ← HEe.out]
          clear hW4 HEe k4 SC3 g0 g1 g2 g3 d23
          have HDB4 : Hid (CcAt W4 D cc.s cc.h cc.g cc.n cc.v) := K4.out.block _ _ HDB.out (fun x => x)
          have x1 : W4.cell? ⟨E, 1, none⟩ = some (.int .i64 oc.h) := blk_at HEB.out 1 rfl
          have y1 : W4.cell? ⟨D, 1, none⟩ = some (.int .i64 cc.h) := blk_at HDB4.out 1 rfl
          by_cases ch : cc.h ≤ oc.h
          · have chd : decide ((cc.h : Int) ≤ (oc.h : Int)) = true := decide_eq_true (by omega)
            have HTV : Hid (th = true) := by rw [HT2.out]; exact decide_eq_true ch
            have chi : (cc.h : Int) ≤ oc.h := by omega
            clear ch
            go_upto_region 12 with fail
            have K9 : Hid (Kept Nil wo W4) := K2.out.trans K4.out
            have HDB9 : Hid (CcAt W4 D cc.s cc.h cc.g cc.n cc.v) := by first | exact HDB.out | exact HDB4.out
            have HR9 : Hid (PrAt W4 R [] [] 0) := K9.out.block _ _ HRr.out (fun x => x)
            have d0 : W4.cell? ⟨D, 0, none⟩ = some (.int .i64 cc.s) := blk_at HDB9.out 0 rfl
            have d2 : W4.cell? ⟨D, 2, none⟩ = some (.int .i64 cc.g) := blk_at HDB9.out 2 rfl
            have d3 : W4.cell? ⟨D, 3, none⟩ = some (.int .i64 cc.n) := blk_at HDB9.out 3 rfl
            have d4 : W4.cell? ⟨D, 4, none⟩ = some (.string (bs cc.v)) := blk_at HDB9.out 4 rfl
            have m0 : W4.cell? ⟨R, 0, none⟩ = some (.string (bs [])) := blk_at HR9.out 0 rfl
            have m1 : W4.cell? ⟨R, 1, none⟩ = some (.string (bs [])) := blk_at HR9.out 1 rfl
            have m2 : W4.cell? ⟨R, 2, none⟩ = some (.int .i64 0) := blk_at HR9.out 2 rfl
            have o0 := blk_free HR9.out 0
            have o1 := blk_free HR9.out 1
            have o2 := blk_free HR9.out 2
            by_cases c2 : cc.s = 2
            · have hh : handed (sayM key ms) n cc = true := by rw [HTH.out, decide_eq_true c2]; rfl
              have HIF : Hid (F = findG (sayM key ms) n (n - (k + 1)) cc.g) := HIN.out.trans (if_pos hh)
              have hg1 := (HOK.out.g1 (by omega)).1
              have e2 : ((cc.s : Int) == 2) = true := by rw [c2]; rfl
              clear hh c2
              go_wp2
              go_roundw
              case rel =>
                first
                  | exact ⟨k + 1, cc.g, by omega, hg1, rfl, by go_num, HIF.out, HK.out.trans K9.out, HR9.out⟩
                  | ((repeat (apply Exists.intro)); refine ⟨?rr, rfl⟩; exact ⟨k + 1, cc.g, by omega, hg1, rfl, by go_num, HIF.out, HK.out.trans K9.out, HR9.out⟩)
              case measure => simp [intOf]; omega
            · have e2 : ((cc.s : Int) == 2) = false := by simp; omega
              have hh : handed (sayM key ms) n cc = true := by rw [HTH.out, HTV.out, decide_eq_false c2]; rfl
              have hg1 := HG1.out
              have HIF : Hid (F = findG (sayM key ms) n (n - (k + 1)) cc.g) := HIN.out.trans (if_pos hh)
              clear hh c2
              go_wp2
              go_roundw
              case rel =>
                first
                  | exact ⟨k + 1, cc.g, by omega, hg1, rfl, by go_num, HIF.out, HK.out.trans K9.out, HR9.out⟩
                  | ((repeat (apply Exists.intro)); refine ⟨?rr, rfl⟩; exact ⟨k + 1, cc.g, by omega, hg1, rfl, by go_num, HIF.out, HK.out.trans K9.out, HR9.out⟩)
              case measure => simp [intOf]; omega
          · have chd : decide ((cc.h : Int) ≤ (oc.h : Int)) = false := decide_eq_false (by omega)
            have HTV : Hid (th = false) := by rw [HT2.out]; exact decide_eq_false ch
            have chi : ¬ (cc.h : Int) ≤ oc.h := by omega
            clear ch
            go_upto_region 12 with fail
            have K9 : Hid (Kept Nil wo W4) := K2.out.trans K4.out
            have HDB9 : Hid (CcAt W4 D cc.s cc.h cc.g cc.n cc.v) := by first | exact HDB.out | exact HDB4.out
            have HR9 : Hid (PrAt W4 R [] [] 0) := K9.out.block _ _ HRr.out (fun x => x)
            have d0 : W4.cell? ⟨D, 0, none⟩ = some (.int .i64 cc.s) := blk_at HDB9.out 0 rfl
            have d2 : W4.cell? ⟨D, 2, none⟩ = some (.int .i64 cc.g) := blk_at HDB9.out 2 rfl
            have d3 : W4.cell? ⟨D, 3, none⟩ = some (.int .i64 cc.n) := blk_at HDB9.out 3 rfl
            have d4 : W4.cell? ⟨D, 4, none⟩ = some (.string (bs cc.v)) := blk_at HDB9.out 4 rfl
            have m0 : W4.cell? ⟨R, 0, none⟩ = some (.string (bs [])) := blk_at HR9.out 0 rfl
            have m1 : W4.cell? ⟨R, 1, none⟩ = some (.string (bs [])) := blk_at HR9.out 1 rfl
            have m2 : W4.cell? ⟨R, 2, none⟩ = some (.int .i64 0) := blk_at HR9.out 2 rfl
            have o0 := blk_free HR9.out 0
            have o1 := blk_free HR9.out 1
            have o2 := blk_free HR9.out 2
            by_cases c2 : cc.s = 2
            · have hh : handed (sayM key ms) n cc = true := by rw [HTH.out, decide_eq_true c2]; rfl
              have HIF : Hid (F = findG (sayM key ms) n (n - (k + 1)) cc.g) := HIN.out.trans (if_pos hh)
              have hg1 := (HOK.out.g1 (by omega)).1
              have e2 : ((cc.s : Int) == 2) = true := by rw [c2]; rfl
              clear hh c2
              go_wp2
              go_roundw
              case rel =>
                first
                  | exact ⟨k + 1, cc.g, by omega, hg1, rfl, by go_num, HIF.out, HK.out.trans K9.out, HR9.out⟩
                  | ((repeat (apply Exists.intro)); refine ⟨?rr, rfl⟩; exact ⟨k + 1, cc.g, by omega, hg1, rfl, by go_num, HIF.out, HK.out.trans K9.out, HR9.out⟩)
              case measure => simp [intOf]; omega
            · have e2 : ((cc.s : Int) == 2) = false := by simp; omega
              have hh : ¬ handed (sayM key ms) n cc = true := by rw [HTH.out, HTV.out, decide_eq_false c2]; decide
              have HIF : Hid (F = (at', cc.v, cc.n)) := HIN.out.trans (if_neg hh)
              clear hh c2
              by_cases cn : cc.n = 0
              · have hv := HOK.out.vn cn
                have HN : Hid (F = (at', [], 0)) := by show _ = _; rw [HIF.out, hv, cn]
                have en : ((cc.n : Int) == 0) = true := by rw [cn]; rfl
                obtain ⟨Y, hY⟩ : ∃ Y, Y = (((W4.setCell ⟨R, 0, none⟩ (.string ⟨#[]⟩)).setCell ⟨R, 1, none⟩ (.string ⟨#[]⟩)).setCell ⟨R, 2, none⟩ (.int .i64 0)) := ⟨_, rfl⟩
                have HY : Hid (PrAt Y R [] [] 0 ∧ Kept Nil w Y) := by rw [hY]; exact ⟨HR9.out.all [] [] 0, (((HK.out.trans K9.out).setNew (p := ⟨R, 0, none⟩) HRw.out _).setNew (p := ⟨R, 1, none⟩) HRw.out _).setNew (p := ⟨R, 2, none⟩) HRw.out _⟩
                clear hv cn
                go_wp2
                rw [← hY]
                have j0 := blk_at HY.out.1 0 rfl
                have j1 := blk_at HY.out.1 1 rfl
                have j2 := blk_at HY.out.1 2 rfl
                have HP : Hid (FindPost w key F (.returned (.tuple #[.int .i64 at', .agg #[.string (bs []), .string (bs []), .int .i64 0], .bool false])) Y) := by rw [HN.out]; exact ⟨rfl, HY.out.2⟩
                exact bodyPost_ret (v := .tuple #[.int .i64 at', .agg #[.string (bs []), .string (bs []), .int .i64 0], .bool false]) (by simp [results, Tryz.results36, go_sem, j0, j1, j2]) rfl HP.out
              · have en : ((cc.n : Int) == 0) = false := by simp; omega
                have eni : ¬ (cc.n : Int) = 0 := by omega
                have hpv : prV key cc.v cc.n = .agg #[.string (bs key), .string (bs cc.v), .int .i64 cc.n] := if_neg (fun e => cn e.2)
                have hpb : (!decide (cc.v = [] ∧ cc.n = 0)) = true := by rw [decide_eq_false (fun e => cn e.2)]; rfl
                have HP : Hid (∀ Y, Kept Nil w Y → FindPost w key F (.returned (.tuple #[.int .i64 at', .agg #[.string (bs key), .string (bs cc.v), .int .i64 cc.n], .bool true])) Y) := fun Y kY => by
                  rw [HIF.out]
                  refine ⟨?_, kY⟩
                  rw [hpv, hpb]
                clear hpv hpb cn
                go_upto_region 16 with fail
                go_region
                all_goals
                  obtain ⟨Y, hY⟩ : ∃ Y, Y = (((W4.setCell ⟨R, 0, none⟩ (.string (bs key))).setCell ⟨R, 1, none⟩ (.string (bs cc.v))).setCell ⟨R, 2, none⟩ (.int .i64 cc.n)).drew := ⟨_, rfl⟩
                  have HY : Hid (PrAt Y R key cc.v cc.n ∧ Kept Nil w Y) := by rw [hY]; exact ⟨HR9.out.all key cc.v cc.n, ((((HK.out.trans K9.out).setNew (p := ⟨R, 0, none⟩) HRw.out _).setNew (p := ⟨R, 1, none⟩) HRw.out _).setNew (p := ⟨R, 2, none⟩) HRw.out _).drew⟩
                  (try go_wp2)
                  rw [← hY]
                  have j0 := blk_at HY.out.1 0 rfl
                  have j1 := blk_at HY.out.1 1 rfl
                  have j2 := blk_at HY.out.1 2 rfl
                  exact bodyPost_ret (v := .tuple #[.int .i64 at', .agg #[.string (bs key), .string (bs cc.v), .int .i64 cc.n], .bool true]) (by simp [results, Tryz.results36, go_sem, j0, j1, j2]) rfl (HP.out Y HY.out.2)
        · have cgd : decide ((cc.g : Int) ≤ (n : Int)) = false := decide_eq_false (by omega)
          have cgi : ¬ (cc.g : Int) ≤ n := by omega
          have HTV : Hid (th = false) := by show th = false; rw [Hth.out, decide_eq_false cg]; simp
          clear c1 cg hs1
          go_upto_region 12 with fail
          have K9 : Hid (Kept Nil wo W2) := K2.out
          have HDB9 : Hid (CcAt W2 D cc.s cc.h cc.g cc.n cc.v) := by first | exact HDB.out | exact HDB4.out
          have HR9 : Hid (PrAt W2 R [] [] 0) := K9.out.block _ _ HRr.out (fun x => x)
          have d0 : W2.cell? ⟨D, 0, none⟩ = some (.int .i64 cc.s) := blk_at HDB9.out 0 rfl
          have d2 : W2.cell? ⟨D, 2, none⟩ = some (.int .i64 cc.g) := blk_at HDB9.out 2 rfl
          have d3 : W2.cell? ⟨D, 3, none⟩ = some (.int .i64 cc.n) := blk_at HDB9.out 3 rfl
          have d4 : W2.cell? ⟨D, 4, none⟩ = some (.string (bs cc.v)) := blk_at HDB9.out 4 rfl
          have m0 : W2.cell? ⟨R, 0, none⟩ = some (.string (bs [])) := blk_at HR9.out 0 rfl
          have m1 : W2.cell? ⟨R, 1, none⟩ = some (.string (bs [])) := blk_at HR9.out 1 rfl
          have m2 : W2.cell? ⟨R, 2, none⟩ = some (.int .i64 0) := blk_at HR9.out 2 rfl
          have o0 := blk_free HR9.out 0
          have o1 := blk_free HR9.out 1
          have o2 := blk_free HR9.out 2
          by_cases c2 : cc.s = 2
          · have hh : handed (sayM key ms) n cc = true := by rw [HTH.out, decide_eq_true c2]; rfl
            have HIF : Hid (F = findG (sayM key ms) n (n - (k + 1)) cc.g) := HIN.out.trans (if_pos hh)
            have hg1 := (HOK.out.g1 (by omega)).1
            have e2 : ((cc.s : Int) == 2) = true := by rw [c2]; rfl
            clear hh c2
            go_wp2
            go_roundw
            case rel =>
              first
                | exact ⟨k + 1, cc.g, by omega, hg1, rfl, by go_num, HIF.out, HK.out.trans K9.out, HR9.out⟩
                | ((repeat (apply Exists.intro)); refine ⟨?rr, rfl⟩; exact ⟨k + 1, cc.g, by omega, hg1, rfl, by go_num, HIF.out, HK.out.trans K9.out, HR9.out⟩)
            case measure => simp [intOf]; omega
          · have e2 : ((cc.s : Int) == 2) = false := by simp; omega
            have hh : ¬ handed (sayM key ms) n cc = true := by rw [HTH.out, HTV.out, decide_eq_false c2]; decide
            have HIF : Hid (F = (at', cc.v, cc.n)) := HIN.out.trans (if_neg hh)
            clear hh c2
            by_cases cn : cc.n = 0
            · have hv := HOK.out.vn cn
              have HN : Hid (F = (at', [], 0)) := by show _ = _; rw [HIF.out, hv, cn]
              have en : ((cc.n : Int) == 0) = true := by rw [cn]; rfl
              obtain ⟨Y, hY⟩ : ∃ Y, Y = (((W2.setCell ⟨R, 0, none⟩ (.string ⟨#[]⟩)).setCell ⟨R, 1, none⟩ (.string ⟨#[]⟩)).setCell ⟨R, 2, none⟩ (.int .i64 0)) := ⟨_, rfl⟩
              have HY : Hid (PrAt Y R [] [] 0 ∧ Kept Nil w Y) := by rw [hY]; exact ⟨HR9.out.all [] [] 0, (((HK.out.trans K9.out).setNew (p := ⟨R, 0, none⟩) HRw.out _).setNew (p := ⟨R, 1, none⟩) HRw.out _).setNew (p := ⟨R, 2, none⟩) HRw.out _⟩
              clear hv cn
              go_wp2
              rw [← hY]
              have j0 := blk_at HY.out.1 0 rfl
              have j1 := blk_at HY.out.1 1 rfl
              have j2 := blk_at HY.out.1 2 rfl
              have HP : Hid (FindPost w key F (.returned (.tuple #[.int .i64 at', .agg #[.string (bs []), .string (bs []), .int .i64 0], .bool false])) Y) := by rw [HN.out]; exact ⟨rfl, HY.out.2⟩
              exact bodyPost_ret (v := .tuple #[.int .i64 at', .agg #[.string (bs []), .string (bs []), .int .i64 0], .bool false]) (by simp [results, Tryz.results36, go_sem, j0, j1, j2]) rfl HP.out
            · have en : ((cc.n : Int) == 0) = false := by simp; omega
              have eni : ¬ (cc.n : Int) = 0 := by omega
              have hpv : prV key cc.v cc.n = .agg #[.string (bs key), .string (bs cc.v), .int .i64 cc.n] := if_neg (fun e => cn e.2)
              have hpb : (!decide (cc.v = [] ∧ cc.n = 0)) = true := by rw [decide_eq_false (fun e => cn e.2)]; rfl
              have HP : Hid (∀ Y, Kept Nil w Y → FindPost w key F (.returned (.tuple #[.int .i64 at', .agg #[.string (bs key), .string (bs cc.v), .int .i64 cc.n], .bool true])) Y) := fun Y kY => by
                rw [HIF.out]
                refine ⟨?_, kY⟩
                rw [hpv, hpb]
              clear hpv hpb cn
              go_upto_region 16 with fail
              go_region
              all_goals
                obtain ⟨Y, hY⟩ : ∃ Y, Y = (((W2.setCell ⟨R, 0, none⟩ (.string (bs key))).setCell ⟨R, 1, none⟩ (.string (bs cc.v))).setCell ⟨R, 2, none⟩ (.int .i64 cc.n)).drew := ⟨_, rfl⟩
                have HY : Hid (PrAt Y R key cc.v cc.n ∧ Kept Nil w Y) := by rw [hY]; exact ⟨HR9.out.all key cc.v cc.n, ((((HK.out.trans K9.out).setNew (p := ⟨R, 0, none⟩) HRw.out _).setNew (p := ⟨R, 1, none⟩) HRw.out _).setNew (p := ⟨R, 2, none⟩) HRw.out _).drew⟩
                (try go_wp2)
                rw [← hY]
                have j0 := blk_at HY.out.1 0 rfl
                have j1 := blk_at HY.out.1 1 rfl
                have j2 := blk_at HY.out.1 2 rfl
                exact bodyPost_ret (v := .tuple #[.int .i64 at', .agg #[.string (bs key), .string (bs cc.v), .int .i64 cc.n], .bool true]) (by simp [results, Tryz.results36, go_sem, j0, j1, j2]) rfl (HP.out Y HY.out.2)
      · have e1 : ((cc.s : Int) == 1) = false := by simp; omega
        have HTV : Hid (th = false) := by show th = false; rw [Hth.out, decide_eq_false c1]; rfl
        clear c1 hs1
        go_upto_region 12 with fail
        have K9 : Hid (Kept Nil wo W2) := K2.out
        have HDB9 : Hid (CcAt W2 D cc.s cc.h cc.g cc.n cc.v) := by first | exact HDB.out | exact HDB4.out
        have HR9 : Hid (PrAt W2 R [] [] 0) := K9.out.block _ _ HRr.out (fun x => x)
        have d0 : W2.cell? ⟨D, 0, none⟩ = some (.int .i64 cc.s) := blk_at HDB9.out 0 rfl
        have d2 : W2.cell? ⟨D, 2, none⟩ = some (.int .i64 cc.g) := blk_at HDB9.out 2 rfl
        have d3 : W2.cell? ⟨D, 3, none⟩ = some (.int .i64 cc.n) := blk_at HDB9.out 3 rfl
        have d4 : W2.cell? ⟨D, 4, none⟩ = some (.string (bs cc.v)) := blk_at HDB9.out 4 rfl
        have m0 : W2.cell? ⟨R, 0, none⟩ = some (.string (bs [])) := blk_at HR9.out 0 rfl
        have m1 : W2.cell? ⟨R, 1, none⟩ = some (.string (bs [])) := blk_at HR9.out 1 rfl
        have m2 : W2.cell? ⟨R, 2, none⟩ = some (.int .i64 0) := blk_at HR9.out 2 rfl
        have o0 := blk_free HR9.out 0
        have o1 := blk_free HR9.out 1
        have o2 := blk_free HR9.out 2
        by_cases c2 : cc.s = 2
        · have hh : handed (sayM key ms) n cc = true := by rw [HTH.out, decide_eq_true c2]; rfl
          have HIF : Hid (F = findG (sayM key ms) n (n - (k + 1)) cc.g) := HIN.out.trans (if_pos hh)
          have hg1 := (HOK.out.g1 (by omega)).1
          have e2 : ((cc.s : Int) == 2) = true := by rw [c2]; rfl
          clear hh c2
          go_wp2
          go_roundw
          case rel =>
            first
              | exact ⟨k + 1, cc.g, by omega, hg1, rfl, by go_num, HIF.out, HK.out.trans K9.out, HR9.out⟩
              | ((repeat (apply Exists.intro)); refine ⟨?rr, rfl⟩; exact ⟨k + 1, cc.g, by omega, hg1, rfl, by go_num, HIF.out, HK.out.trans K9.out, HR9.out⟩)
          case measure => simp [intOf]; omega
        · have e2 : ((cc.s : Int) == 2) = false := by simp; omega
          have hh : ¬ handed (sayM key ms) n cc = true := by rw [HTH.out, HTV.out, decide_eq_false c2]; decide
          have HIF : Hid (F = (at', cc.v, cc.n)) := HIN.out.trans (if_neg hh)
          clear hh c2
          by_cases cn : cc.n = 0
          · have hv := HOK.out.vn cn
            have HN : Hid (F = (at', [], 0)) := by show _ = _; rw [HIF.out, hv, cn]
            have en : ((cc.n : Int) == 0) = true := by rw [cn]; rfl
            obtain ⟨Y, hY⟩ : ∃ Y, Y = (((W2.setCell ⟨R, 0, none⟩ (.string ⟨#[]⟩)).setCell ⟨R, 1, none⟩ (.string ⟨#[]⟩)).setCell ⟨R, 2, none⟩ (.int .i64 0)) := ⟨_, rfl⟩
            have HY : Hid (PrAt Y R [] [] 0 ∧ Kept Nil w Y) := by rw [hY]; exact ⟨HR9.out.all [] [] 0, (((HK.out.trans K9.out).setNew (p := ⟨R, 0, none⟩) HRw.out _).setNew (p := ⟨R, 1, none⟩) HRw.out _).setNew (p := ⟨R, 2, none⟩) HRw.out _⟩
            clear hv cn
            go_wp2
            rw [← hY]
            have j0 := blk_at HY.out.1 0 rfl
            have j1 := blk_at HY.out.1 1 rfl
            have j2 := blk_at HY.out.1 2 rfl
            have HP : Hid (FindPost w key F (.returned (.tuple #[.int .i64 at', .agg #[.string (bs []), .string (bs []), .int .i64 0], .bool false])) Y) := by rw [HN.out]; exact ⟨rfl, HY.out.2⟩
            exact bodyPost_ret (v := .tuple #[.int .i64 at', .agg #[.string (bs []), .string (bs []), .int .i64 0], .bool false]) (by simp [results, Tryz.results36, go_sem, j0, j1, j2]) rfl HP.out
          · have en : ((cc.n : Int) == 0) = false := by simp; omega
            have eni : ¬ (cc.n : Int) = 0 := by omega
            have hpv : prV key cc.v cc.n = .agg #[.string (bs key), .string (bs cc.v), .int .i64 cc.n] := if_neg (fun e => cn e.2)
            have hpb : (!decide (cc.v = [] ∧ cc.n = 0)) = true := by rw [decide_eq_false (fun e => cn e.2)]; rfl
            have HP : Hid (∀ Y, Kept Nil w Y → FindPost w key F (.returned (.tuple #[.int .i64 at', .agg #[.string (bs key), .string (bs cc.v), .int .i64 cc.n], .bool true])) Y) := fun Y kY => by
              rw [HIF.out]
              refine ⟨?_, kY⟩
              rw [hpv, hpb]
            clear hpv hpb cn
            go_upto_region 16 with fail
            go_region
            all_goals
              obtain ⟨Y, hY⟩ : ∃ Y, Y = (((W2.setCell ⟨R, 0, none⟩ (.string (bs key))).setCell ⟨R, 1, none⟩ (.string (bs cc.v))).setCell ⟨R, 2, none⟩ (.int .i64 cc.n)).drew := ⟨_, rfl⟩
              have HY : Hid (PrAt Y R key cc.v cc.n ∧ Kept Nil w Y) := by rw [hY]; exact ⟨HR9.out.all key cc.v cc.n, ((((HK.out.trans K9.out).setNew (p := ⟨R, 0, none⟩) HRw.out _).setNew (p := ⟨R, 1, none⟩) HRw.out _).setNew (p := ⟨R, 2, none⟩) HRw.out _).drew⟩
              (try go_wp2)
              rw [← hY]
              have j0 := blk_at HY.out.1 0 rfl
              have j1 := blk_at HY.out.1 1 rfl
              have j2 := blk_at HY.out.1 2 rfl
              exact bodyPost_ret (v := .tuple #[.int .i64 at', .agg #[.string (bs key), .string (bs cc.v), .int .i64 cc.n], .bool true]) (by simp [results, Tryz.results36, go_sem, j0, j1, j2]) rfl (HP.out Y HY.out.2)
    · have HN : Hid (F = (0, [], 0)) := by
        show _ = _
        rw [HI.out]
        by_cases hlt : k < n
        · rw [show n - k = (n - (k + 1)) + 1 by omega]
          unfold findG
          rw [if_pos (by omega)]
        · rw [show n - k = 0 by omega]
          rfl
      have m0 : wo.cell? ⟨R, 0, none⟩ = some (.string (bs [])) := blk_at HRr.out 0 rfl
      have m1 : wo.cell? ⟨R, 1, none⟩ = some (.string (bs [])) := blk_at HRr.out 1 rfl
      have m2 : wo.cell? ⟨R, 2, none⟩ = some (.int .i64 0) := blk_at HRr.out 2 rfl
      have o0 := blk_free HRr.out 0
      have o1 := blk_free HRr.out 1
      have o2 := blk_free HRr.out 2
      obtain ⟨Y, hY⟩ : ∃ Y, Y = (((wo.setCell ⟨R, 0, none⟩ (.string ⟨#[]⟩)).setCell ⟨R, 1, none⟩ (.string ⟨#[]⟩)).setCell ⟨R, 2, none⟩ (.int .i64 0)) := ⟨_, rfl⟩
      have HY : Hid (PrAt Y R [] [] 0 ∧ Kept Nil w Y) := by rw [hY]; exact ⟨HRr.out.all [] [] 0, ((HK.out.setNew (p := ⟨R, 0, none⟩) HRw.out _).setNew (p := ⟨R, 1, none⟩) HRw.out _).setNew (p := ⟨R, 2, none⟩) HRw.out _⟩
      have HP : Hid (FindPost w key F (.returned (.tuple #[.int .i64 0, .agg #[.string (bs []), .string (bs []), .int .i64 0], .bool false])) Y) := by rw [HN.out]; exact ⟨rfl, HY.out.2⟩
      by_cases hlt : k < n
      · have hlti : (k : Int) < n := by omega
        have hltd : decide ((k : Int) < (n : Int)) = true := decide_eq_true hlti
        have cad : decide ((at' : Int) ≤ (n : Int)) = false := decide_eq_false (by omega)
        have cai : ¬ (at' : Int) ≤ n := by omega
        go_wp2
        rw [← hY]
        have j0 := blk_at HY.out.1 0 rfl
        have j1 := blk_at HY.out.1 1 rfl
        have j2 := blk_at HY.out.1 2 rfl
        exact bodyPost_ret (v := .tuple #[.int .i64 0, .agg #[.string (bs []), .string (bs []), .int .i64 0], .bool false]) (by simp [results, Tryz.results36, go_sem, j0, j1, j2]) rfl HP.out
      · have hltd : decide ((k : Int) < (n : Int)) = false := decide_eq_false (by omega)
        have hlti : ¬ (k : Int) < n := by omega
        go_wp2
        rw [← hY]
        have j0 := blk_at HY.out.1 0 rfl
        have j1 := blk_at HY.out.1 1 rfl
        have j2 := blk_at HY.out.1 2 rfl
        exact bodyPost_ret (v := .tuple #[.int .i64 0, .agg #[.string (bs []), .string (bs []), .int .i64 0], .bool false]) (by simp [results, Tryz.results36, go_sem, j0, j1, j2]) rfl HP.out
end Go.Proofs.YtflnjlbafchnaaaGreatDoor
