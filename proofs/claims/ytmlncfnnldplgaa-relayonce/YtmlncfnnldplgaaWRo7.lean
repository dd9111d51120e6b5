/-
  RelayOnce: the law's right.
-/
import Derived.Test.YtmlncfnnldplgaaWRo6
namespace Go.Proofs.Ytmlncfnnldplgaa
open Go.RowKit

set_option maxRecDepth 100000 in
set_option maxHeartbeats 4000000 in
theorem tright_any (n0 b : Nat) (T : Tk) (w : World) (h : TkAt n0 w b T) (I : TkI T) (hz : ∀ k, (T.sn k).length ≤ 1000000) :
    Calls Try.prog 19 #[.pointer (some ⟨b, 0, none⟩)] w fun e w' => e = .returned (.bool true) ∧ TkAt n0 w' b T ∧ Kept (Ge n0) w w' := by
  obtain ⟨M, hM⟩ := h
  have HM : Hid (TkM n0 w b T M) := hM
  have HI : Hid (TkI T) := I
  have HZ : Hid (∀ k, (T.sn k).length ≤ 1000000) := hz
  clear hM I hz
  go_enter Try.func19, Try.ntmps19
  go_wp2
  go_loopw [3] (fun u wr => ∃ k : Nat, k ≤ 16 ∧ u = .int .i64 k ∧ Hid (Kept Nil w wr)) (fun u _ => 16 - (intOf u).toNat)
  case atStart => exact ⟨0, by omega, rfl, Kept.refl _ _⟩
  case round =>
    obtain ⟨k, hk, rfl, HK⟩ := hrel
    by_cases hlt : k < 16
    · have hki : (k : Int) < 16 := by omega
      have HMr : Hid (TkM n0 wr b T M) := HM.out.kept HK.out
      obtain ⟨wo, hwo⟩ : ∃ x : World, x = wr := ⟨_, rfl⟩
      rw [← hwo] at HK HMr ⊢
      clear hwo
      obtain ⟨l1, l2, l3⟩ := HI.out.le k hlt
      obtain ⟨sn, Hsn⟩ : ∃ l, Hid (l = T.sn k) := ⟨_, rfl⟩
      obtain ⟨cm, Hcm⟩ : ∃ l, Hid (l = T.cm k) := ⟨_, rfl⟩
      obtain ⟨kn, Hkn⟩ : ∃ l, Hid (l = T.kn k) := ⟨_, rfl⟩
      obtain ⟨sa, Hsa⟩ : ∃ l, Hid (l = M.sa k) := ⟨_, rfl⟩
      obtain ⟨sc, Hsc⟩ : ∃ l, Hid (l = M.sc k) := ⟨_, rfl⟩
      obtain ⟨ca, Hca⟩ : ∃ l, Hid (l = M.ca k) := ⟨_, rfl⟩
      obtain ⟨cc, Hcc⟩ : ∃ l, Hid (l = M.cc k) := ⟨_, rfl⟩
      have HL3 : Hid (cm = sn.take cm.length) := by rw [Hcm.out, Hsn.out]; exact l3
      rw [← Hcm.out, ← Hkn.out] at l1
      rw [← Hcm.out, ← Hsn.out] at l2
      have hz := HZ.out k
      rw [← Hsn.out] at hz
      have RD : Hid (∀ X, Kept Nil wo X → X.cell? ⟨b, 2 + k, none⟩ = some (.slice sa sn.length sc) ∧ X.cell? ⟨b, 18 + k, none⟩ = some (.slice ca cm.length cc) ∧ X.cell? ⟨b, 34 + k, none⟩ = some (.int .i64 kn) ∧ OwnTd n0 X sa sc sn ∧ OwnTd n0 X ca cc cm) := fun X kX => by
        have hm := HMr.out.kept kX
        obtain ⟨-, -, r2, r3, r4, -, -⟩ := hm.reads
        rw [Hsn.out, Hcm.out, Hkn.out, Hsa.out, Hsc.out, Hca.out, Hcc.out]
        exact ⟨r2 k hlt, r3 k hlt, r4 k hlt, hm.sr k hlt, hm.cr k hlt⟩
      obtain ⟨c2, c18, c34, -, -⟩ := RD.out wo (Kept.refl _ _)
      have hd1 : decide ((sn.length : Int) < cm.length) = false := decide_eq_false (by omega)
      have hd2 : decide ((cm.length : Int) < kn) = false := decide_eq_false (by omega)
      clear l3
      go_upto_region 4 with fail
      go_cut [39] from 5 to 69 (fun x wc => x = .bool false ∧ Hid (Kept Nil wo wc))
      case first =>
        go_quiet (fail)
        go_wp2
        go_meet
        exact ⟨by first | rfl | (simp; exact ⟨l2, l1⟩), (Kept.refl _ _).drewN _⟩
      case rest =>
        obtain ⟨rfl, KC⟩ := hcut
        rename World => w3
        clear c2 c18 c34
        go_wp2_with fail
        go_loopw [4] (fun u wr => ∃ n : Nat, n ≤ cm.length ∧ u = .int .i64 n ∧ Hid (Kept Nil wo wr)) (fun u _ => cm.length - (intOf u).toNat)
        case atStart => exact ⟨0, Nat.zero_le _, rfl, KC.out⟩
        case round =>
          obtain ⟨n, hn, rfl, HKn⟩ := hrel
          obtain ⟨c2, c18, c34, o1, o2⟩ := RD.out wr HKn.out
          by_cases hnl : n < cm.length
          · have hni : (n : Int) < cm.length := by omega
            have hns : (n : Int) < sn.length := by omega
            have HE : Hid (cm[n] = sn[n]'(by omega)) := by
              show cm[n] = _
              have := HL3.out
              have h1 : cm[n]? = (sn.take cm.length)[n]? := congrArg (fun l => l[n]?) this
              rw [List.getElem?_take, if_pos hnl, List.getElem?_eq_getElem hnl, List.getElem?_eq_getElem (by omega)] at h1
              simpa using h1
            obtain ⟨g1, e1, -, d1⟩ := o1.cell (j := n) (by omega)
            obtain ⟨g2, e2, -, d2⟩ := o2.cell hnl
            rw [HE.out] at d2
            obtain ⟨y, HY⟩ : ∃ y, Hid (y = sn[n]'(by omega)) := ⟨sn[n]'(by omega), (rfl : sn[n]'(by omega) = sn[n]'(by omega))⟩
            rw [← HY.out] at d1 d2
            rw [e1] at c2
            rw [e2] at c18
            clear o1 o2 e1 e2
            go_upto_region 9 with fail
            go_quiet (fail)
            go_wp2
            go_roundw
            case rel => exact ⟨n + 1, by omega, by go_num, HKn.out.drewN _⟩
            case measure => simp [intOf]; omega
          · obtain rfl : n = cm.length := by omega
            have hirr : ¬ (cm.length : Int) < cm.length := by omega
            go_wp2
            go_roundw
            case rel => exact ⟨k + 1, by omega, by go_num, HK.out.trans HKn.out⟩
            case measure => simp [intOf]; omega
    · obtain rfl : k = 16 := by omega
      go_wp2
      go_ret
      exact ⟨rfl, ⟨M, HM.out.kept HK.out⟩, HK.out.mono (fun _ _ x => x.elim)⟩
end Go.Proofs.Ytmlncfnnldplgaa
