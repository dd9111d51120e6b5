/-
  TxnFree: the others are begun.
-/
import Derived.Test.YtgkacepcggjfkaaGreatDoorWTfH
namespace Go.Proofs.YtgkacepcggjfkaaGreatDoor
open Go.RowKit

set_option maxRecDepth 1000000 in
set_option maxHeartbeats 40000000 in
theorem txnFree_any (w : World) (ra ta ma : Option Addr) (rc tc mc : Nat) (rs : List (List Pt)) (ts : List Int) (ms : List Pt) (hL : LD w) (hR : RawRow w.heap.size w ra rs) (hT : IntRow w.heap.size w ta ts) (hM : PtRow w.heap.size w ma ms) (hms : ms.length ≤ 140737488355328) (hmk : ∀ p ∈ ms, p.k.length ≤ 140737488355328) :
    Calls Tryz.prog 5 #[.slice ra rs.length rc, .slice ta ts.length tc, .slice ma ms.length mc] w fun e w' => e = .returned (.bool true) ∧ Kept Nil w w' := by
  have HL : Hid (LD w) := hL
  have HRW : Hid (RawRow w.heap.size w ra rs) := hR
  have HRT : Hid (IntRow w.heap.size w ta ts) := hT
  have HMI : Hid (PtRow w.heap.size w ma ms) := hM
  have HMK : Hid (∀ p ∈ ms, p.k.length ≤ 140737488355328) := hmk
  have hms2 : (ms.length : Int) ≤ 140737488355328 := by omega
  clear hL hR hT hM hmk hms
  by_cases b1 : (16384 : Int) < (rs.length : Int)
  · have b1d : decide ((16384 : Int) < (rs.length : Int)) = true := decide_eq_true b1
    go_enter Tryz.func5, Tryz.ntmps5
    go_wp2
    go_ret
    exact ⟨rfl, Kept.refl _ _⟩
  by_cases b2 : (16384 : Int) < (ts.length : Int)
  · have b1d : decide ((16384 : Int) < (rs.length : Int)) = false := decide_eq_false b1
    have b2d : decide ((16384 : Int) < (ts.length : Int)) = true := decide_eq_true b2
    go_enter Tryz.func5, Tryz.ntmps5
    go_wp2
    go_ret
    exact ⟨rfl, Kept.refl _ _⟩
  have b1d : decide ((16384 : Int) < (rs.length : Int)) = false := decide_eq_false b1
  have b2d : decide ((16384 : Int) < (ts.length : Int)) = false := decide_eq_false b2
  obtain ⟨n0, Hn0⟩ : ∃ n, Hid (n = w.heap.size) := ⟨_, rfl⟩
  have HNw : Hid (w.heap.size ≤ n0) := by rw [Hn0.out]; exact Nat.le_refl _
  have HB0 : Hid (LRow n0 w none 0 []) := World.ownsRow_nil w n0 24 1
  obtain ⟨i2, hi2, hx0, hx1, hx2⟩ := info_parts Tryz.infoTp
  go_enter Tryz.func5, Tryz.ntmps5
  go_upto_block 0 with fail
  go_cut [7] (fun u wc => Hid (∃ (es : List Eb) (lo : Option Addr) (lc : Nat), u = .slice lo es.length lc ∧ es.length ≤ 6 ∧ LRow n0 wc lo lc es ∧ (∀ e ∈ es, EbOk n0 wc e) ∧ (∀ j, (hj : j < es.length) → es[j].id = j + 1) ∧ (∀ e ∈ es, Tam e.ps) ∧ Kept Nil w wc))
  case first =>
    go_wp2_with fail
    go_loopw [7, 8] (fun u x wr => ∃ (es : List Eb) (lo : Option Addr) (lc n : Nat), n ≤ 6 ∧ n ≤ rs.length ∧ u = .slice lo n lc ∧ x = .int .i64 n ∧ Hid (n = es.length) ∧ Hid (LRow n0 wr lo lc es) ∧ Hid (∀ e ∈ es, EbOk n0 wr e) ∧ Hid (∀ j, (hj : j < es.length) → es[j].id = j + 1) ∧ Hid (∀ e ∈ es, Tam e.ps) ∧ Hid (Kept Nil w wr)) (fun _ x _ => 6 - (intOf x).toNat)
    case atStart => exact ⟨[], none, 0, 0, by omega, Nat.zero_le _, rfl, rfl, rfl, HB0.out, fun e he => (by cases he), fun j hj => absurd hj (by simp), fun e he => (by cases he), Kept.refl _ _⟩
    case round =>
      obtain ⟨es, lo, lc, n, hn6, hnr, rfl, rfl, Hn, HLo, HB, HID, HTM, HK⟩ := hrel
      clear HB0
      by_cases hlt : n < rs.length ∧ n < 6
      · obtain ⟨hl1, hl2⟩ := hlt
        have hd1 : decide ((n : Int) < (rs.length : Int)) = true := decide_eq_true (by omega)
        have hn1 : (n : Int) < rs.length := by omega
        have hn2 : (n : Int) < 6 := by omega
        obtain ⟨a, ea, _, qa, qc, c0, hq, hq1, hq2⟩ := HRW.out n hl1
        subst ea
        have c1 : wr.cell? (a.add n) = some (.slice qa rs[n].length qc) := cell_kept HK.out (fun _ x => x) c0
        have TA := tamed_any _ qc qa rs[n] wr (hq.keptX HK.out (fun _ _ _ x => x)) (by omega) hq2
        obtain ⟨L0, HL0⟩ : ∃ l, Hid (l = rs[n].length) := ⟨rs[n].length, (rfl : rs[n].length = rs[n].length)⟩
        rw [← HL0.out] at c1 TA
        clear c0 hq hq1 hq2
        go_wp2_with fail
        go_fit TA
        rintro ee w2 ⟨qa2, qc2, qs, rfl, o2, ht, k2⟩
        have HT2 : Hid (Tam qs) := ht
        have K2 : Hid (Kept Nil w w2) := HK.out.trans k2
        have KR2 : Hid (Kept Nil wr w2) := k2
        have HO2 : Hid (OwnT n0 w2 qa2 qc2 qs) := own_mono o2 (by rw [Hn0.out]; exact HK.out.size)
        have NE := new_any _ qc2 qa2 ((n : Int) + 1) qs w2 HO2.out.row (fun p hp => by obtain ⟨i, hi, e⟩ := HT2.out.1.key p hp; rw [e]; unfold maxLen lowK; simp) (by have := HT2.out.1.len; omega)
        obtain ⟨M, HM⟩ : ∃ l, Hid (l = qs.length) := ⟨_, rfl⟩
        rw [← HM.out] at NE ⊢
        clear TA c1 o2 ht k2
        go_wp2_with fail
        go_fit NE
        intro ee w3 hp3
        obtain ⟨hgood, qs', b, ap, cp, hperm, hrise, he3, h31, h32, h33, k3⟩ := hp3.resolve_left (fun x => x.1 (tam_good HT2.out hl2))
        subst he3
        have e9 : qs' = qs := rise_perm hrise HT2.out.1.rise hperm
        subst e9
        obtain ⟨e, HE⟩ : ∃ e : Eb, Hid (e = ⟨n + 1, b, ap, cp, qa2, qc2, qs'⟩) := ⟨_, rfl⟩
        have K3 : Hid (Kept Nil w w3) := K2.out.trans k3
        have HL3 : Hid (LRow n0 w3 lo lc es) := own_kept HLo.out (KR2.out.trans k3) (fun _ _ _ x => x)
        have HB3 : Hid (∀ x ∈ es, EbOk n0 w3 x) := fun x hx => (HB.out x hx).kept (KR2.out.trans k3)
        have hsz3 : n0 ≤ w3.heap.size := by rw [Hn0.out]; exact K3.out.size
        have HE3 : Hid (EbOk n0 w3 e) := by
          rw [HE.out]
          refine ⟨?_, own_mono h32 (by rw [Hn0.out]; exact K2.out.size), HO2.out.keptX k3 (fun _ _ _ x => x), Nat.le_trans (by rw [Hn0.out]; exact K2.out.size) h33, ?_, hrise⟩
          · have e4 : ((n : Int) + 1).toNat = n + 1 := by omega
            rw [e4] at h31
            exact h31
          · have := newTx_ok hgood hperm
            have e4 : ((n : Int) + 1).toNat = n + 1 := by omega
            rw [e4] at this
            exact this
        have HPV : Hid (enP e = .pointer (some ⟨b, 0, none⟩)) := by rw [HE.out]; rfl
        obtain ⟨W1, hW1⟩ : ∃ W, W = w3.alloc (.cells #[.pointer (some ⟨b, 0, none⟩)] 24) := ⟨_, rfl⟩
        have HLr : Hid (W1.ownsRow n0 24 1 (.slice lo n lc) n (es.map enP)) := by have := HL3.out; unfold LRow at this; rw [← Hn.out] at this; rw [hW1]; exact World.ownsRow.alloc this _
        have KW1 : Hid (Kept Nil w3 W1) := by rw [hW1]; exact (Kept.refl _ _).alloc _
        have SR1 : Hid (Src Tryz.prog 1 53 (.slice (some ⟨w3.heap.size, 0, none⟩) 1 1) 1 [.pointer (some ⟨b, 0, none⟩)] W1) := by rw [hW1]; exact one_src w3 24 53 _ Tryz.underlying53 rfl
        have hsW1 : n0 ≤ W1.heap.size := Nat.le_trans hsz3 KW1.out.size
        have HLL : Hid (n + 1 ≤ maxLen) := by show _ ≤ _; unfold maxLen; omega
        have HLM : Hid ((n + 1) * 8 ≤ 140737488355328) := by show _ ≤ _; omega
        clear NE hp3 h31 h32 h33 k3 hgood hperm hrise
        go_wp2_with (at_builtin; rw [← hW1]; go_must (refine wpList_append_src _ rfl _ _ 53 53 rfl n0 24 i2 (.pointer none) 1 8 Tryz.underlying53 hi2 hx0 hx1 hx2 rfl (.slice lo n lc) n (es.map enP) rfl HLr.out (.slice (some ⟨w3.heap.size, 0, none⟩) 1 1) 1 [.pointer (some ⟨b, 0, none⟩)] rfl SR1.out HLL.out HLM.out hsW1 ?_); intro a7 c7 w7 ho7 hg7; have HO7 : Hid (w7.ownsRow n0 24 1 (.slice a7 (n + 1) c7) (n + 1) (es.map enP ++ [.pointer (some ⟨b, 0, none⟩)])) := ho7; have KG : Hid (Kept (TyG n0 24) W1 w7) := kept_grown HLr.out hg7; have K7 : Hid (Kept Nil w w7) := (K3.out.trans KW1.out).grownB HLr.out hg7 HNw.out; clear ho7 hg7)
        have HLN7 : Hid (LRow n0 w7 a7 c7 (es ++ [e])) := by
          have h1 := HO7.out
          rw [← HPV.out] at h1
          exact LRow.push Hn.out h1
        have HBN : Hid (∀ x ∈ es ++ [e], EbOk n0 w7 x) := fun x hx => by
          rcases List.mem_append.1 hx with hx | hx
          · exact ((HB3.out x hx).kept KW1.out).ty KG.out (by decide) (by decide)
          · rw [List.mem_singleton] at hx
            subst hx
            exact (HE3.out.kept KW1.out).ty KG.out (by decide) (by decide)
        have HIDN : Hid (∀ j, (hj : j < (es ++ [e]).length) → (es ++ [e])[j].id = j + 1) := fun j hj => by
          rw [List.length_append] at hj
          by_cases ej : j < es.length
          · rw [List.getElem_append_left ej]
            exact HID.out j ej
          · have ej2 : j = es.length := by simp at hj; omega
            subst ej2
            rw [List.getElem_append_right (Nat.le_refl _)]
            simp only [Nat.sub_self, List.getElem_singleton]
            rw [HE.out, ← Hn.out]
        have HTMN : Hid (∀ x ∈ es ++ [e], Tam x.ps) := fun x hx => by
          rcases List.mem_append.1 hx with hx | hx
          · exact HTM.out x hx
          · rw [List.mem_singleton] at hx
            subst hx
            rw [HE.out]
            exact HT2.out
        have HLN : Hid (n + 1 = (es ++ [e]).length) := by show _ = _; rw [List.length_append, Hn.out]; rfl
        go_roundw
        case rel => exact ⟨es ++ [e], a7, c7, n + 1, by omega, by omega, rfl, by go_num, HLN.out, HLN7.out, HBN.out, HIDN.out, HTMN.out, K7.out⟩
        case measure => simp [intOf]; omega
      · have HF : Hid (∃ (es : List Eb) (lo' : Option Addr) (lc' : Nat), (.slice lo n lc : Value) = .slice lo' es.length lc' ∧ es.length ≤ 6 ∧ LRow n0 wr lo' lc' es ∧ (∀ e ∈ es, EbOk n0 wr e) ∧ (∀ j, (hj : j < es.length) → es[j].id = j + 1) ∧ (∀ e ∈ es, Tam e.ps) ∧ Kept Nil w wr) := ⟨es, lo, lc, by rw [Hn.out], by rw [← Hn.out]; exact hn6, HLo.out, HB.out, HID.out, HTM.out, HK.out⟩
        by_cases hl1 : n < rs.length
        · have hd1 : decide ((n : Int) < (rs.length : Int)) = true := decide_eq_true (by omega)
          have hn1 : (n : Int) < rs.length := by omega
          have hn2 : ¬ (n : Int) < 6 := by omega
          have hd2 : decide ((n : Int) < 6) = false := decide_eq_false (by omega)
          go_wp2
          go_meet
          exact HF.out
        · have hd1 : decide ((n : Int) < (rs.length : Int)) = false := decide_eq_false (by omega)
          go_wp2
          go_meet
          exact HF.out
  case rest =>
    obtain ⟨es, lo, lc, e7, h6, hLo, hB, hID, hTM, hK⟩ := hcut.out
    subst e7
    rename World => w9
    have hts : (ts.length : Int) ≤ 16384 := by omega
    clear hcut HB0
    apply_assumption
    exact tfTail11 w w9 n0 es.length lc tc mc es lo ta ma ts ms _ _ _ _ _ _ _ _ _ _ _ _ _ _ _ _ _ _ _ _ _ _ _ _ _ _ _ _ _ _ _ _ _ _ _ _ _ _ _ _ _ _ _ _ _ _ _ _ _ _ _ _ _ _ _ _ _ _ _ _ _ _ _ _ _ _ _ _ _ _ _ _ _ _ _ _ _ _ _ _ _ _ _ _ _ _ _ _ _ _ _ _ _ _ _ _ _ _ _ _ _ _ _ _ _ _ _ _ _ _ _ _ _ _ _ _ _ _ _ _ _ _ _ _ _ _ _ _ _ _ _ _ _ _ _ _ _ _ _ _ _ _ _ _ _ _ _ _ _ _ _ _ _ _ _ _ _ _ _ _ _ _ _ _ _ _ _ _ _ _ _ _ _ _ _ _ _ _ _ _ _ _ _ _ _ _ _ _ _ _ _ _ _ _ _ _ _ _ _ hB hLo rfl h6 hID hTM hK Hn0 HL HRT hts HMI hms2 HMK
end Go.Proofs.YtgkacepcggjfkaaGreatDoor
