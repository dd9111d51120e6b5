/-
  Joined: WTz6.
-/
import Derived.Test.YtflnjlbafchnaaaGreatDoorR13
import Derived.Test.YtflnjlbafchnaaaGreatDoorR17
import Derived.Test.YtflnjlbafchnaaaGreatDoorR01
import Derived.BigQuiet
import Derived.BigRegion
import Derived.Deep.RegionLaw
/-
  TxnExact: the document's Answer, where it has held.
-/
namespace Go.Proofs.YtflnjlbafchnaaaGreatDoor
open Go.RowKit

theorem own_ge {w : World} {B size n : Nat} {e : TypeId} {v : Value} {xs : List Value} (h : w.ownsRow B e size v n xs) {g : Nat} (hg : v.ownBlock = some g) : B ≤ g := by
  rcases h.2 with ⟨hv, _⟩ | ⟨g', cap, cur, hv, hb, _⟩
  · rw [hv] at hg; simp [Value.ownBlock] at hg
  · rw [hv] at hg
    simp [Value.ownBlock] at hg
    omega
theorem src_blkD {w : World} {g : Nat} {z : Int} (h : w.heap[g]? = some (.cells #[.int .i64 z] 3 (0, 0))) : Src Tryz.prog 1 37 (.slice (some ⟨g, 0, none⟩) 1 1) 1 [.int .i64 z] w := by
  have h1 : OwnI 0 w (some ⟨g, 0, none⟩) 1 [z] := ⟨rfl, .inr ⟨g, 1, _, rfl, Nat.zero_le _, h, Nat.le_refl _, by unfold maxLen; omega, rfl, rfl⟩⟩
  exact h1.src
theorem OwnI.srcD {B c : Nat} {w : World} {ao : Option Addr} {zs : List Int} (h : OwnI B w ao c zs) : Src Tryz.prog 1 37 (.slice ao zs.length c) zs.length (intC zs) w := h.src
set_option maxRecDepth 100000 in
set_option maxHeartbeats 4000000 in
theorem dans2 (w : World) (b : Nat) (t : Tx) (D : Dx) (ap oo : Option Addr) (cp oc : Nat) (h : TdAt w b t D ap oo cp oc) (B : Nat) (hO : OwnI B w oo oc t.old) (hl : t.ps.length ≤ 4) (ha : t.at' < t.ps.length) (r : Rr) (ko : Option Addr) (kc : Nat) (hp : t.ph = 2) (hB : B ≤ w.heap.size) (hol : t.old.length ≤ 4) (hsn : D.sn = t.sn) :
    Calls Tryz.prog 18 #[.pointer (some ⟨b, 0, none⟩), rrV r ko kc] w (DdPost B w b (t.answer r) (D.ans t r) ap cp oo) := by
  obtain ⟨W, hW⟩ : ∃ W, W = w.alloc (.cells #[.int .i64 r.kd, .string (bs r.v), .int .i64 r.n, .slice ko r.ks.length kc] 50) := ⟨_, rfl⟩
  obtain ⟨A, HAe⟩ : ∃ A, Hid (A = w.heap.size) := ⟨_, rfl⟩
  have KW : Hid (Kept Nil w W) := by rw [hW]; exact (Kept.refl _ _).alloc _
  have HA : Hid (W.heap[A]? = some (.cells #[.int .i64 r.kd, .string (bs r.v), .int .i64 r.n, .slice ko r.ks.length kc] 50 (0, 0))) := by rw [hW, HAe.out]; exact blk_new _ _
  have HT : Hid (TdAt W b t D ap oo cp oc) := h.kept KW.out
  have HO : Hid (OwnI B W oo oc t.old) := hO.kept KW.out
  have hbA : b ≠ A := by rw [HAe.out]; have := lt_of_block h; omega
  have hAb : A ≠ b := hbA.symm
  have a0 : W.cell? ⟨A, 0, none⟩ = some (.int .i64 r.kd) := blk_at HA.out 0 rfl
  have a1 : W.cell? ⟨A, 1, none⟩ = some (.string (bs r.v)) := blk_at HA.out 1 rfl
  have a2 : W.cell? ⟨A, 2, none⟩ = some (.int .i64 r.n) := blk_at HA.out 2 rfl
  have q2 : W.cell? ⟨b, 2, none⟩ = some (.string ⟨#[104, 111, 108, 100]⟩) := by
    have e : W.cell? ⟨b, 2, none⟩ = some (.string (bs (phW t.ph))) := blk_at HT.out 2 rfl
    rw [hp] at e
    exact e
  have f2 : W.frozen? ⟨b, 2, none⟩ = false := blk_free HT.out 2
  obtain ⟨i0, hi, hz0, hz1, hz2⟩ := info_parts Tryz.infoI2
  have HBw : Hid (B ≤ w.heap.size) := hB
  have HSN : Hid (D.sn = t.sn) := hsn
  clear hsn
  obtain ⟨u, Hu⟩ : ∃ u, Hid (u = t.answer r) := ⟨_, rfl⟩
  obtain ⟨E, HE⟩ : ∃ u, Hid (u = D.ans t r) := ⟨_, rfl⟩
  rw [← Hu.out, ← HE.out]
  have HU : Hid (u = t.took (decide (r.kd = 1))) := by show _ = _; rw [Hu.out]; unfold Tx.answer; simp [hp]
  have HD : Hid (E = D) := by show _ = _; rw [HE.out]; unfold Dx.ans; simp [hp]
  clear hp Hu HE
  by_cases c1 : r.kd = 1
  · have y1 : (r.kd == 1) = true := by simp [c1]
    have HUN : Hid (u = ({ t with ph := 1, old := t.old ++ [(D.sn.n : Int)] } : Tx).further 1 6) := by
      show _ = _
      rw [HU.out, HSN.out]
      unfold Tx.took
      rw [if_pos (by simp [c1])]
      rfl
    obtain ⟨X, hX⟩ : ∃ X, X = W.setCell ⟨b, 2, none⟩ (.string ⟨#[108, 111, 111, 107]⟩) := ⟨_, rfl⟩
    have HTX : Hid (TdAt X b { t with ph := 1 } D ap oo cp oc) := by rw [hX]; exact HT.out.s2 1
    have KWX : Hid (Kept (One b) W X) := by rw [hX]; exact (Kept.refl _ _).setCell (p := ⟨b, 2, none⟩) (fun _ => rfl) _
    have HOX : Hid (OwnI B X oo oc t.old) := HO.out.txn HT.out KWX.out
    have KX : Hid (Kept (One b) w X) := KW.out.oneNil.trans KWX.out
    clear c1
    unfold rrV
    go_enter Tryz.func18, Tryz.ntmps18
    go_upto_region 1 with fail
    rw [← hW, ← HAe.out]
    clear hW HAe
    go_upto_region 26 with fail
    rw [← hX]
    clear hX q2 f2 a0 a1 a2
    obtain ⟨L, HLn⟩ : ∃ x, Hid (x = t.old.length) := ⟨_, rfl⟩
    have HX4 : Hid (X.cell? ⟨b, 4, none⟩ = some (.slice oo L oc)) := by rw [HLn.out]; exact blk_at HTX.out 4 rfl
    have SRO : ∀ Y, Kept Nil X Y → Src Tryz.prog 1 37 (.slice oo L oc) L (intC t.old) Y := fun Y kY => by rw [HLn.out]; exact (HOX.out.kept kY).srcD
    have HBX : ∀ Y, Kept Nil X Y → X.heap.size ≤ Y.heap.size := fun Y kY => kY.size
    have HLL : Hid (0 + L ≤ maxLen ∧ (0 + L) * 8 ≤ 140737488355328 ∧ L + 1 ≤ maxLen ∧ (L + 1) * 8 ≤ 140737488355328) := by have := HLn.out; refine ⟨?_, ?_, ?_, ?_⟩ <;> (try unfold maxLen) <;> omega
    have SX : ∀ Y, Kept Nil X Y → Y.cell? ⟨b, 4, none⟩ = some (.slice oo L oc) ∧ Y.cell? ⟨b, 5, none⟩ = some (.int .i64 D.sn.n) ∧ Y.frozen? ⟨b, 4, none⟩ = false := fun Y kY => ⟨by rw [HLn.out]; exact blk_at (HTX.out.kept kY) 4 rfl, blk_at (HTX.out.kept kY) 5 rfl, blk_free (HTX.out.kept kY) 4⟩
    have sx := SX X (Kept.refl _ _)
    obtain ⟨sx4, sx5, sxf⟩ := sx
    have hlbX : b < X.heap.size := lt_of_block HTX.out
    go_region_law (first
      | (refine step_append_src _ rfl (.const (.slice none 0 0)) (.tmp 125) 37 37 rfl X.heap.size 3 i0 (.int .i64 0) 1 8 Tryz.underlying37 hi hz0 hz1 hz2 rfl (.slice none 0 0) 0 [] (by simp [Act.eval]) (World.ownsRow_nil _ _ _ _) (.slice oo L oc) L (intC t.old) (by simp [Act.eval]) (SRO _ (by repeat (first | exact Kept.refl _ _ | refine Kept.drew ?_ | refine Kept.alloc ?_ _))) HLL.out.1 HLL.out.2.1 (HBX _ (by repeat (first | exact Kept.refl _ _ | refine Kept.drew ?_ | refine Kept.alloc ?_ _))) ?_; intro a6 c6 w6 ho6 hg6; have HO6 : Hid (w6.ownsRow X.heap.size 3 1 (.slice a6 L c6) L (intC t.old)) := (by show w6.ownsRow _ _ _ _ _ _; simpa using ho6); have OWN6 : ∀ Y, Kept Nil w6 Y → Y.ownsRow X.heap.size 3 1 (.slice a6 L c6) L (intC t.old) := (fun Y k => own_kept HO6.out k (fun _ _ _ x => x)); have KG6 : Hid (Kept Nil X w6) := Kept.trans (by repeat (first | exact Kept.refl _ _ | refine Kept.drew ?_ | refine Kept.alloc ?_ _)) ((Kept.refl _ _).grown hg6 (fun g e => by simp [Value.ownBlock] at e)); (try (have PB : Hid (w6.heap[X.heap.size]? = some (.cells #[.int .i64 D.sn.n] 3 (0, 0))) := ((Kept.refl _ _).grown hg6 (fun g e => by simp [Value.ownBlock] at e) : Kept Nil _ w6).block _ _ (by first | exact blk_new X _ | exact blk_new X.drew _) (fun x => x))); obtain ⟨sy4, sy5, syf⟩ := SX w6 KG6.out; clear ho6 hg6)
      | (refine step_append_src _ rfl (.tmp 126) (.tmp 132) 37 37 rfl X.heap.size 3 i0 (.int .i64 0) 1 8 Tryz.underlying37 hi hz0 hz1 hz2 rfl (.slice a6 L c6) L (intC t.old) (by simp [Act.eval]) (OWN6 _ (by repeat (first | exact Kept.refl _ _ | refine Kept.drew ?_ | refine Kept.alloc ?_ _))) (.slice (some ⟨X.heap.size, 0, none⟩) 1 1) 1 [.int .i64 D.sn.n] (by simp [Act.eval]) (src_blkD (PB.out)) HLL.out.2.2.1 HLL.out.2.2.2 (KG6.out.size) ?_; intro a7 c7 w7 ho7 hg7; have HO7 : Hid (w7.ownsRow X.heap.size 3 1 (.slice a7 (L + 1) c7) (L + 1) (intC t.old ++ [.int .i64 D.sn.n])) := ho7; have KG7 : Hid (Kept Nil X w7) := KG6.out.grown hg7 (fun g e => own_ge HO6.out e); obtain ⟨sz4, sz5, szf⟩ := SX w7 KG7.out; clear ho7 hg7)
      | (refine step_append_src _ rfl (.tmp 126) (.tmp 132) 37 37 rfl X.heap.size 3 i0 (.int .i64 0) 1 8 Tryz.underlying37 hi hz0 hz1 hz2 rfl (.slice a6 L c6) L (intC t.old) (by simp [Act.eval]) (OWN6 _ (by repeat (first | exact Kept.refl _ _ | refine Kept.drew ?_ | refine Kept.alloc ?_ _))) (.slice (some ⟨w6.heap.size, 0, none⟩) 1 1) 1 [.int .i64 D.sn.n] (by simp [Act.eval]) (src_blkD (by first | exact blk_new w6 _ | exact blk_new w6.drew _)) HLL.out.2.2.1 HLL.out.2.2.2 (Kept.size (Kept.trans KG6.out (by repeat (first | exact Kept.refl _ _ | refine Kept.drew ?_ | refine Kept.alloc ?_ _)))) ?_; intro a7 c7 w7 ho7 hg7; have HO7 : Hid (w7.ownsRow X.heap.size 3 1 (.slice a7 (L + 1) c7) (L + 1) (intC t.old ++ [.int .i64 D.sn.n])) := ho7; have KG7 : Hid (Kept Nil X w7) := (Kept.trans KG6.out (by repeat (first | exact Kept.refl _ _ | refine Kept.drew ?_ | refine Kept.alloc ?_ _))).grown hg7 (fun g e => own_ge HO6.out e); obtain ⟨sz4, sz5, szf⟩ := SX w7 KG7.out; clear ho7 hg7))
    all_goals
      obtain ⟨V, hV⟩ : ∃ V, V = w7.setCell ⟨b, 4, none⟩ (.slice a7 (L + 1) c7) := ⟨_, rfl⟩
      have HV : Hid (TdAt V b { t with ph := 1, old := t.old ++ [(D.sn.n : Int)] } D ap a7 cp c7 ∧ Kept (One b) X V ∧ OwnI B V a7 c7 (t.old ++ [(D.sn.n : Int)])) := by
        have hl2 : (t.old ++ [(D.sn.n : Int)]).length = L + 1 := by rw [List.length_append, HLn.out]; rfl
        have h1 := (HTX.out.kept KG7.out).s4 a7 c7 (t.old ++ [(D.sn.n : Int)])
        rw [hl2] at h1
        have hk : Kept (One b) w7 V := by rw [hV]; exact (Kept.refl _ _).setCell (p := ⟨b, 4, none⟩) (fun _ => rfl) _
        refine ⟨by rw [hV]; exact h1, KG7.out.oneNil.trans hk, ?_⟩
        have h2 : OwnI X.heap.size w7 a7 c7 (t.old ++ [(D.sn.n : Int)]) := by
          unfold OwnI
          rw [intC_snoc, hl2]
          exact HO7.out
        exact (own_mono (h2.txn (HTX.out.kept KG7.out) hk) (Nat.le_trans HBw.out KX.out.size))
      have ON := don_any V b _ _ ap a7 cp c7 HV.out.1 6 hl ha
      have HUE : Hid (({ t with ph := 1, old := t.old ++ [(D.sn.n : Int)] } : Tx).further 1 6 = u ∧ u.old = t.old ++ [(D.sn.n : Int)]) := by
        refine ⟨HUN.out.symm, ?_⟩
        rw [HUN.out]
        exact further_oldD _ 1 6
      have ON2 : Calls Tryz.prog 66 #[.pointer (some ⟨b, 0, none⟩), .string ⟨#[99, 111, 109, 109, 105, 116]⟩] V fun e w' => e = .returned (.tuple #[]) ∧ TdAt w' b u E ap a7 cp c7 ∧ Kept (One b) V w' := by rw [← HUE.out.1, HD.out]; exact ON
      clear ON SRO HBX SX OWN6 sx4 sx5 sxf sy4 sy5 syf sz4 sz5 szf
      go_wp2_with fail
      rw [← hV]
      clear hV
      go_fit ON2
      rintro _ w8 ⟨rfl, h8, k8⟩
      have HY : Hid ((∃ o1 c1, TdAt w8 b u E ap o1 cp c1 ∧ OwnI B w8 o1 c1 u.old ∧ NwI oo w o1) ∧ Kept (One b) w w8) := by
        refine ⟨⟨a7, c7, h8, ?_, .inr (fun a e => Nat.le_trans KX.out.size (own_ge HO7.out (by rw [e]; rfl)))⟩, (KX.out.trans HV.out.2.1).trans k8⟩
        rw [HUE.out.2]
        exact HV.out.2.2.txn HV.out.1 k8
      clear h8 k8 ON2
      go_wp2
      go_end0
      exact ⟨rfl, HY.out⟩
  · have y1 : (r.kd == 1) = false := by simp [c1]
    obtain ⟨Y, hY⟩ : ∃ Y, Y = (W.setCell ⟨b, 2, none⟩ (.string ⟨#[108, 111, 111, 107]⟩)) := ⟨_, rfl⟩
    have HK : Hid (Kept (One b) W Y) := by rw [hY]; exact ((Kept.refl _ _).setCell (p := ⟨b, 2, none⟩) (fun _ => rfl) _)
    have HY : Hid ((∃ o1 c1, TdAt Y b u E ap o1 cp c1 ∧ OwnI B Y o1 c1 u.old ∧ NwI oo w o1) ∧ Kept (One b) w Y) := by
      have h1 := HO.out.txn HT.out HK.out
      have h2 := HK.out
      refine ⟨⟨oo, oc, ?_, ?_, .inl rfl⟩, KW.out.oneNil.trans h2⟩
      · rw [HU.out, HD.out, hY]
        unfold Tx.took; rw [if_neg (by simp [c1])]
        exact HT.out.s2 1
      · rw [HU.out]
        unfold Tx.took; rw [if_neg (by simp [c1])]
        exact h1
    clear HU HD HK c1
    unfold rrV
    go_enter Tryz.func18, Tryz.ntmps18
    go_upto_region 1 with fail
    rw [← hW, ← HAe.out]
    clear hW HAe
    go_wp2
    rw [← hY]
    go_end0
    exact ⟨rfl, HY.out⟩
end Go.Proofs.YtflnjlbafchnaaaGreatDoor
