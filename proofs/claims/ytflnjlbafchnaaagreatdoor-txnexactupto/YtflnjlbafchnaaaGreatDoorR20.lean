/-
  Joined: WTz7.
-/
import Derived.Test.YtflnjlbafchnaaaGreatDoorR18
import Derived.Test.YtflnjlbafchnaaaGreatDoorR19
import Derived.BigQuiet
import Derived.BigRegion
import Derived.Deep.RegionLaw
/-
  TxnExact: the document's Answer, where it looks.
-/
namespace Go.Proofs.YtflnjlbafchnaaaGreatDoor
open Go.RowKit

set_option maxRecDepth 100000 in
set_option maxHeartbeats 4000000 in
theorem dans1 (w : World) (b : Nat) (t : Tx) (D : Dx) (ap oo : Option Addr) (cp oc : Nat) (h : TdAt w b t D ap oo cp oc) (B : Nat) (hO : OwnI B w oo oc t.old) (hl : t.ps.length ≤ 4) (ha : t.at' < t.ps.length) (r : Rr) (ko : Option Addr) (kc : Nat) (hp : t.ph = 1) (hB : B ≤ w.heap.size) (hol : t.old.length ≤ 4) (hv : r.v.length ≤ 1048576) (ok : t.Ok) (hP : PtRow w.heap.size w ap t.ps) (hPb : ∀ a, ap = some a → a.block ≠ b) :
    Calls Tryz.prog 18 #[.pointer (some ⟨b, 0, none⟩), rrV r ko kc] w (DdPost B w b (t.answer r) (D.ans t r) ap cp oo) := by
  obtain ⟨W, hW⟩ : ∃ W, W = w.alloc (.cells #[.int .i64 r.kd, .string (bs r.v), .int .i64 r.n, .slice ko r.ks.length kc] 50) := ⟨_, rfl⟩
  obtain ⟨A, HAe⟩ : ∃ A, Hid (A = w.heap.size) := ⟨_, rfl⟩
  have KW : Hid (Kept Nil w W) := by rw [hW]; exact (Kept.refl _ _).alloc _
  have HA : Hid (W.heap[A]? = some (.cells #[.int .i64 r.kd, .string (bs r.v), .int .i64 r.n, .slice ko r.ks.length kc] 50 (0, 0))) := by rw [hW, HAe.out]; exact blk_new _ _
  have HT : Hid (TdAt W b t D ap oo cp oc) := h.kept KW.out
  have HO : Hid (OwnI B W oo oc t.old) := hO.kept KW.out
  have hbA : b ≠ A := by rw [HAe.out]; have := lt_of_block h; omega
  have hAb : A ≠ b := hbA.symm
  have a0 : W.cell? ⟨A, 0, none⟩ = some (.int .i64 r.kd) := blk_at HA.out 0 rfl
  have a1 : W.cell? ⟨A, 1, none⟩ = some (.string (bs r.v)) := blk_at HA.out 1 rfl
  have a2 : W.cell? ⟨A, 2, none⟩ = some (.int .i64 r.n) := blk_at HA.out 2 rfl
  have q2 : W.cell? ⟨b, 2, none⟩ = some (.string ⟨#[108, 111, 111, 107]⟩) := by
    have e : W.cell? ⟨b, 2, none⟩ = some (.string (bs (phW t.ph))) := blk_at HT.out 2 rfl
    rw [hp] at e
    exact e
  have f2 : W.frozen? ⟨b, 2, none⟩ = false := blk_free HT.out 2
  obtain ⟨i0, hi, hz0, hz1, hz2⟩ := info_parts Tryz.infoI2
  have HBw : Hid (B ≤ w.heap.size) := hB
  have Hp : Hid (t.ph = 1) := hp
  obtain ⟨u, Hu⟩ : ∃ u, Hid (u = t.answer r) := ⟨_, rfl⟩
  obtain ⟨E, HE⟩ : ∃ u, Hid (u = D.ans t r) := ⟨_, rfl⟩
  rw [← Hu.out, ← HE.out]
  have HU : Hid (u = t.looked r) := by show _ = _; rw [Hu.out]; unfold Tx.answer; simp [hp]
  have HD : Hid (E = ⟨hdOf (saidR r), versR r, D.d⟩) := by show _ = _; rw [HE.out]; unfold Dx.ans; simp [hp]
  clear hp Hu HE
  obtain ⟨hd, Hhd⟩ : ∃ x, Hid (x = hdOf (saidR r)) := ⟨_, rfl⟩
  obtain ⟨vv, HVv0⟩ : ∃ x, Hid (x = versR r) := ⟨_, rfl⟩
  obtain ⟨h0, Hh0⟩ : ∃ x, Hid (x = hdOf []) := ⟨_, rfl⟩
  have HDE : Hid (E = ⟨hd, vv, D.d⟩) := by show _ = _; rw [HD.out, Hhd.out, HVv0.out]
  have HF0 : ∀ Y, Calls Tryz.prog 65 #[.string ⟨#[]⟩] Y fun e w' => e = .returned (.agg #[.int .i64 h0.n, .int .i64 h0.b, .int .i64 h0.t]) ∧ Kept Nil Y w' := fun Y => by rw [Hh0.out]; exact refHeldOf_any [] (Nat.zero_le _) Y
  obtain ⟨pz, Hpz⟩ : ∃ x, Hid (x = t.part.a) := ⟨_, rfl⟩
  obtain ⟨pa, hpa, _, _, _⟩ := hP t.at' ha
  subst hpa
  have HPZ : Hid (∀ Y, Kept (One b) W Y → Y.cell? ⟨(pa.add (t.at' * 2)).block, (pa.add (t.at' * 2)).off + 1, none⟩ = some (.int .i64 pz)) := fun Y kY => by
    obtain ⟨a, h1, _, _, h2⟩ := (hP.keptX (KW.out.oneNil.trans kY) (fun a e _ x => hPb a e x)) t.at' ha
    obtain rfl := Option.some.inj h1
    have hpk : t.part = t.ps[t.at'] := by unfold Tx.part; rw [List.getElem?_eq_getElem ha]; rfl
    rw [Hpz.out, hpk]
    exact h2
  have hat : (t.at' : Int) < t.ps.length := by omega
  have hmem : t.part ∈ t.ps := by unfold Tx.part; rw [List.getElem?_eq_getElem ha]; exact List.getElem_mem _
  have hpb := (ok.keys t.part hmem).2.2
  rw [← Hpz.out] at hpb
  have hhd : hd.n ≤ 999999999 := by rw [Hhd.out]; exact (hdOf_ok _).n
  obtain ⟨zz, Hzz⟩ : ∃ z : Int, Hid (z = (hd.n : Int) + pz) := ⟨_, rfl⟩
  have hwr : IntKind.i64.wrap ((hd.n : Int) + pz) = zz := by
    rw [Hzz.out, IntKind.wrap_i64]
    omega
  have HTZ : Hid ((t.see r).thenZ = zz) := by show (((t.see r).sn.n : Int) + (t.see r).part.a) = zz; rw [Hzz.out, Hpz.out, Hhd.out]; rfl
  have HLk : Hid (u = (t.see r).looked') := HU
  have hsb : (t.see r).sn.b = hd.b := by rw [Hhd.out]; rfl
  have hsn : (t.see r).sn.n = hd.n := by rw [Hhd.out]; rfl
  clear hP hPb hmem hpb hhd HU HD
  by_cases c1 : r.kd = 1
  · have y1 : (r.kd == 1) = true := by simp [c1]
    have HVv : Hid (vv = r.n) := by show _ = _; rw [HVv0.out]; unfold versR; rw [if_pos c1]
    have HF1 : ∀ Y, Calls Tryz.prog 65 #[.string (bs r.v)] Y fun e w' => e = .returned (.agg #[.int .i64 hd.n, .int .i64 hd.b, .int .i64 hd.t]) ∧ Kept Nil Y w' := fun Y => by
      rw [Hhd.out]
      unfold saidR
      rw [if_pos c1]
      exact refHeldOf_any r.v hv Y
    clear c1
    by_cases cb : hd.b = t.id
    · have y2 : ((hd.b : Int) == (t.id : Int)) = true := by simp; omega
      have HUN : Hid (u = (({ t with old := t.old ++ [(hd.n : Int)] } : Tx).see r).further 1 6) := by
        show _ = _
        rw [HLk.out]
        unfold Tx.looked'
        rw [if_pos (by rw [hsb]; exact cb)]
        unfold Tx.note
        rw [hsn]
        rfl
      clear cb hsb hsn HLk
      unfold rrV
      go_enter Tryz.func18, Tryz.ntmps18
      go_upto_region 1 with fail
      rw [← hW, ← HAe.out]
      clear hW HAe
      go_wp2_with fail
      go_fit (HF0 W)
      rintro _ w1 ⟨rfl, k1⟩
      have K1 : Hid (Kept Nil W w1) := k1
      clear k1 a0 a1 a2 q2 f2
      have HT1 : Hid (TdAt w1 b t D (some pa) oo cp oc) := HT.out.kept K1.out
      have HA1 : Hid (w1.heap[A]? = some (.cells #[.int .i64 r.kd, .string (bs r.v), .int .i64 r.n, .slice ko r.ks.length kc] 50 (0, 0))) := K1.out.block _ _ HA.out (fun x => x)
      have q5 : w1.cell? ⟨b, 5, none⟩ = some (.int .i64 D.sn.n) := blk_at HT1.out 5 rfl
      have f5 : w1.frozen? ⟨b, 5, none⟩ = false := blk_free HT1.out 5
      have q6 : w1.cell? ⟨b, 6, none⟩ = some (.int .i64 D.sn.b) := blk_at HT1.out 6 rfl
      have f6 : w1.frozen? ⟨b, 6, none⟩ = false := blk_free HT1.out 6
      have q7 : w1.cell? ⟨b, 7, none⟩ = some (.int .i64 D.sn.t) := blk_at HT1.out 7 rfl
      have f7 : w1.frozen? ⟨b, 7, none⟩ = false := blk_free HT1.out 7
      have q8 : w1.cell? ⟨b, 8, none⟩ = some (.int .i64 D.v) := blk_at HT1.out 8 rfl
      have f8 : w1.frozen? ⟨b, 8, none⟩ = false := blk_free HT1.out 8
      obtain ⟨V1, hV1⟩ : ∃ V, V = ((((w1.setCell ⟨b, 5, none⟩ (.int .i64 h0.n)).setCell ⟨b, 6, none⟩ (.int .i64 h0.b)).setCell ⟨b, 7, none⟩ (.int .i64 h0.t)).setCell ⟨b, 8, none⟩ (.int .i64 0)) := ⟨_, rfl⟩
      have HV1 : Hid (TdAt V1 b t ⟨h0, 0, D.d⟩ (some pa) oo cp oc ∧ Kept (One b) W V1 ∧ V1.heap[A]? = some (.cells #[.int .i64 r.kd, .string (bs r.v), .int .i64 r.n, .slice ko r.ks.length kc] 50 (0, 0))) := by rw [hV1]; exact ⟨(HT1.out.s567 h0).s8 0, ((((K1.out.oneNil.setCell (p := ⟨b, 5, none⟩) (fun _ => rfl) _).setCell (p := ⟨b, 6, none⟩) (fun _ => rfl) _).setCell (p := ⟨b, 7, none⟩) (fun _ => rfl) _).setCell (p := ⟨b, 8, none⟩) (fun _ => rfl) _), blk_other (a := ⟨b, 8, none⟩) (blk_other (a := ⟨b, 7, none⟩) (blk_other (a := ⟨b, 6, none⟩) (blk_other (a := ⟨b, 5, none⟩) HA1.out hAb _) hAb _) hAb _) hAb _⟩
      go_upto_region 12 with fail
      rw [← hV1]
      clear hV1 q5 q6 q7 q8 f5 f6 f7 f8 HA1 HT1
      have a1 : V1.cell? ⟨A, 1, none⟩ = some (.string (bs r.v)) := blk_at HV1.out.2.2 1 rfl
      go_wp2_with fail
      go_fit (HF1 V1)
      rintro _ w2 ⟨rfl, k2⟩
      have K2 : Hid (Kept Nil V1 w2) := k2
      clear k2 a1
      have HT2 : Hid (TdAt w2 b t ⟨h0, 0, D.d⟩ (some pa) oo cp oc) := HV1.out.1.kept K2.out
      have a2 : w2.cell? ⟨A, 2, none⟩ = some (.int .i64 r.n) := blk_at (K2.out.block _ _ HV1.out.2.2 (fun x => x)) 2 rfl
      have q5 : w2.cell? ⟨b, 5, none⟩ = some (.int .i64 h0.n) := blk_at HT2.out 5 rfl
      have q6 : w2.cell? ⟨b, 6, none⟩ = some (.int .i64 h0.b) := blk_at HT2.out 6 rfl
      have q7 : w2.cell? ⟨b, 7, none⟩ = some (.int .i64 h0.t) := blk_at HT2.out 7 rfl
      have q8 : w2.cell? ⟨b, 8, none⟩ = some (.int .i64 0) := blk_at HT2.out 8 rfl
      have f5 : w2.frozen? ⟨b, 5, none⟩ = false := blk_free HT2.out 5
      have f6 : w2.frozen? ⟨b, 6, none⟩ = false := blk_free HT2.out 6
      have f7 : w2.frozen? ⟨b, 7, none⟩ = false := blk_free HT2.out 7
      have f8 : w2.frozen? ⟨b, 8, none⟩ = false := blk_free HT2.out 8
      obtain ⟨V, hV⟩ : ∃ V, V = ((((w2.setCell ⟨b, 5, none⟩ (.int .i64 hd.n)).setCell ⟨b, 6, none⟩ (.int .i64 hd.b)).setCell ⟨b, 7, none⟩ (.int .i64 hd.t)).setCell ⟨b, 8, none⟩ (.int .i64 r.n)) := ⟨_, rfl⟩
      have HV : Hid (TdAt V b t ⟨hd, vv, D.d⟩ (some pa) oo cp oc ∧ Kept (One b) W V) := by rw [hV, HVv.out]; exact ⟨(HT2.out.s567 hd).s8 r.n, (((((HV1.out.2.1.trans K2.out.oneNil).setCell (p := ⟨b, 5, none⟩) (fun _ => rfl) _).setCell (p := ⟨b, 6, none⟩) (fun _ => rfl) _).setCell (p := ⟨b, 7, none⟩) (fun _ => rfl) _).setCell (p := ⟨b, 8, none⟩) (fun _ => rfl) _)⟩
      go_upto_region 14 with fail
      rw [← hV]
      clear hV a2 q5 q6 q7 q8 f5 f6 f7 f8 HT2
      have c1 : V.cell? ⟨(pa.add (t.at' * 2)).block, (pa.add (t.at' * 2)).off + 1, none⟩ = some (.int .i64 pz) := HPZ.out V HV.out.2
      have v0 : V.cell? ⟨b, 0, none⟩ = some (.int .i64 t.id) := blk_at HV.out.1 0 rfl
      have v1 : V.cell? ⟨b, 1, none⟩ = some (.slice (some pa) t.ps.length cp) := blk_at HV.out.1 1 rfl
      have v3 : V.cell? ⟨b, 3, none⟩ = some (.int .i64 t.at') := blk_at HV.out.1 3 rfl
      have v5 : V.cell? ⟨b, 5, none⟩ = some (.int .i64 hd.n) := blk_at HV.out.1 5 rfl
      have v6 : V.cell? ⟨b, 6, none⟩ = some (.int .i64 hd.b) := blk_at HV.out.1 6 rfl
      go_region
      all_goals
        go_upto_region 16 with fail
        go_region
        all_goals
          go_upto_region 17 with fail
          clear c1 v0 v1 v3 v5 v6
          obtain ⟨X, hX⟩ : ∃ X, X = V.drew.drew := ⟨_, rfl⟩
          have HTX : Hid (TdAt X b t ⟨hd, vv, D.d⟩ (some pa) oo cp oc) := by rw [hX]; exact HV.out.1.drew.drew
          have KX : Hid (Kept (One b) w X) := by rw [hX]; exact ((KW.out.oneNil.trans HV.out.2).drew).drew
          have HOX : Hid (OwnI B X oo oc t.old) := by rw [hX]; exact ((HO.out.txn HT.out HV.out.2).kept (Kept.refl _ _).drew).kept (Kept.refl _ _).drew
          rw [← hX]
          clear hX
          obtain ⟨L, HLn⟩ : ∃ x, Hid (x = t.old.length) := ⟨_, rfl⟩
          have HX4 : Hid (X.cell? ⟨b, 4, none⟩ = some (.slice oo L oc)) := by rw [HLn.out]; exact blk_at HTX.out 4 rfl
          have SRO : ∀ Y, Kept Nil X Y → Src Tryz.prog 1 37 (.slice oo L oc) L (intC t.old) Y := fun Y kY => by rw [HLn.out]; exact (HOX.out.kept kY).srcD
          have HBX : ∀ Y, Kept Nil X Y → X.heap.size ≤ Y.heap.size := fun Y kY => kY.size
          have HLL : Hid (0 + L ≤ maxLen ∧ (0 + L) * 8 ≤ 140737488355328 ∧ L + 1 ≤ maxLen ∧ (L + 1) * 8 ≤ 140737488355328) := by have := HLn.out; refine ⟨?_, ?_, ?_, ?_⟩ <;> (try unfold maxLen) <;> omega
          have SX : ∀ Y, Kept Nil X Y → Y.cell? ⟨b, 4, none⟩ = some (.slice oo L oc) ∧ Y.cell? ⟨b, 5, none⟩ = some (.int .i64 hd.n) ∧ Y.frozen? ⟨b, 4, none⟩ = false := fun Y kY => ⟨by rw [HLn.out]; exact blk_at (HTX.out.kept kY) 4 rfl, blk_at (HTX.out.kept kY) 5 rfl, blk_free (HTX.out.kept kY) 4⟩
          have sx := SX X (Kept.refl _ _)
          obtain ⟨sx4, sx5, sxf⟩ := sx
          have hlbX : b < X.heap.size := lt_of_block HTX.out
          go_region_law (first
            | (refine step_append_src _ rfl (.const (.slice none 0 0)) (.tmp 82) 37 37 rfl X.heap.size 3 i0 (.int .i64 0) 1 8 Tryz.underlying37 hi hz0 hz1 hz2 rfl (.slice none 0 0) 0 [] (by simp [Act.eval]) (World.ownsRow_nil _ _ _ _) (.slice oo L oc) L (intC t.old) (by simp [Act.eval]) (SRO _ (by repeat (first | exact Kept.refl _ _ | refine Kept.drew ?_ | refine Kept.alloc ?_ _))) HLL.out.1 HLL.out.2.1 (HBX _ (by repeat (first | exact Kept.refl _ _ | refine Kept.drew ?_ | refine Kept.alloc ?_ _))) ?_; intro a6 c6 w6 ho6 hg6; have HO6 : Hid (w6.ownsRow X.heap.size 3 1 (.slice a6 L c6) L (intC t.old)) := (by show w6.ownsRow _ _ _ _ _ _; simpa using ho6); have OWN6 : ∀ Y, Kept Nil w6 Y → Y.ownsRow X.heap.size 3 1 (.slice a6 L c6) L (intC t.old) := (fun Y k => own_kept HO6.out k (fun _ _ _ x => x)); have KG6 : Hid (Kept Nil X w6) := Kept.trans (by repeat (first | exact Kept.refl _ _ | refine Kept.drew ?_ | refine Kept.alloc ?_ _)) ((Kept.refl _ _).grown hg6 (fun g e => by simp [Value.ownBlock] at e)); (try (have PB : Hid (w6.heap[X.heap.size]? = some (.cells #[.int .i64 hd.n] 3 (0, 0))) := ((Kept.refl _ _).grown hg6 (fun g e => by simp [Value.ownBlock] at e) : Kept Nil _ w6).block _ _ (by first | exact blk_new X _ | exact blk_new X.drew _) (fun x => x))); obtain ⟨sy4, sy5, syf⟩ := SX w6 KG6.out; clear ho6 hg6)
            | (refine step_append_src _ rfl (.tmp 83) (.tmp 89) 37 37 rfl X.heap.size 3 i0 (.int .i64 0) 1 8 Tryz.underlying37 hi hz0 hz1 hz2 rfl (.slice a6 L c6) L (intC t.old) (by simp [Act.eval]) (OWN6 _ (by repeat (first | exact Kept.refl _ _ | refine Kept.drew ?_ | refine Kept.alloc ?_ _))) (.slice (some ⟨X.heap.size, 0, none⟩) 1 1) 1 [.int .i64 hd.n] (by simp [Act.eval]) (src_blkD (PB.out)) HLL.out.2.2.1 HLL.out.2.2.2 (KG6.out.size) ?_; intro a7 c7 w7 ho7 hg7; have HO7 : Hid (w7.ownsRow X.heap.size 3 1 (.slice a7 (L + 1) c7) (L + 1) (intC t.old ++ [.int .i64 hd.n])) := ho7; have KG7 : Hid (Kept Nil X w7) := KG6.out.grown hg7 (fun g e => own_ge HO6.out e); obtain ⟨sz4, sz5, szf⟩ := SX w7 KG7.out; clear ho7 hg7)
            | (refine step_append_src _ rfl (.tmp 83) (.tmp 89) 37 37 rfl X.heap.size 3 i0 (.int .i64 0) 1 8 Tryz.underlying37 hi hz0 hz1 hz2 rfl (.slice a6 L c6) L (intC t.old) (by simp [Act.eval]) (OWN6 _ (by repeat (first | exact Kept.refl _ _ | refine Kept.drew ?_ | refine Kept.alloc ?_ _))) (.slice (some ⟨w6.heap.size, 0, none⟩) 1 1) 1 [.int .i64 hd.n] (by simp [Act.eval]) (src_blkD (by first | exact blk_new w6 _ | exact blk_new w6.drew _)) HLL.out.2.2.1 HLL.out.2.2.2 (Kept.size (Kept.trans KG6.out (by repeat (first | exact Kept.refl _ _ | refine Kept.drew ?_ | refine Kept.alloc ?_ _)))) ?_; intro a7 c7 w7 ho7 hg7; have HO7 : Hid (w7.ownsRow X.heap.size 3 1 (.slice a7 (L + 1) c7) (L + 1) (intC t.old ++ [.int .i64 hd.n])) := ho7; have KG7 : Hid (Kept Nil X w7) := (Kept.trans KG6.out (by repeat (first | exact Kept.refl _ _ | refine Kept.drew ?_ | refine Kept.alloc ?_ _))).grown hg7 (fun g e => own_ge HO6.out e); obtain ⟨sz4, sz5, szf⟩ := SX w7 KG7.out; clear ho7 hg7))
          all_goals
            obtain ⟨V, hV⟩ : ∃ V, V = w7.setCell ⟨b, 4, none⟩ (.slice a7 (L + 1) c7) := ⟨_, rfl⟩
            have HV : Hid (TdAt V b { t with old := t.old ++ [(hd.n : Int)] } ⟨hd, vv, D.d⟩ (some pa) a7 cp c7 ∧ Kept (One b) X V ∧ OwnI B V a7 c7 (t.old ++ [(hd.n : Int)])) := by
              have hl2 : (t.old ++ [(hd.n : Int)]).length = L + 1 := by rw [List.length_append, HLn.out]; rfl
              have h1 := (HTX.out.kept KG7.out).s4 a7 c7 (t.old ++ [(hd.n : Int)])
              rw [hl2] at h1
              have hk : Kept (One b) w7 V := by rw [hV]; exact (Kept.refl _ _).setCell (p := ⟨b, 4, none⟩) (fun _ => rfl) _
              refine ⟨by rw [hV]; exact h1, KG7.out.oneNil.trans hk, ?_⟩
              have h2 : OwnI X.heap.size w7 a7 c7 (t.old ++ [(hd.n : Int)]) := by
                unfold OwnI
                rw [intC_snoc, hl2]
                exact HO7.out
              exact (own_mono (h2.txn (HTX.out.kept KG7.out) hk) (Nat.le_trans HBw.out KX.out.size))
            have ON := don_any V b _ _ (some pa) a7 cp c7 HV.out.1 6 hl ha
            have HUE : Hid (True ∧ u.old = t.old ++ [(hd.n : Int)]) := by
              refine ⟨trivial, ?_⟩
              rw [HUN.out]
              exact further_oldD _ 1 6
            have ON2 : Calls Tryz.prog 66 #[.pointer (some ⟨b, 0, none⟩), .string ⟨#[99, 111, 109, 109, 105, 116]⟩] V fun e w' => e = .returned (.tuple #[]) ∧ TdAt w' b u E (some pa) a7 cp c7 ∧ Kept (One b) V w' := (ON).mono fun e w' ⟨g1, g2, g3⟩ => ⟨g1, by
              rw [HUN.out, HDE.out]
              rw [show ({ t with old := t.old ++ [(hd.n : Int)] } : Tx).ph = 1 from Hp.out] at g2
              exact g2.see r, g3⟩
            clear ON SRO HBX SX OWN6 sx4 sx5 sxf sy4 sy5 syf sz4 sz5 szf
            go_wp2_with fail
            rw [← hV]
            clear hV
            go_fit ON2
            rintro _ w8 ⟨rfl, h8, k8⟩
            have HY : Hid ((∃ o1 c1, TdAt w8 b u E (some pa) o1 cp c1 ∧ OwnI B w8 o1 c1 u.old ∧ NwI oo w o1) ∧ Kept (One b) w w8) := by
              refine ⟨⟨a7, c7, h8, ?_, .inr (fun a e => Nat.le_trans KX.out.size (own_ge HO7.out (by rw [e]; rfl)))⟩, (KX.out.trans HV.out.2.1).trans k8⟩
              rw [HUE.out.2]
              exact HV.out.2.2.txn HV.out.1 k8
            clear h8 k8 ON2
            go_wp2
            go_end0
            exact ⟨rfl, HY.out⟩
    · have y2 : ((hd.b : Int) == (t.id : Int)) = false := by simp; omega
      by_cases cp0 : 0 < hd.b
      · have y3 : ((hd.b : Int) != 0) = true := by simp; omega
        have HUN : Hid (u = { t.see r with ph := 3 }) := by
          show _ = _
          rw [HLk.out]
          unfold Tx.looked'
          rw [if_neg (by rw [hsb]; exact cb), if_pos (by rw [hsb]; exact cp0)]
        clear cb cp0 hsb hsn HLk
        unfold rrV
        go_enter Tryz.func18, Tryz.ntmps18
        go_upto_region 1 with fail
        rw [← hW, ← HAe.out]
        clear hW HAe
        go_wp2_with fail
        go_fit (HF0 W)
        rintro _ w1 ⟨rfl, k1⟩
        have K1 : Hid (Kept Nil W w1) := k1
        clear k1 a0 a1 a2 q2 f2
        have HT1 : Hid (TdAt w1 b t D (some pa) oo cp oc) := HT.out.kept K1.out
        have HA1 : Hid (w1.heap[A]? = some (.cells #[.int .i64 r.kd, .string (bs r.v), .int .i64 r.n, .slice ko r.ks.length kc] 50 (0, 0))) := K1.out.block _ _ HA.out (fun x => x)
        have q5 : w1.cell? ⟨b, 5, none⟩ = some (.int .i64 D.sn.n) := blk_at HT1.out 5 rfl
        have f5 : w1.frozen? ⟨b, 5, none⟩ = false := blk_free HT1.out 5
        have q6 : w1.cell? ⟨b, 6, none⟩ = some (.int .i64 D.sn.b) := blk_at HT1.out 6 rfl
        have f6 : w1.frozen? ⟨b, 6, none⟩ = false := blk_free HT1.out 6
        have q7 : w1.cell? ⟨b, 7, none⟩ = some (.int .i64 D.sn.t) := blk_at HT1.out 7 rfl
        have f7 : w1.frozen? ⟨b, 7, none⟩ = false := blk_free HT1.out 7
        have q8 : w1.cell? ⟨b, 8, none⟩ = some (.int .i64 D.v) := blk_at HT1.out 8 rfl
        have f8 : w1.frozen? ⟨b, 8, none⟩ = false := blk_free HT1.out 8
        obtain ⟨V1, hV1⟩ : ∃ V, V = ((((w1.setCell ⟨b, 5, none⟩ (.int .i64 h0.n)).setCell ⟨b, 6, none⟩ (.int .i64 h0.b)).setCell ⟨b, 7, none⟩ (.int .i64 h0.t)).setCell ⟨b, 8, none⟩ (.int .i64 0)) := ⟨_, rfl⟩
        have HV1 : Hid (TdAt V1 b t ⟨h0, 0, D.d⟩ (some pa) oo cp oc ∧ Kept (One b) W V1 ∧ V1.heap[A]? = some (.cells #[.int .i64 r.kd, .string (bs r.v), .int .i64 r.n, .slice ko r.ks.length kc] 50 (0, 0))) := by rw [hV1]; exact ⟨(HT1.out.s567 h0).s8 0, ((((K1.out.oneNil.setCell (p := ⟨b, 5, none⟩) (fun _ => rfl) _).setCell (p := ⟨b, 6, none⟩) (fun _ => rfl) _).setCell (p := ⟨b, 7, none⟩) (fun _ => rfl) _).setCell (p := ⟨b, 8, none⟩) (fun _ => rfl) _), blk_other (a := ⟨b, 8, none⟩) (blk_other (a := ⟨b, 7, none⟩) (blk_other (a := ⟨b, 6, none⟩) (blk_other (a := ⟨b, 5, none⟩) HA1.out hAb _) hAb _) hAb _) hAb _⟩
        go_upto_region 12 with fail
        rw [← hV1]
        clear hV1 q5 q6 q7 q8 f5 f6 f7 f8 HA1 HT1
        have a1 : V1.cell? ⟨A, 1, none⟩ = some (.string (bs r.v)) := blk_at HV1.out.2.2 1 rfl
        go_wp2_with fail
        go_fit (HF1 V1)
        rintro _ w2 ⟨rfl, k2⟩
        have K2 : Hid (Kept Nil V1 w2) := k2
        clear k2 a1
        have HT2 : Hid (TdAt w2 b t ⟨h0, 0, D.d⟩ (some pa) oo cp oc) := HV1.out.1.kept K2.out
        have a2 : w2.cell? ⟨A, 2, none⟩ = some (.int .i64 r.n) := blk_at (K2.out.block _ _ HV1.out.2.2 (fun x => x)) 2 rfl
        have q5 : w2.cell? ⟨b, 5, none⟩ = some (.int .i64 h0.n) := blk_at HT2.out 5 rfl
        have q6 : w2.cell? ⟨b, 6, none⟩ = some (.int .i64 h0.b) := blk_at HT2.out 6 rfl
        have q7 : w2.cell? ⟨b, 7, none⟩ = some (.int .i64 h0.t) := blk_at HT2.out 7 rfl
        have q8 : w2.cell? ⟨b, 8, none⟩ = some (.int .i64 0) := blk_at HT2.out 8 rfl
        have f5 : w2.frozen? ⟨b, 5, none⟩ = false := blk_free HT2.out 5
        have f6 : w2.frozen? ⟨b, 6, none⟩ = false := blk_free HT2.out 6
        have f7 : w2.frozen? ⟨b, 7, none⟩ = false := blk_free HT2.out 7
        have f8 : w2.frozen? ⟨b, 8, none⟩ = false := blk_free HT2.out 8
        obtain ⟨V, hV⟩ : ∃ V, V = ((((w2.setCell ⟨b, 5, none⟩ (.int .i64 hd.n)).setCell ⟨b, 6, none⟩ (.int .i64 hd.b)).setCell ⟨b, 7, none⟩ (.int .i64 hd.t)).setCell ⟨b, 8, none⟩ (.int .i64 r.n)) := ⟨_, rfl⟩
        have HV : Hid (TdAt V b t ⟨hd, vv, D.d⟩ (some pa) oo cp oc ∧ Kept (One b) W V) := by rw [hV, HVv.out]; exact ⟨(HT2.out.s567 hd).s8 r.n, (((((HV1.out.2.1.trans K2.out.oneNil).setCell (p := ⟨b, 5, none⟩) (fun _ => rfl) _).setCell (p := ⟨b, 6, none⟩) (fun _ => rfl) _).setCell (p := ⟨b, 7, none⟩) (fun _ => rfl) _).setCell (p := ⟨b, 8, none⟩) (fun _ => rfl) _)⟩
        go_upto_region 14 with fail
        rw [← hV]
        clear hV a2 q5 q6 q7 q8 f5 f6 f7 f8 HT2
        have c1 : V.cell? ⟨(pa.add (t.at' * 2)).block, (pa.add (t.at' * 2)).off + 1, none⟩ = some (.int .i64 pz) := HPZ.out V HV.out.2
        have v0 : V.cell? ⟨b, 0, none⟩ = some (.int .i64 t.id) := blk_at HV.out.1 0 rfl
        have v1 : V.cell? ⟨b, 1, none⟩ = some (.slice (some pa) t.ps.length cp) := blk_at HV.out.1 1 rfl
        have v3 : V.cell? ⟨b, 3, none⟩ = some (.int .i64 t.at') := blk_at HV.out.1 3 rfl
        have v5 : V.cell? ⟨b, 5, none⟩ = some (.int .i64 hd.n) := blk_at HV.out.1 5 rfl
        have v6 : V.cell? ⟨b, 6, none⟩ = some (.int .i64 hd.b) := blk_at HV.out.1 6 rfl
        go_region
        all_goals
          go_upto_region 16 with fail
          go_region
          all_goals
            have v62 : V.drew.drew.cell? ⟨b, 6, none⟩ = some (.int .i64 hd.b) := blk_at HV.out.1.drew.drew 6 rfl
            go_upto_region 20 with fail
            clear c1 v0 v1 v3 v5 v6 v62
            obtain ⟨X, hX⟩ : ∃ X, X = V.drew.drew := ⟨_, rfl⟩
            have HTX : Hid (TdAt X b t ⟨hd, vv, D.d⟩ (some pa) oo cp oc) := by rw [hX]; exact HV.out.1.drew.drew
            have KX : Hid (Kept (One b) w X) := by rw [hX]; exact ((KW.out.oneNil.trans HV.out.2).drew).drew
            have HOX : Hid (OwnI B X oo oc t.old) := by rw [hX]; exact ((HO.out.txn HT.out HV.out.2).kept (Kept.refl _ _).drew).kept (Kept.refl _ _).drew
            rw [← hX]
            clear hX
            obtain ⟨Y, hY⟩ : ∃ Y, Y = X.setCell ⟨b, 2, none⟩ (.string ⟨#[97, 115, 107]⟩) := ⟨_, rfl⟩
            have HY : Hid ((∃ o1 c1, TdAt Y b u E (some pa) o1 cp c1 ∧ OwnI B Y o1 c1 u.old ∧ NwI oo w o1) ∧ Kept (One b) w Y) := by
              have hk : Kept (One b) X Y := by rw [hY]; exact (Kept.refl _ _).setCell (p := ⟨b, 2, none⟩) (fun _ => rfl) _
              refine ⟨⟨oo, oc, ?_, ?_, .inl rfl⟩, KX.out.trans hk⟩
              · rw [HUN.out, HDE.out, hY]
                exact HTX.out.s2 3
              · rw [HUN.out]
                exact HOX.out.txn HTX.out hk
            have x2 : X.cell? ⟨b, 2, none⟩ = some (.string (bs (phW t.ph))) := blk_at HTX.out 2 rfl
            have xf2 : X.frozen? ⟨b, 2, none⟩ = false := blk_free HTX.out 2
            go_wp2
            rw [← hY]
            go_end0
            exact ⟨rfl, HY.out⟩
      · have y3 : ((hd.b : Int) != 0) = false := by simp; omega
        by_cases cz : zz < 0 ∨ 999999999 < zz
        · have HUN : Hid (u = { t.see r with ph := 7 }) := by
            show _ = _
            rw [HLk.out]
            unfold Tx.looked'
            rw [if_neg (by rw [hsb]; exact cb), if_neg (by rw [hsb]; exact cp0), if_pos (by rw [HTZ.out]; exact cz)]
          have hz : zz < 0 ∨ (¬ zz < 0 ∧ 999999999 < zz) := by omega
          clear cb cp0 hsb hsn HLk cz
          rcases hz with z1 | ⟨z1, z2⟩
          · unfold rrV
            go_enter Tryz.func18, Tryz.ntmps18
            go_upto_region 1 with fail
            rw [← hW, ← HAe.out]
            clear hW HAe
            go_wp2_with fail
            go_fit (HF0 W)
            rintro _ w1 ⟨rfl, k1⟩
            have K1 : Hid (Kept Nil W w1) := k1
            clear k1 a0 a1 a2 q2 f2
            have HT1 : Hid (TdAt w1 b t D (some pa) oo cp oc) := HT.out.kept K1.out
            have HA1 : Hid (w1.heap[A]? = some (.cells #[.int .i64 r.kd, .string (bs r.v), .int .i64 r.n, .slice ko r.ks.length kc] 50 (0, 0))) := K1.out.block _ _ HA.out (fun x => x)
            have q5 : w1.cell? ⟨b, 5, none⟩ = some (.int .i64 D.sn.n) := blk_at HT1.out 5 rfl
            have f5 : w1.frozen? ⟨b, 5, none⟩ = false := blk_free HT1.out 5
            have q6 : w1.cell? ⟨b, 6, none⟩ = some (.int .i64 D.sn.b) := blk_at HT1.out 6 rfl
            have f6 : w1.frozen? ⟨b, 6, none⟩ = false := blk_free HT1.out 6
            have q7 : w1.cell? ⟨b, 7, none⟩ = some (.int .i64 D.sn.t) := blk_at HT1.out 7 rfl
            have f7 : w1.frozen? ⟨b, 7, none⟩ = false := blk_free HT1.out 7
            have q8 : w1.cell? ⟨b, 8, none⟩ = some (.int .i64 D.v) := blk_at HT1.out 8 rfl
            have f8 : w1.frozen? ⟨b, 8, none⟩ = false := blk_free HT1.out 8
            obtain ⟨V1, hV1⟩ : ∃ V, V = ((((w1.setCell ⟨b, 5, none⟩ (.int .i64 h0.n)).setCell ⟨b, 6, none⟩ (.int .i64 h0.b)).setCell ⟨b, 7, none⟩ (.int .i64 h0.t)).setCell ⟨b, 8, none⟩ (.int .i64 0)) := ⟨_, rfl⟩
            have HV1 : Hid (TdAt V1 b t ⟨h0, 0, D.d⟩ (some pa) oo cp oc ∧ Kept (One b) W V1 ∧ V1.heap[A]? = some (.cells #[.int .i64 r.kd, .string (bs r.v), .int .i64 r.n, .slice ko r.ks.length kc] 50 (0, 0))) := by rw [hV1]; exact ⟨(HT1.out.s567 h0).s8 0, ((((K1.out.oneNil.setCell (p := ⟨b, 5, none⟩) (fun _ => rfl) _).setCell (p := ⟨b, 6, none⟩) (fun _ => rfl) _).setCell (p := ⟨b, 7, none⟩) (fun _ => rfl) _).setCell (p := ⟨b, 8, none⟩) (fun _ => rfl) _), blk_other (a := ⟨b, 8, none⟩) (blk_other (a := ⟨b, 7, none⟩) (blk_other (a := ⟨b, 6, none⟩) (blk_other (a := ⟨b, 5, none⟩) HA1.out hAb _) hAb _) hAb _) hAb _⟩
            go_upto_region 12 with fail
            rw [← hV1]
            clear hV1 q5 q6 q7 q8 f5 f6 f7 f8 HA1 HT1
            have a1 : V1.cell? ⟨A, 1, none⟩ = some (.string (bs r.v)) := blk_at HV1.out.2.2 1 rfl
            go_wp2_with fail
            go_fit (HF1 V1)
            rintro _ w2 ⟨rfl, k2⟩
            have K2 : Hid (Kept Nil V1 w2) := k2
            clear k2 a1
            have HT2 : Hid (TdAt w2 b t ⟨h0, 0, D.d⟩ (some pa) oo cp oc) := HV1.out.1.kept K2.out
            have a2 : w2.cell? ⟨A, 2, none⟩ = some (.int .i64 r.n) := blk_at (K2.out.block _ _ HV1.out.2.2 (fun x => x)) 2 rfl
            have q5 : w2.cell? ⟨b, 5, none⟩ = some (.int .i64 h0.n) := blk_at HT2.out 5 rfl
            have q6 : w2.cell? ⟨b, 6, none⟩ = some (.int .i64 h0.b) := blk_at HT2.out 6 rfl
            have q7 : w2.cell? ⟨b, 7, none⟩ = some (.int .i64 h0.t) := blk_at HT2.out 7 rfl
            have q8 : w2.cell? ⟨b, 8, none⟩ = some (.int .i64 0) := blk_at HT2.out 8 rfl
            have f5 : w2.frozen? ⟨b, 5, none⟩ = false := blk_free HT2.out 5
            have f6 : w2.frozen? ⟨b, 6, none⟩ = false := blk_free HT2.out 6
            have f7 : w2.frozen? ⟨b, 7, none⟩ = false := blk_free HT2.out 7
            have f8 : w2.frozen? ⟨b, 8, none⟩ = false := blk_free HT2.out 8
            obtain ⟨V, hV⟩ : ∃ V, V = ((((w2.setCell ⟨b, 5, none⟩ (.int .i64 hd.n)).setCell ⟨b, 6, none⟩ (.int .i64 hd.b)).setCell ⟨b, 7, none⟩ (.int .i64 hd.t)).setCell ⟨b, 8, none⟩ (.int .i64 r.n)) := ⟨_, rfl⟩
            have HV : Hid (TdAt V b t ⟨hd, vv, D.d⟩ (some pa) oo cp oc ∧ Kept (One b) W V) := by rw [hV, HVv.out]; exact ⟨(HT2.out.s567 hd).s8 r.n, (((((HV1.out.2.1.trans K2.out.oneNil).setCell (p := ⟨b, 5, none⟩) (fun _ => rfl) _).setCell (p := ⟨b, 6, none⟩) (fun _ => rfl) _).setCell (p := ⟨b, 7, none⟩) (fun _ => rfl) _).setCell (p := ⟨b, 8, none⟩) (fun _ => rfl) _)⟩
            go_upto_region 14 with fail
            rw [← hV]
            clear hV a2 q5 q6 q7 q8 f5 f6 f7 f8 HT2
            have c1 : V.cell? ⟨(pa.add (t.at' * 2)).block, (pa.add (t.at' * 2)).off + 1, none⟩ = some (.int .i64 pz) := HPZ.out V HV.out.2
            have v0 : V.cell? ⟨b, 0, none⟩ = some (.int .i64 t.id) := blk_at HV.out.1 0 rfl
            have v1 : V.cell? ⟨b, 1, none⟩ = some (.slice (some pa) t.ps.length cp) := blk_at HV.out.1 1 rfl
            have v3 : V.cell? ⟨b, 3, none⟩ = some (.int .i64 t.at') := blk_at HV.out.1 3 rfl
            have v5 : V.cell? ⟨b, 5, none⟩ = some (.int .i64 hd.n) := blk_at HV.out.1 5 rfl
            have v6 : V.cell? ⟨b, 6, none⟩ = some (.int .i64 hd.b) := blk_at HV.out.1 6 rfl
            go_region
            all_goals
              go_upto_region 16 with fail
              go_region
              all_goals
                have v62 : V.drew.drew.cell? ⟨b, 6, none⟩ = some (.int .i64 hd.b) := blk_at HV.out.1.drew.drew 6 rfl
                go_upto_region 22 with fail
                clear c1 v0 v1 v3 v5 v6 v62
                obtain ⟨X, hX⟩ : ∃ X, X = V.drew.drew := ⟨_, rfl⟩
                have HTX : Hid (TdAt X b t ⟨hd, vv, D.d⟩ (some pa) oo cp oc) := by rw [hX]; exact HV.out.1.drew.drew
                have KX : Hid (Kept (One b) w X) := by rw [hX]; exact ((KW.out.oneNil.trans HV.out.2).drew).drew
                have HOX : Hid (OwnI B X oo oc t.old) := by rw [hX]; exact ((HO.out.txn HT.out HV.out.2).kept (Kept.refl _ _).drew).kept (Kept.refl _ _).drew
                rw [← hX]
                clear hX
                obtain ⟨Y, hY⟩ : ∃ Y, Y = X.setCell ⟨b, 2, none⟩ (.string ⟨#[97, 98, 111, 114, 116]⟩) := ⟨_, rfl⟩
                have HY : Hid ((∃ o1 c1, TdAt Y b u E (some pa) o1 cp c1 ∧ OwnI B Y o1 c1 u.old ∧ NwI oo w o1) ∧ Kept (One b) w Y) := by
                  have hk : Kept (One b) X Y := by rw [hY]; exact (Kept.refl _ _).setCell (p := ⟨b, 2, none⟩) (fun _ => rfl) _
                  refine ⟨⟨oo, oc, ?_, ?_, .inl rfl⟩, KX.out.trans hk⟩
                  · rw [HUN.out, HDE.out, hY]
                    exact HTX.out.s2 7
                  · rw [HUN.out]
                    exact HOX.out.txn HTX.out hk
                have x2 : X.cell? ⟨b, 2, none⟩ = some (.string (bs (phW t.ph))) := blk_at HTX.out 2 rfl
                have xf2 : X.frozen? ⟨b, 2, none⟩ = false := blk_free HTX.out 2
                go_wp2
                rw [← hY]
                go_end0
                exact ⟨rfl, HY.out⟩
          · unfold rrV
            go_enter Tryz.func18, Tryz.ntmps18
            go_upto_region 1 with fail
            rw [← hW, ← HAe.out]
            clear hW HAe
            go_wp2_with fail
            go_fit (HF0 W)
            rintro _ w1 ⟨rfl, k1⟩
            have K1 : Hid (Kept Nil W w1) := k1
            clear k1 a0 a1 a2 q2 f2
            have HT1 : Hid (TdAt w1 b t D (some pa) oo cp oc) := HT.out.kept K1.out
            have HA1 : Hid (w1.heap[A]? = some (.cells #[.int .i64 r.kd, .string (bs r.v), .int .i64 r.n, .slice ko r.ks.length kc] 50 (0, 0))) := K1.out.block _ _ HA.out (fun x => x)
            have q5 : w1.cell? ⟨b, 5, none⟩ = some (.int .i64 D.sn.n) := blk_at HT1.out 5 rfl
            have f5 : w1.frozen? ⟨b, 5, none⟩ = false := blk_free HT1.out 5
            have q6 : w1.cell? ⟨b, 6, none⟩ = some (.int .i64 D.sn.b) := blk_at HT1.out 6 rfl
            have f6 : w1.frozen? ⟨b, 6, none⟩ = false := blk_free HT1.out 6
            have q7 : w1.cell? ⟨b, 7, none⟩ = some (.int .i64 D.sn.t) := blk_at HT1.out 7 rfl
            have f7 : w1.frozen? ⟨b, 7, none⟩ = false := blk_free HT1.out 7
            have q8 : w1.cell? ⟨b, 8, none⟩ = some (.int .i64 D.v) := blk_at HT1.out 8 rfl
            have f8 : w1.frozen? ⟨b, 8, none⟩ = false := blk_free HT1.out 8
            obtain ⟨V1, hV1⟩ : ∃ V, V = ((((w1.setCell ⟨b, 5, none⟩ (.int .i64 h0.n)).setCell ⟨b, 6, none⟩ (.int .i64 h0.b)).setCell ⟨b, 7, none⟩ (.int .i64 h0.t)).setCell ⟨b, 8, none⟩ (.int .i64 0)) := ⟨_, rfl⟩
            have HV1 : Hid (TdAt V1 b t ⟨h0, 0, D.d⟩ (some pa) oo cp oc ∧ Kept (One b) W V1 ∧ V1.heap[A]? = some (.cells #[.int .i64 r.kd, .string (bs r.v), .int .i64 r.n, .slice ko r.ks.length kc] 50 (0, 0))) := by rw [hV1]; exact ⟨(HT1.out.s567 h0).s8 0, ((((K1.out.oneNil.setCell (p := ⟨b, 5, none⟩) (fun _ => rfl) _).setCell (p := ⟨b, 6, none⟩) (fun _ => rfl) _).setCell (p := ⟨b, 7, none⟩) (fun _ => rfl) _).setCell (p := ⟨b, 8, none⟩) (fun _ => rfl) _), blk_other (a := ⟨b, 8, none⟩) (blk_other (a := ⟨b, 7, none⟩) (blk_other (a := ⟨b, 6, none⟩) (blk_other (a := ⟨b, 5, none⟩) HA1.out hAb _) hAb _) hAb _) hAb _⟩
            go_upto_region 12 with fail
            rw [← hV1]
            clear hV1 q5 q6 q7 q8 f5 f6 f7 f8 HA1 HT1
            have a1 : V1.cell? ⟨A, 1, none⟩ = some (.string (bs r.v)) := blk_at HV1.out.2.2 1 rfl
            go_wp2_with fail
            go_fit (HF1 V1)
            rintro _ w2 ⟨rfl, k2⟩
            have K2 : Hid (Kept Nil V1 w2) := k2
            clear k2 a1
            have HT2 : Hid (TdAt w2 b t ⟨h0, 0, D.d⟩ (some pa) oo cp oc) := HV1.out.1.kept K2.out
            have a2 : w2.cell? ⟨A, 2, none⟩ = some (.int .i64 r.n) := blk_at (K2.out.block _ _ HV1.out.2.2 (fun x => x)) 2 rfl
            have q5 : w2.cell? ⟨b, 5, none⟩ = some (.int .i64 h0.n) := blk_at HT2.out 5 rfl
            have q6 : w2.cell? ⟨b, 6, none⟩ = some (.int .i64 h0.b) := blk_at HT2.out 6 rfl
            have q7 : w2.cell? ⟨b, 7, none⟩ = some (.int .i64 h0.t) := blk_at HT2.out 7 rfl
            have q8 : w2.cell? ⟨b, 8, none⟩ = some (.int .i64 0) := blk_at HT2.out 8 rfl
            have f5 : w2.frozen? ⟨b, 5, none⟩ = false := blk_free HT2.out 5
            have f6 : w2.frozen? ⟨b, 6, none⟩ = false := blk_free HT2.out 6
            have f7 : w2.frozen? ⟨b, 7, none⟩ = false := blk_free HT2.out 7
            have f8 : w2.frozen? ⟨b, 8, none⟩ = false := blk_free HT2.out 8
            obtain ⟨V, hV⟩ : ∃ V, V = ((((w2.setCell ⟨b, 5, none⟩ (.int .i64 hd.n)).setCell ⟨b, 6, none⟩ (.int .i64 hd.b)).setCell ⟨b, 7, none⟩ (.int .i64 hd.t)).setCell ⟨b, 8, none⟩ (.int .i64 r.n)) := ⟨_, rfl⟩
            have HV : Hid (TdAt V b t ⟨hd, vv, D.d⟩ (some pa) oo cp oc ∧ Kept (One b) W V) := by rw [hV, HVv.out]; exact ⟨(HT2.out.s567 hd).s8 r.n, (((((HV1.out.2.1.trans K2.out.oneNil).setCell (p := ⟨b, 5, none⟩) (fun _ => rfl) _).setCell (p := ⟨b, 6, none⟩) (fun _ => rfl) _).setCell (p := ⟨b, 7, none⟩) (fun _ => rfl) _).setCell (p := ⟨b, 8, none⟩) (fun _ => rfl) _)⟩
            go_upto_region 14 with fail
            rw [← hV]
            clear hV a2 q5 q6 q7 q8 f5 f6 f7 f8 HT2
            have c1 : V.cell? ⟨(pa.add (t.at' * 2)).block, (pa.add (t.at' * 2)).off + 1, none⟩ = some (.int .i64 pz) := HPZ.out V HV.out.2
            have v0 : V.cell? ⟨b, 0, none⟩ = some (.int .i64 t.id) := blk_at HV.out.1 0 rfl
            have v1 : V.cell? ⟨b, 1, none⟩ = some (.slice (some pa) t.ps.length cp) := blk_at HV.out.1 1 rfl
            have v3 : V.cell? ⟨b, 3, none⟩ = some (.int .i64 t.at') := blk_at HV.out.1 3 rfl
            have v5 : V.cell? ⟨b, 5, none⟩ = some (.int .i64 hd.n) := blk_at HV.out.1 5 rfl
            have v6 : V.cell? ⟨b, 6, none⟩ = some (.int .i64 hd.b) := blk_at HV.out.1 6 rfl
            go_region
            all_goals
              go_upto_region 16 with fail
              go_region
              all_goals
                have v62 : V.drew.drew.cell? ⟨b, 6, none⟩ = some (.int .i64 hd.b) := blk_at HV.out.1.drew.drew 6 rfl
                go_upto_region 22 with fail
                clear c1 v0 v1 v3 v5 v6 v62
                obtain ⟨X, hX⟩ : ∃ X, X = V.drew.drew := ⟨_, rfl⟩
                have HTX : Hid (TdAt X b t ⟨hd, vv, D.d⟩ (some pa) oo cp oc) := by rw [hX]; exact HV.out.1.drew.drew
                have KX : Hid (Kept (One b) w X) := by rw [hX]; exact ((KW.out.oneNil.trans HV.out.2).drew).drew
                have HOX : Hid (OwnI B X oo oc t.old) := by rw [hX]; exact ((HO.out.txn HT.out HV.out.2).kept (Kept.refl _ _).drew).kept (Kept.refl _ _).drew
                rw [← hX]
                clear hX
                obtain ⟨Y, hY⟩ : ∃ Y, Y = X.setCell ⟨b, 2, none⟩ (.string ⟨#[97, 98, 111, 114, 116]⟩) := ⟨_, rfl⟩
                have HY : Hid ((∃ o1 c1, TdAt Y b u E (some pa) o1 cp c1 ∧ OwnI B Y o1 c1 u.old ∧ NwI oo w o1) ∧ Kept (One b) w Y) := by
                  have hk : Kept (One b) X Y := by rw [hY]; exact (Kept.refl _ _).setCell (p := ⟨b, 2, none⟩) (fun _ => rfl) _
                  refine ⟨⟨oo, oc, ?_, ?_, .inl rfl⟩, KX.out.trans hk⟩
                  · rw [HUN.out, HDE.out, hY]
                    exact HTX.out.s2 7
                  · rw [HUN.out]
                    exact HOX.out.txn HTX.out hk
                have x2 : X.cell? ⟨b, 2, none⟩ = some (.string (bs (phW t.ph))) := blk_at HTX.out 2 rfl
                have xf2 : X.frozen? ⟨b, 2, none⟩ = false := blk_free HTX.out 2
                go_wp2
                rw [← hY]
                go_end0
                exact ⟨rfl, HY.out⟩
        · have HUN : Hid (u = { t.see r with ph := 2 }) := by
            show _ = _
            rw [HLk.out]
            unfold Tx.looked'
            rw [if_neg (by rw [hsb]; exact cb), if_neg (by rw [hsb]; exact cp0), if_neg (by rw [HTZ.out]; exact cz)]
          have z1 : ¬ zz < 0 := by omega
          have z2 : ¬ 999999999 < zz := by omega
          clear cb cp0 hsb hsn HLk cz
          unfold rrV
          go_enter Tryz.func18, Tryz.ntmps18
          go_upto_region 1 with fail
          rw [← hW, ← HAe.out]
          clear hW HAe
          go_wp2_with fail
          go_fit (HF0 W)
          rintro _ w1 ⟨rfl, k1⟩
          have K1 : Hid (Kept Nil W w1) := k1
          clear k1 a0 a1 a2 q2 f2
          have HT1 : Hid (TdAt w1 b t D (some pa) oo cp oc) := HT.out.kept K1.out
          have HA1 : Hid (w1.heap[A]? = some (.cells #[.int .i64 r.kd, .string (bs r.v), .int .i64 r.n, .slice ko r.ks.length kc] 50 (0, 0))) := K1.out.block _ _ HA.out (fun x => x)
          have q5 : w1.cell? ⟨b, 5, none⟩ = some (.int .i64 D.sn.n) := blk_at HT1.out 5 rfl
          have f5 : w1.frozen? ⟨b, 5, none⟩ = false := blk_free HT1.out 5
          have q6 : w1.cell? ⟨b, 6, none⟩ = some (.int .i64 D.sn.b) := blk_at HT1.out 6 rfl
          have f6 : w1.frozen? ⟨b, 6, none⟩ = false := blk_free HT1.out 6
          have q7 : w1.cell? ⟨b, 7, none⟩ = some (.int .i64 D.sn.t) := blk_at HT1.out 7 rfl
          have f7 : w1.frozen? ⟨b, 7, none⟩ = false := blk_free HT1.out 7
          have q8 : w1.cell? ⟨b, 8, none⟩ = some (.int .i64 D.v) := blk_at HT1.out 8 rfl
          have f8 : w1.frozen? ⟨b, 8, none⟩ = false := blk_free HT1.out 8
          obtain ⟨V1, hV1⟩ : ∃ V, V = ((((w1.setCell ⟨b, 5, none⟩ (.int .i64 h0.n)).setCell ⟨b, 6, none⟩ (.int .i64 h0.b)).setCell ⟨b, 7, none⟩ (.int .i64 h0.t)).setCell ⟨b, 8, none⟩ (.int .i64 0)) := ⟨_, rfl⟩
          have HV1 : Hid (TdAt V1 b t ⟨h0, 0, D.d⟩ (some pa) oo cp oc ∧ Kept (One b) W V1 ∧ V1.heap[A]? = some (.cells #[.int .i64 r.kd, .string (bs r.v), .int .i64 r.n, .slice ko r.ks.length kc] 50 (0, 0))) := by rw [hV1]; exact ⟨(HT1.out.s567 h0).s8 0, ((((K1.out.oneNil.setCell (p := ⟨b, 5, none⟩) (fun _ => rfl) _).setCell (p := ⟨b, 6, none⟩) (fun _ => rfl) _).setCell (p := ⟨b, 7, none⟩) (fun _ => rfl) _).setCell (p := ⟨b, 8, none⟩) (fun _ => rfl) _), blk_other (a := ⟨b, 8, none⟩) (blk_other (a := ⟨b, 7, none⟩) (blk_other (a := ⟨b, 6, none⟩) (blk_other (a := ⟨b, 5, none⟩) HA1.out hAb _) hAb _) hAb _) hAb _⟩
          go_upto_region 12 with fail
          rw [← hV1]
          clear hV1 q5 q6 q7 q8 f5 f6 f7 f8 HA1 HT1
          have a1 : V1.cell? ⟨A, 1, none⟩ = some (.string (bs r.v)) := blk_at HV1.out.2.2 1 rfl
          go_wp2_with fail
          go_fit (HF1 V1)
          rintro _ w2 ⟨rfl, k2⟩
          have K2 : Hid (Kept Nil V1 w2) := k2
          clear k2 a1
          have HT2 : Hid (TdAt w2 b t ⟨h0, 0, D.d⟩ (some pa) oo cp oc) := HV1.out.1.kept K2.out
          have a2 : w2.cell? ⟨A, 2, none⟩ = some (.int .i64 r.n) := blk_at (K2.out.block _ _ HV1.out.2.2 (fun x => x)) 2 rfl
          have q5 : w2.cell? ⟨b, 5, none⟩ = some (.int .i64 h0.n) := blk_at HT2.out 5 rfl
          have q6 : w2.cell? ⟨b, 6, none⟩ = some (.int .i64 h0.b) := blk_at HT2.out 6 rfl
          have q7 : w2.cell? ⟨b, 7, none⟩ = some (.int .i64 h0.t) := blk_at HT2.out 7 rfl
          have q8 : w2.cell? ⟨b, 8, none⟩ = some (.int .i64 0) := blk_at HT2.out 8 rfl
          have f5 : w2.frozen? ⟨b, 5, none⟩ = false := blk_free HT2.out 5
          have f6 : w2.frozen? ⟨b, 6, none⟩ = false := blk_free HT2.out 6
          have f7 : w2.frozen? ⟨b, 7, none⟩ = false := blk_free HT2.out 7
          have f8 : w2.frozen? ⟨b, 8, none⟩ = false := blk_free HT2.out 8
          obtain ⟨V, hV⟩ : ∃ V, V = ((((w2.setCell ⟨b, 5, none⟩ (.int .i64 hd.n)).setCell ⟨b, 6, none⟩ (.int .i64 hd.b)).setCell ⟨b, 7, none⟩ (.int .i64 hd.t)).setCell ⟨b, 8, none⟩ (.int .i64 r.n)) := ⟨_, rfl⟩
          have HV : Hid (TdAt V b t ⟨hd, vv, D.d⟩ (some pa) oo cp oc ∧ Kept (One b) W V) := by rw [hV, HVv.out]; exact ⟨(HT2.out.s567 hd).s8 r.n, (((((HV1.out.2.1.trans K2.out.oneNil).setCell (p := ⟨b, 5, none⟩) (fun _ => rfl) _).setCell (p := ⟨b, 6, none⟩) (fun _ => rfl) _).setCell (p := ⟨b, 7, none⟩) (fun _ => rfl) _).setCell (p := ⟨b, 8, none⟩) (fun _ => rfl) _)⟩
          go_upto_region 14 with fail
          rw [← hV]
          clear hV a2 q5 q6 q7 q8 f5 f6 f7 f8 HT2
          have c1 : V.cell? ⟨(pa.add (t.at' * 2)).block, (pa.add (t.at' * 2)).off + 1, none⟩ = some (.int .i64 pz) := HPZ.out V HV.out.2
          have v0 : V.cell? ⟨b, 0, none⟩ = some (.int .i64 t.id) := blk_at HV.out.1 0 rfl
          have v1 : V.cell? ⟨b, 1, none⟩ = some (.slice (some pa) t.ps.length cp) := blk_at HV.out.1 1 rfl
          have v3 : V.cell? ⟨b, 3, none⟩ = some (.int .i64 t.at') := blk_at HV.out.1 3 rfl
          have v5 : V.cell? ⟨b, 5, none⟩ = some (.int .i64 hd.n) := blk_at HV.out.1 5 rfl
          have v6 : V.cell? ⟨b, 6, none⟩ = some (.int .i64 hd.b) := blk_at HV.out.1 6 rfl
          go_region
          all_goals
            go_upto_region 16 with fail
            go_region
            all_goals
              have v62 : V.drew.drew.cell? ⟨b, 6, none⟩ = some (.int .i64 hd.b) := blk_at HV.out.1.drew.drew 6 rfl
              go_upto_region 15 with fail
              clear c1 v0 v1 v3 v5 v6 v62
              obtain ⟨X, hX⟩ : ∃ X, X = V.drew.drew := ⟨_, rfl⟩
              have HTX : Hid (TdAt X b t ⟨hd, vv, D.d⟩ (some pa) oo cp oc) := by rw [hX]; exact HV.out.1.drew.drew
              have KX : Hid (Kept (One b) w X) := by rw [hX]; exact ((KW.out.oneNil.trans HV.out.2).drew).drew
              have HOX : Hid (OwnI B X oo oc t.old) := by rw [hX]; exact ((HO.out.txn HT.out HV.out.2).kept (Kept.refl _ _).drew).kept (Kept.refl _ _).drew
              rw [← hX]
              clear hX
              obtain ⟨Y, hY⟩ : ∃ Y, Y = X.setCell ⟨b, 2, none⟩ (.string ⟨#[104, 111, 108, 100]⟩) := ⟨_, rfl⟩
              have HY : Hid ((∃ o1 c1, TdAt Y b u E (some pa) o1 cp c1 ∧ OwnI B Y o1 c1 u.old ∧ NwI oo w o1) ∧ Kept (One b) w Y) := by
                have hk : Kept (One b) X Y := by rw [hY]; exact (Kept.refl _ _).setCell (p := ⟨b, 2, none⟩) (fun _ => rfl) _
                refine ⟨⟨oo, oc, ?_, ?_, .inl rfl⟩, KX.out.trans hk⟩
                · rw [HUN.out, HDE.out, hY]
                  exact HTX.out.s2 2
                · rw [HUN.out]
                  exact HOX.out.txn HTX.out hk
              have x2 : X.cell? ⟨b, 2, none⟩ = some (.string (bs (phW t.ph))) := blk_at HTX.out 2 rfl
              have xf2 : X.frozen? ⟨b, 2, none⟩ = false := blk_free HTX.out 2
              go_wp2
              rw [← hY]
              go_end0
              exact ⟨rfl, HY.out⟩
  · have y1 : (r.kd == 1) = false := by simp [c1]
    have HVv : Hid (vv = 0) := by show _ = _; rw [HVv0.out]; unfold versR; rw [if_neg c1]
    have H0 : Hid (hd = h0) := by show _ = _; rw [Hhd.out, Hh0.out]; unfold saidR; rw [if_neg c1]
    clear c1
    by_cases cb : hd.b = t.id
    · have y2 : ((hd.b : Int) == (t.id : Int)) = true := by simp; omega
      have HUN : Hid (u = (({ t with old := t.old ++ [(hd.n : Int)] } : Tx).see r).further 1 6) := by
        show _ = _
        rw [HLk.out]
        unfold Tx.looked'
        rw [if_pos (by rw [hsb]; exact cb)]
        unfold Tx.note
        rw [hsn]
        rfl
      clear cb hsb hsn HLk
      unfold rrV
      go_enter Tryz.func18, Tryz.ntmps18
      go_upto_region 1 with fail
      rw [← hW, ← HAe.out]
      clear hW HAe
      go_wp2_with fail
      go_fit (HF0 W)
      rintro _ w1 ⟨rfl, k1⟩
      have K1 : Hid (Kept Nil W w1) := k1
      clear k1 a0 a1 a2 q2 f2
      have HT1 : Hid (TdAt w1 b t D (some pa) oo cp oc) := HT.out.kept K1.out
      have HA1 : Hid (w1.heap[A]? = some (.cells #[.int .i64 r.kd, .string (bs r.v), .int .i64 r.n, .slice ko r.ks.length kc] 50 (0, 0))) := K1.out.block _ _ HA.out (fun x => x)
      have q5 : w1.cell? ⟨b, 5, none⟩ = some (.int .i64 D.sn.n) := blk_at HT1.out 5 rfl
      have f5 : w1.frozen? ⟨b, 5, none⟩ = false := blk_free HT1.out 5
      have q6 : w1.cell? ⟨b, 6, none⟩ = some (.int .i64 D.sn.b) := blk_at HT1.out 6 rfl
      have f6 : w1.frozen? ⟨b, 6, none⟩ = false := blk_free HT1.out 6
      have q7 : w1.cell? ⟨b, 7, none⟩ = some (.int .i64 D.sn.t) := blk_at HT1.out 7 rfl
      have f7 : w1.frozen? ⟨b, 7, none⟩ = false := blk_free HT1.out 7
      have q8 : w1.cell? ⟨b, 8, none⟩ = some (.int .i64 D.v) := blk_at HT1.out 8 rfl
      have f8 : w1.frozen? ⟨b, 8, none⟩ = false := blk_free HT1.out 8
      obtain ⟨V, hV⟩ : ∃ V, V = ((((w1.setCell ⟨b, 5, none⟩ (.int .i64 h0.n)).setCell ⟨b, 6, none⟩ (.int .i64 h0.b)).setCell ⟨b, 7, none⟩ (.int .i64 h0.t)).setCell ⟨b, 8, none⟩ (.int .i64 0)) := ⟨_, rfl⟩
      have HV : Hid (TdAt V b t ⟨hd, vv, D.d⟩ (some pa) oo cp oc ∧ Kept (One b) W V) := by rw [hV, HVv.out, H0.out]; exact ⟨(HT1.out.s567 h0).s8 0, ((((K1.out.oneNil.setCell (p := ⟨b, 5, none⟩) (fun _ => rfl) _).setCell (p := ⟨b, 6, none⟩) (fun _ => rfl) _).setCell (p := ⟨b, 7, none⟩) (fun _ => rfl) _).setCell (p := ⟨b, 8, none⟩) (fun _ => rfl) _)⟩
      go_upto_region 14 with fail
      rw [← hV]
      clear hV q5 q6 q7 q8 f5 f6 f7 f8 HA1 HT1
      have c1 : V.cell? ⟨(pa.add (t.at' * 2)).block, (pa.add (t.at' * 2)).off + 1, none⟩ = some (.int .i64 pz) := HPZ.out V HV.out.2
      have v0 : V.cell? ⟨b, 0, none⟩ = some (.int .i64 t.id) := blk_at HV.out.1 0 rfl
      have v1 : V.cell? ⟨b, 1, none⟩ = some (.slice (some pa) t.ps.length cp) := blk_at HV.out.1 1 rfl
      have v3 : V.cell? ⟨b, 3, none⟩ = some (.int .i64 t.at') := blk_at HV.out.1 3 rfl
      have v5 : V.cell? ⟨b, 5, none⟩ = some (.int .i64 hd.n) := blk_at HV.out.1 5 rfl
      have v6 : V.cell? ⟨b, 6, none⟩ = some (.int .i64 hd.b) := blk_at HV.out.1 6 rfl
      go_region
      all_goals
        go_upto_region 16 with fail
        go_region
        all_goals
          go_upto_region 17 with fail
          clear c1 v0 v1 v3 v5 v6
          obtain ⟨X, hX⟩ : ∃ X, X = V.drew.drew := ⟨_, rfl⟩
          have HTX : Hid (TdAt X b t ⟨hd, vv, D.d⟩ (some pa) oo cp oc) := by rw [hX]; exact HV.out.1.drew.drew
          have KX : Hid (Kept (One b) w X) := by rw [hX]; exact ((KW.out.oneNil.trans HV.out.2).drew).drew
          have HOX : Hid (OwnI B X oo oc t.old) := by rw [hX]; exact ((HO.out.txn HT.out HV.out.2).kept (Kept.refl _ _).drew).kept (Kept.refl _ _).drew
          rw [← hX]
          clear hX
          obtain ⟨L, HLn⟩ : ∃ x, Hid (x = t.old.length) := ⟨_, rfl⟩
          have HX4 : Hid (X.cell? ⟨b, 4, none⟩ = some (.slice oo L oc)) := by rw [HLn.out]; exact blk_at HTX.out 4 rfl
          have SRO : ∀ Y, Kept Nil X Y → Src Tryz.prog 1 37 (.slice oo L oc) L (intC t.old) Y := fun Y kY => by rw [HLn.out]; exact (HOX.out.kept kY).srcD
          have HBX : ∀ Y, Kept Nil X Y → X.heap.size ≤ Y.heap.size := fun Y kY => kY.size
          have HLL : Hid (0 + L ≤ maxLen ∧ (0 + L) * 8 ≤ 140737488355328 ∧ L + 1 ≤ maxLen ∧ (L + 1) * 8 ≤ 140737488355328) := by have := HLn.out; refine ⟨?_, ?_, ?_, ?_⟩ <;> (try unfold maxLen) <;> omega
          have SX : ∀ Y, Kept Nil X Y → Y.cell? ⟨b, 4, none⟩ = some (.slice oo L oc) ∧ Y.cell? ⟨b, 5, none⟩ = some (.int .i64 hd.n) ∧ Y.frozen? ⟨b, 4, none⟩ = false := fun Y kY => ⟨by rw [HLn.out]; exact blk_at (HTX.out.kept kY) 4 rfl, blk_at (HTX.out.kept kY) 5 rfl, blk_free (HTX.out.kept kY) 4⟩
          have sx := SX X (Kept.refl _ _)
          obtain ⟨sx4, sx5, sxf⟩ := sx
          have hlbX : b < X.heap.size := lt_of_block HTX.out
          go_region_law (first
            | (refine step_append_src _ rfl (.const (.slice none 0 0)) (.tmp 82) 37 37 rfl X.heap.size 3 i0 (.int .i64 0) 1 8 Tryz.underlying37 hi hz0 hz1 hz2 rfl (.slice none 0 0) 0 [] (by simp [Act.eval]) (World.ownsRow_nil _ _ _ _) (.slice oo L oc) L (intC t.old) (by simp [Act.eval]) (SRO _ (by repeat (first | exact Kept.refl _ _ | refine Kept.drew ?_ | refine Kept.alloc ?_ _))) HLL.out.1 HLL.out.2.1 (HBX _ (by repeat (first | exact Kept.refl _ _ | refine Kept.drew ?_ | refine Kept.alloc ?_ _))) ?_; intro a6 c6 w6 ho6 hg6; have HO6 : Hid (w6.ownsRow X.heap.size 3 1 (.slice a6 L c6) L (intC t.old)) := (by show w6.ownsRow _ _ _ _ _ _; simpa using ho6); have OWN6 : ∀ Y, Kept Nil w6 Y → Y.ownsRow X.heap.size 3 1 (.slice a6 L c6) L (intC t.old) := (fun Y k => own_kept HO6.out k (fun _ _ _ x => x)); have KG6 : Hid (Kept Nil X w6) := Kept.trans (by repeat (first | exact Kept.refl _ _ | refine Kept.drew ?_ | refine Kept.alloc ?_ _)) ((Kept.refl _ _).grown hg6 (fun g e => by simp [Value.ownBlock] at e)); (try (have PB : Hid (w6.heap[X.heap.size]? = some (.cells #[.int .i64 hd.n] 3 (0, 0))) := ((Kept.refl _ _).grown hg6 (fun g e => by simp [Value.ownBlock] at e) : Kept Nil _ w6).block _ _ (by first | exact blk_new X _ | exact blk_new X.drew _) (fun x => x))); obtain ⟨sy4, sy5, syf⟩ := SX w6 KG6.out; clear ho6 hg6)
            | (refine step_append_src _ rfl (.tmp 83) (.tmp 89) 37 37 rfl X.heap.size 3 i0 (.int .i64 0) 1 8 Tryz.underlying37 hi hz0 hz1 hz2 rfl (.slice a6 L c6) L (intC t.old) (by simp [Act.eval]) (OWN6 _ (by repeat (first | exact Kept.refl _ _ | refine Kept.drew ?_ | refine Kept.alloc ?_ _))) (.slice (some ⟨X.heap.size, 0, none⟩) 1 1) 1 [.int .i64 hd.n] (by simp [Act.eval]) (src_blkD (PB.out)) HLL.out.2.2.1 HLL.out.2.2.2 (KG6.out.size) ?_; intro a7 c7 w7 ho7 hg7; have HO7 : Hid (w7.ownsRow X.heap.size 3 1 (.slice a7 (L + 1) c7) (L + 1) (intC t.old ++ [.int .i64 hd.n])) := ho7; have KG7 : Hid (Kept Nil X w7) := KG6.out.grown hg7 (fun g e => own_ge HO6.out e); obtain ⟨sz4, sz5, szf⟩ := SX w7 KG7.out; clear ho7 hg7)
            | (refine step_append_src _ rfl (.tmp 83) (.tmp 89) 37 37 rfl X.heap.size 3 i0 (.int .i64 0) 1 8 Tryz.underlying37 hi hz0 hz1 hz2 rfl (.slice a6 L c6) L (intC t.old) (by simp [Act.eval]) (OWN6 _ (by repeat (first | exact Kept.refl _ _ | refine Kept.drew ?_ | refine Kept.alloc ?_ _))) (.slice (some ⟨w6.heap.size, 0, none⟩) 1 1) 1 [.int .i64 hd.n] (by simp [Act.eval]) (src_blkD (by first | exact blk_new w6 _ | exact blk_new w6.drew _)) HLL.out.2.2.1 HLL.out.2.2.2 (Kept.size (Kept.trans KG6.out (by repeat (first | exact Kept.refl _ _ | refine Kept.drew ?_ | refine Kept.alloc ?_ _)))) ?_; intro a7 c7 w7 ho7 hg7; have HO7 : Hid (w7.ownsRow X.heap.size 3 1 (.slice a7 (L + 1) c7) (L + 1) (intC t.old ++ [.int .i64 hd.n])) := ho7; have KG7 : Hid (Kept Nil X w7) := (Kept.trans KG6.out (by repeat (first | exact Kept.refl _ _ | refine Kept.drew ?_ | refine Kept.alloc ?_ _))).grown hg7 (fun g e => own_ge HO6.out e); obtain ⟨sz4, sz5, szf⟩ := SX w7 KG7.out; clear ho7 hg7))
          all_goals
            obtain ⟨V, hV⟩ : ∃ V, V = w7.setCell ⟨b, 4, none⟩ (.slice a7 (L + 1) c7) := ⟨_, rfl⟩
            have HV : Hid (TdAt V b { t with old := t.old ++ [(hd.n : Int)] } ⟨hd, vv, D.d⟩ (some pa) a7 cp c7 ∧ Kept (One b) X V ∧ OwnI B V a7 c7 (t.old ++ [(hd.n : Int)])) := by
              have hl2 : (t.old ++ [(hd.n : Int)]).length = L + 1 := by rw [List.length_append, HLn.out]; rfl
              have h1 := (HTX.out.kept KG7.out).s4 a7 c7 (t.old ++ [(hd.n : Int)])
              rw [hl2] at h1
              have hk : Kept (One b) w7 V := by rw [hV]; exact (Kept.refl _ _).setCell (p := ⟨b, 4, none⟩) (fun _ => rfl) _
              refine ⟨by rw [hV]; exact h1, KG7.out.oneNil.trans hk, ?_⟩
              have h2 : OwnI X.heap.size w7 a7 c7 (t.old ++ [(hd.n : Int)]) := by
                unfold OwnI
                rw [intC_snoc, hl2]
                exact HO7.out
              exact (own_mono (h2.txn (HTX.out.kept KG7.out) hk) (Nat.le_trans HBw.out KX.out.size))
            have ON := don_any V b _ _ (some pa) a7 cp c7 HV.out.1 6 hl ha
            have HUE : Hid (True ∧ u.old = t.old ++ [(hd.n : Int)]) := by
              refine ⟨trivial, ?_⟩
              rw [HUN.out]
              exact further_oldD _ 1 6
            have ON2 : Calls Tryz.prog 66 #[.pointer (some ⟨b, 0, none⟩), .string ⟨#[99, 111, 109, 109, 105, 116]⟩] V fun e w' => e = .returned (.tuple #[]) ∧ TdAt w' b u E (some pa) a7 cp c7 ∧ Kept (One b) V w' := (ON).mono fun e w' ⟨g1, g2, g3⟩ => ⟨g1, by
              rw [HUN.out, HDE.out]
              rw [show ({ t with old := t.old ++ [(hd.n : Int)] } : Tx).ph = 1 from Hp.out] at g2
              exact g2.see r, g3⟩
            clear ON SRO HBX SX OWN6 sx4 sx5 sxf sy4 sy5 syf sz4 sz5 szf
            go_wp2_with fail
            rw [← hV]
            clear hV
            go_fit ON2
            rintro _ w8 ⟨rfl, h8, k8⟩
            have HY : Hid ((∃ o1 c1, TdAt w8 b u E (some pa) o1 cp c1 ∧ OwnI B w8 o1 c1 u.old ∧ NwI oo w o1) ∧ Kept (One b) w w8) := by
              refine ⟨⟨a7, c7, h8, ?_, .inr (fun a e => Nat.le_trans KX.out.size (own_ge HO7.out (by rw [e]; rfl)))⟩, (KX.out.trans HV.out.2.1).trans k8⟩
              rw [HUE.out.2]
              exact HV.out.2.2.txn HV.out.1 k8
            clear h8 k8 ON2
            go_wp2
            go_end0
            exact ⟨rfl, HY.out⟩
    · have y2 : ((hd.b : Int) == (t.id : Int)) = false := by simp; omega
      by_cases cp0 : 0 < hd.b
      · have y3 : ((hd.b : Int) != 0) = true := by simp; omega
        have HUN : Hid (u = { t.see r with ph := 3 }) := by
          show _ = _
          rw [HLk.out]
          unfold Tx.looked'
          rw [if_neg (by rw [hsb]; exact cb), if_pos (by rw [hsb]; exact cp0)]
        clear cb cp0 hsb hsn HLk
        unfold rrV
        go_enter Tryz.func18, Tryz.ntmps18
        go_upto_region 1 with fail
        rw [← hW, ← HAe.out]
        clear hW HAe
        go_wp2_with fail
        go_fit (HF0 W)
        rintro _ w1 ⟨rfl, k1⟩
        have K1 : Hid (Kept Nil W w1) := k1
        clear k1 a0 a1 a2 q2 f2
        have HT1 : Hid (TdAt w1 b t D (some pa) oo cp oc) := HT.out.kept K1.out
        have HA1 : Hid (w1.heap[A]? = some (.cells #[.int .i64 r.kd, .string (bs r.v), .int .i64 r.n, .slice ko r.ks.length kc] 50 (0, 0))) := K1.out.block _ _ HA.out (fun x => x)
        have q5 : w1.cell? ⟨b, 5, none⟩ = some (.int .i64 D.sn.n) := blk_at HT1.out 5 rfl
        have f5 : w1.frozen? ⟨b, 5, none⟩ = false := blk_free HT1.out 5
        have q6 : w1.cell? ⟨b, 6, none⟩ = some (.int .i64 D.sn.b) := blk_at HT1.out 6 rfl
        have f6 : w1.frozen? ⟨b, 6, none⟩ = false := blk_free HT1.out 6
        have q7 : w1.cell? ⟨b, 7, none⟩ = some (.int .i64 D.sn.t) := blk_at HT1.out 7 rfl
        have f7 : w1.frozen? ⟨b, 7, none⟩ = false := blk_free HT1.out 7
        have q8 : w1.cell? ⟨b, 8, none⟩ = some (.int .i64 D.v) := blk_at HT1.out 8 rfl
        have f8 : w1.frozen? ⟨b, 8, none⟩ = false := blk_free HT1.out 8
        obtain ⟨V, hV⟩ : ∃ V, V = ((((w1.setCell ⟨b, 5, none⟩ (.int .i64 h0.n)).setCell ⟨b, 6, none⟩ (.int .i64 h0.b)).setCell ⟨b, 7, none⟩ (.int .i64 h0.t)).setCell ⟨b, 8, none⟩ (.int .i64 0)) := ⟨_, rfl⟩
        have HV : Hid (TdAt V b t ⟨hd, vv, D.d⟩ (some pa) oo cp oc ∧ Kept (One b) W V) := by rw [hV, HVv.out, H0.out]; exact ⟨(HT1.out.s567 h0).s8 0, ((((K1.out.oneNil.setCell (p := ⟨b, 5, none⟩) (fun _ => rfl) _).setCell (p := ⟨b, 6, none⟩) (fun _ => rfl) _).setCell (p := ⟨b, 7, none⟩) (fun _ => rfl) _).setCell (p := ⟨b, 8, none⟩) (fun _ => rfl) _)⟩
        go_upto_region 14 with fail
        rw [← hV]
        clear hV q5 q6 q7 q8 f5 f6 f7 f8 HA1 HT1
        have c1 : V.cell? ⟨(pa.add (t.at' * 2)).block, (pa.add (t.at' * 2)).off + 1, none⟩ = some (.int .i64 pz) := HPZ.out V HV.out.2
        have v0 : V.cell? ⟨b, 0, none⟩ = some (.int .i64 t.id) := blk_at HV.out.1 0 rfl
        have v1 : V.cell? ⟨b, 1, none⟩ = some (.slice (some pa) t.ps.length cp) := blk_at HV.out.1 1 rfl
        have v3 : V.cell? ⟨b, 3, none⟩ = some (.int .i64 t.at') := blk_at HV.out.1 3 rfl
        have v5 : V.cell? ⟨b, 5, none⟩ = some (.int .i64 hd.n) := blk_at HV.out.1 5 rfl
        have v6 : V.cell? ⟨b, 6, none⟩ = some (.int .i64 hd.b) := blk_at HV.out.1 6 rfl
        go_region
        all_goals
          go_upto_region 16 with fail
          go_region
          all_goals
            have v62 : V.drew.drew.cell? ⟨b, 6, none⟩ = some (.int .i64 hd.b) := blk_at HV.out.1.drew.drew 6 rfl
            go_upto_region 20 with fail
            clear c1 v0 v1 v3 v5 v6 v62
            obtain ⟨X, hX⟩ : ∃ X, X = V.drew.drew := ⟨_, rfl⟩
            have HTX : Hid (TdAt X b t ⟨hd, vv, D.d⟩ (some pa) oo cp oc) := by rw [hX]; exact HV.out.1.drew.drew
            have KX : Hid (Kept (One b) w X) := by rw [hX]; exact ((KW.out.oneNil.trans HV.out.2).drew).drew
            have HOX : Hid (OwnI B X oo oc t.old) := by rw [hX]; exact ((HO.out.txn HT.out HV.out.2).kept (Kept.refl _ _).drew).kept (Kept.refl _ _).drew
            rw [← hX]
            clear hX
            obtain ⟨Y, hY⟩ : ∃ Y, Y = X.setCell ⟨b, 2, none⟩ (.string ⟨#[97, 115, 107]⟩) := ⟨_, rfl⟩
            have HY : Hid ((∃ o1 c1, TdAt Y b u E (some pa) o1 cp c1 ∧ OwnI B Y o1 c1 u.old ∧ NwI oo w o1) ∧ Kept (One b) w Y) := by
              have hk : Kept (One b) X Y := by rw [hY]; exact (Kept.refl _ _).setCell (p := ⟨b, 2, none⟩) (fun _ => rfl) _
              refine ⟨⟨oo, oc, ?_, ?_, .inl rfl⟩, KX.out.trans hk⟩
              · rw [HUN.out, HDE.out, hY]
                exact HTX.out.s2 3
              · rw [HUN.out]
                exact HOX.out.txn HTX.out hk
            have x2 : X.cell? ⟨b, 2, none⟩ = some (.string (bs (phW t.ph))) := blk_at HTX.out 2 rfl
            have xf2 : X.frozen? ⟨b, 2, none⟩ = false := blk_free HTX.out 2
            go_wp2
            rw [← hY]
            go_end0
            exact ⟨rfl, HY.out⟩
      · have y3 : ((hd.b : Int) != 0) = false := by simp; omega
        by_cases cz : zz < 0 ∨ 999999999 < zz
        · have HUN : Hid (u = { t.see r with ph := 7 }) := by
            show _ = _
            rw [HLk.out]
            unfold Tx.looked'
            rw [if_neg (by rw [hsb]; exact cb), if_neg (by rw [hsb]; exact cp0), if_pos (by rw [HTZ.out]; exact cz)]
          have hz : zz < 0 ∨ (¬ zz < 0 ∧ 999999999 < zz) := by omega
          clear cb cp0 hsb hsn HLk cz
          rcases hz with z1 | ⟨z1, z2⟩
          · unfold rrV
            go_enter Tryz.func18, Tryz.ntmps18
            go_upto_region 1 with fail
            rw [← hW, ← HAe.out]
            clear hW HAe
            go_wp2_with fail
            go_fit (HF0 W)
            rintro _ w1 ⟨rfl, k1⟩
            have K1 : Hid (Kept Nil W w1) := k1
            clear k1 a0 a1 a2 q2 f2
            have HT1 : Hid (TdAt w1 b t D (some pa) oo cp oc) := HT.out.kept K1.out
            have HA1 : Hid (w1.heap[A]? = some (.cells #[.int .i64 r.kd, .string (bs r.v), .int .i64 r.n, .slice ko r.ks.length kc] 50 (0, 0))) := K1.out.block _ _ HA.out (fun x => x)
            have q5 : w1.cell? ⟨b, 5, none⟩ = some (.int .i64 D.sn.n) := blk_at HT1.out 5 rfl
            have f5 : w1.frozen? ⟨b, 5, none⟩ = false := blk_free HT1.out 5
            have q6 : w1.cell? ⟨b, 6, none⟩ = some (.int .i64 D.sn.b) := blk_at HT1.out 6 rfl
            have f6 : w1.frozen? ⟨b, 6, none⟩ = false := blk_free HT1.out 6
            have q7 : w1.cell? ⟨b, 7, none⟩ = some (.int .i64 D.sn.t) := blk_at HT1.out 7 rfl
            have f7 : w1.frozen? ⟨b, 7, none⟩ = false := blk_free HT1.out 7
            have q8 : w1.cell? ⟨b, 8, none⟩ = some (.int .i64 D.v) := blk_at HT1.out 8 rfl
            have f8 : w1.frozen? ⟨b, 8, none⟩ = false := blk_free HT1.out 8
            obtain ⟨V, hV⟩ : ∃ V, V = ((((w1.setCell ⟨b, 5, none⟩ (.int .i64 h0.n)).setCell ⟨b, 6, none⟩ (.int .i64 h0.b)).setCell ⟨b, 7, none⟩ (.int .i64 h0.t)).setCell ⟨b, 8, none⟩ (.int .i64 0)) := ⟨_, rfl⟩
            have HV : Hid (TdAt V b t ⟨hd, vv, D.d⟩ (some pa) oo cp oc ∧ Kept (One b) W V) := by rw [hV, HVv.out, H0.out]; exact ⟨(HT1.out.s567 h0).s8 0, ((((K1.out.oneNil.setCell (p := ⟨b, 5, none⟩) (fun _ => rfl) _).setCell (p := ⟨b, 6, none⟩) (fun _ => rfl) _).setCell (p := ⟨b, 7, none⟩) (fun _ => rfl) _).setCell (p := ⟨b, 8, none⟩) (fun _ => rfl) _)⟩
            go_upto_region 14 with fail
            rw [← hV]
            clear hV q5 q6 q7 q8 f5 f6 f7 f8 HA1 HT1
            have c1 : V.cell? ⟨(pa.add (t.at' * 2)).block, (pa.add (t.at' * 2)).off + 1, none⟩ = some (.int .i64 pz) := HPZ.out V HV.out.2
            have v0 : V.cell? ⟨b, 0, none⟩ = some (.int .i64 t.id) := blk_at HV.out.1 0 rfl
            have v1 : V.cell? ⟨b, 1, none⟩ = some (.slice (some pa) t.ps.length cp) := blk_at HV.out.1 1 rfl
            have v3 : V.cell? ⟨b, 3, none⟩ = some (.int .i64 t.at') := blk_at HV.out.1 3 rfl
            have v5 : V.cell? ⟨b, 5, none⟩ = some (.int .i64 hd.n) := blk_at HV.out.1 5 rfl
            have v6 : V.cell? ⟨b, 6, none⟩ = some (.int .i64 hd.b) := blk_at HV.out.1 6 rfl
            go_region
            all_goals
              go_upto_region 16 with fail
              go_region
              all_goals
                have v62 : V.drew.drew.cell? ⟨b, 6, none⟩ = some (.int .i64 hd.b) := blk_at HV.out.1.drew.drew 6 rfl
                go_upto_region 22 with fail
                clear c1 v0 v1 v3 v5 v6 v62
                obtain ⟨X, hX⟩ : ∃ X, X = V.drew.drew := ⟨_, rfl⟩
                have HTX : Hid (TdAt X b t ⟨hd, vv, D.d⟩ (some pa) oo cp oc) := by rw [hX]; exact HV.out.1.drew.drew
                have KX : Hid (Kept (One b) w X) := by rw [hX]; exact ((KW.out.oneNil.trans HV.out.2).drew).drew
                have HOX : Hid (OwnI B X oo oc t.old) := by rw [hX]; exact ((HO.out.txn HT.out HV.out.2).kept (Kept.refl _ _).drew).kept (Kept.refl _ _).drew
                rw [← hX]
                clear hX
                obtain ⟨Y, hY⟩ : ∃ Y, Y = X.setCell ⟨b, 2, none⟩ (.string ⟨#[97, 98, 111, 114, 116]⟩) := ⟨_, rfl⟩
                have HY : Hid ((∃ o1 c1, TdAt Y b u E (some pa) o1 cp c1 ∧ OwnI B Y o1 c1 u.old ∧ NwI oo w o1) ∧ Kept (One b) w Y) := by
                  have hk : Kept (One b) X Y := by rw [hY]; exact (Kept.refl _ _).setCell (p := ⟨b, 2, none⟩) (fun _ => rfl) _
                  refine ⟨⟨oo, oc, ?_, ?_, .inl rfl⟩, KX.out.trans hk⟩
                  · rw [HUN.out, HDE.out, hY]
                    exact HTX.out.s2 7
                  · rw [HUN.out]
                    exact HOX.out.txn HTX.out hk
                have x2 : X.cell? ⟨b, 2, none⟩ = some (.string (bs (phW t.ph))) := blk_at HTX.out 2 rfl
                have xf2 : X.frozen? ⟨b, 2, none⟩ = false := blk_free HTX.out 2
                go_wp2
                rw [← hY]
                go_end0
                exact ⟨rfl, HY.out⟩
          · unfold rrV
            go_enter Tryz.func18, Tryz.ntmps18
            go_upto_region 1 with fail
            rw [← hW, ← HAe.out]
            clear hW HAe
            go_wp2_with fail
            go_fit (HF0 W)
            rintro _ w1 ⟨rfl, k1⟩
            have K1 : Hid (Kept Nil W w1) := k1
            clear k1 a0 a1 a2 q2 f2
            have HT1 : Hid (TdAt w1 b t D (some pa) oo cp oc) := HT.out.kept K1.out
            have HA1 : Hid (w1.heap[A]? = some (.cells #[.int .i64 r.kd, .string (bs r.v), .int .i64 r.n, .slice ko r.ks.length kc] 50 (0, 0))) := K1.out.block _ _ HA.out (fun x => x)
            have q5 : w1.cell? ⟨b, 5, none⟩ = some (.int .i64 D.sn.n) := blk_at HT1.out 5 rfl
            have f5 : w1.frozen? ⟨b, 5, none⟩ = false := blk_free HT1.out 5
            have q6 : w1.cell? ⟨b, 6, none⟩ = some (.int .i64 D.sn.b) := blk_at HT1.out 6 rfl
            have f6 : w1.frozen? ⟨b, 6, none⟩ = false := blk_free HT1.out 6
            have q7 : w1.cell? ⟨b, 7, none⟩ = some (.int .i64 D.sn.t) := blk_at HT1.out 7 rfl
            have f7 : w1.frozen? ⟨b, 7, none⟩ = false := blk_free HT1.out 7
            have q8 : w1.cell? ⟨b, 8, none⟩ = some (.int .i64 D.v) := blk_at HT1.out 8 rfl
            have f8 : w1.frozen? ⟨b, 8, none⟩ = false := blk_free HT1.out 8
            obtain ⟨V, hV⟩ : ∃ V, V = ((((w1.setCell ⟨b, 5, none⟩ (.int .i64 h0.n)).setCell ⟨b, 6, none⟩ (.int .i64 h0.b)).setCell ⟨b, 7, none⟩ (.int .i64 h0.t)).setCell ⟨b, 8, none⟩ (.int .i64 0)) := ⟨_, rfl⟩
            have HV : Hid (TdAt V b t ⟨hd, vv, D.d⟩ (some pa) oo cp oc ∧ Kept (One b) W V) := by rw [hV, HVv.out, H0.out]; exact ⟨(HT1.out.s567 h0).s8 0, ((((K1.out.oneNil.setCell (p := ⟨b, 5, none⟩) (fun _ => rfl) _).setCell (p := ⟨b, 6, none⟩) (fun _ => rfl) _).setCell (p := ⟨b, 7, none⟩) (fun _ => rfl) _).setCell (p := ⟨b, 8, none⟩) (fun _ => rfl) _)⟩
            go_upto_region 14 with fail
            rw [← hV]
            clear hV q5 q6 q7 q8 f5 f6 f7 f8 HA1 HT1
            have c1 : V.cell? ⟨(pa.add (t.at' * 2)).block, (pa.add (t.at' * 2)).off + 1, none⟩ = some (.int .i64 pz) := HPZ.out V HV.out.2
            have v0 : V.cell? ⟨b, 0, none⟩ = some (.int .i64 t.id) := blk_at HV.out.1 0 rfl
            have v1 : V.cell? ⟨b, 1, none⟩ = some (.slice (some pa) t.ps.length cp) := blk_at HV.out.1 1 rfl
            have v3 : V.cell? ⟨b, 3, none⟩ = some (.int .i64 t.at') := blk_at HV.out.1 3 rfl
            have v5 : V.cell? ⟨b, 5, none⟩ = some (.int .i64 hd.n) := blk_at HV.out.1 5 rfl
            have v6 : V.cell? ⟨b, 6, none⟩ = some (.int .i64 hd.b) := blk_at HV.out.1 6 rfl
            go_region
            all_goals
              go_upto_region 16 with fail
              go_region
              all_goals
                have v62 : V.drew.drew.cell? ⟨b, 6, none⟩ = some (.int .i64 hd.b) := blk_at HV.out.1.drew.drew 6 rfl
                go_upto_region 22 with fail
                clear c1 v0 v1 v3 v5 v6 v62
                obtain ⟨X, hX⟩ : ∃ X, X = V.drew.drew := ⟨_, rfl⟩
                have HTX : Hid (TdAt X b t ⟨hd, vv, D.d⟩ (some pa) oo cp oc) := by rw [hX]; exact HV.out.1.drew.drew
                have KX : Hid (Kept (One b) w X) := by rw [hX]; exact ((KW.out.oneNil.trans HV.out.2).drew).drew
                have HOX : Hid (OwnI B X oo oc t.old) := by rw [hX]; exact ((HO.out.txn HT.out HV.out.2).kept (Kept.refl _ _).drew).kept (Kept.refl _ _).drew
                rw [← hX]
                clear hX
                obtain ⟨Y, hY⟩ : ∃ Y, Y = X.setCell ⟨b, 2, none⟩ (.string ⟨#[97, 98, 111, 114, 116]⟩) := ⟨_, rfl⟩
                have HY : Hid ((∃ o1 c1, TdAt Y b u E (some pa) o1 cp c1 ∧ OwnI B Y o1 c1 u.old ∧ NwI oo w o1) ∧ Kept (One b) w Y) := by
                  have hk : Kept (One b) X Y := by rw [hY]; exact (Kept.refl _ _).setCell (p := ⟨b, 2, none⟩) (fun _ => rfl) _
                  refine ⟨⟨oo, oc, ?_, ?_, .inl rfl⟩, KX.out.trans hk⟩
                  · rw [HUN.out, HDE.out, hY]
                    exact HTX.out.s2 7
                  · rw [HUN.out]
                    exact HOX.out.txn HTX.out hk
                have x2 : X.cell? ⟨b, 2, none⟩ = some (.string (bs (phW t.ph))) := blk_at HTX.out 2 rfl
                have xf2 : X.frozen? ⟨b, 2, none⟩ = false := blk_free HTX.out 2
                go_wp2
                rw [← hY]
                go_end0
                exact ⟨rfl, HY.out⟩
        · have HUN : Hid (u = { t.see r with ph := 2 }) := by
            show _ = _
            rw [HLk.out]
            unfold Tx.looked'
            rw [if_neg (by rw [hsb]; exact cb), if_neg (by rw [hsb]; exact cp0), if_neg (by rw [HTZ.out]; exact cz)]
          have z1 : ¬ zz < 0 := by omega
          have z2 : ¬ 999999999 < zz := by omega
          clear cb cp0 hsb hsn HLk cz
          unfold rrV
          go_enter Tryz.func18, Tryz.ntmps18
          go_upto_region 1 with fail
          rw [← hW, ← HAe.out]
          clear hW HAe
          go_wp2_with fail
          go_fit (HF0 W)
          rintro _ w1 ⟨rfl, k1⟩
          have K1 : Hid (Kept Nil W w1) := k1
          clear k1 a0 a1 a2 q2 f2
          have HT1 : Hid (TdAt w1 b t D (some pa) oo cp oc) := HT.out.kept K1.out
          have HA1 : Hid (w1.heap[A]? = some (.cells #[.int .i64 r.kd, .string (bs r.v), .int .i64 r.n, .slice ko r.ks.length kc] 50 (0, 0))) := K1.out.block _ _ HA.out (fun x => x)
          have q5 : w1.cell? ⟨b, 5, none⟩ = some (.int .i64 D.sn.n) := blk_at HT1.out 5 rfl
          have f5 : w1.frozen? ⟨b, 5, none⟩ = false := blk_free HT1.out 5
          have q6 : w1.cell? ⟨b, 6, none⟩ = some (.int .i64 D.sn.b) := blk_at HT1.out 6 rfl
          have f6 : w1.frozen? ⟨b, 6, none⟩ = false := blk_free HT1.out 6
          have q7 : w1.cell? ⟨b, 7, none⟩ = some (.int .i64 D.sn.t) := blk_at HT1.out 7 rfl
          have f7 : w1.frozen? ⟨b, 7, none⟩ = false := blk_free HT1.out 7
          have q8 : w1.cell? ⟨b, 8, none⟩ = some (.int .i64 D.v) := blk_at HT1.out 8 rfl
          have f8 : w1.frozen? ⟨b, 8, none⟩ = false := blk_free HT1.out 8
          obtain ⟨V, hV⟩ : ∃ V, V = ((((w1.setCell ⟨b, 5, none⟩ (.int .i64 h0.n)).setCell ⟨b, 6, none⟩ (.int .i64 h0.b)).setCell ⟨b, 7, none⟩ (.int .i64 h0.t)).setCell ⟨b, 8, none⟩ (.int .i64 0)) := ⟨_, rfl⟩
          have HV : Hid (TdAt V b t ⟨hd, vv, D.d⟩ (some pa) oo cp oc ∧ Kept (One b) W V) := by rw [hV, HVv.out, H0.out]; exact ⟨(HT1.out.s567 h0).s8 0, ((((K1.out.oneNil.setCell (p := ⟨b, 5, none⟩) (fun _ => rfl) _).setCell (p := ⟨b, 6, none⟩) (fun _ => rfl) _).setCell (p := ⟨b, 7, none⟩) (fun _ => rfl) _).setCell (p := ⟨b, 8, none⟩) (fun _ => rfl) _)⟩
          go_upto_region 14 with fail
          rw [← hV]
          clear hV q5 q6 q7 q8 f5 f6 f7 f8 HA1 HT1
          have c1 : V.cell? ⟨(pa.add (t.at' * 2)).block, (pa.add (t.at' * 2)).off + 1, none⟩ = some (.int .i64 pz) := HPZ.out V HV.out.2
          have v0 : V.cell? ⟨b, 0, none⟩ = some (.int .i64 t.id) := blk_at HV.out.1 0 rfl
          have v1 : V.cell? ⟨b, 1, none⟩ = some (.slice (some pa) t.ps.length cp) := blk_at HV.out.1 1 rfl
          have v3 : V.cell? ⟨b, 3, none⟩ = some (.int .i64 t.at') := blk_at HV.out.1 3 rfl
          have v5 : V.cell? ⟨b, 5, none⟩ = some (.int .i64 hd.n) := blk_at HV.out.1 5 rfl
          have v6 : V.cell? ⟨b, 6, none⟩ = some (.int .i64 hd.b) := blk_at HV.out.1 6 rfl
          go_region
          all_goals
            go_upto_region 16 with fail
            go_region
            all_goals
              have v62 : V.drew.drew.cell? ⟨b, 6, none⟩ = some (.int .i64 hd.b) := blk_at HV.out.1.drew.drew 6 rfl
              go_upto_region 15 with fail
              clear c1 v0 v1 v3 v5 v6 v62
              obtain ⟨X, hX⟩ : ∃ X, X = V.drew.drew := ⟨_, rfl⟩
              have HTX : Hid (TdAt X b t ⟨hd, vv, D.d⟩ (some pa) oo cp oc) := by rw [hX]; exact HV.out.1.drew.drew
              have KX : Hid (Kept (One b) w X) := by rw [hX]; exact ((KW.out.oneNil.trans HV.out.2).drew).drew
              have HOX : Hid (OwnI B X oo oc t.old) := by rw [hX]; exact ((HO.out.txn HT.out HV.out.2).kept (Kept.refl _ _).drew).kept (Kept.refl _ _).drew
              rw [← hX]
              clear hX
              obtain ⟨Y, hY⟩ : ∃ Y, Y = X.setCell ⟨b, 2, none⟩ (.string ⟨#[104, 111, 108, 100]⟩) := ⟨_, rfl⟩
              have HY : Hid ((∃ o1 c1, TdAt Y b u E (some pa) o1 cp c1 ∧ OwnI B Y o1 c1 u.old ∧ NwI oo w o1) ∧ Kept (One b) w Y) := by
                have hk : Kept (One b) X Y := by rw [hY]; exact (Kept.refl _ _).setCell (p := ⟨b, 2, none⟩) (fun _ => rfl) _
                refine ⟨⟨oo, oc, ?_, ?_, .inl rfl⟩, KX.out.trans hk⟩
                · rw [HUN.out, HDE.out, hY]
                  exact HTX.out.s2 2
                · rw [HUN.out]
                  exact HOX.out.txn HTX.out hk
              have x2 : X.cell? ⟨b, 2, none⟩ = some (.string (bs (phW t.ph))) := blk_at HTX.out 2 rfl
              have xf2 : X.frozen? ⟨b, 2, none⟩ = false := blk_free HTX.out 2
              go_wp2
              rw [← hY]
              go_end0
              exact ⟨rfl, HY.out⟩
end Go.Proofs.YtflnjlbafchnaaaGreatDoor
