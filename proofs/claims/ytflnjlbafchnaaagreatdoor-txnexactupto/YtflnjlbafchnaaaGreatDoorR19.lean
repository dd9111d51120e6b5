/-
  Joined: WTz5.
-/
import Derived.Test.YtflnjlbafchnaaaGreatDoorR13
import Derived.BigQuiet
import Derived.BigRegion
/-
  TxnExact: the document's Answer, where it clears.
-/
namespace Go.Proofs.YtflnjlbafchnaaaGreatDoor
open Go.RowKit

theorem TdAt.see {w : World} {b : Nat} {t : Tx} {D : Dx} {ap oo : Option Addr} {cp oc p q : Nat} (h : TdAt w b (t.further p q) D ap oo cp oc) (r : Rr) : TdAt w b ((t.see r).further p q) D ap oo cp oc := by
  unfold Tx.further at h ⊢
  by_cases c : t.at' + 1 = t.ps.length
  · rw [if_pos c] at h
    rw [if_pos (show (t.see r).at' + 1 = (t.see r).ps.length from c)]
    exact h
  · rw [if_neg c] at h
    rw [if_neg (show ¬ (t.see r).at' + 1 = (t.see r).ps.length from c)]
    exact h
set_option maxRecDepth 100000 in
set_option maxHeartbeats 4000000 in
theorem dans8 (w : World) (b : Nat) (t : Tx) (D : Dx) (ap oo : Option Addr) (cp oc : Nat) (h : TdAt w b t D ap oo cp oc) (B : Nat) (hO : OwnI B w oo oc t.old) (hl : t.ps.length ≤ 4) (ha : t.at' < t.ps.length) (r : Rr) (ko : Option Addr) (kc : Nat) (hp : t.ph = 8) (hv : r.v.length ≤ 1048576) (hid : 1 ≤ t.id) :
    Calls Tryz.prog 18 #[.pointer (some ⟨b, 0, none⟩), rrV r ko kc] w (DdPost B w b (t.answer r) (D.ans t r) ap cp oo) := by
  obtain ⟨W, hW⟩ : ∃ W, W = w.alloc (.cells #[.int .i64 r.kd, .string (bs r.v), .int .i64 r.n, .slice ko r.ks.length kc] 50) := ⟨_, rfl⟩
  obtain ⟨A, HAe⟩ : ∃ A, Hid (A = w.heap.size) := ⟨_, rfl⟩
  have KW : Hid (Kept Nil w W) := by rw [hW]; exact (Kept.refl _ _).alloc _
  have HA : Hid (W.heap[A]? = some (.cells #[.int .i64 r.kd, .string (bs r.v), .int .i64 r.n, .slice ko r.ks.length kc] 50 (0, 0))) := by rw [hW, HAe.out]; exact blk_new _ _
  have HT : Hid (TdAt W b t D ap oo cp oc) := h.kept KW.out
  have HO : Hid (OwnI B W oo oc t.old) := hO.kept KW.out
  have hbA : b ≠ A := by rw [HAe.out]; have := lt_of_block h; omega
  have hAb : A ≠ b := hbA.symm
  have a0 : W.cell? ⟨A, 0, none⟩ = some (.int .i64 r.kd) := blk_at HA.out 0 rfl
  have a1 : W.cell? ⟨A, 1, none⟩ = some (.string (bs r.v)) := blk_at HA.out 1 rfl
  have a2 : W.cell? ⟨A, 2, none⟩ = some (.int .i64 r.n) := blk_at HA.out 2 rfl
  have q2 : W.cell? ⟨b, 2, none⟩ = some (.string ⟨#[99, 108, 101, 97, 114]⟩) := by
    have e : W.cell? ⟨b, 2, none⟩ = some (.string (bs (phW t.ph))) := blk_at HT.out 2 rfl
    rw [hp] at e
    exact e
  have f2 : W.frozen? ⟨b, 2, none⟩ = false := blk_free HT.out 2
  have Hp : Hid (t.ph = 8) := hp
  obtain ⟨u, Hu⟩ : ∃ u, Hid (u = t.answer r) := ⟨_, rfl⟩
  obtain ⟨E, HE⟩ : ∃ u, Hid (u = D.ans t r) := ⟨_, rfl⟩
  rw [← Hu.out, ← HE.out]
  have HU : Hid (u = t.cleared r) := by show _ = _; rw [Hu.out]; unfold Tx.answer; simp [hp]
  have HD : Hid (E = ⟨hdOf r.v, r.n, D.d⟩) := by show _ = _; rw [HE.out]; unfold Dx.ans; simp [hp]
  clear hp Hu HE
  obtain ⟨hd, Hhd⟩ : ∃ x, Hid (x = hdOf r.v) := ⟨_, rfl⟩
  have HF : Calls Tryz.prog 65 #[.string (bs r.v)] W fun e w' => e = .returned (.agg #[.int .i64 hd.n, .int .i64 hd.b, .int .i64 hd.t]) ∧ Kept Nil W w' := by rw [Hhd.out]; exact refHeldOf_any r.v hv W
  by_cases c1 : r.kd = 1
  · have y1 : (r.kd == 1) = true := by simp [c1]
    by_cases cb : hd.b = t.id
    · have y2 : ((hd.b : Int) == (t.id : Int)) = true := by simp [cb]
      have HU2 : Hid (u = { t.see r with ph := 9 }) := by
        show _ = _
        rw [HU.out]
        unfold Tx.cleared
        have e : (t.see r).sn.b = t.id := by show (hdOf (saidR r)).b = _; unfold saidR; rw [if_pos c1, ← Hhd.out]; exact cb
        rw [if_pos e]
      clear c1 cb
      unfold rrV
      go_enter Tryz.func18, Tryz.ntmps18
      go_upto_region 1 with fail
      rw [← hW, ← HAe.out]
      clear hW HAe
      go_wp2_with fail
      go_fit HF
      rintro _ w1 ⟨rfl, k1⟩
      have K1 : Hid (Kept Nil W w1) := k1
      clear k1 HF a0 a1 a2 q2 f2
      have HT1 : Hid (TdAt w1 b t D ap oo cp oc) := HT.out.kept K1.out
      have HA1 : Hid (w1.heap[A]? = some (.cells #[.int .i64 r.kd, .string (bs r.v), .int .i64 r.n, .slice ko r.ks.length kc] 50 (0, 0))) := K1.out.block _ _ HA.out (fun x => x)
      have a2 : w1.cell? ⟨A, 2, none⟩ = some (.int .i64 r.n) := blk_at HA1.out 2 rfl
      have q5 : w1.cell? ⟨b, 5, none⟩ = some (.int .i64 D.sn.n) := blk_at HT1.out 5 rfl
      have f5 : w1.frozen? ⟨b, 5, none⟩ = false := blk_free HT1.out 5
      have q6 : w1.cell? ⟨b, 6, none⟩ = some (.int .i64 D.sn.b) := blk_at HT1.out 6 rfl
      have f6 : w1.frozen? ⟨b, 6, none⟩ = false := blk_free HT1.out 6
      have q7 : w1.cell? ⟨b, 7, none⟩ = some (.int .i64 D.sn.t) := blk_at HT1.out 7 rfl
      have f7 : w1.frozen? ⟨b, 7, none⟩ = false := blk_free HT1.out 7
      have q8 : w1.cell? ⟨b, 8, none⟩ = some (.int .i64 D.v) := blk_at HT1.out 8 rfl
      have f8 : w1.frozen? ⟨b, 8, none⟩ = false := blk_free HT1.out 8
      obtain ⟨V, hV⟩ : ∃ V, V = ((((w1.setCell ⟨b, 5, none⟩ (.int .i64 hd.n)).setCell ⟨b, 6, none⟩ (.int .i64 hd.b)).setCell ⟨b, 7, none⟩ (.int .i64 hd.t)).setCell ⟨b, 8, none⟩ (.int .i64 r.n)) := ⟨_, rfl⟩
      have HV : Hid (TdAt V b t ⟨hd, r.n, D.d⟩ ap oo cp oc ∧ Kept (One b) W V) := by rw [hV]; exact ⟨(HT1.out.s567 hd).s8 r.n, ((((K1.out.oneNil.setCell (p := ⟨b, 5, none⟩) (fun _ => rfl) _).setCell (p := ⟨b, 6, none⟩) (fun _ => rfl) _).setCell (p := ⟨b, 7, none⟩) (fun _ => rfl) _).setCell (p := ⟨b, 8, none⟩) (fun _ => rfl) _)⟩
      go_upto_region 48 with fail
      rw [← hV]
      clear hV a2 q5 q6 q7 q8 f5 f6 f7 f8 HA1 HT1
      have HOV : Hid (OwnI B V oo oc t.old) := HO.out.txn HT.out HV.out.2
      have HVd : ∀ m, Hid (TdAt (V.drewN m) b t ⟨hd, r.n, D.d⟩ ap oo cp oc) := fun m => HV.out.1.kept ((Kept.refl _ _).drewN m)
      have v0 : V.cell? ⟨b, 0, none⟩ = some (.int .i64 t.id) := blk_at HV.out.1 0 rfl
      have v6 : V.cell? ⟨b, 6, none⟩ = some (.int .i64 hd.b) := blk_at HV.out.1 6 rfl
      have FIN : ∀ m, Hid ((∃ o1 c1, TdAt ((V.drewN m).setCell ⟨b, 2, none⟩ (.string ⟨#[103, 105, 118, 101]⟩)) b u E ap o1 cp c1 ∧ OwnI B ((V.drewN m).setCell ⟨b, 2, none⟩ (.string ⟨#[103, 105, 118, 101]⟩)) o1 c1 u.old ∧ NwI oo w o1) ∧ Kept (One b) w ((V.drewN m).setCell ⟨b, 2, none⟩ (.string ⟨#[103, 105, 118, 101]⟩))) := fun m => by
        have hk : Kept (One b) V ((V.drewN m).setCell ⟨b, 2, none⟩ (.string ⟨#[103, 105, 118, 101]⟩)) := ((Kept.refl _ _).drewN m).setCell (p := ⟨b, 2, none⟩) (fun _ => rfl) _
        refine ⟨⟨oo, oc, ?_, ?_, .inl rfl⟩, (KW.out.oneNil.trans HV.out.2).trans hk⟩
        · rw [HU2.out, HD.out, ← Hhd.out]
          exact (HVd m).out.s2 9
        · rw [HU2.out]
          exact HOV.out.txn HV.out.1 hk
      have v2 : V.cell? ⟨b, 2, none⟩ = some (.string (bs (phW t.ph))) := blk_at HV.out.1 2 rfl
      have g2 : V.frozen? ⟨b, 2, none⟩ = false := blk_free HV.out.1 2
      clear HU2 HU HD
      go_quiet (fail)
      go_wp2
      go_end0
      exact ⟨rfl, (FIN _).out⟩
    · have y2 : ((hd.b : Int) == (t.id : Int)) = false := by simp; omega
      have HU2 : Hid (u = (t.see r).further 8 10) := by
        show _ = _
        rw [HU.out]
        unfold Tx.cleared
        have e : ¬ (t.see r).sn.b = t.id := by show ¬ (hdOf (saidR r)).b = _; unfold saidR; rw [if_pos c1, ← Hhd.out]; exact cb
        rw [if_neg e]
      clear c1 cb
      unfold rrV
      go_enter Tryz.func18, Tryz.ntmps18
      go_upto_region 1 with fail
      rw [← hW, ← HAe.out]
      clear hW HAe
      go_wp2_with fail
      go_fit HF
      rintro _ w1 ⟨rfl, k1⟩
      have K1 : Hid (Kept Nil W w1) := k1
      clear k1 HF a0 a1 a2 q2 f2
      have HT1 : Hid (TdAt w1 b t D ap oo cp oc) := HT.out.kept K1.out
      have HA1 : Hid (w1.heap[A]? = some (.cells #[.int .i64 r.kd, .string (bs r.v), .int .i64 r.n, .slice ko r.ks.length kc] 50 (0, 0))) := K1.out.block _ _ HA.out (fun x => x)
      have a2 : w1.cell? ⟨A, 2, none⟩ = some (.int .i64 r.n) := blk_at HA1.out 2 rfl
      have q5 : w1.cell? ⟨b, 5, none⟩ = some (.int .i64 D.sn.n) := blk_at HT1.out 5 rfl
      have f5 : w1.frozen? ⟨b, 5, none⟩ = false := blk_free HT1.out 5
      have q6 : w1.cell? ⟨b, 6, none⟩ = some (.int .i64 D.sn.b) := blk_at HT1.out 6 rfl
      have f6 : w1.frozen? ⟨b, 6, none⟩ = false := blk_free HT1.out 6
      have q7 : w1.cell? ⟨b, 7, none⟩ = some (.int .i64 D.sn.t) := blk_at HT1.out 7 rfl
      have f7 : w1.frozen? ⟨b, 7, none⟩ = false := blk_free HT1.out 7
      have q8 : w1.cell? ⟨b, 8, none⟩ = some (.int .i64 D.v) := blk_at HT1.out 8 rfl
      have f8 : w1.frozen? ⟨b, 8, none⟩ = false := blk_free HT1.out 8
      obtain ⟨V, hV⟩ : ∃ V, V = ((((w1.setCell ⟨b, 5, none⟩ (.int .i64 hd.n)).setCell ⟨b, 6, none⟩ (.int .i64 hd.b)).setCell ⟨b, 7, none⟩ (.int .i64 hd.t)).setCell ⟨b, 8, none⟩ (.int .i64 r.n)) := ⟨_, rfl⟩
      have HV : Hid (TdAt V b t ⟨hd, r.n, D.d⟩ ap oo cp oc ∧ Kept (One b) W V) := by rw [hV]; exact ⟨(HT1.out.s567 hd).s8 r.n, ((((K1.out.oneNil.setCell (p := ⟨b, 5, none⟩) (fun _ => rfl) _).setCell (p := ⟨b, 6, none⟩) (fun _ => rfl) _).setCell (p := ⟨b, 7, none⟩) (fun _ => rfl) _).setCell (p := ⟨b, 8, none⟩) (fun _ => rfl) _)⟩
      go_upto_region 48 with fail
      rw [← hV]
      clear hV a2 q5 q6 q7 q8 f5 f6 f7 f8 HA1 HT1
      have HOV : Hid (OwnI B V oo oc t.old) := HO.out.txn HT.out HV.out.2
      have HVd : ∀ m, Hid (TdAt (V.drewN m) b t ⟨hd, r.n, D.d⟩ ap oo cp oc) := fun m => HV.out.1.kept ((Kept.refl _ _).drewN m)
      have v0 : V.cell? ⟨b, 0, none⟩ = some (.int .i64 t.id) := blk_at HV.out.1 0 rfl
      have v6 : V.cell? ⟨b, 6, none⟩ = some (.int .i64 hd.b) := blk_at HV.out.1 6 rfl
      have ON : ∀ m, Calls Tryz.prog 66 #[.pointer (some ⟨b, 0, none⟩), .string ⟨#[]⟩] (V.drewN m) fun e w' => e = .returned (.tuple #[]) ∧ TdAt w' b u E ap oo cp oc ∧ Kept (One b) (V.drewN m) w' := fun m => by
        refine (don_any (V.drewN m) b t ⟨hd, r.n, D.d⟩ ap oo cp oc (HVd m).out 10 hl ha).mono fun e w' ⟨h1, h2, h3⟩ => ⟨h1, ?_, h3⟩
        rw [HU2.out, HD.out, ← Hhd.out]
        rw [Hp.out] at h2
        exact h2.see r
      have HUO : Hid (u.old = t.old) := by show _ = _; rw [HU2.out]; exact further_oldD _ 8 10
      clear HU2 HU HD
      go_quiet (fail)
      go_wp2_with fail
      go_fit (ON _)
      rintro _ w2 ⟨rfl, h2, k2⟩
      have HY : Hid ((∃ o1 c1, TdAt w2 b u E ap o1 cp c1 ∧ OwnI B w2 o1 c1 u.old ∧ NwI oo w o1) ∧ Kept (One b) w w2) := by
        have hk : Kept (One b) V w2 := ((Kept.refl _ _).drewN _).trans k2
        refine ⟨⟨oo, oc, h2, ?_, .inl rfl⟩, (KW.out.oneNil.trans HV.out.2).trans hk⟩
        rw [HUO.out]
        exact HOV.out.txn HV.out.1 hk
      clear h2 k2 ON
      go_wp2
      go_end0
      exact ⟨rfl, HY.out⟩
  · have y1 : (r.kd == 1) = false := by simp [c1]
    have HU2 : Hid (u = (t.see r).further 8 10) := by
      show _ = _
      rw [HU.out]
      unfold Tx.cleared
      have e : ¬ (t.see r).sn.b = t.id := by show ¬ (hdOf (saidR r)).b = _; unfold saidR; rw [if_neg c1, said_nil_b]; omega
      rw [if_neg e]
    clear c1
    unfold rrV
    go_enter Tryz.func18, Tryz.ntmps18
    go_upto_region 1 with fail
    rw [← hW, ← HAe.out]
    clear hW HAe
    go_wp2_with fail
    go_fit HF
    rintro _ w1 ⟨rfl, k1⟩
    have K1 : Hid (Kept Nil W w1) := k1
    clear k1 HF a0 a1 a2 q2 f2
    have HT1 : Hid (TdAt w1 b t D ap oo cp oc) := HT.out.kept K1.out
    have HA1 : Hid (w1.heap[A]? = some (.cells #[.int .i64 r.kd, .string (bs r.v), .int .i64 r.n, .slice ko r.ks.length kc] 50 (0, 0))) := K1.out.block _ _ HA.out (fun x => x)
    have a2 : w1.cell? ⟨A, 2, none⟩ = some (.int .i64 r.n) := blk_at HA1.out 2 rfl
    have q5 : w1.cell? ⟨b, 5, none⟩ = some (.int .i64 D.sn.n) := blk_at HT1.out 5 rfl
    have f5 : w1.frozen? ⟨b, 5, none⟩ = false := blk_free HT1.out 5
    have q6 : w1.cell? ⟨b, 6, none⟩ = some (.int .i64 D.sn.b) := blk_at HT1.out 6 rfl
    have f6 : w1.frozen? ⟨b, 6, none⟩ = false := blk_free HT1.out 6
    have q7 : w1.cell? ⟨b, 7, none⟩ = some (.int .i64 D.sn.t) := blk_at HT1.out 7 rfl
    have f7 : w1.frozen? ⟨b, 7, none⟩ = false := blk_free HT1.out 7
    have q8 : w1.cell? ⟨b, 8, none⟩ = some (.int .i64 D.v) := blk_at HT1.out 8 rfl
    have f8 : w1.frozen? ⟨b, 8, none⟩ = false := blk_free HT1.out 8
    obtain ⟨V, hV⟩ : ∃ V, V = ((((w1.setCell ⟨b, 5, none⟩ (.int .i64 hd.n)).setCell ⟨b, 6, none⟩ (.int .i64 hd.b)).setCell ⟨b, 7, none⟩ (.int .i64 hd.t)).setCell ⟨b, 8, none⟩ (.int .i64 r.n)) := ⟨_, rfl⟩
    have HV : Hid (TdAt V b t ⟨hd, r.n, D.d⟩ ap oo cp oc ∧ Kept (One b) W V) := by rw [hV]; exact ⟨(HT1.out.s567 hd).s8 r.n, ((((K1.out.oneNil.setCell (p := ⟨b, 5, none⟩) (fun _ => rfl) _).setCell (p := ⟨b, 6, none⟩) (fun _ => rfl) _).setCell (p := ⟨b, 7, none⟩) (fun _ => rfl) _).setCell (p := ⟨b, 8, none⟩) (fun _ => rfl) _)⟩
    go_upto_region 48 with fail
    rw [← hV]
    clear hV a2 q5 q6 q7 q8 f5 f6 f7 f8 HA1 HT1
    have HOV : Hid (OwnI B V oo oc t.old) := HO.out.txn HT.out HV.out.2
    have HVd : ∀ m, Hid (TdAt (V.drewN m) b t ⟨hd, r.n, D.d⟩ ap oo cp oc) := fun m => HV.out.1.kept ((Kept.refl _ _).drewN m)
    have v0 : V.cell? ⟨b, 0, none⟩ = some (.int .i64 t.id) := blk_at HV.out.1 0 rfl
    have v6 : V.cell? ⟨b, 6, none⟩ = some (.int .i64 hd.b) := blk_at HV.out.1 6 rfl
    have ON : ∀ m, Calls Tryz.prog 66 #[.pointer (some ⟨b, 0, none⟩), .string ⟨#[]⟩] (V.drewN m) fun e w' => e = .returned (.tuple #[]) ∧ TdAt w' b u E ap oo cp oc ∧ Kept (One b) (V.drewN m) w' := fun m => by
      refine (don_any (V.drewN m) b t ⟨hd, r.n, D.d⟩ ap oo cp oc (HVd m).out 10 hl ha).mono fun e w' ⟨h1, h2, h3⟩ => ⟨h1, ?_, h3⟩
      rw [HU2.out, HD.out, ← Hhd.out]
      rw [Hp.out] at h2
      exact h2.see r
    have HUO : Hid (u.old = t.old) := by show _ = _; rw [HU2.out]; exact further_oldD _ 8 10
    clear HU2 HU HD
    go_quiet (fail)
    go_wp2_with fail
    go_fit (ON _)
    rintro _ w2 ⟨rfl, h2, k2⟩
    have HY : Hid ((∃ o1 c1, TdAt w2 b u E ap o1 cp c1 ∧ OwnI B w2 o1 c1 u.old ∧ NwI oo w o1) ∧ Kept (One b) w w2) := by
      have hk : Kept (One b) V w2 := ((Kept.refl _ _).drewN _).trans k2
      refine ⟨⟨oo, oc, h2, ?_, .inl rfl⟩, (KW.out.oneNil.trans HV.out.2).trans hk⟩
      rw [HUO.out]
      exact HOV.out.txn HV.out.1 hk
    clear h2 k2 ON
    go_wp2
    go_end0
    exact ⟨rfl, HY.out⟩
end Go.Proofs.YtflnjlbafchnaaaGreatDoor
