/-
  Joined: WTx8.
-/
import Derived.Test.YtflnjlbafchnaaaGreatDoorR11
/-
  Transactions: cleared, Answer (the program).
-/
namespace Go.Proofs.YtflnjlbafchnaaaGreatDoor
open Go.RowKit

set_option maxRecDepth 100000 in
set_option maxHeartbeats 4000000 in
theorem cleared_any (w : World) (b : Nat) (t : Tx) (ap oo : Option Addr) (cp oc : Nat) (h : TxAt w b t ap oo cp oc) (B : Nat) (hP : OwnT B w ap cp t.ps) (hO : OwnI B w oo oc t.old) (hB : B ≤ w.heap.size) (hK : t.Ok) (hL : LD w) (r : Rr) (ko : Option Addr) (kc : Nat) (hv : r.v.length ≤ 1048576) :
    Calls Tryz.prog 63 #[.pointer (some ⟨b, 0, none⟩), rrV r ko kc] w (TxPost B w b (t.cleared r) ap oo cp) := by
  obtain ⟨u, HU⟩ : ∃ u, Hid (u = t.cleared r) := ⟨_, rfl⟩
  rw [← HU.out]
  have hlt : b < w.heap.size := lt_of_block h
  have HK : Hid (t.Ok) := hK
  have HP : Hid (OwnT B w ap cp t.ps) := hP
  have HO : Hid (OwnI B w oo oc t.old) := hO
  have HBw : Hid (B ≤ w.heap.size) := hB
  obtain ⟨W, hW⟩ : ∃ W, W = w.alloc (.cells #[.int .i64 r.kd, .string (bs r.v), .int .i64 r.n, .slice ko r.ks.length kc] 50) := ⟨_, rfl⟩
  obtain ⟨A, HAe⟩ : ∃ A, Hid (A = w.heap.size) := ⟨_, rfl⟩
  have KW : Hid (Kept Nil w W) := by rw [hW]; exact (Kept.refl _ _).alloc _
  have HAW : Hid (W.heap[A]? = some (.cells #[.int .i64 r.kd, .string (bs r.v), .int .i64 r.n, .slice ko r.ks.length kc] 50 (0, 0))) := by rw [hW, HAe.out]; exact blk_new _ _
  have HTW : Hid (TxAt W b t ap oo cp oc) := by rw [hW]; exact h.past _
  have SE := see_any W b t ap oo cp oc HTW.out r ko kc (hL.kept KW.out) hv
  unfold rrV at SE
  have e0 : W.cell? ⟨A, 0, none⟩ = some (.int .i64 r.kd) := blk_at ((Kept.refl Nil W).block _ _ HAW.out (fun x => x.elim)) 0 rfl
  have e1 : W.cell? ⟨A, 1, none⟩ = some (.string (bs r.v)) := blk_at ((Kept.refl Nil W).block _ _ HAW.out (fun x => x.elim)) 1 rfl
  have e2 : W.cell? ⟨A, 2, none⟩ = some (.int .i64 r.n) := blk_at ((Kept.refl Nil W).block _ _ HAW.out (fun x => x.elim)) 2 rfl
  have e3 : W.cell? ⟨A, 3, none⟩ = some (.slice ko r.ks.length kc) := blk_at ((Kept.refl Nil W).block _ _ HAW.out (fun x => x.elim)) 3 rfl
  have H : Hid (TxAt w b t ap oo cp oc) := h
  clear h hP hO hB hK hL hv
  unfold rrV
  go_enter Tryz.func63, Tryz.ntmps63
  go_wp2_with fail
  rw [← hW, ← HAe.out]
  clear hW
  go_fit SE
  clear SE e0 e1 e2 e3
  rintro _ w2 ⟨rfl, t2, k2⟩
  have K2 : Hid (Kept (One b) w w2) := KW.out.oneNil.trans k2
  obtain ⟨s, HS⟩ : ∃ s, Hid (s = t.see r) := ⟨_, rfl⟩
  rw [← HS.out] at t2
  have HT2 : Hid (TxAt w2 b s ap oo cp oc) := t2
  have HP2 : Hid (OwnT B w2 ap cp s.ps) := by rw [HS.out]; exact HP.out.keptX K2.out (fun a ha _ x => HP.out.ne H.out a ha x)
  have HO2 : Hid (OwnI B w2 oo oc s.old) := by rw [HS.out]; exact HO.out.keptX K2.out (fun a ha _ x => HO.out.ne H.out a ha x)
  have HB2 : Hid (B ≤ w2.heap.size) := Nat.le_trans HBw.out K2.out.size
  have HSo : Hid (s.sn.Ok ∧ s.ps = t.ps ∧ s.at' = t.at' ∧ s.old = t.old ∧ s.id = t.id) := by rw [HS.out]; exact ⟨hdOf_ok _, rfl, rfl, rfl, rfl⟩
  clear t2 k2
  have HUs : Hid (u = if s.sn.b = s.id then { s with ph := 9 } else s.further 8 10) := by
    show _ = _
    rw [HU.out, HS.out]
    unfold Tx.cleared
    rfl
  obtain ⟨X, hX⟩ : ∃ X, X = w2.drew := ⟨_, rfl⟩
  have KX : Hid (Kept (One b) w X) := by rw [hX]; exact K2.out.drew
  have HTX : Hid (TxAt X b s ap oo cp oc) := by rw [hX]; exact HT2.out
  have HOX : Hid (OwnI B X oo oc s.old) := by rw [hX]; exact HO2.out.kept ((Kept.refl _ _).drew)
  have p0 : w2.cell? ⟨b, 0, none⟩ = some (.int .i64 s.id) := blk_at HT2.out 0 rfl
  have p4 : w2.cell? ⟨b, 4, none⟩ = some (.int .i64 s.ph) := blk_at HT2.out 4 rfl
  have p7 : w2.cell? ⟨b, 7, none⟩ = some (.int .i64 s.sn.b) := blk_at HT2.out 7 rfl
  have f4 : w2.frozen? ⟨b, 4, none⟩ = false := blk_free HT2.out 4
  by_cases c1 : s.sn.b = s.id
  · have hb : ((s.sn.b : Int) == (s.id : Int)) = true := by simp [c1]
    obtain ⟨V, hV⟩ : ∃ V, V = (w2.setCell ⟨b, 4, none⟩ (.int .i64 9)).drew := ⟨_, rfl⟩
    have HF : Hid (TxPost B w b u ap oo cp (.returned (.tuple #[])) V) := by
      refine TxPost.after K2.out (TxPost.same HO2.out HT2.out ?_ ?_ ?_)
      · rw [HUs.out, hV, if_pos c1]
        exact HT2.out.s4 9
      · rw [hV]; exact ((Kept.refl _ _).setCell (p := ⟨b, 4, none⟩) (fun _ => rfl) _).drew
      · rw [HUs.out, if_pos c1]
    clear hX c1
    go_wp2
    go_region
    all_goals
      go_wp2
      rw [← hV]
      go_end0
      exact HF.out
  · have hb : ((s.sn.b : Int) == (s.id : Int)) = false := by simp; omega
    have FU := further_any X b s ap oo cp oc HTX.out 8 10 (by rw [HSo.out.2.1]; exact HK.out.len4) (by rw [HSo.out.2.1, HSo.out.2.2.1]; exact HK.out.at')
    rw [show s.further 8 10 = u by rw [HUs.out, if_neg c1]] at FU
    have HUo : Hid (u.old = s.old) := by show _ = _; rw [HUs.out, if_neg c1]; exact further_old _ _ _
    clear c1
    go_wp2
    go_region
    all_goals
      go_wp2_with fail
      rw [← hX]
      go_fit FU
      rintro _ w5 ⟨rfl, t5, k5⟩
      have HF : Hid (TxPost B w b u ap oo cp (.returned (.tuple #[])) w5) := TxPost.after KX.out (TxPost.same HOX.out HTX.out t5 k5 HUo.out)
      clear t5 k5
      go_wp2
      go_end0
      exact HF.out
set_option maxRecDepth 100000 in
set_option maxHeartbeats 4000000 in
theorem answer_any (w : World) (b : Nat) (t : Tx) (ap oo : Option Addr) (cp oc : Nat) (h : TxAt w b t ap oo cp oc) (B : Nat) (hP : OwnT B w ap cp t.ps) (hO : OwnI B w oo oc t.old) (hB : B ≤ w.heap.size) (hK : t.Ok) (hL : LD w) (r : Rr) (ko : Option Addr) (kc : Nat) (hv : r.v.length ≤ 1048576) :
    Calls Tryz.prog 17 #[.pointer (some ⟨b, 0, none⟩), rrV r ko kc] w (TxPost B w b (t.answer r) ap oo cp) := by
  obtain ⟨u, HU⟩ : ∃ u, Hid (u = t.answer r) := ⟨_, rfl⟩
  rw [← HU.out]
  have hlt : b < w.heap.size := lt_of_block h
  obtain ⟨W, hW⟩ : ∃ W, W = w.alloc (.cells #[.int .i64 r.kd, .string (bs r.v), .int .i64 r.n, .slice ko r.ks.length kc] 50) := ⟨_, rfl⟩
  obtain ⟨A, HAe⟩ : ∃ A, Hid (A = w.heap.size) := ⟨_, rfl⟩
  have KW : Hid (Kept Nil w W) := by rw [hW]; exact (Kept.refl _ _).alloc _
  have HAW : Hid (W.heap[A]? = some (.cells #[.int .i64 r.kd, .string (bs r.v), .int .i64 r.n, .slice ko r.ks.length kc] 50 (0, 0))) := by rw [hW, HAe.out]; exact blk_new _ _
  have HTW : Hid (TxAt W b t ap oo cp oc) := by rw [hW]; exact h.past _
  have HBW : Hid (B ≤ W.heap.size) := Nat.le_trans hB KW.out.size
  have HLW : Hid (LD W) := hL.kept KW.out
  have HPW : Hid (OwnT B W ap cp t.ps) := hP.keptX KW.out (fun _ _ _ x => x.elim)
  have HOW : Hid (OwnI B W oo oc t.old) := hO.kept KW.out
  have KWo : Hid (Kept (One b) w W) := KW.out.oneNil
  have HK : Hid (t.Ok) := hK
  have hph := hK.ph
  obtain ⟨d, HD⟩ : ∃ d : Bool, Hid (d = decide (r.kd = 1)) := ⟨_, rfl⟩
  have hd : (r.kd == 1) = d := by rw [HD.out, Bool.eq_iff_iff]; simp
  have e0 : W.cell? ⟨A, 0, none⟩ = some (.int .i64 r.kd) := blk_at ((Kept.refl Nil W).block _ _ HAW.out (fun x => x.elim)) 0 rfl
  have e1 : W.cell? ⟨A, 1, none⟩ = some (.string (bs r.v)) := blk_at ((Kept.refl Nil W).block _ _ HAW.out (fun x => x.elim)) 1 rfl
  have e2 : W.cell? ⟨A, 2, none⟩ = some (.int .i64 r.n) := blk_at ((Kept.refl Nil W).block _ _ HAW.out (fun x => x.elim)) 2 rfl
  have e3 : W.cell? ⟨A, 3, none⟩ = some (.slice ko r.ks.length kc) := blk_at ((Kept.refl Nil W).block _ _ HAW.out (fun x => x.elim)) 3 rfl
  have GEN : ∀ (k : Nat), t.ph = k → W.cell? ⟨b, 4, none⟩ = some (.int .i64 (k : Nat)) := fun k e => by rw [← e]; exact blk_at HTW.out 4 rfl
  have hfr : W.frozen? ⟨b, 4, none⟩ = false := blk_free HTW.out 4
  have LK := looked_any W b t ap oo cp oc HTW.out B HPW.out HOW.out HBW.out hK HLW.out r ko kc hv
  have CL := cleared_any W b t ap oo cp oc HTW.out B HPW.out HOW.out HBW.out hK HLW.out r ko kc hv
  have TK := took_any W b t ap oo cp oc HTW.out B HOW.out HBW.out hK.len4 hK.at' hK.old d
  have AS := asked_any W b t ap oo cp oc HTW.out r ko kc
  have BG := begun_any W b t ap oo cp oc HTW.out d
  have ST := settle_any W b t ap oo cp oc HTW.out d
  have SF := settle_any W b t ap oo cp oc HTW.out false
  have FU := further_any W b t ap oo cp oc HTW.out 8 10 hK.len4 hK.at'
  unfold rrV at LK CL AS
  clear h hP hO hB hK hL hv
  unfold rrV
  rcases (show t.ph = 0 ∨ t.ph = 1 ∨ t.ph = 2 ∨ t.ph = 3 ∨ t.ph = 4 ∨ t.ph = 5 ∨ t.ph = 6 ∨ t.ph = 7 ∨ t.ph = 8 ∨ t.ph = 9 ∨ t.ph = 10 by omega) with hp | hp | hp | hp | hp | hp | hp | hp | hp | hp | hp
  · have HUE : Hid (u = t.begun d) := by
      show _ = _
      rw [HU.out]
      unfold Tx.answer
      rw [HD.out]
      simp [hp]
    have q4 : W.cell? ⟨b, 4, none⟩ = some (.int .i64 0) := GEN 0 hp
    clear GEN hp hph
    rw [← HUE.out] at BG
    clear LK CL TK AS ST SF FU
    have HUo : Hid (u.old = t.old) := by show _ = _; rw [HUE.out]; unfold Tx.begun; split <;> rfl
    go_enter Tryz.func17, Tryz.ntmps17
    go_upto_region 1 with fail
    rw [← hW, ← HAe.out]
    clear hW
    go_wp2_with fail
    go_fit BG
    clear BG
    rintro _ w5 ⟨rfl, t5, k5⟩
    have HF : Hid (TxPost B w b u ap oo cp (.returned (.tuple #[])) w5) := TxPost.after KWo.out (TxPost.same HOW.out HTW.out t5 k5 HUo.out)
    clear t5 k5
    go_wp2
    go_end0
    exact HF.out
  · have HUE : Hid (u = t.looked r) := by
      show _ = _
      rw [HU.out]
      unfold Tx.answer
      simp [hp]
    have q4 : W.cell? ⟨b, 4, none⟩ = some (.int .i64 1) := GEN 1 hp
    clear GEN hp hph
    rw [← HUE.out] at LK
    clear CL TK AS BG ST SF FU
    go_enter Tryz.func17, Tryz.ntmps17
    go_upto_region 1 with fail
    rw [← hW, ← HAe.out]
    clear hW
    go_wp2_with fail
    go_fit LK
    clear LK
    rintro _ w5 ⟨rfl, oo', oc', t5, o5, k5, a5⟩
    have HF : Hid (TxPost B w b u ap oo cp (.returned (.tuple #[])) w5) := TxPost.after KWo.out ⟨rfl, oo', oc', t5, o5, k5, a5⟩
    clear t5 o5 k5 a5
    go_wp2
    go_end0
    exact HF.out
  · have HUE : Hid (u = t.took d) := by
      show _ = _
      rw [HU.out]
      unfold Tx.answer
      rw [HD.out]
      simp [hp]
    have q4 : W.cell? ⟨b, 4, none⟩ = some (.int .i64 2) := GEN 2 hp
    clear GEN hp hph
    rw [← HUE.out] at TK
    clear LK CL AS BG ST SF FU
    go_enter Tryz.func17, Tryz.ntmps17
    go_upto_region 1 with fail
    rw [← hW, ← HAe.out]
    clear hW
    go_wp2_with fail
    go_fit TK
    clear TK
    rintro _ w5 ⟨rfl, oo', oc', t5, o5, k5, a5⟩
    have HF : Hid (TxPost B w b u ap oo cp (.returned (.tuple #[])) w5) := TxPost.after KWo.out ⟨rfl, oo', oc', t5, o5, k5, a5⟩
    clear t5 o5 k5 a5
    go_wp2
    go_end0
    exact HF.out
  · have HUE : Hid (u = t.asked r) := by
      show _ = _
      rw [HU.out]
      unfold Tx.answer
      simp [hp]
    have q4 : W.cell? ⟨b, 4, none⟩ = some (.int .i64 3) := GEN 3 hp
    clear GEN hp hph
    rw [← HUE.out] at AS
    clear LK CL TK BG ST SF FU
    have HUo : Hid (u.old = t.old) := by show _ = _; rw [HUE.out]; rfl
    go_enter Tryz.func17, Tryz.ntmps17
    go_upto_region 1 with fail
    rw [← hW, ← HAe.out]
    clear hW
    go_wp2_with fail
    go_fit AS
    clear AS
    rintro _ w5 ⟨rfl, t5, k5⟩
    have HF : Hid (TxPost B w b u ap oo cp (.returned (.tuple #[])) w5) := TxPost.after KWo.out (TxPost.same HOW.out HTW.out t5 k5 HUo.out)
    clear t5 k5
    go_wp2
    go_end0
    exact HF.out
  · have HUE : Hid (u = { t with ph := 1 }) := by
      show _ = _
      rw [HU.out]
      unfold Tx.answer
      simp [hp]
    have q4 : W.cell? ⟨b, 4, none⟩ = some (.int .i64 4) := GEN 4 hp
    clear GEN hp hph
    clear LK CL TK AS BG ST SF FU
    obtain ⟨V, hV⟩ : ∃ V, V = W.setCell ⟨b, 4, none⟩ (.int .i64 1) := ⟨_, rfl⟩
    have HF : Hid (TxPost B w b u ap oo cp (.returned (.tuple #[])) V) := by
      refine TxPost.after KWo.out (TxPost.same HOW.out HTW.out ?_ ?_ ?_)
      · rw [HUE.out, hV]; exact HTW.out.s4 1
      · rw [hV]; exact (Kept.refl _ _).setCell (p := ⟨b, 4, none⟩) (fun _ => rfl) _
      · rw [HUE.out]
    go_enter Tryz.func17, Tryz.ntmps17
    go_upto_region 1 with fail
    rw [← hW, ← HAe.out]
    clear hW
    go_wp2
    rw [← hV]
    go_end0
    exact HF.out
  · have HUE : Hid (u = { t with ph := 1 }) := by
      show _ = _
      rw [HU.out]
      unfold Tx.answer
      simp [hp]
    have q4 : W.cell? ⟨b, 4, none⟩ = some (.int .i64 5) := GEN 5 hp
    clear GEN hp hph
    clear LK CL TK AS BG ST SF FU
    obtain ⟨V, hV⟩ : ∃ V, V = W.setCell ⟨b, 4, none⟩ (.int .i64 1) := ⟨_, rfl⟩
    have HF : Hid (TxPost B w b u ap oo cp (.returned (.tuple #[])) V) := by
      refine TxPost.after KWo.out (TxPost.same HOW.out HTW.out ?_ ?_ ?_)
      · rw [HUE.out, hV]; exact HTW.out.s4 1
      · rw [hV]; exact (Kept.refl _ _).setCell (p := ⟨b, 4, none⟩) (fun _ => rfl) _
      · rw [HUE.out]
    go_enter Tryz.func17, Tryz.ntmps17
    go_upto_region 1 with fail
    rw [← hW, ← HAe.out]
    clear hW
    go_wp2
    rw [← hV]
    go_end0
    exact HF.out
  · have HUE : Hid (u = t.settle d) := by
      show _ = _
      rw [HU.out]
      unfold Tx.answer
      rw [HD.out]
      simp [hp]
    have q4 : W.cell? ⟨b, 4, none⟩ = some (.int .i64 6) := GEN 6 hp
    clear GEN hp hph
    rw [← HUE.out] at ST
    clear LK CL TK AS BG SF FU
    have HUo : Hid (u.old = t.old) := by show _ = _; rw [HUE.out]; rfl
    go_enter Tryz.func17, Tryz.ntmps17
    go_upto_region 1 with fail
    rw [← hW, ← HAe.out]
    clear hW
    go_wp2_with fail
    go_fit ST
    clear ST
    rintro _ w5 ⟨rfl, t5, k5⟩
    have HF : Hid (TxPost B w b u ap oo cp (.returned (.tuple #[])) w5) := TxPost.after KWo.out (TxPost.same HOW.out HTW.out t5 k5 HUo.out)
    clear t5 k5
    go_wp2
    go_end0
    exact HF.out
  · have HUE : Hid (u = t.settle false) := by
      show _ = _
      rw [HU.out]
      unfold Tx.answer
      simp [hp]
    have q4 : W.cell? ⟨b, 4, none⟩ = some (.int .i64 7) := GEN 7 hp
    clear GEN hp hph
    rw [← HUE.out] at SF
    clear LK CL TK AS BG ST FU
    have HUo : Hid (u.old = t.old) := by show _ = _; rw [HUE.out]; rfl
    go_enter Tryz.func17, Tryz.ntmps17
    go_upto_region 1 with fail
    rw [← hW, ← HAe.out]
    clear hW
    go_wp2_with fail
    go_fit SF
    clear SF
    rintro _ w5 ⟨rfl, t5, k5⟩
    have HF : Hid (TxPost B w b u ap oo cp (.returned (.tuple #[])) w5) := TxPost.after KWo.out (TxPost.same HOW.out HTW.out t5 k5 HUo.out)
    clear t5 k5
    go_wp2
    go_end0
    exact HF.out
  · have HUE : Hid (u = t.cleared r) := by
      show _ = _
      rw [HU.out]
      unfold Tx.answer
      simp [hp]
    have q4 : W.cell? ⟨b, 4, none⟩ = some (.int .i64 8) := GEN 8 hp
    clear GEN hp hph
    rw [← HUE.out] at CL
    clear LK TK AS BG ST SF FU
    go_enter Tryz.func17, Tryz.ntmps17
    go_upto_region 1 with fail
    rw [← hW, ← HAe.out]
    clear hW
    go_wp2_with fail
    go_fit CL
    clear CL
    rintro _ w5 ⟨rfl, oo', oc', t5, o5, k5, a5⟩
    have HF : Hid (TxPost B w b u ap oo cp (.returned (.tuple #[])) w5) := TxPost.after KWo.out ⟨rfl, oo', oc', t5, o5, k5, a5⟩
    clear t5 o5 k5 a5
    go_wp2
    go_end0
    exact HF.out
  · have HUE : Hid (u = t.further 8 10) := by
      show _ = _
      rw [HU.out]
      unfold Tx.answer
      simp [hp]
    have q4 : W.cell? ⟨b, 4, none⟩ = some (.int .i64 9) := GEN 9 hp
    clear GEN hp hph
    rw [← HUE.out] at FU
    clear LK CL TK AS BG ST SF
    have HUo : Hid (u.old = t.old) := by show _ = _; rw [HUE.out]; exact further_old _ _ _
    go_enter Tryz.func17, Tryz.ntmps17
    go_upto_region 1 with fail
    rw [← hW, ← HAe.out]
    clear hW
    go_wp2_with fail
    go_fit FU
    clear FU
    rintro _ w5 ⟨rfl, t5, k5⟩
    have HF : Hid (TxPost B w b u ap oo cp (.returned (.tuple #[])) w5) := TxPost.after KWo.out (TxPost.same HOW.out HTW.out t5 k5 HUo.out)
    clear t5 k5
    go_wp2
    go_end0
    exact HF.out
  · have HUE : Hid (u = t) := by
      show _ = _
      rw [HU.out]
      unfold Tx.answer
      simp [hp]
    have q4 : W.cell? ⟨b, 4, none⟩ = some (.int .i64 10) := GEN 10 hp
    clear GEN hp hph
    clear LK CL TK AS BG ST SF FU
    have HF : Hid (TxPost B w b u ap oo cp (.returned (.tuple #[])) W) := TxPost.after KWo.out (TxPost.same HOW.out HTW.out (by rw [HUE.out]; exact HTW.out) (Kept.refl _ _) (by rw [HUE.out]))
    go_enter Tryz.func17, Tryz.ntmps17
    go_upto_region 1 with fail
    rw [← hW, ← HAe.out]
    clear hW
    go_wp2
    go_end0
    exact HF.out
end Go.Proofs.YtflnjlbafchnaaaGreatDoor
