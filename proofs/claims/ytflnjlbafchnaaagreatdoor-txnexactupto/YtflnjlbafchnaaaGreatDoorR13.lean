/-
  Joined: WTz4.
-/
import Derived.Test.YtflnjlbafchnaaaGreatDoorR12
import Derived.BigQuiet
import Derived.BigRegion
/-
  TxnExact: the document's Answer, in the phases in which nothing is noted.
-/
namespace Go.Proofs.YtflnjlbafchnaaaGreatDoor
open Go.RowKit

theorem OwnI.txn {B c b : Nat} {w w' : World} {ao : Option Addr} {zs : List Int} {t : Tx} {D : Dx} {ap oo : Option Addr} {cp oc : Nat} (h : OwnI B w ao c zs) (hT : TdAt w b t D ap oo cp oc) (k : Kept (One b) w w') : OwnI B w' ao c zs :=
  h.keptX k (fun a ha _ e => by
    obtain ⟨_, cur, fr, h2⟩ := h.lt a ha
    have e2 : a.block = b := e
    rw [e2] at h2
    unfold TdAt at hT
    rw [hT] at h2
    simp at h2)
set_option maxRecDepth 100000 in
set_option maxHeartbeats 4000000 in
theorem dans0 (w : World) (b : Nat) (t : Tx) (D : Dx) (ap oo : Option Addr) (cp oc : Nat) (h : TdAt w b t D ap oo cp oc) (B : Nat) (hO : OwnI B w oo oc t.old) (_hl : t.ps.length ≤ 4) (_ha : t.at' < t.ps.length) (r : Rr) (ko : Option Addr) (kc : Nat) (hp : t.ph = 0) :
    Calls Tryz.prog 18 #[.pointer (some ⟨b, 0, none⟩), rrV r ko kc] w (DdPost B w b (t.answer r) (D.ans t r) ap cp oo) := by
  obtain ⟨W, hW⟩ : ∃ W, W = w.alloc (.cells #[.int .i64 r.kd, .string (bs r.v), .int .i64 r.n, .slice ko r.ks.length kc] 50) := ⟨_, rfl⟩
  obtain ⟨A, HAe⟩ : ∃ A, Hid (A = w.heap.size) := ⟨_, rfl⟩
  have KW : Hid (Kept Nil w W) := by rw [hW]; exact (Kept.refl _ _).alloc _
  have HA : Hid (W.heap[A]? = some (.cells #[.int .i64 r.kd, .string (bs r.v), .int .i64 r.n, .slice ko r.ks.length kc] 50 (0, 0))) := by rw [hW, HAe.out]; exact blk_new _ _
  have HT : Hid (TdAt W b t D ap oo cp oc) := h.kept KW.out
  have HO : Hid (OwnI B W oo oc t.old) := hO.kept KW.out
  have hbA : b ≠ A := by rw [HAe.out]; have := lt_of_block h; omega
  have hAb : A ≠ b := hbA.symm
  have a0 : W.cell? ⟨A, 0, none⟩ = some (.int .i64 r.kd) := blk_at HA.out 0 rfl
  have a1 : W.cell? ⟨A, 1, none⟩ = some (.string (bs r.v)) := blk_at HA.out 1 rfl
  have a2 : W.cell? ⟨A, 2, none⟩ = some (.int .i64 r.n) := blk_at HA.out 2 rfl
  have q2 : W.cell? ⟨b, 2, none⟩ = some (.string ⟨#[98, 101, 103, 105, 110]⟩) := by
    have e : W.cell? ⟨b, 2, none⟩ = some (.string (bs (phW t.ph))) := blk_at HT.out 2 rfl
    rw [hp] at e
    exact e
  have f2 : W.frozen? ⟨b, 2, none⟩ = false := blk_free HT.out 2
  have f10 : W.frozen? ⟨b, 10, none⟩ = false := blk_free HT.out 10
  have q10 : W.cell? ⟨b, 10, none⟩ = some (.int .i64 t.st) := blk_at HT.out 10 rfl
  obtain ⟨u, Hu⟩ : ∃ u, Hid (u = t.answer r) := ⟨_, rfl⟩
  obtain ⟨E, HE⟩ : ∃ u, Hid (u = D.ans t r) := ⟨_, rfl⟩
  rw [← Hu.out, ← HE.out]
  have HU : Hid (u = t.begun (decide (r.kd = 1))) := by show _ = _; rw [Hu.out]; unfold Tx.answer; simp [hp]
  have HD : Hid (E = D) := by show _ = _; rw [HE.out]; unfold Dx.ans; simp [hp]
  clear hp Hu HE
  by_cases c1 : r.kd = 1
  · have y1 : (r.kd == 1) = true := by simp [c1]
    obtain ⟨Y, hY⟩ : ∃ Y, Y = (W.setCell ⟨b, 2, none⟩ (.string ⟨#[108, 111, 111, 107]⟩)) := ⟨_, rfl⟩
    have HK : Hid (Kept (One b) W Y) := by rw [hY]; exact ((Kept.refl _ _).setCell (p := ⟨b, 2, none⟩) (fun _ => rfl) _)
    have HY : Hid ((∃ o1 c1, TdAt Y b u E ap o1 cp c1 ∧ OwnI B Y o1 c1 u.old ∧ NwI oo w o1) ∧ Kept (One b) w Y) := by
      have h1 := HO.out.txn HT.out HK.out
      have h2 := HK.out
      refine ⟨⟨oo, oc, ?_, ?_, .inl rfl⟩, KW.out.oneNil.trans h2⟩
      · rw [HU.out, HD.out, hY]
        unfold Tx.begun; rw [if_pos (by simp [c1])]
        exact HT.out.s2 1
      · rw [HU.out]
        unfold Tx.begun; rw [if_pos (by simp [c1])]
        exact h1
    clear HU HD HK c1
    unfold rrV
    go_enter Tryz.func18, Tryz.ntmps18
    go_upto_region 1 with fail
    rw [← hW, ← HAe.out]
    clear hW HAe
    go_wp2
    rw [← hY]
    go_end0
    exact ⟨rfl, HY.out⟩
  · have y1 : (r.kd == 1) = false := by simp [c1]
    obtain ⟨Y, hY⟩ : ∃ Y, Y = (((W.setCell ⟨b, 2, none⟩ (.string ⟨#[108, 111, 111, 107]⟩)).setCell ⟨b, 2, none⟩ (.string ⟨#[]⟩)).setCell ⟨b, 10, none⟩ (.int .i64 3)) := ⟨_, rfl⟩
    have HK : Hid (Kept (One b) W Y) := by rw [hY]; exact ((((Kept.refl _ _).setCell (p := ⟨b, 2, none⟩) (fun _ => rfl) _).setCell (p := ⟨b, 2, none⟩) (fun _ => rfl) _).setCell (p := ⟨b, 10, none⟩) (fun _ => rfl) _)
    have HY : Hid ((∃ o1 c1, TdAt Y b u E ap o1 cp c1 ∧ OwnI B Y o1 c1 u.old ∧ NwI oo w o1) ∧ Kept (One b) w Y) := by
      have h1 := HO.out.txn HT.out HK.out
      have h2 := HK.out
      refine ⟨⟨oo, oc, ?_, ?_, .inl rfl⟩, KW.out.oneNil.trans h2⟩
      · rw [HU.out, HD.out, hY]
        unfold Tx.begun; rw [if_neg (by simp [c1])]
        exact ((HT.out.s2 1).s2 10).s10 3
      · rw [HU.out]
        unfold Tx.begun; rw [if_neg (by simp [c1])]
        exact h1
    clear HU HD HK c1
    unfold rrV
    go_enter Tryz.func18, Tryz.ntmps18
    go_upto_region 1 with fail
    rw [← hW, ← HAe.out]
    clear hW HAe
    go_wp2
    rw [← hY]
    go_end0
    exact ⟨rfl, HY.out⟩
set_option maxRecDepth 100000 in
set_option maxHeartbeats 4000000 in
theorem dans4 (w : World) (b : Nat) (t : Tx) (D : Dx) (ap oo : Option Addr) (cp oc : Nat) (h : TdAt w b t D ap oo cp oc) (B : Nat) (hO : OwnI B w oo oc t.old) (_hl : t.ps.length ≤ 4) (_ha : t.at' < t.ps.length) (r : Rr) (ko : Option Addr) (kc : Nat) (hp : t.ph = 4) :
    Calls Tryz.prog 18 #[.pointer (some ⟨b, 0, none⟩), rrV r ko kc] w (DdPost B w b (t.answer r) (D.ans t r) ap cp oo) := by
  obtain ⟨W, hW⟩ : ∃ W, W = w.alloc (.cells #[.int .i64 r.kd, .string (bs r.v), .int .i64 r.n, .slice ko r.ks.length kc] 50) := ⟨_, rfl⟩
  obtain ⟨A, HAe⟩ : ∃ A, Hid (A = w.heap.size) := ⟨_, rfl⟩
  have KW : Hid (Kept Nil w W) := by rw [hW]; exact (Kept.refl _ _).alloc _
  have HA : Hid (W.heap[A]? = some (.cells #[.int .i64 r.kd, .string (bs r.v), .int .i64 r.n, .slice ko r.ks.length kc] 50 (0, 0))) := by rw [hW, HAe.out]; exact blk_new _ _
  have HT : Hid (TdAt W b t D ap oo cp oc) := h.kept KW.out
  have HO : Hid (OwnI B W oo oc t.old) := hO.kept KW.out
  have hbA : b ≠ A := by rw [HAe.out]; have := lt_of_block h; omega
  have hAb : A ≠ b := hbA.symm
  have a0 : W.cell? ⟨A, 0, none⟩ = some (.int .i64 r.kd) := blk_at HA.out 0 rfl
  have a1 : W.cell? ⟨A, 1, none⟩ = some (.string (bs r.v)) := blk_at HA.out 1 rfl
  have a2 : W.cell? ⟨A, 2, none⟩ = some (.int .i64 r.n) := blk_at HA.out 2 rfl
  have q2 : W.cell? ⟨b, 2, none⟩ = some (.string ⟨#[101, 110, 100]⟩) := by
    have e : W.cell? ⟨b, 2, none⟩ = some (.string (bs (phW t.ph))) := blk_at HT.out 2 rfl
    rw [hp] at e
    exact e
  have f2 : W.frozen? ⟨b, 2, none⟩ = false := blk_free HT.out 2
  obtain ⟨u, Hu⟩ : ∃ u, Hid (u = t.answer r) := ⟨_, rfl⟩
  obtain ⟨E, HE⟩ : ∃ u, Hid (u = D.ans t r) := ⟨_, rfl⟩
  rw [← Hu.out, ← HE.out]
  have HU : Hid (u = { t with ph := 1 }) := by show _ = _; rw [Hu.out]; unfold Tx.answer; simp [hp]
  have HD : Hid (E = D) := by show _ = _; rw [HE.out]; unfold Dx.ans; simp [hp]
  clear hp Hu HE
  obtain ⟨Y, hY⟩ : ∃ Y, Y = (W.setCell ⟨b, 2, none⟩ (.string ⟨#[108, 111, 111, 107]⟩)) := ⟨_, rfl⟩
  have HK : Hid (Kept (One b) W Y) := by rw [hY]; exact ((Kept.refl _ _).setCell (p := ⟨b, 2, none⟩) (fun _ => rfl) _)
  have HY : Hid ((∃ o1 c1, TdAt Y b u E ap o1 cp c1 ∧ OwnI B Y o1 c1 u.old ∧ NwI oo w o1) ∧ Kept (One b) w Y) := by
    have h1 := HO.out.txn HT.out HK.out
    have h2 := HK.out
    refine ⟨⟨oo, oc, ?_, ?_, .inl rfl⟩, KW.out.oneNil.trans h2⟩
    · rw [HU.out, HD.out, hY]
      exact HT.out.s2 1
    · rw [HU.out]
      exact h1
  clear HU HD HK
  unfold rrV
  go_enter Tryz.func18, Tryz.ntmps18
  go_upto_region 1 with fail
  rw [← hW, ← HAe.out]
  clear hW HAe
  go_wp2
  rw [← hY]
  go_end0
  exact ⟨rfl, HY.out⟩
set_option maxRecDepth 100000 in
set_option maxHeartbeats 4000000 in
theorem dans5 (w : World) (b : Nat) (t : Tx) (D : Dx) (ap oo : Option Addr) (cp oc : Nat) (h : TdAt w b t D ap oo cp oc) (B : Nat) (hO : OwnI B w oo oc t.old) (_hl : t.ps.length ≤ 4) (_ha : t.at' < t.ps.length) (r : Rr) (ko : Option Addr) (kc : Nat) (hp : t.ph = 5) :
    Calls Tryz.prog 18 #[.pointer (some ⟨b, 0, none⟩), rrV r ko kc] w (DdPost B w b (t.answer r) (D.ans t r) ap cp oo) := by
  obtain ⟨W, hW⟩ : ∃ W, W = w.alloc (.cells #[.int .i64 r.kd, .string (bs r.v), .int .i64 r.n, .slice ko r.ks.length kc] 50) := ⟨_, rfl⟩
  obtain ⟨A, HAe⟩ : ∃ A, Hid (A = w.heap.size) := ⟨_, rfl⟩
  have KW : Hid (Kept Nil w W) := by rw [hW]; exact (Kept.refl _ _).alloc _
  have HA : Hid (W.heap[A]? = some (.cells #[.int .i64 r.kd, .string (bs r.v), .int .i64 r.n, .slice ko r.ks.length kc] 50 (0, 0))) := by rw [hW, HAe.out]; exact blk_new _ _
  have HT : Hid (TdAt W b t D ap oo cp oc) := h.kept KW.out
  have HO : Hid (OwnI B W oo oc t.old) := hO.kept KW.out
  have hbA : b ≠ A := by rw [HAe.out]; have := lt_of_block h; omega
  have hAb : A ≠ b := hbA.symm
  have a0 : W.cell? ⟨A, 0, none⟩ = some (.int .i64 r.kd) := blk_at HA.out 0 rfl
  have a1 : W.cell? ⟨A, 1, none⟩ = some (.string (bs r.v)) := blk_at HA.out 1 rfl
  have a2 : W.cell? ⟨A, 2, none⟩ = some (.int .i64 r.n) := blk_at HA.out 2 rfl
  have q2 : W.cell? ⟨b, 2, none⟩ = some (.string ⟨#[102, 114, 101, 101]⟩) := by
    have e : W.cell? ⟨b, 2, none⟩ = some (.string (bs (phW t.ph))) := blk_at HT.out 2 rfl
    rw [hp] at e
    exact e
  have f2 : W.frozen? ⟨b, 2, none⟩ = false := blk_free HT.out 2
  obtain ⟨u, Hu⟩ : ∃ u, Hid (u = t.answer r) := ⟨_, rfl⟩
  obtain ⟨E, HE⟩ : ∃ u, Hid (u = D.ans t r) := ⟨_, rfl⟩
  rw [← Hu.out, ← HE.out]
  have HU : Hid (u = { t with ph := 1 }) := by show _ = _; rw [Hu.out]; unfold Tx.answer; simp [hp]
  have HD : Hid (E = D) := by show _ = _; rw [HE.out]; unfold Dx.ans; simp [hp]
  clear hp Hu HE
  obtain ⟨Y, hY⟩ : ∃ Y, Y = (W.setCell ⟨b, 2, none⟩ (.string ⟨#[108, 111, 111, 107]⟩)) := ⟨_, rfl⟩
  have HK : Hid (Kept (One b) W Y) := by rw [hY]; exact ((Kept.refl _ _).setCell (p := ⟨b, 2, none⟩) (fun _ => rfl) _)
  have HY : Hid ((∃ o1 c1, TdAt Y b u E ap o1 cp c1 ∧ OwnI B Y o1 c1 u.old ∧ NwI oo w o1) ∧ Kept (One b) w Y) := by
    have h1 := HO.out.txn HT.out HK.out
    have h2 := HK.out
    refine ⟨⟨oo, oc, ?_, ?_, .inl rfl⟩, KW.out.oneNil.trans h2⟩
    · rw [HU.out, HD.out, hY]
      exact HT.out.s2 1
    · rw [HU.out]
      exact h1
  clear HU HD HK
  unfold rrV
  go_enter Tryz.func18, Tryz.ntmps18
  go_upto_region 1 with fail
  rw [← hW, ← HAe.out]
  clear hW HAe
  go_wp2
  rw [← hY]
  go_end0
  exact ⟨rfl, HY.out⟩
set_option maxRecDepth 100000 in
set_option maxHeartbeats 4000000 in
theorem dans10 (w : World) (b : Nat) (t : Tx) (D : Dx) (ap oo : Option Addr) (cp oc : Nat) (h : TdAt w b t D ap oo cp oc) (B : Nat) (hO : OwnI B w oo oc t.old) (_hl : t.ps.length ≤ 4) (_ha : t.at' < t.ps.length) (r : Rr) (ko : Option Addr) (kc : Nat) (hp : t.ph = 10) :
    Calls Tryz.prog 18 #[.pointer (some ⟨b, 0, none⟩), rrV r ko kc] w (DdPost B w b (t.answer r) (D.ans t r) ap cp oo) := by
  obtain ⟨W, hW⟩ : ∃ W, W = w.alloc (.cells #[.int .i64 r.kd, .string (bs r.v), .int .i64 r.n, .slice ko r.ks.length kc] 50) := ⟨_, rfl⟩
  obtain ⟨A, HAe⟩ : ∃ A, Hid (A = w.heap.size) := ⟨_, rfl⟩
  have KW : Hid (Kept Nil w W) := by rw [hW]; exact (Kept.refl _ _).alloc _
  have HA : Hid (W.heap[A]? = some (.cells #[.int .i64 r.kd, .string (bs r.v), .int .i64 r.n, .slice ko r.ks.length kc] 50 (0, 0))) := by rw [hW, HAe.out]; exact blk_new _ _
  have HT : Hid (TdAt W b t D ap oo cp oc) := h.kept KW.out
  have HO : Hid (OwnI B W oo oc t.old) := hO.kept KW.out
  have hbA : b ≠ A := by rw [HAe.out]; have := lt_of_block h; omega
  have hAb : A ≠ b := hbA.symm
  have a0 : W.cell? ⟨A, 0, none⟩ = some (.int .i64 r.kd) := blk_at HA.out 0 rfl
  have a1 : W.cell? ⟨A, 1, none⟩ = some (.string (bs r.v)) := blk_at HA.out 1 rfl
  have a2 : W.cell? ⟨A, 2, none⟩ = some (.int .i64 r.n) := blk_at HA.out 2 rfl
  have q2 : W.cell? ⟨b, 2, none⟩ = some (.string ⟨#[]⟩) := by
    have e : W.cell? ⟨b, 2, none⟩ = some (.string (bs (phW t.ph))) := blk_at HT.out 2 rfl
    rw [hp] at e
    exact e
  have f2 : W.frozen? ⟨b, 2, none⟩ = false := blk_free HT.out 2
  obtain ⟨u, Hu⟩ : ∃ u, Hid (u = t.answer r) := ⟨_, rfl⟩
  obtain ⟨E, HE⟩ : ∃ u, Hid (u = D.ans t r) := ⟨_, rfl⟩
  rw [← Hu.out, ← HE.out]
  have HU : Hid (u = t) := by show _ = _; rw [Hu.out]; unfold Tx.answer; simp [hp]
  have HD : Hid (E = D) := by show _ = _; rw [HE.out]; unfold Dx.ans; simp [hp]
  clear hp Hu HE
  obtain ⟨Y, hY⟩ : ∃ Y, Y = W := ⟨_, rfl⟩
  have HK : Hid (Kept (One b) W Y) := by rw [hY]; exact (Kept.refl _ _)
  have HY : Hid ((∃ o1 c1, TdAt Y b u E ap o1 cp c1 ∧ OwnI B Y o1 c1 u.old ∧ NwI oo w o1) ∧ Kept (One b) w Y) := by
    have h1 := HO.out.txn HT.out HK.out
    have h2 := HK.out
    refine ⟨⟨oo, oc, ?_, ?_, .inl rfl⟩, KW.out.oneNil.trans h2⟩
    · rw [HU.out, HD.out, hY]
      exact HT.out
    · rw [HU.out]
      exact h1
  clear HU HD HK
  unfold rrV
  go_enter Tryz.func18, Tryz.ntmps18
  go_upto_region 1 with fail
  rw [← hW, ← HAe.out]
  clear hW HAe
  go_wp2
  rw [← hY]
  go_end0
  exact ⟨rfl, HY.out⟩
set_option maxRecDepth 100000 in
set_option maxHeartbeats 4000000 in
theorem dans6 (w : World) (b : Nat) (t : Tx) (D : Dx) (ap oo : Option Addr) (cp oc : Nat) (h : TdAt w b t D ap oo cp oc) (B : Nat) (hO : OwnI B w oo oc t.old) (_hl : t.ps.length ≤ 4) (_ha : t.at' < t.ps.length) (r : Rr) (ko : Option Addr) (kc : Nat) (hp : t.ph = 6) :
    Calls Tryz.prog 18 #[.pointer (some ⟨b, 0, none⟩), rrV r ko kc] w (DdPost B w b (t.answer r) (D.ans t r) ap cp oo) := by
  obtain ⟨W, hW⟩ : ∃ W, W = w.alloc (.cells #[.int .i64 r.kd, .string (bs r.v), .int .i64 r.n, .slice ko r.ks.length kc] 50) := ⟨_, rfl⟩
  obtain ⟨A, HAe⟩ : ∃ A, Hid (A = w.heap.size) := ⟨_, rfl⟩
  have KW : Hid (Kept Nil w W) := by rw [hW]; exact (Kept.refl _ _).alloc _
  have HA : Hid (W.heap[A]? = some (.cells #[.int .i64 r.kd, .string (bs r.v), .int .i64 r.n, .slice ko r.ks.length kc] 50 (0, 0))) := by rw [hW, HAe.out]; exact blk_new _ _
  have HT : Hid (TdAt W b t D ap oo cp oc) := h.kept KW.out
  have HO : Hid (OwnI B W oo oc t.old) := hO.kept KW.out
  have hbA : b ≠ A := by rw [HAe.out]; have := lt_of_block h; omega
  have hAb : A ≠ b := hbA.symm
  have a0 : W.cell? ⟨A, 0, none⟩ = some (.int .i64 r.kd) := blk_at HA.out 0 rfl
  have a1 : W.cell? ⟨A, 1, none⟩ = some (.string (bs r.v)) := blk_at HA.out 1 rfl
  have a2 : W.cell? ⟨A, 2, none⟩ = some (.int .i64 r.n) := blk_at HA.out 2 rfl
  have q2 : W.cell? ⟨b, 2, none⟩ = some (.string ⟨#[99, 111, 109, 109, 105, 116]⟩) := by
    have e : W.cell? ⟨b, 2, none⟩ = some (.string (bs (phW t.ph))) := blk_at HT.out 2 rfl
    rw [hp] at e
    exact e
  have f2 : W.frozen? ⟨b, 2, none⟩ = false := blk_free HT.out 2
  have f10 : W.frozen? ⟨b, 10, none⟩ = false := blk_free HT.out 10
  have q10 : W.cell? ⟨b, 10, none⟩ = some (.int .i64 t.st) := blk_at HT.out 10 rfl
  have q3 : W.cell? ⟨b, 3, none⟩ = some (.int .i64 t.at') := blk_at HT.out 3 rfl
  have f3 : W.frozen? ⟨b, 3, none⟩ = false := blk_free HT.out 3
  have q9 : W.cell? ⟨b, 9, none⟩ = some (.bool D.d) := blk_at HT.out 9 rfl
  have f9 : W.frozen? ⟨b, 9, none⟩ = false := blk_free HT.out 9
  obtain ⟨u, Hu⟩ : ∃ u, Hid (u = t.answer r) := ⟨_, rfl⟩
  obtain ⟨E, HE⟩ : ∃ u, Hid (u = D.ans t r) := ⟨_, rfl⟩
  rw [← Hu.out, ← HE.out]
  have HU : Hid (u = t.settle (decide (r.kd = 1))) := by show _ = _; rw [Hu.out]; unfold Tx.answer; simp [hp]
  have HD : Hid (E = ⟨D.sn, D.v, decide (r.kd = 1)⟩) := by show _ = _; rw [HE.out]; unfold Dx.ans; simp [hp]
  clear hp Hu HE
  by_cases c1 : r.kd = 1
  · have y1 : (r.kd == 1) = true := by simp [c1]
    obtain ⟨Y, hY⟩ : ∃ Y, Y = (((((W.setCell ⟨b, 9, none⟩ (.bool true)).setCell ⟨b, 10, none⟩ (.int .i64 3)).setCell ⟨b, 10, none⟩ (.int .i64 2)).setCell ⟨b, 2, none⟩ (.string ⟨#[99, 108, 101, 97, 114]⟩)).setCell ⟨b, 3, none⟩ (.int .i64 0)) := ⟨_, rfl⟩
    have HK : Hid (Kept (One b) W Y) := by rw [hY]; exact ((((((Kept.refl _ _).setCell (p := ⟨b, 9, none⟩) (fun _ => rfl) _).setCell (p := ⟨b, 10, none⟩) (fun _ => rfl) _).setCell (p := ⟨b, 10, none⟩) (fun _ => rfl) _).setCell (p := ⟨b, 2, none⟩) (fun _ => rfl) _).setCell (p := ⟨b, 3, none⟩) (fun _ => rfl) _)
    have HY : Hid ((∃ o1 c1, TdAt Y b u E ap o1 cp c1 ∧ OwnI B Y o1 c1 u.old ∧ NwI oo w o1) ∧ Kept (One b) w Y) := by
      have h1 := HO.out.txn HT.out HK.out
      have h2 := HK.out
      refine ⟨⟨oo, oc, ?_, ?_, .inl rfl⟩, KW.out.oneNil.trans h2⟩
      · rw [HU.out, HD.out, hY]
        rw [show decide (r.kd = 1) = true by simp [c1]]; unfold Tx.settle
        exact ((((HT.out.s9 true).s10 3).s10 2).s2 8).s3 0
      · rw [HU.out]
        unfold Tx.settle
        exact h1
    clear HU HD HK c1
    unfold rrV
    go_enter Tryz.func18, Tryz.ntmps18
    go_upto_region 1 with fail
    rw [← hW, ← HAe.out]
    clear hW HAe
    go_wp2
    rw [← hY]
    go_end0
    exact ⟨rfl, HY.out⟩
  · have y1 : (r.kd == 1) = false := by simp [c1]
    obtain ⟨Y, hY⟩ : ∃ Y, Y = ((((W.setCell ⟨b, 9, none⟩ (.bool false)).setCell ⟨b, 10, none⟩ (.int .i64 3)).setCell ⟨b, 2, none⟩ (.string ⟨#[99, 108, 101, 97, 114]⟩)).setCell ⟨b, 3, none⟩ (.int .i64 0)) := ⟨_, rfl⟩
    have HK : Hid (Kept (One b) W Y) := by rw [hY]; exact (((((Kept.refl _ _).setCell (p := ⟨b, 9, none⟩) (fun _ => rfl) _).setCell (p := ⟨b, 10, none⟩) (fun _ => rfl) _).setCell (p := ⟨b, 2, none⟩) (fun _ => rfl) _).setCell (p := ⟨b, 3, none⟩) (fun _ => rfl) _)
    have HY : Hid ((∃ o1 c1, TdAt Y b u E ap o1 cp c1 ∧ OwnI B Y o1 c1 u.old ∧ NwI oo w o1) ∧ Kept (One b) w Y) := by
      have h1 := HO.out.txn HT.out HK.out
      have h2 := HK.out
      refine ⟨⟨oo, oc, ?_, ?_, .inl rfl⟩, KW.out.oneNil.trans h2⟩
      · rw [HU.out, HD.out, hY]
        rw [show decide (r.kd = 1) = false by simp [c1]]; unfold Tx.settle
        exact (((HT.out.s9 false).s10 3).s2 8).s3 0
      · rw [HU.out]
        unfold Tx.settle
        exact h1
    clear HU HD HK c1
    unfold rrV
    go_enter Tryz.func18, Tryz.ntmps18
    go_upto_region 1 with fail
    rw [← hW, ← HAe.out]
    clear hW HAe
    go_wp2
    rw [← hY]
    go_end0
    exact ⟨rfl, HY.out⟩
set_option maxRecDepth 100000 in
set_option maxHeartbeats 4000000 in
theorem dans7 (w : World) (b : Nat) (t : Tx) (D : Dx) (ap oo : Option Addr) (cp oc : Nat) (h : TdAt w b t D ap oo cp oc) (B : Nat) (hO : OwnI B w oo oc t.old) (_hl : t.ps.length ≤ 4) (_ha : t.at' < t.ps.length) (r : Rr) (ko : Option Addr) (kc : Nat) (hp : t.ph = 7) :
    Calls Tryz.prog 18 #[.pointer (some ⟨b, 0, none⟩), rrV r ko kc] w (DdPost B w b (t.answer r) (D.ans t r) ap cp oo) := by
  obtain ⟨W, hW⟩ : ∃ W, W = w.alloc (.cells #[.int .i64 r.kd, .string (bs r.v), .int .i64 r.n, .slice ko r.ks.length kc] 50) := ⟨_, rfl⟩
  obtain ⟨A, HAe⟩ : ∃ A, Hid (A = w.heap.size) := ⟨_, rfl⟩
  have KW : Hid (Kept Nil w W) := by rw [hW]; exact (Kept.refl _ _).alloc _
  have HA : Hid (W.heap[A]? = some (.cells #[.int .i64 r.kd, .string (bs r.v), .int .i64 r.n, .slice ko r.ks.length kc] 50 (0, 0))) := by rw [hW, HAe.out]; exact blk_new _ _
  have HT : Hid (TdAt W b t D ap oo cp oc) := h.kept KW.out
  have HO : Hid (OwnI B W oo oc t.old) := hO.kept KW.out
  have hbA : b ≠ A := by rw [HAe.out]; have := lt_of_block h; omega
  have hAb : A ≠ b := hbA.symm
  have a0 : W.cell? ⟨A, 0, none⟩ = some (.int .i64 r.kd) := blk_at HA.out 0 rfl
  have a1 : W.cell? ⟨A, 1, none⟩ = some (.string (bs r.v)) := blk_at HA.out 1 rfl
  have a2 : W.cell? ⟨A, 2, none⟩ = some (.int .i64 r.n) := blk_at HA.out 2 rfl
  have q2 : W.cell? ⟨b, 2, none⟩ = some (.string ⟨#[97, 98, 111, 114, 116]⟩) := by
    have e : W.cell? ⟨b, 2, none⟩ = some (.string (bs (phW t.ph))) := blk_at HT.out 2 rfl
    rw [hp] at e
    exact e
  have f2 : W.frozen? ⟨b, 2, none⟩ = false := blk_free HT.out 2
  have f10 : W.frozen? ⟨b, 10, none⟩ = false := blk_free HT.out 10
  have q10 : W.cell? ⟨b, 10, none⟩ = some (.int .i64 t.st) := blk_at HT.out 10 rfl
  have q3 : W.cell? ⟨b, 3, none⟩ = some (.int .i64 t.at') := blk_at HT.out 3 rfl
  have f3 : W.frozen? ⟨b, 3, none⟩ = false := blk_free HT.out 3
  have q9 : W.cell? ⟨b, 9, none⟩ = some (.bool D.d) := blk_at HT.out 9 rfl
  have f9 : W.frozen? ⟨b, 9, none⟩ = false := blk_free HT.out 9
  obtain ⟨u, Hu⟩ : ∃ u, Hid (u = t.answer r) := ⟨_, rfl⟩
  obtain ⟨E, HE⟩ : ∃ u, Hid (u = D.ans t r) := ⟨_, rfl⟩
  rw [← Hu.out, ← HE.out]
  have HU : Hid (u = t.settle false) := by show _ = _; rw [Hu.out]; unfold Tx.answer; simp [hp]
  have HD : Hid (E = ⟨D.sn, D.v, false⟩) := by show _ = _; rw [HE.out]; unfold Dx.ans; simp [hp]
  clear hp Hu HE
  by_cases c1 : r.kd = 1
  · have y1 : (r.kd == 1) = true := by simp [c1]
    obtain ⟨Y, hY⟩ : ∃ Y, Y = ((((W.setCell ⟨b, 9, none⟩ (.bool false)).setCell ⟨b, 10, none⟩ (.int .i64 3)).setCell ⟨b, 2, none⟩ (.string ⟨#[99, 108, 101, 97, 114]⟩)).setCell ⟨b, 3, none⟩ (.int .i64 0)) := ⟨_, rfl⟩
    have HK : Hid (Kept (One b) W Y) := by rw [hY]; exact (((((Kept.refl _ _).setCell (p := ⟨b, 9, none⟩) (fun _ => rfl) _).setCell (p := ⟨b, 10, none⟩) (fun _ => rfl) _).setCell (p := ⟨b, 2, none⟩) (fun _ => rfl) _).setCell (p := ⟨b, 3, none⟩) (fun _ => rfl) _)
    have HY : Hid ((∃ o1 c1, TdAt Y b u E ap o1 cp c1 ∧ OwnI B Y o1 c1 u.old ∧ NwI oo w o1) ∧ Kept (One b) w Y) := by
      have h1 := HO.out.txn HT.out HK.out
      have h2 := HK.out
      refine ⟨⟨oo, oc, ?_, ?_, .inl rfl⟩, KW.out.oneNil.trans h2⟩
      · rw [HU.out, HD.out, hY]
        unfold Tx.settle
        exact (((HT.out.s9 false).s10 3).s2 8).s3 0
      · rw [HU.out]
        unfold Tx.settle
        exact h1
    clear HU HD HK c1
    unfold rrV
    go_enter Tryz.func18, Tryz.ntmps18
    go_upto_region 1 with fail
    rw [← hW, ← HAe.out]
    clear hW HAe
    go_wp2
    rw [← hY]
    go_end0
    exact ⟨rfl, HY.out⟩
  · have y1 : (r.kd == 1) = false := by simp [c1]
    obtain ⟨Y, hY⟩ : ∃ Y, Y = ((((W.setCell ⟨b, 9, none⟩ (.bool false)).setCell ⟨b, 10, none⟩ (.int .i64 3)).setCell ⟨b, 2, none⟩ (.string ⟨#[99, 108, 101, 97, 114]⟩)).setCell ⟨b, 3, none⟩ (.int .i64 0)) := ⟨_, rfl⟩
    have HK : Hid (Kept (One b) W Y) := by rw [hY]; exact (((((Kept.refl _ _).setCell (p := ⟨b, 9, none⟩) (fun _ => rfl) _).setCell (p := ⟨b, 10, none⟩) (fun _ => rfl) _).setCell (p := ⟨b, 2, none⟩) (fun _ => rfl) _).setCell (p := ⟨b, 3, none⟩) (fun _ => rfl) _)
    have HY : Hid ((∃ o1 c1, TdAt Y b u E ap o1 cp c1 ∧ OwnI B Y o1 c1 u.old ∧ NwI oo w o1) ∧ Kept (One b) w Y) := by
      have h1 := HO.out.txn HT.out HK.out
      have h2 := HK.out
      refine ⟨⟨oo, oc, ?_, ?_, .inl rfl⟩, KW.out.oneNil.trans h2⟩
      · rw [HU.out, HD.out, hY]
        unfold Tx.settle
        exact (((HT.out.s9 false).s10 3).s2 8).s3 0
      · rw [HU.out]
        unfold Tx.settle
        exact h1
    clear HU HD HK c1
    unfold rrV
    go_enter Tryz.func18, Tryz.ntmps18
    go_upto_region 1 with fail
    rw [← hW, ← HAe.out]
    clear hW HAe
    go_wp2
    rw [← hY]
    go_end0
    exact ⟨rfl, HY.out⟩
theorem further_oldD (t : Tx) (p b : Nat) : (t.further p b).old = t.old := (Tx.further_ps t p b).2.2.2.1
set_option maxRecDepth 100000 in
set_option maxHeartbeats 4000000 in
theorem dans9 (w : World) (b : Nat) (t : Tx) (D : Dx) (ap oo : Option Addr) (cp oc : Nat) (h : TdAt w b t D ap oo cp oc) (B : Nat) (hO : OwnI B w oo oc t.old) (hl : t.ps.length ≤ 4) (ha : t.at' < t.ps.length) (r : Rr) (ko : Option Addr) (kc : Nat) (hp : t.ph = 9) :
    Calls Tryz.prog 18 #[.pointer (some ⟨b, 0, none⟩), rrV r ko kc] w (DdPost B w b (t.answer r) (D.ans t r) ap cp oo) := by
  obtain ⟨W, hW⟩ : ∃ W, W = w.alloc (.cells #[.int .i64 r.kd, .string (bs r.v), .int .i64 r.n, .slice ko r.ks.length kc] 50) := ⟨_, rfl⟩
  obtain ⟨A, HAe⟩ : ∃ A, Hid (A = w.heap.size) := ⟨_, rfl⟩
  have KW : Hid (Kept Nil w W) := by rw [hW]; exact (Kept.refl _ _).alloc _
  have HA : Hid (W.heap[A]? = some (.cells #[.int .i64 r.kd, .string (bs r.v), .int .i64 r.n, .slice ko r.ks.length kc] 50 (0, 0))) := by rw [hW, HAe.out]; exact blk_new _ _
  have HT : Hid (TdAt W b t D ap oo cp oc) := h.kept KW.out
  have HO : Hid (OwnI B W oo oc t.old) := hO.kept KW.out
  have hbA : b ≠ A := by rw [HAe.out]; have := lt_of_block h; omega
  have hAb : A ≠ b := hbA.symm
  have a0 : W.cell? ⟨A, 0, none⟩ = some (.int .i64 r.kd) := blk_at HA.out 0 rfl
  have a1 : W.cell? ⟨A, 1, none⟩ = some (.string (bs r.v)) := blk_at HA.out 1 rfl
  have a2 : W.cell? ⟨A, 2, none⟩ = some (.int .i64 r.n) := blk_at HA.out 2 rfl
  have q2 : W.cell? ⟨b, 2, none⟩ = some (.string ⟨#[103, 105, 118, 101]⟩) := by
    have e : W.cell? ⟨b, 2, none⟩ = some (.string (bs (phW t.ph))) := blk_at HT.out 2 rfl
    rw [hp] at e
    exact e
  have f2 : W.frozen? ⟨b, 2, none⟩ = false := blk_free HT.out 2
  obtain ⟨u, Hu⟩ : ∃ u, Hid (u = t.answer r) := ⟨_, rfl⟩
  obtain ⟨E, HE⟩ : ∃ u, Hid (u = D.ans t r) := ⟨_, rfl⟩
  rw [← Hu.out, ← HE.out]
  have HU : Hid (u = t.further 8 10) := by show _ = _; rw [Hu.out]; unfold Tx.answer; simp [hp]
  have HD : Hid (E = D) := by show _ = _; rw [HE.out]; unfold Dx.ans; simp [hp]
  clear hp Hu HE
  obtain ⟨V, hV⟩ : ∃ V, V = W.setCell ⟨b, 2, none⟩ (.string ⟨#[99, 108, 101, 97, 114]⟩) := ⟨_, rfl⟩
  have HV : Hid (TdAt V b { t with ph := 8 } D ap oo cp oc ∧ Kept (One b) W V) := by rw [hV]; exact ⟨HT.out.s2 8, (Kept.refl _ _).setCell (p := ⟨b, 2, none⟩) (fun _ => rfl) _⟩
  have ON := don_any V b _ D ap oo cp oc HV.out.1 10 hl ha
  have HUE : Hid (({ t with ph := 8 } : Tx).further 8 10 = u ∧ u.old = t.old) := by
    rw [HU.out]
    exact ⟨by unfold Tx.further; rfl, further_oldD t 8 10⟩
  have ON2 : Calls Tryz.prog 66 #[.pointer (some ⟨b, 0, none⟩), .string ⟨#[]⟩] V fun e w' => e = .returned (.tuple #[]) ∧ TdAt w' b u D ap oo cp oc ∧ Kept (One b) V w' := by rw [← HUE.out.1]; exact ON
  clear ON
  unfold rrV
  go_enter Tryz.func18, Tryz.ntmps18
  go_upto_region 1 with fail
  rw [← hW, ← HAe.out]
  clear hW HAe
  go_wp2_with fail
  rw [← hV]
  clear hV
  go_fit ON2
  rintro _ w1 ⟨rfl, h1, k1⟩
  have HY : Hid ((∃ o1 c1, TdAt w1 b u E ap o1 cp c1 ∧ OwnI B w1 o1 c1 u.old ∧ NwI oo w o1) ∧ Kept (One b) w w1) := by
    refine ⟨⟨oo, oc, by rw [HD.out]; exact h1, ?_, .inl rfl⟩, (KW.out.oneNil.trans HV.out.2).trans k1⟩
    rw [HUE.out.2]
    exact (HO.out.txn HT.out HV.out.2).txn HV.out.1 k1
  clear h1 k1 ON2
  go_wp2
  go_end0
  exact ⟨rfl, HY.out⟩
set_option maxRecDepth 100000 in
set_option maxHeartbeats 4000000 in
theorem dans3 (w : World) (b : Nat) (t : Tx) (D : Dx) (ap oo : Option Addr) (cp oc : Nat) (h : TdAt w b t D ap oo cp oc) (B : Nat) (hO : OwnI B w oo oc t.old) (_hl : t.ps.length ≤ 4) (_ha : t.at' < t.ps.length) (r : Rr) (ko : Option Addr) (kc : Nat) (hp : t.ph = 3) :
    Calls Tryz.prog 18 #[.pointer (some ⟨b, 0, none⟩), rrV r ko kc] w (DdPost B w b (t.answer r) (D.ans t r) ap cp oo) := by
  obtain ⟨W, hW⟩ : ∃ W, W = w.alloc (.cells #[.int .i64 r.kd, .string (bs r.v), .int .i64 r.n, .slice ko r.ks.length kc] 50) := ⟨_, rfl⟩
  obtain ⟨A, HAe⟩ : ∃ A, Hid (A = w.heap.size) := ⟨_, rfl⟩
  have KW : Hid (Kept Nil w W) := by rw [hW]; exact (Kept.refl _ _).alloc _
  have HA : Hid (W.heap[A]? = some (.cells #[.int .i64 r.kd, .string (bs r.v), .int .i64 r.n, .slice ko r.ks.length kc] 50 (0, 0))) := by rw [hW, HAe.out]; exact blk_new _ _
  have HT : Hid (TdAt W b t D ap oo cp oc) := h.kept KW.out
  have HO : Hid (OwnI B W oo oc t.old) := hO.kept KW.out
  have hbA : b ≠ A := by rw [HAe.out]; have := lt_of_block h; omega
  have hAb : A ≠ b := hbA.symm
  have a0 : W.cell? ⟨A, 0, none⟩ = some (.int .i64 r.kd) := blk_at HA.out 0 rfl
  have a1 : W.cell? ⟨A, 1, none⟩ = some (.string (bs r.v)) := blk_at HA.out 1 rfl
  have a2 : W.cell? ⟨A, 2, none⟩ = some (.int .i64 r.n) := blk_at HA.out 2 rfl
  have q2 : W.cell? ⟨b, 2, none⟩ = some (.string ⟨#[97, 115, 107]⟩) := by
    have e : W.cell? ⟨b, 2, none⟩ = some (.string (bs (phW t.ph))) := blk_at HT.out 2 rfl
    rw [hp] at e
    exact e
  have f2 : W.frozen? ⟨b, 2, none⟩ = false := blk_free HT.out 2
  have q9 : W.cell? ⟨b, 9, none⟩ = some (.bool D.d) := blk_at HT.out 9 rfl
  have f9 : W.frozen? ⟨b, 9, none⟩ = false := blk_free HT.out 9
  have q8 : W.cell? ⟨b, 8, none⟩ = some (.int .i64 D.v) := blk_at HT.out 8 rfl
  have f8 : W.frozen? ⟨b, 8, none⟩ = false := blk_free HT.out 8
  obtain ⟨u, Hu⟩ : ∃ u, Hid (u = t.answer r) := ⟨_, rfl⟩
  obtain ⟨E, HE⟩ : ∃ u, Hid (u = D.ans t r) := ⟨_, rfl⟩
  rw [← Hu.out, ← HE.out]
  have HU : Hid (u = t.asked r) := by show _ = _; rw [Hu.out]; unfold Tx.answer; simp [hp]
  have HD : Hid (E = ⟨D.sn, if r.kd = 1 ∧ r.v = wOpen then r.n else D.v, decide (r.kd = 1 ∧ r.v = wDon)⟩) := by show _ = _; rw [HE.out]; unfold Dx.ans; simp [hp]
  clear hp Hu HE
  by_cases c1 : r.kd = 1
  · have y1 : (r.kd == 1) = true := by simp [c1]
    by_cases cd : r.v = wDon
    · have co : r.v ≠ wOpen := by rw [cd]; decide
      have yd : ((bs r.v).toList == [100, 111, 110, 101]) = true := by rw [bs_toList]; rw [cd]; rfl
      have yo : ((bs r.v).toList == [111, 112, 101, 110]) = false := by rw [bs_toList]; simpa [wOpen] using co
      obtain ⟨Y, hY⟩ : ∃ Y, Y = ((W.setCell ⟨b, 2, none⟩ (.string ⟨#[102, 114, 101, 101]⟩)).setCell ⟨b, 9, none⟩ (.bool true)) := ⟨_, rfl⟩
      have HK : Hid (Kept (One b) W Y) := by rw [hY]; exact (((Kept.refl _ _).setCell (p := ⟨b, 2, none⟩) (fun _ => rfl) _).setCell (p := ⟨b, 9, none⟩) (fun _ => rfl) _)
      have HY : Hid ((∃ o1 c1, TdAt Y b u E ap o1 cp c1 ∧ OwnI B Y o1 c1 u.old ∧ NwI oo w o1) ∧ Kept (One b) w Y) := by
        have h1 := HO.out.txn HT.out HK.out
        have h2 := HK.out
        refine ⟨⟨oo, oc, ?_, ?_, .inl rfl⟩, KW.out.oneNil.trans h2⟩
        · rw [HU.out, HD.out, hY]
          unfold Tx.asked saidR; rw [if_pos c1, if_neg co, if_neg (fun e => co e.2), decide_eq_true (⟨c1, cd⟩ : r.kd = 1 ∧ r.v = wDon)]
          exact (HT.out.s2 5).s9 true
        · rw [HU.out]
          exact h1
      clear HU HD HK c1 cd co
      unfold rrV
      go_enter Tryz.func18, Tryz.ntmps18
      go_upto_region 1 with fail
      rw [← hW, ← HAe.out]
      clear hW HAe
      go_wp2
      rw [← hY]
      go_end0
      exact ⟨rfl, HY.out⟩
    · by_cases co : r.v = wOpen
      · have yd : ((bs r.v).toList == [100, 111, 110, 101]) = false := by rw [bs_toList]; simpa [wDon] using cd
        have yo : ((bs r.v).toList == [111, 112, 101, 110]) = true := by rw [bs_toList]; rw [co]; rfl
        obtain ⟨Y, hY⟩ : ∃ Y, Y = ((((W.setCell ⟨b, 2, none⟩ (.string ⟨#[102, 114, 101, 101]⟩)).setCell ⟨b, 9, none⟩ (.bool false)).setCell ⟨b, 2, none⟩ (.string ⟨#[101, 110, 100]⟩)).setCell ⟨b, 8, none⟩ (.int .i64 r.n)) := ⟨_, rfl⟩
        have HK : Hid (Kept (One b) W Y) := by rw [hY]; exact (((((Kept.refl _ _).setCell (p := ⟨b, 2, none⟩) (fun _ => rfl) _).setCell (p := ⟨b, 9, none⟩) (fun _ => rfl) _).setCell (p := ⟨b, 2, none⟩) (fun _ => rfl) _).setCell (p := ⟨b, 8, none⟩) (fun _ => rfl) _)
        have HY : Hid ((∃ o1 c1, TdAt Y b u E ap o1 cp c1 ∧ OwnI B Y o1 c1 u.old ∧ NwI oo w o1) ∧ Kept (One b) w Y) := by
          have h1 := HO.out.txn HT.out HK.out
          have h2 := HK.out
          refine ⟨⟨oo, oc, ?_, ?_, .inl rfl⟩, KW.out.oneNil.trans h2⟩
          · rw [HU.out, HD.out, hY]
            unfold Tx.asked saidR; rw [if_pos c1, if_pos co, if_pos ⟨c1, co⟩, decide_eq_false (fun e : r.kd = 1 ∧ r.v = wDon => cd e.2)]
            exact (((HT.out.s2 5).s9 false).s2 4).s8 r.n
          · rw [HU.out]
            exact h1
        clear HU HD HK c1 cd co
        unfold rrV
        go_enter Tryz.func18, Tryz.ntmps18
        go_upto_region 1 with fail
        rw [← hW, ← HAe.out]
        clear hW HAe
        go_wp2
        rw [← hY]
        go_end0
        exact ⟨rfl, HY.out⟩
      · have yd : ((bs r.v).toList == [100, 111, 110, 101]) = false := by rw [bs_toList]; simpa [wDon] using cd
        have yo : ((bs r.v).toList == [111, 112, 101, 110]) = false := by rw [bs_toList]; simpa [wOpen] using co
        obtain ⟨Y, hY⟩ : ∃ Y, Y = ((W.setCell ⟨b, 2, none⟩ (.string ⟨#[102, 114, 101, 101]⟩)).setCell ⟨b, 9, none⟩ (.bool false)) := ⟨_, rfl⟩
        have HK : Hid (Kept (One b) W Y) := by rw [hY]; exact (((Kept.refl _ _).setCell (p := ⟨b, 2, none⟩) (fun _ => rfl) _).setCell (p := ⟨b, 9, none⟩) (fun _ => rfl) _)
        have HY : Hid ((∃ o1 c1, TdAt Y b u E ap o1 cp c1 ∧ OwnI B Y o1 c1 u.old ∧ NwI oo w o1) ∧ Kept (One b) w Y) := by
          have h1 := HO.out.txn HT.out HK.out
          have h2 := HK.out
          refine ⟨⟨oo, oc, ?_, ?_, .inl rfl⟩, KW.out.oneNil.trans h2⟩
          · rw [HU.out, HD.out, hY]
            unfold Tx.asked saidR; rw [if_pos c1, if_neg co, if_neg (fun e => co e.2), decide_eq_false (fun e : r.kd = 1 ∧ r.v = wDon => cd e.2)]
            exact (HT.out.s2 5).s9 false
          · rw [HU.out]
            exact h1
        clear HU HD HK c1 cd co
        unfold rrV
        go_enter Tryz.func18, Tryz.ntmps18
        go_upto_region 1 with fail
        rw [← hW, ← HAe.out]
        clear hW HAe
        go_wp2
        rw [← hY]
        go_end0
        exact ⟨rfl, HY.out⟩
  · have y1 : (r.kd == 1) = false := by simp [c1]
    obtain ⟨Y, hY⟩ : ∃ Y, Y = ((W.setCell ⟨b, 2, none⟩ (.string ⟨#[102, 114, 101, 101]⟩)).setCell ⟨b, 9, none⟩ (.bool false)) := ⟨_, rfl⟩
    have HK : Hid (Kept (One b) W Y) := by rw [hY]; exact (((Kept.refl _ _).setCell (p := ⟨b, 2, none⟩) (fun _ => rfl) _).setCell (p := ⟨b, 9, none⟩) (fun _ => rfl) _)
    have HY : Hid ((∃ o1 c1, TdAt Y b u E ap o1 cp c1 ∧ OwnI B Y o1 c1 u.old ∧ NwI oo w o1) ∧ Kept (One b) w Y) := by
      have h1 := HO.out.txn HT.out HK.out
      have h2 := HK.out
      refine ⟨⟨oo, oc, ?_, ?_, .inl rfl⟩, KW.out.oneNil.trans h2⟩
      · rw [HU.out, HD.out, hY]
        unfold Tx.asked saidR; rw [if_neg c1, if_neg (by decide), if_neg (fun e => c1 e.1), decide_eq_false (fun e : r.kd = 1 ∧ r.v = wDon => c1 e.1)]
        exact (HT.out.s2 5).s9 false
      · rw [HU.out]
        exact h1
    clear HU HD HK c1
    unfold rrV
    go_enter Tryz.func18, Tryz.ntmps18
    go_upto_region 1 with fail
    rw [← hW, ← HAe.out]
    clear hW HAe
    go_wp2
    rw [← hY]
    go_end0
    exact ⟨rfl, HY.out⟩
end Go.Proofs.YtflnjlbafchnaaaGreatDoor
