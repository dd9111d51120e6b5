/-
  Joined: WTz1.
-/
import Derived.Test.YtflnjlbafchnaaaGreatDoorR04
import Derived.Test.YtflnjlbafchnaaaGreatDoorR08
import Derived.Test.YtflnjlbafchnaaaGreatDoorR11
import Derived.Test.YtflnjlbafchnaaaGreatDoorR05
import Derived.BigQuiet
import Derived.BigRegion
/-
  TxnExact, the document's side: what of its transaction is the program's, and what is its own; text, on.
-/
namespace Go.Proofs.YtflnjlbafchnaaaGreatDoor
open Go.RowKit

/-- What the document's transaction notes of its own. -/
structure Dx where
  sn : Hd
  v : Int
  d : Bool
/-- What it does next, by a word. -/
def phW : Nat → List UInt8
  | 0 => [98, 101, 103, 105, 110]
  | 1 => [108, 111, 111, 107]
  | 2 => [104, 111, 108, 100]
  | 3 => [97, 115, 107]
  | 4 => [101, 110, 100]
  | 5 => [102, 114, 101, 101]
  | 6 => [99, 111, 109, 109, 105, 116]
  | 7 => [97, 98, 111, 114, 116]
  | 8 => [99, 108, 101, 97, 114]
  | 9 => [103, 105, 118, 101]
  | _ => []
def Dx.ans (D : Dx) (t : Tx) (r : Rr) : Dx :=
  if t.ph = 1 then ⟨hdOf (saidR r), versR r, D.d⟩
  else if t.ph = 3 then ⟨D.sn, if r.kd = 1 ∧ r.v = wOpen then r.n else D.v, decide (r.kd = 1 ∧ r.v = wDon)⟩
  else if t.ph = 6 then ⟨D.sn, D.v, decide (r.kd = 1)⟩
  else if t.ph = 7 then ⟨D.sn, D.v, false⟩
  else if t.ph = 8 then ⟨hdOf r.v, r.n, D.d⟩
  else D
structure Sim (t : Tx) (D : Dx) : Prop where
  ok : D.sn.Ok
  sn : t.ph = 2 ∨ t.ph = 3 ∨ t.ph = 4 ∨ t.ph = 5 ∨ t.ph = 9 → D.sn = t.sn
  v : t.ph = 2 ∨ t.ph = 3 ∨ t.ph = 5 ∨ t.ph = 9 → D.v = t.vr
  hv : t.ph = 4 → D.v = t.hv
  d5 : t.ph = 5 → D.d = t.hd
  d8 : t.ph = 8 ∨ t.ph = 9 → D.d = decide (t.st = 2)
  b : t.ph = 3 ∨ t.ph = 4 ∨ t.ph = 5 ∨ t.ph = 9 → 0 < t.sn.b
theorem further_ph (t : Tx) (p b : Nat) : (t.further p b).ph = p ∨ (t.further p b).ph = b := by unfold Tx.further; split; exact .inr rfl; exact .inl rfl
theorem Sim.free {t : Tx} {D : Dx} (ok : D.sn.Ok) (h : t.ph = 0 ∨ t.ph = 1 ∨ t.ph = 6 ∨ t.ph = 7 ∨ t.ph = 10) : Sim t D :=
  ⟨ok, fun e => by omega, fun e => by omega, fun e => by omega, fun e => by omega, fun e => by omega, fun e => by omega⟩
theorem said_nil_b : (hdOf []).b = 0 := by
  have e : hdOf [] = Hd.no := by
    have hp : pcs [] = [[]] := by rw [pcs_one (by intro c hc; cases hc)]
    exact hdOf_bad0 hp (by unfold amt; rfl)
  rw [e]
  rfl
theorem Sim.answer {t : Tx} {D : Dx} (h : Sim t D) (o : t.Ok) (r : Rr) : Sim (t.answer r) (D.ans t r) := by
  have hp := o.ph
  have hc : t.ph = 0 ∨ t.ph = 1 ∨ t.ph = 2 ∨ t.ph = 3 ∨ t.ph = 4 ∨ t.ph = 5 ∨ t.ph = 6 ∨ t.ph = 7 ∨ t.ph = 8 ∨ t.ph = 9 ∨ t.ph = 10 := by omega
  rcases hc with e | e | e | e | e | e | e | e | e | e | e
  · have e1 : t.answer r = t.begun (decide (r.kd = 1)) := by unfold Tx.answer; rw [if_pos e]
    have e2 : D.ans t r = D := by unfold Dx.ans; simp [e]
    rw [e1, e2]
    unfold Tx.begun
    split
    · exact Sim.free h.ok (.inr (.inl rfl))
    · exact Sim.free h.ok (.inr (.inr (.inr (.inr rfl))))
  · have e1 : t.answer r = t.looked r := by unfold Tx.answer; simp [e]
    have e2 : D.ans t r = ⟨hdOf (saidR r), versR r, D.d⟩ := by unfold Dx.ans; rw [if_pos e]
    rw [e1, e2]
    unfold Tx.looked Tx.looked'
    split
    · exact Sim.free (hdOf_ok _) (by unfold Tx.note; rcases further_ph ({ t.see r with old := (t.see r).old ++ [((t.see r).sn.n : Int)] } : Tx) 1 6 with g | g <;> rw [g] <;> omega)
    split
    · rename_i hb
      exact ⟨hdOf_ok _, fun _ => rfl, fun _ => rfl, fun x => (by cases x), fun x => (by cases x), fun x => (by have : (3 : Nat) = 8 ∨ (3 : Nat) = 9 := x; omega), fun _ => hb⟩
    split
    · exact Sim.free (hdOf_ok _) (.inr (.inr (.inr (.inl rfl))))
    · exact ⟨hdOf_ok _, fun _ => rfl, fun _ => rfl, fun x => (by cases x), fun x => (by cases x), fun x => (by have : (2 : Nat) = 8 ∨ (2 : Nat) = 9 := x; omega), fun x => (by have : (2 : Nat) = 3 ∨ (2 : Nat) = 4 ∨ (2 : Nat) = 5 ∨ (2 : Nat) = 9 := x; omega)⟩
  · have e1 : t.answer r = t.took (decide (r.kd = 1)) := by unfold Tx.answer; simp [e]
    have e2 : D.ans t r = D := by unfold Dx.ans; simp [e]
    rw [e1, e2]
    unfold Tx.took
    split
    · exact Sim.free h.ok (by unfold Tx.note; rcases further_ph ({ ({ t with ph := 1 } : Tx) with old := t.old ++ [(t.sn.n : Int)] } : Tx) 1 6 with g | g <;> rw [g] <;> omega)
    · exact Sim.free h.ok (.inr (.inl rfl))
  · have e1 : t.answer r = t.asked r := by unfold Tx.answer; simp [e]
    have e2 : D.ans t r = ⟨D.sn, if r.kd = 1 ∧ r.v = wOpen then r.n else D.v, decide (r.kd = 1 ∧ r.v = wDon)⟩ := by unfold Dx.ans; simp [e]
    rw [e1, e2]
    have hs : ∀ x : List UInt8, x ≠ [] → (saidR r = x ↔ r.kd = 1 ∧ r.v = x) := fun x hx => by
      unfold saidR
      by_cases k : r.kd = 1
      · rw [if_pos k]; exact ⟨fun z => ⟨k, z⟩, fun z => z.2⟩
      · rw [if_neg k]; exact ⟨fun z => absurd z.symm hx, fun z => absurd z.1 k⟩
    have h1 := hs wOpen (by decide)
    have h2 := hs wDon (by decide)
    by_cases c : saidR r = wOpen
    · have e3 : (t.asked r).ph = 4 := by unfold Tx.asked; simp [c]
      refine ⟨h.ok, fun _ => h.sn (by omega), fun x => (by omega), fun _ => ?_, fun x => (by omega), fun x => (by omega), fun _ => h.b (by omega)⟩
      show (if r.kd = 1 ∧ r.v = wOpen then r.n else D.v) = versR r
      rw [if_pos (h1.1 c)]
      unfold versR
      rw [if_pos (h1.1 c).1]
    · have e3 : (t.asked r).ph = 5 := by unfold Tx.asked; simp [c]
      refine ⟨h.ok, fun _ => h.sn (by omega), fun _ => ?_, fun x => (by omega), fun _ => ?_, fun x => (by omega), fun _ => h.b (by omega)⟩
      · show (if r.kd = 1 ∧ r.v = wOpen then r.n else D.v) = t.vr
        rw [if_neg (fun z => c (h1.2 z))]
        exact h.v (by omega)
      · show decide (r.kd = 1 ∧ r.v = wDon) = decide (saidR r = wDon)
        exact decide_eq_decide.2 h2.symm
  · have e1 : t.answer r = { t with ph := 1 } := by unfold Tx.answer; simp [e]
    have e2 : D.ans t r = D := by unfold Dx.ans; simp [e]
    rw [e1, e2]
    exact Sim.free h.ok (.inr (.inl rfl))
  · have e1 : t.answer r = { t with ph := 1 } := by unfold Tx.answer; simp [e]
    have e2 : D.ans t r = D := by unfold Dx.ans; simp [e]
    rw [e1, e2]
    exact Sim.free h.ok (.inr (.inl rfl))
  · have e1 : t.answer r = t.settle (decide (r.kd = 1)) := by unfold Tx.answer; simp [e]
    have e2 : D.ans t r = ⟨D.sn, D.v, decide (r.kd = 1)⟩ := by unfold Dx.ans; simp [e]
    rw [e1, e2]
    unfold Tx.settle
    refine ⟨h.ok, fun x => ?_, fun x => ?_, fun x => (by cases x), fun x => (by cases x), fun _ => ?_, fun x => ?_⟩
    · have : (8 : Nat) = 2 ∨ (8 : Nat) = 3 ∨ (8 : Nat) = 4 ∨ (8 : Nat) = 5 ∨ (8 : Nat) = 9 := x; omega
    · have : (8 : Nat) = 2 ∨ (8 : Nat) = 3 ∨ (8 : Nat) = 5 ∨ (8 : Nat) = 9 := x; omega
    · by_cases k : r.kd = 1 <;> simp [k]
    · have : (8 : Nat) = 3 ∨ (8 : Nat) = 4 ∨ (8 : Nat) = 5 ∨ (8 : Nat) = 9 := x; omega
  · have e1 : t.answer r = t.settle false := by unfold Tx.answer; simp [e]
    have e2 : D.ans t r = ⟨D.sn, D.v, false⟩ := by unfold Dx.ans; simp [e]
    rw [e1, e2]
    unfold Tx.settle
    refine ⟨h.ok, fun x => ?_, fun x => ?_, fun x => (by cases x), fun x => (by cases x), fun _ => (by simp), fun x => ?_⟩
    · have : (8 : Nat) = 2 ∨ (8 : Nat) = 3 ∨ (8 : Nat) = 4 ∨ (8 : Nat) = 5 ∨ (8 : Nat) = 9 := x; omega
    · have : (8 : Nat) = 2 ∨ (8 : Nat) = 3 ∨ (8 : Nat) = 5 ∨ (8 : Nat) = 9 := x; omega
    · have : (8 : Nat) = 3 ∨ (8 : Nat) = 4 ∨ (8 : Nat) = 5 ∨ (8 : Nat) = 9 := x; omega
  · have e1 : t.answer r = t.cleared r := by unfold Tx.answer; simp [e]
    have e2 : D.ans t r = ⟨hdOf r.v, r.n, D.d⟩ := by unfold Dx.ans; simp [e]
    rw [e1, e2]
    have hd := h.d8 (.inl e)
    unfold Tx.cleared
    split
    · rename_i hb
      have hid := o.id0
      have k : r.kd = 1 := by
        by_cases k : r.kd = 1
        · exact k
        · exfalso
          have : (t.see r).sn = hdOf [] := by show hdOf (saidR r) = _; unfold saidR; rw [if_neg k]
          rw [this, said_nil_b] at hb
          omega
      have es : saidR r = r.v := by unfold saidR; rw [if_pos k]
      have ev : versR r = r.n := by unfold versR; rw [if_pos k]
      refine ⟨hdOf_ok _, fun _ => by show hdOf r.v = hdOf (saidR r); rw [es], fun _ => ev.symm, fun x => (by cases x), fun x => (by cases x), fun _ => hd, fun _ => ?_⟩
      show 0 < (t.see r).sn.b
      omega
    · have hst : ((t.see r).further 8 10).st = t.st := (Tx.further_ps (t.see r) 8 10).2.2.2.2
      rcases further_ph (t.see r) 8 10 with g | g
      · refine ⟨hdOf_ok _, fun x => (by omega), fun x => (by omega), fun x => (by omega), fun x => (by omega), fun _ => by rw [hst]; exact hd, fun x => by omega⟩
      · exact Sim.free (hdOf_ok _) (by omega)
  · have e1 : t.answer r = t.further 8 10 := by unfold Tx.answer; simp [e]
    have e2 : D.ans t r = D := by unfold Dx.ans; simp [e]
    rw [e1, e2]
    have hd := h.d8 (.inr e)
    have hst : (t.further 8 10).st = t.st := (Tx.further_ps t 8 10).2.2.2.2
    rcases further_ph t 8 10 with g | g
    · refine ⟨h.ok, fun x => (by omega), fun x => (by omega), fun x => (by omega), fun x => (by omega), fun _ => by rw [hst]; exact hd, fun x => by omega⟩
    · exact Sim.free h.ok (by omega)
  · have e1 : t.answer r = t := by unfold Tx.answer; simp [e]
    have e2 : D.ans t r = D := by unfold Dx.ans; simp [e]
    rw [e1, e2]
    exact h
/-! ### in memory -/
def TdAt (w : World) (b : Nat) (t : Tx) (D : Dx) (ap oo : Option Addr) (cp oc : Nat) : Prop := w.heap[b]? = some (.cells #[.int .i64 t.id, .slice ap t.ps.length cp, .string (bs (phW t.ph)), .int .i64 t.at', .slice oo t.old.length oc, .int .i64 D.sn.n, .int .i64 D.sn.b, .int .i64 D.sn.t, .int .i64 D.v, .bool D.d, .int .i64 t.st] 45 (0, 0))
theorem TdAt.kept {w w' : World} {b : Nat} {t : Tx} {D : Dx} {ap oo : Option Addr} {cp oc : Nat} (h : TdAt w b t D ap oo cp oc) (k : Kept Nil w w') : TdAt w' b t D ap oo cp oc := k.block _ _ h (fun x => x)
theorem TdAt.keptX {X : Nat → Obj → Prop} {w w' : World} {b : Nat} {t : Tx} {D : Dx} {ap oo : Option Addr} {cp oc : Nat} (h : TdAt w b t D ap oo cp oc) (k : Kept X w w') (hX : ∀ o, ¬ X b o) : TdAt w' b t D ap oo cp oc := k.block _ _ h (hX _)
theorem TdAt.drew {w : World} {b : Nat} {t : Tx} {D : Dx} {ap oo : Option Addr} {cp oc : Nat} (h : TdAt w b t D ap oo cp oc) : TdAt w.drew b t D ap oo cp oc := h
theorem TdAt.s2 {w : World} {b : Nat} {t : Tx} {D : Dx} {ap oo : Option Addr} {cp oc : Nat} (h : TdAt w b t D ap oo cp oc) (x : Nat) : TdAt (w.setCell ⟨b, 2, none⟩ (.string (bs (phW x)))) b { t with ph := x } D ap oo cp oc := (blk_set h 2 _)
theorem TdAt.s3 {w : World} {b : Nat} {t : Tx} {D : Dx} {ap oo : Option Addr} {cp oc : Nat} (h : TdAt w b t D ap oo cp oc) (x : Nat) : TdAt (w.setCell ⟨b, 3, none⟩ (.int .i64 x)) b { t with at' := x } D ap oo cp oc := (blk_set h 3 _)
theorem TdAt.s4 {w : World} {b : Nat} {t : Tx} {D : Dx} {ap oo : Option Addr} {cp oc : Nat} (h : TdAt w b t D ap oo cp oc) (a : Option Addr) (c : Nat) (zs : List Int) : TdAt (w.setCell ⟨b, 4, none⟩ (.slice a zs.length c)) b { t with old := zs } D ap a cp c := (blk_set h 4 _)
theorem TdAt.s567 {w : World} {b : Nat} {t : Tx} {D : Dx} {ap oo : Option Addr} {cp oc : Nat} (h : TdAt w b t D ap oo cp oc) (x : Hd) : TdAt (((w.setCell ⟨b, 5, none⟩ (.int .i64 x.n)).setCell ⟨b, 6, none⟩ (.int .i64 x.b)).setCell ⟨b, 7, none⟩ (.int .i64 x.t)) b t { D with sn := x } ap oo cp oc := (blk_set (blk_set (blk_set h 5 _) 6 _) 7 _)
theorem TdAt.s8 {w : World} {b : Nat} {t : Tx} {D : Dx} {ap oo : Option Addr} {cp oc : Nat} (h : TdAt w b t D ap oo cp oc) (x : Int) : TdAt (w.setCell ⟨b, 8, none⟩ (.int .i64 x)) b t { D with v := x } ap oo cp oc := (blk_set h 8 _)
theorem TdAt.s9 {w : World} {b : Nat} {t : Tx} {D : Dx} {ap oo : Option Addr} {cp oc : Nat} (h : TdAt w b t D ap oo cp oc) (x : Bool) : TdAt (w.setCell ⟨b, 9, none⟩ (.bool x)) b t { D with d := x } ap oo cp oc := (blk_set h 9 _)
theorem TdAt.s10 {w : World} {b : Nat} {t : Tx} {D : Dx} {ap oo : Option Addr} {cp oc : Nat} (h : TdAt w b t D ap oo cp oc) (x : Nat) : TdAt (w.setCell ⟨b, 10, none⟩ (.int .i64 x)) b { t with st := x } D ap oo cp oc := (blk_set h 10 _)
/-- A row that was there, or a new one. -/
def NwI (o0 : Option Addr) (w : World) (o1 : Option Addr) : Prop := o1 = o0 ∨ ∀ a, o1 = some a → w.heap.size ≤ a.block
def DdPost (B : Nat) (w : World) (b : Nat) (t : Tx) (D : Dx) (ap : Option Addr) (cp : Nat) (o0 : Option Addr) (e : Ending) (w' : World) : Prop := e = .returned (.tuple #[]) ∧ (∃ oo oc, TdAt w' b t D ap oo cp oc ∧ OwnI B w' oo oc t.old ∧ NwI o0 w oo) ∧ Kept (One b) w w'
def hTx (n b z : Nat) : List UInt8 := if b = 0 then Lib.decDigits n else Lib.decDigits n ++ 32 :: (Lib.decDigits b ++ 32 :: Lib.decDigits z)
set_option maxRecDepth 100000 in
set_option maxHeartbeats 2000000 in
theorem dtext_any (n b z : Nat) (hn : n ≤ 999999999) (hb : b ≤ 999999999) (hz : z ≤ 999999999) (w : World) :
    Calls Tryz.prog 56 #[.agg #[.int .i64 n, .int .i64 b, .int .i64 z]] w fun e w' => e = .returned (.string (bs (hTx n b z))) ∧ Kept Nil w w' := by
  obtain ⟨W, hW⟩ : ∃ W, W = w.alloc (.cells #[.int .i64 n, .int .i64 b, .int .i64 z] 43) := ⟨_, rfl⟩
  obtain ⟨A, HAe⟩ : ∃ A, Hid (A = w.heap.size) := ⟨_, rfl⟩
  have KW : Hid (Kept Nil w W) := by rw [hW]; exact (Kept.refl _ _).alloc _
  have HA : Hid (W.heap[A]? = some (.cells #[.int .i64 n, .int .i64 b, .int .i64 z] 43 (0, 0))) := by rw [hW, HAe.out]; exact blk_new _ _
  obtain ⟨dn, Hdn⟩ : ∃ x, Hid (x = Lib.decDigits n) := ⟨_, rfl⟩
  obtain ⟨db, Hdb⟩ : ∃ x, Hid (x = Lib.decDigits b) := ⟨_, rfl⟩
  obtain ⟨dz, Hdz⟩ : ∃ x, Hid (x = Lib.decDigits z) := ⟨_, rfl⟩
  have zn : (bs dn).size ≤ 9 := by rw [Hdn.out, bs_size]; exact digits_len9 hn
  have zb : (bs db).size ≤ 9 := by rw [Hdb.out, bs_size]; exact digits_len9 hb
  have zz : (bs dz).size ≤ 9 := by rw [Hdz.out, bs_size]; exact digits_len9 hz
  have D1 := fun X => refDecimal_any n (by omega) X
  have D2 := fun X => refDecimal_any b (by omega) X
  have D3 := fun X => refDecimal_any z (by omega) X
  simp only [← Hdn.out] at D1
  simp only [← Hdb.out] at D2
  simp only [← Hdz.out] at D3
  obtain ⟨u, Hu⟩ : ∃ u, Hid (u = hTx n b z) := ⟨_, rfl⟩
  rw [← Hu.out]
  go_enter Tryz.func56, Tryz.ntmps56
  go_upto_region 1 with fail
  rw [← hW, ← HAe.out]
  clear hW HAe
  have a0 : W.cell? ⟨A, 0, none⟩ = some (.int .i64 n) := blk_at HA.out 0 rfl
  go_wp2_with fail
  go_fit (D1 W)
  rintro _ w1 ⟨rfl, k1⟩
  have K1 : Hid (Kept Nil W w1) := k1
  have a1 : w1.cell? ⟨A, 1, none⟩ = some (.int .i64 b) := blk_at (K1.out.block _ _ HA.out (fun x => x)) 1 rfl
  have a2 : w1.cell? ⟨A, 2, none⟩ = some (.int .i64 z) := blk_at (K1.out.block _ _ HA.out (fun x => x)) 2 rfl
  clear k1 a0
  by_cases c : b = 0
  · have c1 : ((b : Int) == 0) = true := by simp [c]
    have hu : u = dn := by rw [Hu.out, Hdn.out]; unfold hTx; rw [if_pos c]
    subst hu
    have KF : Hid (Kept Nil w w1) := KW.out.trans K1.out
    clear c D1 D2 D3
    go_wp2
    go_ret
    exact ⟨rfl, KF.out⟩
  · have c1 : ((b : Int) == 0) = false := by simp; omega
    obtain ⟨r1, H1⟩ : ∃ r, Hid (r = dn ++ [32]) := ⟨dn ++ [32], (rfl : dn ++ [32] = dn ++ [32])⟩
    obtain ⟨r2, H2⟩ : ∃ r, Hid (r = r1 ++ db) := ⟨_, rfl⟩
    obtain ⟨r3, H3⟩ : ∃ r, Hid (r = r2 ++ [32]) := ⟨r2 ++ [32], (rfl : r2 ++ [32] = r2 ++ [32])⟩
    obtain ⟨r4, H4⟩ : ∃ r, Hid (r = r3 ++ dz) := ⟨_, rfl⟩
    have g1 : bs dn ++ (⟨#[32]⟩ : ByteArray) = bs r1 := by rw [H1.out]; exact bs_append dn [32]
    have g2 : bs r1 ++ bs db = bs r2 := by rw [H2.out]; exact bs_append r1 db
    have g3 : bs r2 ++ (⟨#[32]⟩ : ByteArray) = bs r3 := by rw [H3.out]; exact bs_append r2 [32]
    have g4 : bs r3 ++ bs dz = bs r4 := by rw [H4.out]; exact bs_append r3 dz
    have l1 : (bs r1).size ≤ 10 := by rw [H1.out, bs_size]; rw [bs_size] at zn; simp; omega
    have l2 : (bs r2).size ≤ 19 := by rw [H2.out, bs_size]; rw [bs_size] at zb l1; simp; omega
    have l3 : (bs r3).size ≤ 20 := by rw [H3.out, bs_size]; rw [bs_size] at l2; simp; omega
    have hu : u = r4 := by rw [Hu.out, H4.out, H3.out, H2.out, H1.out, Hdn.out, Hdb.out, Hdz.out]; unfold hTx; rw [if_neg c]; simp
    subst hu
    clear c
    go_wp2_with fail
    go_fit (D2 w1)
    rintro _ w2 ⟨rfl, k2⟩
    have K2 : Hid (Kept Nil W w2) := K1.out.trans k2
    have a2 : w2.cell? ⟨A, 2, none⟩ = some (.int .i64 z) := blk_at (K2.out.block _ _ HA.out (fun x => x)) 2 rfl
    clear k2 a1
    go_wp2_with fail
    go_fit (D3 w2)
    rintro _ w3 ⟨rfl, k3⟩
    have KF : Hid (Kept Nil w w3) := (KW.out.trans K2.out).trans k3
    clear k3 D1 D2 D3
    go_wp2
    go_ret
    exact ⟨rfl, KF.out⟩
set_option maxRecDepth 100000 in
set_option maxHeartbeats 2000000 in
theorem don_any (w : World) (b : Nat) (t : Tx) (D : Dx) (ap oo : Option Addr) (cp oc : Nat) (h : TdAt w b t D ap oo cp oc) (qq : Nat) (hl : t.ps.length ≤ 4) (ha : t.at' < t.ps.length) :
    Calls Tryz.prog 66 #[.pointer (some ⟨b, 0, none⟩), .string (bs (phW qq))] w fun e w' => e = .returned (.tuple #[]) ∧ TdAt w' b (t.further t.ph qq) D ap oo cp oc ∧ Kept (One b) w w' := by
  obtain ⟨u, HU⟩ : ∃ u, Hid (u = t.further t.ph qq) := ⟨_, rfl⟩
  rw [← HU.out]
  have hlt : b < w.heap.size := lt_of_block h
  obtain ⟨V, hV⟩ : ∃ V, V = w.setCell ⟨b, 3, none⟩ (.int .i64 ((t.at' : Int) + 1)) := ⟨_, rfl⟩
  have HT : Hid (TdAt V b { t with at' := t.at' + 1 } D ap oo cp oc) := by rw [hV]; exact h.s3 (t.at' + 1)
  have HK : Hid (Kept (One b) w V) := by rw [hV]; exact (Kept.refl _ _).setCell (p := ⟨b, 3, none⟩) (fun _ => rfl) _
  have q3 : w.cell? ⟨b, 3, none⟩ = some (.int .i64 t.at') := blk_at h 3 rfl
  have f3 : w.frozen? ⟨b, 3, none⟩ = false := blk_free h 3
  have j1 : V.cell? ⟨b, 1, none⟩ = some (.slice ap t.ps.length cp) := blk_at HT.out 1 rfl
  have j2 : V.cell? ⟨b, 2, none⟩ = some (.string (bs (phW t.ph))) := blk_at HT.out 2 rfl
  have j3 : V.cell? ⟨b, 3, none⟩ = some (.int .i64 ((t.at' : Int) + 1)) := blk_at HT.out 3 rfl
  have g2 : V.frozen? ⟨b, 2, none⟩ = false := blk_free HT.out 2
  have g3 : V.frozen? ⟨b, 3, none⟩ = false := blk_free HT.out 3
  obtain ⟨nx, Hnx⟩ : ∃ x, Hid (x = phW qq) := ⟨_, rfl⟩
  rw [← Hnx.out]
  clear h
  go_enter Tryz.func66, Tryz.ntmps66
  go_upto_region 1 with fail
  rw [← hV]
  clear hV q3 f3
  by_cases c : t.at' + 1 = t.ps.length
  · have hb : (((t.at' : Int) + 1) == (t.ps.length : Int)) = true := by simp; omega
    obtain ⟨Y, hY⟩ : ∃ Y, Y = ((V.setCell ⟨b, 3, none⟩ (.int .i64 0)).setCell ⟨b, 2, none⟩ (.string (bs nx))).drew := ⟨_, rfl⟩
    have HY : Hid (TdAt Y b u D ap oo cp oc ∧ Kept (One b) w Y) := by
      rw [HU.out, hY, Hnx.out]
      unfold Tx.further
      rw [if_pos c]
      exact ⟨((HT.out.s3 0).s2 qq), (((HK.out.setCell (p := ⟨b, 3, none⟩) (fun _ => rfl) _).setCell (p := ⟨b, 2, none⟩) (fun _ => rfl) _)).drew⟩
    clear c
    go_region
    all_goals
      go_wp2
      rw [← hY]
      go_end0
      exact ⟨rfl, HY.out⟩
  · have hb : (((t.at' : Int) + 1) == (t.ps.length : Int)) = false := by simp; omega
    have HY : Hid (TdAt V.drew b u D ap oo cp oc ∧ Kept (One b) w V.drew) := by
      rw [HU.out]
      unfold Tx.further
      rw [if_neg c]
      exact ⟨HT.out.drew, HK.out.drew⟩
    clear c
    go_region
    all_goals
      go_wp2
      go_end0
      exact ⟨rfl, HY.out⟩
end Go.Proofs.YtflnjlbafchnaaaGreatDoor
