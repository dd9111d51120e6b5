/-
  Joined: WTx9.
-/
import Derived.Test.YtflnjlbafchnaaaGreatDoorR14
/-
  Transactions: write, Next, Look (the program).
-/
namespace Go.Proofs.YtflnjlbafchnaaaGreatDoor
open Go.RowKit

def CdPost (w : World) (c : Cd) (e : Ending) (w' : World) : Prop := e = .returned (cdV c) ∧ Kept Nil w w'
theorem cd_store {w X : World} {A : Nat} {x0 x1 x2 x3 : Value} {c : Cd} (h : X.heap[A]? = some (.cells #[x0, x1, x2, x3] 31 (0, 0))) (hA : w.heap.size ≤ A) (hk : Kept Nil w X) :
    ((((X.setCell ⟨A, 0, none⟩ (.int .i64 c.kd)).setCell ⟨A, 1, none⟩ (.string (bs c.k))).setCell ⟨A, 2, none⟩ (.string (bs c.v))).setCell ⟨A, 3, none⟩ (.int .i64 c.m)).heap[A]? = some (.cells #[.int .i64 c.kd, .string (bs c.k), .string (bs c.v), .int .i64 c.m] 31 (0, 0)) ∧
    Kept Nil w ((((X.setCell ⟨A, 0, none⟩ (.int .i64 c.kd)).setCell ⟨A, 1, none⟩ (.string (bs c.k))).setCell ⟨A, 2, none⟩ (.string (bs c.v))).setCell ⟨A, 3, none⟩ (.int .i64 c.m)) :=
  ⟨blk_set (blk_set (blk_set (blk_set h 0 _) 1 _) 2 _) 3 _, (((hk.setNew (p := ⟨A, 0, none⟩) hA _).setNew (p := ⟨A, 1, none⟩) hA _).setNew (p := ⟨A, 2, none⟩) hA _).setNew (p := ⟨A, 3, none⟩) hA _⟩
set_option maxRecDepth 100000 in
set_option maxHeartbeats 4000000 in
theorem write_any (w : World) (b : Nat) (t : Tx) (ap oo : Option Addr) (cp oc : Nat) (h : TxAt w b t ap oo cp oc) (B : Nat) (hP : OwnT B w ap cp t.ps) (ha : t.at' < t.ps.length) (hk : t.part.k.length ≤ 15) (n bb : Nat) (z : Int) (v : List UInt8)
    (TX : ∀ X, Kept Nil w X → Calls Tryz.prog 106 #[.agg #[.int .i64 n, .int .i64 bb, .int .i64 z]] X fun e w' => e = .returned (.string (bs v)) ∧ Kept Nil X w') :
    Calls Tryz.prog 52 #[.pointer (some ⟨b, 0, none⟩), .agg #[.int .i64 n, .int .i64 bb, .int .i64 z]] w (CdPost w (swapC t.key v t.vr)) := by
  have hlt : b < w.heap.size := lt_of_block h
  obtain ⟨W, hW⟩ : ∃ W, W = (w.alloc (.cells #[.int .i64 n, .int .i64 bb, .int .i64 z] 104)).alloc (.cells #[.int .i64 0, .string ⟨#[]⟩, .string ⟨#[]⟩, .int .i64 0] 31) := ⟨_, rfl⟩
  obtain ⟨D, HDe⟩ : ∃ D, Hid (D = w.heap.size) := ⟨_, rfl⟩
  obtain ⟨A, HAe⟩ : ∃ A, Hid (A = w.heap.size + 1) := ⟨_, rfl⟩
  have KW : Hid (Kept Nil w W) := by rw [hW]; exact ((Kept.refl _ _).alloc _).alloc _
  have HDW : Hid (W.heap[D]? = some (.cells #[.int .i64 n, .int .i64 bb, .int .i64 z] 104 (0, 0))) := by rw [hW, HDe.out]; exact blk_past (blk_new _ _) _
  have HAW : Hid (W.heap[A]? = some (.cells #[.int .i64 0, .string ⟨#[]⟩, .string ⟨#[]⟩, .int .i64 0] 31 (0, 0))) := by
    rw [hW, HAe.out]
    have := blk_new (w.alloc (.cells #[.int .i64 n, .int .i64 bb, .int .i64 z] 104)) (.cells #[.int .i64 0, .string ⟨#[]⟩, .string ⟨#[]⟩, .int .i64 0] 31)
    show _ = _
    simpa using this
  have HAw : Hid (w.heap.size ≤ A) := by show _ ≤ _; rw [HAe.out]; omega
  have HTW : Hid (TxAt W b t ap oo cp oc) := h.kept KW.out
  have HPW : Hid (OwnT B W ap cp t.ps) := hP.keptX KW.out (fun _ _ _ x => x.elim)
  have SS : ∀ X, Kept Nil W X → X.cell? ⟨D, 0, none⟩ = some (.int .i64 n) ∧ X.cell? ⟨D, 1, none⟩ = some (.int .i64 bb) ∧ X.cell? ⟨D, 2, none⟩ = some (.int .i64 z) ∧ X.cell? ⟨b, 9, none⟩ = some (.int .i64 t.vr) := fun X kX =>
    ⟨blk_at (kX.block _ _ HDW.out (fun x => x.elim)) 0 rfl, blk_at (kX.block _ _ HDW.out (fun x => x.elim)) 1 rfl, blk_at (kX.block _ _ HDW.out (fun x => x.elim)) 2 rfl, blk_at (HTW.out.kept kX) 9 rfl⟩
  have KY : ∀ X, Kept Nil W X → Calls Tryz.prog 51 #[.pointer (some ⟨b, 0, none⟩)] X fun e w' => e = .returned (.string (bs t.key)) ∧ Kept Nil X w' := fun X kX =>
    key_any X b t ap oo cp oc (HTW.out.kept kX) X.heap.size (HPW.out.keptX kX (fun _ _ _ x => x.elim)).row ha (by omega)
  have TY : ∀ X, Kept Nil W X → Calls Tryz.prog 106 #[.agg #[.int .i64 n, .int .i64 bb, .int .i64 z]] X fun e w' => e = .returned (.string (bs v)) ∧ Kept Nil X w' := fun X kX => TX X (KW.out.trans kX)
  have SW := fun X => swapCommand_any t.key v t.vr X
  have KD : Hid (Kept Nil W W.drew) := (Kept.refl _ _).drew
  have hDb : D ≠ b := by rw [HDe.out]; omega
  have hbD : b ≠ D := fun e => hDb e.symm
  have hAb : A ≠ b := by rw [HAe.out]; omega
  have hbA : b ≠ A := fun e => hAb e.symm
  have hAD : A ≠ D := by rw [HAe.out, HDe.out]; omega
  have hDA : D ≠ A := fun e => hAD e.symm
  have FC : ∀ X, Kept Nil W X → X.heap[A]? = some (.cells #[.int .i64 0, .string ⟨#[]⟩, .string ⟨#[]⟩, .int .i64 0] 31 (0, 0)) := fun X kX => kX.block _ _ HAW.out (fun x => x.elim)
  have s0 := SS W (Kept.refl _ _)
  clear h hP TX hk ha
  go_enter Tryz.func52, Tryz.ntmps52
  go_upto_region 1 with fail
  rw [← hW, ← HAe.out, ← HDe.out]
  clear hW
  go_region_held3 (fun w' => w'.cell? ⟨D, 0, none⟩ = some (.int .i64 n) ∧ w'.cell? ⟨D, 1, none⟩ = some (.int .i64 bb) ∧ w'.cell? ⟨D, 2, none⟩ = some (.int .i64 z) ∧ w'.cell? ⟨b, 9, none⟩ = some (.int .i64 t.vr)) (first | assumption | go_keep) (first | (go_at_call 51; first | (go_fit (KY W.drew KD.out); rintro e wa ⟨rfl, ka⟩; have Ka : Hid (Kept Nil W wa) := KD.out.trans ka; have sa := SS wa Ka.out) | (go_fit (KY wb Kb.out); rintro e wa ⟨rfl, ka⟩; have Ka : Hid (Kept Nil W wa) := Kb.out.trans ka; have sa := SS wa Ka.out)) | (go_at_call 106; first | (go_fit (TY W.drew KD.out); rintro e wb ⟨rfl, kb⟩; have Kb : Hid (Kept Nil W wb) := KD.out.trans kb; have sb := SS wb Kb.out) | (go_fit (TY wa Ka.out); rintro e wb ⟨rfl, kb⟩; have Kb : Hid (Kept Nil W wb) := Ka.out.trans kb; have sb := SS wb Kb.out)) | (go_at_call 48; first | (go_fit (SW wb); rintro e wc ⟨rfl, kc⟩; have Kc : Hid (Kept Nil W wc) := Kb.out.trans kc; have sc := SS wc Kc.out; have BR := FC wc Kc.out; have r0 := blk_at BR 0 rfl; have r1 := blk_at BR 1 rfl; have r2 := blk_at BR 2 rfl; have r3 := blk_at BR 3 rfl; have z0 := blk_free BR 0; have z1 := blk_free BR 1; have z2 := blk_free BR 2; have z3 := blk_free BR 3; clear BR) | (go_fit (SW wa); rintro e wc ⟨rfl, kc⟩; have Kc : Hid (Kept Nil W wc) := Ka.out.trans kc; have sc := SS wc Kc.out; have BR := FC wc Kc.out; have r0 := blk_at BR 0 rfl; have r1 := blk_at BR 1 rfl; have r2 := blk_at BR 2 rfl; have r3 := blk_at BR 3 rfl; have z0 := blk_free BR 0; have z1 := blk_free BR 1; have z2 := blk_free BR 2; have z3 := blk_free BR 3; clear BR)))
  all_goals
    obtain ⟨V, hV⟩ : ∃ V, V = (((wc.setCell ⟨A, 0, none⟩ (.int .i64 4)).setCell ⟨A, 1, none⟩ (.string (bs t.key))).setCell ⟨A, 2, none⟩ (.string (bs v))).setCell ⟨A, 3, none⟩ (.int .i64 t.vr) := ⟨_, rfl⟩
    have HV : Hid (V.heap[A]? = some (.cells #[.int .i64 4, .string (bs t.key), .string (bs v), .int .i64 t.vr] 31 (0, 0)) ∧ Kept Nil w V) := by
      rw [hV]
      exact cd_store (c := swapC t.key v t.vr) (FC wc Kc.out) HAw.out (KW.out.trans Kc.out)
    clear r0 r1 r2 r3 z0 z1 z2 z3
    rw [← hV]
    clear hV
    go_wp2
    have j0 := blk_at HV.out.1 0 rfl
    have j1 := blk_at HV.out.1 1 rfl
    have j2 := blk_at HV.out.1 2 rfl
    have j3 := blk_at HV.out.1 3 rfl
    exact bodyPost_ret (v := cdV (swapC t.key v t.vr)) (by simp [results, Tryz.results52, go_sem, j0, j1, j2, j3, cdV, swapC]) rfl ⟨rfl, HV.out.2⟩
end Go.Proofs.YtflnjlbafchnaaaGreatDoor
