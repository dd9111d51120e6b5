/-
  Joined: WTxB.
-/
import Derived.Test.YtflnjlbafchnaaaGreatDoorR15
/-
  Transactions: Next (the program).
-/
namespace Go.Proofs.YtflnjlbafchnaaaGreatDoor
open Go.RowKit

def NxPost (w : World) (p : Cd × Bool) (e : Ending) (w' : World) : Prop := e = .returned (.tuple #[cdV p.1, .bool p.2]) ∧ Kept Nil w w'
theorem settled_le (h : Hd) (d : Bool) (ho : h.Ok) : h.settled d ≤ 999999999 := by
  unfold Hd.settled
  split
  · exact ho.t
  · exact ho.n
set_option maxRecDepth 100000 in
set_option maxHeartbeats 4000000 in
theorem next_any (w : World) (b : Nat) (t : Tx) (ap oo : Option Addr) (cp oc : Nat) (h : TxAt w b t ap oo cp oc) (B : Nat) (hP : OwnT B w ap cp t.ps) (hK : t.Ok) (hL : LD w) :
    Calls Tryz.prog 11 #[.pointer (some ⟨b, 0, none⟩)] w (NxPost w t.next) := by
  obtain ⟨u, HU⟩ : ∃ u, Hid (u = t.next) := ⟨_, rfl⟩
  rw [← HU.out]
  have hlt : b < w.heap.size := lt_of_block h
  obtain ⟨W, hW⟩ : ∃ W, W = w.alloc (.cells #[.int .i64 0, .string ⟨#[]⟩, .string ⟨#[]⟩, .int .i64 0] 31) := ⟨_, rfl⟩
  obtain ⟨A, HAe⟩ : ∃ A, Hid (A = w.heap.size) := ⟨_, rfl⟩
  have KW : Hid (Kept Nil w W) := by rw [hW]; exact (Kept.refl _ _).alloc _
  have HAW : Hid (W.heap[A]? = some (.cells #[.int .i64 0, .string ⟨#[]⟩, .string ⟨#[]⟩, .int .i64 0] 31 (0, 0))) := by rw [hW, HAe.out]; exact blk_new _ _
  have HAw : Hid (w.heap.size ≤ A) := by show _ ≤ _; rw [HAe.out]; exact Nat.le_refl _
  have HTW : Hid (TxAt W b t ap oo cp oc) := by rw [hW]; exact h.past _
  have HPW : Hid (OwnT B W ap cp t.ps) := hP.keptX KW.out (fun _ _ _ x => x.elim)
  have HLW : Hid (LD W) := hL.kept KW.out
  have HK : Hid (t.Ok) := hK
  have hph := hK.ph
  have K0 : Hid (Kept Nil W W) := Kept.refl _ _
  have KD : Hid (Kept Nil W W.drew) := (Kept.refl _ _).drew
  have hAb : A ≠ b := by rw [HAe.out]; omega
  have hbA : b ≠ A := fun e => hAb e.symm
  have FC : ∀ X, Kept Nil W X → X.heap[A]? = some (.cells #[.int .i64 0, .string ⟨#[]⟩, .string ⟨#[]⟩, .int .i64 0] 31 (0, 0)) := fun X kX => kX.block _ _ HAW.out (fun x => x.elim)
  have GEN : ∀ (k : Nat), t.ph = k → W.cell? ⟨b, 4, none⟩ = some (.int .i64 (k : Nat)) := fun k e => by rw [← e]; exact blk_at HTW.out 4 rfl
  have hpk := hK.keys t.part (by unfold Tx.part; rw [List.getElem?_eq_getElem hK.at']; exact List.getElem_mem _)
  have RI : ∀ X, Kept Nil W X → Calls Tryz.prog 49 #[.int .i64 t.id] X fun e w' => e = .returned (.string (bs (tKey t.id))) ∧ Kept Nil X w' := fun X kX => recordKey_any t.id (by have := HK.out.id; omega) X (HLW.out.kept kX)
  have RB : ∀ X, Kept Nil W X → Calls Tryz.prog 49 #[.int .i64 t.sn.b] X fun e w' => e = .returned (.string (bs (tKey t.sn.b))) ∧ Kept Nil X w' := fun X kX => recordKey_any t.sn.b (by have := HK.out.sn.b; omega) X (HLW.out.kept kX)
  have KY : ∀ X, Kept Nil W X → Calls Tryz.prog 51 #[.pointer (some ⟨b, 0, none⟩)] X fun e w' => e = .returned (.string (bs t.key)) ∧ Kept Nil X w' := fun X kX =>
    key_any X b t ap oo cp oc (HTW.out.kept kX) X.heap.size (HPW.out.keptX kX (fun _ _ _ x => x.elim)).row HK.out.at' (by omega)
  have WR : ∀ (n bb : Nat) (z : Int) (v : List UInt8), (∀ X, Kept Nil W X → Calls Tryz.prog 106 #[.agg #[.int .i64 n, .int .i64 bb, .int .i64 z]] X fun e w' => e = .returned (.string (bs v)) ∧ Kept Nil X w') → ∀ X, Kept Nil W X → Calls Tryz.prog 52 #[.pointer (some ⟨b, 0, none⟩), .agg #[.int .i64 n, .int .i64 bb, .int .i64 z]] X fun e w' => e = .returned (.agg #[.int .i64 4, .string (bs t.key), .string (bs v), .int .i64 t.vr]) ∧ Kept Nil X w' := fun n bb z v TX X kX =>
    write_any X b t ap oo cp oc (HTW.out.kept kX) B (HPW.out.keptX kX (fun _ _ _ x => x.elim)) HK.out.at' (by omega) n bb z v (fun Y kY => TX Y (kX.trans kY))
  have GC := fun (k : List UInt8) X => getCommand_any k X
  clear h hP hL
  rcases (show t.ph = 0 ∨ t.ph = 1 ∨ t.ph = 2 ∨ t.ph = 3 ∨ t.ph = 4 ∨ t.ph = 5 ∨ t.ph = 6 ∨ t.ph = 7 ∨ t.ph = 8 ∨ t.ph = 9 ∨ t.ph = 10 by omega) with hp | hp | hp | hp | hp | hp | hp | hp | hp | hp | hp
  · have HUE : Hid (u = (swapC (tKey t.id) wOpen 0, true)) := by
      show _ = _
      rw [HU.out]
      unfold Tx.next
      simp [hp]
    have q4 : W.cell? ⟨b, 4, none⟩ = some (.int .i64 0) := GEN 0 hp
    clear GEN hp hph
    have q0 : W.cell? ⟨b, 0, none⟩ = some (.int .i64 t.id) := blk_at HTW.out 0 rfl
    have q2 : W.cell? ⟨b, 2, none⟩ = some (.int .i64 t.st) := blk_at HTW.out 2 rfl
    have q6 : W.cell? ⟨b, 6, none⟩ = some (.int .i64 t.sn.n) := blk_at HTW.out 6 rfl
    have q7 : W.cell? ⟨b, 7, none⟩ = some (.int .i64 t.sn.b) := blk_at HTW.out 7 rfl
    have q8 : W.cell? ⟨b, 8, none⟩ = some (.int .i64 t.sn.t) := blk_at HTW.out 8 rfl
    have q10 : W.cell? ⟨b, 10, none⟩ = some (.bool t.hd) := blk_at HTW.out 10 rfl
    have q11 : W.cell? ⟨b, 11, none⟩ = some (.int .i64 t.hv) := blk_at HTW.out 11 rfl
    go_enter Tryz.func11, Tryz.ntmps11
    go_upto_region 1 with fail
    rw [← hW, ← HAe.out]
    clear hW
    go_wp2_with fail
    go_fit (RI W K0.out)
    rintro _ x0 ⟨rfl, k⟩
    have J0 : Hid (Kept Nil W x0) := K0.out.trans k
    clear k
    go_wp2_with fail
    go_fit ((show Calls Tryz.prog 48 #[.string (bs (tKey t.id)), .string ⟨#[111, 112, 101, 110]⟩, .int .i64 0] x0 fun e w' => e = .returned (.agg #[.int .i64 4, .string (bs (tKey t.id)), .string ⟨#[111, 112, 101, 110]⟩, .int .i64 0]) ∧ Kept Nil x0 w' from swapCommand_any (tKey t.id) wOpen 0 x0))
    rintro _ x1 ⟨rfl, k⟩
    have J1 : Hid (Kept Nil W x1) := J0.out.trans k
    clear k
    have BR := FC x1 J1.out
    have r0 : x1.cell? ⟨A, 0, none⟩ = some (.int .i64 0) := blk_at BR 0 rfl
    have r1 : x1.cell? ⟨A, 1, none⟩ = some (.string ⟨#[]⟩) := blk_at BR 1 rfl
    have r2 : x1.cell? ⟨A, 2, none⟩ = some (.string ⟨#[]⟩) := blk_at BR 2 rfl
    have r3 : x1.cell? ⟨A, 3, none⟩ = some (.int .i64 0) := blk_at BR 3 rfl
    have z0 : x1.frozen? ⟨A, 0, none⟩ = false := blk_free BR 0
    have z1 : x1.frozen? ⟨A, 1, none⟩ = false := blk_free BR 1
    have z2 : x1.frozen? ⟨A, 2, none⟩ = false := blk_free BR 2
    have z3 : x1.frozen? ⟨A, 3, none⟩ = false := blk_free BR 3
    clear BR
    obtain ⟨V, hV⟩ : ∃ V, V = (((x1.setCell ⟨A, 0, none⟩ (.int .i64 4)).setCell ⟨A, 1, none⟩ (.string (bs (tKey t.id)))).setCell ⟨A, 2, none⟩ (.string ⟨#[111, 112, 101, 110]⟩)).setCell ⟨A, 3, none⟩ (.int .i64 0) := ⟨_, rfl⟩
    have HV : Hid (V.heap[A]? = some (.cells #[.int .i64 4, .string (bs (tKey t.id)), .string ⟨#[111, 112, 101, 110]⟩, .int .i64 0] 31 (0, 0)) ∧ Kept Nil w V) := by
      rw [hV]
      exact ⟨blk_set (blk_set (blk_set (blk_set (FC x1 J1.out) 0 _) 1 _) 2 _) 3 _, ((((KW.out.trans J1.out).setNew (p := ⟨A, 0, none⟩) HAw.out _).setNew (p := ⟨A, 1, none⟩) HAw.out _).setNew (p := ⟨A, 2, none⟩) HAw.out _).setNew (p := ⟨A, 3, none⟩) HAw.out _⟩
    go_wp2
    rw [← hV]
    clear hV
    have j0 := blk_at HV.out.1 0 rfl
    have j1 := blk_at HV.out.1 1 rfl
    have j2 := blk_at HV.out.1 2 rfl
    have j3 := blk_at HV.out.1 3 rfl
    exact bodyPost_ret (v := .tuple #[.agg #[.int .i64 4, .string (bs (tKey t.id)), .string ⟨#[111, 112, 101, 110]⟩, .int .i64 0], .bool true]) (by simp [results, Tryz.results11, go_sem, j0, j1, j2, j3]) rfl ⟨by rw [HUE.out]; rfl, HV.out.2⟩
  · have HUE : Hid (u = (getC t.key, true)) := by
      show _ = _
      rw [HU.out]
      unfold Tx.next
      simp [hp]
    have q4 : W.cell? ⟨b, 4, none⟩ = some (.int .i64 1) := GEN 1 hp
    clear GEN hp hph
    have q0 : W.cell? ⟨b, 0, none⟩ = some (.int .i64 t.id) := blk_at HTW.out 0 rfl
    have q2 : W.cell? ⟨b, 2, none⟩ = some (.int .i64 t.st) := blk_at HTW.out 2 rfl
    have q6 : W.cell? ⟨b, 6, none⟩ = some (.int .i64 t.sn.n) := blk_at HTW.out 6 rfl
    have q7 : W.cell? ⟨b, 7, none⟩ = some (.int .i64 t.sn.b) := blk_at HTW.out 7 rfl
    have q8 : W.cell? ⟨b, 8, none⟩ = some (.int .i64 t.sn.t) := blk_at HTW.out 8 rfl
    have q10 : W.cell? ⟨b, 10, none⟩ = some (.bool t.hd) := blk_at HTW.out 10 rfl
    have q11 : W.cell? ⟨b, 11, none⟩ = some (.int .i64 t.hv) := blk_at HTW.out 11 rfl
    go_enter Tryz.func11, Tryz.ntmps11
    go_upto_region 1 with fail
    rw [← hW, ← HAe.out]
    clear hW
    go_wp2_with fail
    go_fit (KY W K0.out)
    rintro _ x0 ⟨rfl, k⟩
    have J0 : Hid (Kept Nil W x0) := K0.out.trans k
    clear k
    go_wp2_with fail
    go_fit (GC t.key x0)
    rintro _ x1 ⟨rfl, k⟩
    have J1 : Hid (Kept Nil W x1) := J0.out.trans k
    clear k
    have BR := FC x1 J1.out
    have r0 : x1.cell? ⟨A, 0, none⟩ = some (.int .i64 0) := blk_at BR 0 rfl
    have r1 : x1.cell? ⟨A, 1, none⟩ = some (.string ⟨#[]⟩) := blk_at BR 1 rfl
    have r2 : x1.cell? ⟨A, 2, none⟩ = some (.string ⟨#[]⟩) := blk_at BR 2 rfl
    have r3 : x1.cell? ⟨A, 3, none⟩ = some (.int .i64 0) := blk_at BR 3 rfl
    have z0 : x1.frozen? ⟨A, 0, none⟩ = false := blk_free BR 0
    have z1 : x1.frozen? ⟨A, 1, none⟩ = false := blk_free BR 1
    have z2 : x1.frozen? ⟨A, 2, none⟩ = false := blk_free BR 2
    have z3 : x1.frozen? ⟨A, 3, none⟩ = false := blk_free BR 3
    clear BR
    obtain ⟨V, hV⟩ : ∃ V, V = (((x1.setCell ⟨A, 0, none⟩ (.int .i64 2)).setCell ⟨A, 1, none⟩ (.string (bs (t.key)))).setCell ⟨A, 2, none⟩ (.string (bs []))).setCell ⟨A, 3, none⟩ (.int .i64 0) := ⟨_, rfl⟩
    have HV : Hid (V.heap[A]? = some (.cells #[.int .i64 2, .string (bs (t.key)), .string (bs []), .int .i64 0] 31 (0, 0)) ∧ Kept Nil w V) := by
      rw [hV]
      exact ⟨blk_set (blk_set (blk_set (blk_set (FC x1 J1.out) 0 _) 1 _) 2 _) 3 _, ((((KW.out.trans J1.out).setNew (p := ⟨A, 0, none⟩) HAw.out _).setNew (p := ⟨A, 1, none⟩) HAw.out _).setNew (p := ⟨A, 2, none⟩) HAw.out _).setNew (p := ⟨A, 3, none⟩) HAw.out _⟩
    go_wp2
    rw [← hV]
    clear hV
    have j0 := blk_at HV.out.1 0 rfl
    have j1 := blk_at HV.out.1 1 rfl
    have j2 := blk_at HV.out.1 2 rfl
    have j3 := blk_at HV.out.1 3 rfl
    exact bodyPost_ret (v := .tuple #[.agg #[.int .i64 2, .string (bs (t.key)), .string (bs []), .int .i64 0], .bool true]) (by simp [results, Tryz.results11, go_sem, j0, j1, j2, j3]) rfl ⟨by rw [HUE.out]; rfl, HV.out.2⟩
  · have hz := HK.out.hold hp
    have HE : ∀ X, Kept Nil W X → Calls Tryz.prog 53 #[.pointer (some ⟨b, 0, none⟩)] X fun e w' => e = .returned (.agg #[.int .i64 t.sn.n, .int .i64 t.id, .int .i64 t.thenZ]) ∧ Kept Nil X w' := fun X kX => held_any X b t ap oo cp oc (HTW.out.kept kX) X.heap.size (HPW.out.keptX kX (fun _ _ _ x => x.elim)).row HK.out.at' hpk.2.2 HK.out.sn.n
    obtain ⟨v, HVe⟩ : ∃ v, Hid (v = Tx.numT t.sn.n t.id t.thenZ) := ⟨_, rfl⟩
    have WX := WR t.sn.n t.id t.thenZ v (fun X kX => by rw [HVe.out]; exact text_held t.sn.n t.id t.thenZ X (HLW.out.kept kX) HK.out.sn.n HK.out.id0 HK.out.id hz.1 hz.2)
    have HUE : Hid (u = (swapC t.key v t.vr, true)) := by
      show _ = _
      rw [HU.out, HVe.out]
      unfold Tx.next
      simp [hp]
    have q4 : W.cell? ⟨b, 4, none⟩ = some (.int .i64 2) := GEN 2 hp
    clear GEN hp hph hz
    go_enter Tryz.func11, Tryz.ntmps11
    go_upto_region 1 with fail
    rw [← hW, ← HAe.out]
    clear hW
    go_wp2_with fail
    go_fit (HE W K0.out)
    rintro _ x0 ⟨rfl, k⟩
    have J0 : Hid (Kept Nil W x0) := K0.out.trans k
    clear k
    go_wp2_with fail
    go_fit (WX x0 J0.out)
    rintro _ x1 ⟨rfl, k⟩
    have J1 : Hid (Kept Nil W x1) := J0.out.trans k
    clear k
    have BR := FC x1 J1.out
    have r0 : x1.cell? ⟨A, 0, none⟩ = some (.int .i64 0) := blk_at BR 0 rfl
    have r1 : x1.cell? ⟨A, 1, none⟩ = some (.string ⟨#[]⟩) := blk_at BR 1 rfl
    have r2 : x1.cell? ⟨A, 2, none⟩ = some (.string ⟨#[]⟩) := blk_at BR 2 rfl
    have r3 : x1.cell? ⟨A, 3, none⟩ = some (.int .i64 0) := blk_at BR 3 rfl
    have z0 : x1.frozen? ⟨A, 0, none⟩ = false := blk_free BR 0
    have z1 : x1.frozen? ⟨A, 1, none⟩ = false := blk_free BR 1
    have z2 : x1.frozen? ⟨A, 2, none⟩ = false := blk_free BR 2
    have z3 : x1.frozen? ⟨A, 3, none⟩ = false := blk_free BR 3
    clear BR
    obtain ⟨V, hV⟩ : ∃ V, V = (((x1.setCell ⟨A, 0, none⟩ (.int .i64 4)).setCell ⟨A, 1, none⟩ (.string (bs t.key))).setCell ⟨A, 2, none⟩ (.string (bs v))).setCell ⟨A, 3, none⟩ (.int .i64 t.vr) := ⟨_, rfl⟩
    have HV : Hid (V.heap[A]? = some (.cells #[.int .i64 4, .string (bs t.key), .string (bs v), .int .i64 t.vr] 31 (0, 0)) ∧ Kept Nil w V) := by
      rw [hV]
      exact ⟨blk_set (blk_set (blk_set (blk_set (FC x1 J1.out) 0 _) 1 _) 2 _) 3 _, ((((KW.out.trans J1.out).setNew (p := ⟨A, 0, none⟩) HAw.out _).setNew (p := ⟨A, 1, none⟩) HAw.out _).setNew (p := ⟨A, 2, none⟩) HAw.out _).setNew (p := ⟨A, 3, none⟩) HAw.out _⟩
    go_wp2
    rw [← hV]
    clear hV
    have j0 := blk_at HV.out.1 0 rfl
    have j1 := blk_at HV.out.1 1 rfl
    have j2 := blk_at HV.out.1 2 rfl
    have j3 := blk_at HV.out.1 3 rfl
    exact bodyPost_ret (v := .tuple #[.agg #[.int .i64 4, .string (bs t.key), .string (bs v), .int .i64 t.vr], .bool true]) (by simp [results, Tryz.results11, go_sem, j0, j1, j2, j3]) rfl ⟨by rw [HUE.out]; rfl, HV.out.2⟩
  · have HUE : Hid (u = (getC (tKey t.sn.b), true)) := by
      show _ = _
      rw [HU.out]
      unfold Tx.next
      simp [hp]
    have q4 : W.cell? ⟨b, 4, none⟩ = some (.int .i64 3) := GEN 3 hp
    clear GEN hp hph
    have q0 : W.cell? ⟨b, 0, none⟩ = some (.int .i64 t.id) := blk_at HTW.out 0 rfl
    have q2 : W.cell? ⟨b, 2, none⟩ = some (.int .i64 t.st) := blk_at HTW.out 2 rfl
    have q6 : W.cell? ⟨b, 6, none⟩ = some (.int .i64 t.sn.n) := blk_at HTW.out 6 rfl
    have q7 : W.cell? ⟨b, 7, none⟩ = some (.int .i64 t.sn.b) := blk_at HTW.out 7 rfl
    have q8 : W.cell? ⟨b, 8, none⟩ = some (.int .i64 t.sn.t) := blk_at HTW.out 8 rfl
    have q10 : W.cell? ⟨b, 10, none⟩ = some (.bool t.hd) := blk_at HTW.out 10 rfl
    have q11 : W.cell? ⟨b, 11, none⟩ = some (.int .i64 t.hv) := blk_at HTW.out 11 rfl
    go_enter Tryz.func11, Tryz.ntmps11
    go_upto_region 1 with fail
    rw [← hW, ← HAe.out]
    clear hW
    go_wp2_with fail
    go_fit (RB W K0.out)
    rintro _ x0 ⟨rfl, k⟩
    have J0 : Hid (Kept Nil W x0) := K0.out.trans k
    clear k
    go_wp2_with fail
    go_fit (GC (tKey t.sn.b) x0)
    rintro _ x1 ⟨rfl, k⟩
    have J1 : Hid (Kept Nil W x1) := J0.out.trans k
    clear k
    have BR := FC x1 J1.out
    have r0 : x1.cell? ⟨A, 0, none⟩ = some (.int .i64 0) := blk_at BR 0 rfl
    have r1 : x1.cell? ⟨A, 1, none⟩ = some (.string ⟨#[]⟩) := blk_at BR 1 rfl
    have r2 : x1.cell? ⟨A, 2, none⟩ = some (.string ⟨#[]⟩) := blk_at BR 2 rfl
    have r3 : x1.cell? ⟨A, 3, none⟩ = some (.int .i64 0) := blk_at BR 3 rfl
    have z0 : x1.frozen? ⟨A, 0, none⟩ = false := blk_free BR 0
    have z1 : x1.frozen? ⟨A, 1, none⟩ = false := blk_free BR 1
    have z2 : x1.frozen? ⟨A, 2, none⟩ = false := blk_free BR 2
    have z3 : x1.frozen? ⟨A, 3, none⟩ = false := blk_free BR 3
    clear BR
    obtain ⟨V, hV⟩ : ∃ V, V = (((x1.setCell ⟨A, 0, none⟩ (.int .i64 2)).setCell ⟨A, 1, none⟩ (.string (bs (tKey t.sn.b)))).setCell ⟨A, 2, none⟩ (.string (bs []))).setCell ⟨A, 3, none⟩ (.int .i64 0) := ⟨_, rfl⟩
    have HV : Hid (V.heap[A]? = some (.cells #[.int .i64 2, .string (bs (tKey t.sn.b)), .string (bs []), .int .i64 0] 31 (0, 0)) ∧ Kept Nil w V) := by
      rw [hV]
      exact ⟨blk_set (blk_set (blk_set (blk_set (FC x1 J1.out) 0 _) 1 _) 2 _) 3 _, ((((KW.out.trans J1.out).setNew (p := ⟨A, 0, none⟩) HAw.out _).setNew (p := ⟨A, 1, none⟩) HAw.out _).setNew (p := ⟨A, 2, none⟩) HAw.out _).setNew (p := ⟨A, 3, none⟩) HAw.out _⟩
    go_wp2
    rw [← hV]
    clear hV
    have j0 := blk_at HV.out.1 0 rfl
    have j1 := blk_at HV.out.1 1 rfl
    have j2 := blk_at HV.out.1 2 rfl
    have j3 := blk_at HV.out.1 3 rfl
    exact bodyPost_ret (v := .tuple #[.agg #[.int .i64 2, .string (bs (tKey t.sn.b)), .string (bs []), .int .i64 0], .bool true]) (by simp [results, Tryz.results11, go_sem, j0, j1, j2, j3]) rfl ⟨by rw [HUE.out]; rfl, HV.out.2⟩
  · have HUE : Hid (u = (swapC (tKey t.sn.b) wOff t.hv, true)) := by
      show _ = _
      rw [HU.out]
      unfold Tx.next
      simp [hp]
    have q4 : W.cell? ⟨b, 4, none⟩ = some (.int .i64 4) := GEN 4 hp
    clear GEN hp hph
    have SS : ∀ X, Kept Nil W X → X.cell? ⟨b, 7, none⟩ = some (.int .i64 t.sn.b) ∧ X.cell? ⟨b, 11, none⟩ = some (.int .i64 t.hv) := fun X kX => ⟨blk_at (HTW.out.kept kX) 7 rfl, blk_at (HTW.out.kept kX) 11 rfl⟩
    have SW : ∀ X, Calls Tryz.prog 48 #[.string (bs (tKey t.sn.b)), .string ⟨#[111, 102, 102]⟩, .int .i64 t.hv] X fun e w' => e = .returned (.agg #[.int .i64 4, .string (bs (tKey t.sn.b)), .string ⟨#[111, 102, 102]⟩, .int .i64 t.hv]) ∧ Kept Nil X w' := fun X => swapCommand_any (tKey t.sn.b) wOff t.hv X
    have s0 := SS W (Kept.refl _ _)
    have RB' := RB W.drew KD.out
    go_enter Tryz.func11, Tryz.ntmps11
    go_upto_region 1 with fail
    rw [← hW, ← HAe.out]
    clear hW
    go_wp2_with fail
    go_region_held3 (fun w' => w'.cell? ⟨b, 7, none⟩ = some (.int .i64 t.sn.b) ∧ w'.cell? ⟨b, 11, none⟩ = some (.int .i64 t.hv)) (first | assumption | go_keep) (first | (go_at_call 49; go_must (go_fit RB'; rintro e wa ⟨rfl, ka⟩; have Ka : Hid (Kept Nil W wa) := KD.out.trans ka; have sa := SS wa Ka.out)) | (go_at_call 48; go_must (go_fit (SW wa); rintro e wc ⟨rfl, kc⟩; have Kc : Hid (Kept Nil W wc) := Ka.out.trans kc; have sc := SS wc Kc.out; have BR := FC wc Kc.out; have r0 := blk_at BR 0 rfl; have r1 := blk_at BR 1 rfl; have r2 := blk_at BR 2 rfl; have r3 := blk_at BR 3 rfl; have z0 := blk_free BR 0; have z1 := blk_free BR 1; have z2 := blk_free BR 2; have z3 := blk_free BR 3; clear BR)))
    all_goals
      obtain ⟨V, hV⟩ : ∃ V, V = (((wc.setCell ⟨A, 0, none⟩ (.int .i64 4)).setCell ⟨A, 1, none⟩ (.string (bs (tKey t.sn.b)))).setCell ⟨A, 2, none⟩ (.string ⟨#[111, 102, 102]⟩)).setCell ⟨A, 3, none⟩ (.int .i64 t.hv) := ⟨_, rfl⟩
      have HV : Hid (V.heap[A]? = some (.cells #[.int .i64 4, .string (bs (tKey t.sn.b)), .string ⟨#[111, 102, 102]⟩, .int .i64 t.hv] 31 (0, 0)) ∧ Kept Nil w V) := by
        rw [hV]
        exact ⟨blk_set (blk_set (blk_set (blk_set (FC wc Kc.out) 0 _) 1 _) 2 _) 3 _, ((((KW.out.trans Kc.out).setNew (p := ⟨A, 0, none⟩) HAw.out _).setNew (p := ⟨A, 1, none⟩) HAw.out _).setNew (p := ⟨A, 2, none⟩) HAw.out _).setNew (p := ⟨A, 3, none⟩) HAw.out _⟩
      rw [← hV]
      clear hV
      go_wp2
      have j0 := blk_at HV.out.1 0 rfl
      have j1 := blk_at HV.out.1 1 rfl
      have j2 := blk_at HV.out.1 2 rfl
      have j3 := blk_at HV.out.1 3 rfl
      exact bodyPost_ret (v := .tuple #[.agg #[.int .i64 4, .string (bs (tKey t.sn.b)), .string ⟨#[111, 102, 102]⟩, .int .i64 t.hv], .bool true]) (by simp [results, Tryz.results11, go_sem, j0, j1, j2, j3]) rfl ⟨by rw [HUE.out]; rfl, HV.out.2⟩
  · obtain ⟨d, HDe⟩ : ∃ d : Bool, Hid (d = t.hd) := ⟨_, rfl⟩
    obtain ⟨n, HNe⟩ : ∃ n, Hid (n = t.sn.settled d) := ⟨_, rfl⟩
    obtain ⟨v, HVe⟩ : ∃ v, Hid (v = Tx.numT n 0 0) := ⟨_, rfl⟩
    have HUE : Hid (u = (swapC t.key v t.vr, true)) := by
      show _ = _
      rw [HU.out, HVe.out, HNe.out, HDe.out]
      unfold Tx.next
      simp [hp]
    have q4 : W.cell? ⟨b, 4, none⟩ = some (.int .i64 5) := GEN 5 hp
    clear GEN hp hph
    have ST : ∀ X, Calls Tryz.prog 54 #[.agg #[.int .i64 t.sn.n, .int .i64 t.sn.b, .int .i64 t.sn.t], .bool d] X fun e w' => e = .returned (.int .i64 n) ∧ Kept Nil X w' := fun X => by rw [HNe.out]; exact settled_any t.sn d X
    have WX : ∀ X, Kept Nil W X → Calls Tryz.prog 52 #[.pointer (some ⟨b, 0, none⟩), .agg #[.int .i64 n, .int .i64 0, .int .i64 0]] X fun e w' => e = .returned (.agg #[.int .i64 4, .string (bs t.key), .string (bs v), .int .i64 t.vr]) ∧ Kept Nil X w' := WR n 0 0 v (fun X kX => by rw [HVe.out]; exact text_none n 0 X (HLW.out.kept kX) (by rw [HNe.out]; exact settled_le _ _ HK.out.sn))
    have SS : ∀ X, Kept Nil W X → X.cell? ⟨b, 6, none⟩ = some (.int .i64 t.sn.n) ∧ X.cell? ⟨b, 7, none⟩ = some (.int .i64 t.sn.b) ∧ X.cell? ⟨b, 8, none⟩ = some (.int .i64 t.sn.t) ∧ X.cell? ⟨b, 10, none⟩ = some (.bool d) := fun X kX => ⟨blk_at (HTW.out.kept kX) 6 rfl, blk_at (HTW.out.kept kX) 7 rfl, blk_at (HTW.out.kept kX) 8 rfl, by rw [HDe.out]; exact blk_at (HTW.out.kept kX) 10 rfl⟩
    have s0 := SS W (Kept.refl _ _)
    have ST' := ST W.drew
    go_enter Tryz.func11, Tryz.ntmps11
    go_upto_region 1 with fail
    rw [← hW, ← HAe.out]
    clear hW
    go_wp2_with fail
    go_region_held3 (fun w' => w'.cell? ⟨b, 6, none⟩ = some (.int .i64 t.sn.n) ∧ w'.cell? ⟨b, 7, none⟩ = some (.int .i64 t.sn.b) ∧ w'.cell? ⟨b, 8, none⟩ = some (.int .i64 t.sn.t) ∧ w'.cell? ⟨b, 10, none⟩ = some (.bool d)) (first | assumption | go_keep) (first | (go_at_call 54; go_must (go_fit ST'; rintro e wa ⟨rfl, ka⟩; have Ka : Hid (Kept Nil W wa) := KD.out.trans ka; have sa := SS wa Ka.out)) | (go_at_call 52; go_must (go_fit (WX wa Ka.out); rintro e wc ⟨rfl, kc⟩; have Kc : Hid (Kept Nil W wc) := Ka.out.trans kc; have sc := SS wc Kc.out; have BR := FC wc Kc.out; have r0 := blk_at BR 0 rfl; have r1 := blk_at BR 1 rfl; have r2 := blk_at BR 2 rfl; have r3 := blk_at BR 3 rfl; have z0 := blk_free BR 0; have z1 := blk_free BR 1; have z2 := blk_free BR 2; have z3 := blk_free BR 3; clear BR)))
    all_goals
      obtain ⟨V, hV⟩ : ∃ V, V = (((wc.setCell ⟨A, 0, none⟩ (.int .i64 4)).setCell ⟨A, 1, none⟩ (.string (bs t.key))).setCell ⟨A, 2, none⟩ (.string (bs v))).setCell ⟨A, 3, none⟩ (.int .i64 t.vr) := ⟨_, rfl⟩
      have HV : Hid (V.heap[A]? = some (.cells #[.int .i64 4, .string (bs t.key), .string (bs v), .int .i64 t.vr] 31 (0, 0)) ∧ Kept Nil w V) := by
        rw [hV]
        exact ⟨blk_set (blk_set (blk_set (blk_set (FC wc Kc.out) 0 _) 1 _) 2 _) 3 _, ((((KW.out.trans Kc.out).setNew (p := ⟨A, 0, none⟩) HAw.out _).setNew (p := ⟨A, 1, none⟩) HAw.out _).setNew (p := ⟨A, 2, none⟩) HAw.out _).setNew (p := ⟨A, 3, none⟩) HAw.out _⟩
      rw [← hV]
      clear hV
      go_wp2
      have j0 := blk_at HV.out.1 0 rfl
      have j1 := blk_at HV.out.1 1 rfl
      have j2 := blk_at HV.out.1 2 rfl
      have j3 := blk_at HV.out.1 3 rfl
      exact bodyPost_ret (v := .tuple #[.agg #[.int .i64 4, .string (bs t.key), .string (bs v), .int .i64 t.vr], .bool true]) (by simp [results, Tryz.results11, go_sem, j0, j1, j2, j3]) rfl ⟨by rw [HUE.out]; rfl, HV.out.2⟩
  · have HUE : Hid (u = (swapC (tKey t.id) wDon 1, true)) := by
      show _ = _
      rw [HU.out]
      unfold Tx.next
      simp [hp]
    have q4 : W.cell? ⟨b, 4, none⟩ = some (.int .i64 6) := GEN 6 hp
    clear GEN hp hph
    have q0 : W.cell? ⟨b, 0, none⟩ = some (.int .i64 t.id) := blk_at HTW.out 0 rfl
    have q2 : W.cell? ⟨b, 2, none⟩ = some (.int .i64 t.st) := blk_at HTW.out 2 rfl
    have q6 : W.cell? ⟨b, 6, none⟩ = some (.int .i64 t.sn.n) := blk_at HTW.out 6 rfl
    have q7 : W.cell? ⟨b, 7, none⟩ = some (.int .i64 t.sn.b) := blk_at HTW.out 7 rfl
    have q8 : W.cell? ⟨b, 8, none⟩ = some (.int .i64 t.sn.t) := blk_at HTW.out 8 rfl
    have q10 : W.cell? ⟨b, 10, none⟩ = some (.bool t.hd) := blk_at HTW.out 10 rfl
    have q11 : W.cell? ⟨b, 11, none⟩ = some (.int .i64 t.hv) := blk_at HTW.out 11 rfl
    go_enter Tryz.func11, Tryz.ntmps11
    go_upto_region 1 with fail
    rw [← hW, ← HAe.out]
    clear hW
    go_wp2_with fail
    go_fit (RI W K0.out)
    rintro _ x0 ⟨rfl, k⟩
    have J0 : Hid (Kept Nil W x0) := K0.out.trans k
    clear k
    go_wp2_with fail
    go_fit ((show Calls Tryz.prog 48 #[.string (bs (tKey t.id)), .string ⟨#[100, 111, 110, 101]⟩, .int .i64 1] x0 fun e w' => e = .returned (.agg #[.int .i64 4, .string (bs (tKey t.id)), .string ⟨#[100, 111, 110, 101]⟩, .int .i64 1]) ∧ Kept Nil x0 w' from swapCommand_any (tKey t.id) wDon 1 x0))
    rintro _ x1 ⟨rfl, k⟩
    have J1 : Hid (Kept Nil W x1) := J0.out.trans k
    clear k
    have BR := FC x1 J1.out
    have r0 : x1.cell? ⟨A, 0, none⟩ = some (.int .i64 0) := blk_at BR 0 rfl
    have r1 : x1.cell? ⟨A, 1, none⟩ = some (.string ⟨#[]⟩) := blk_at BR 1 rfl
    have r2 : x1.cell? ⟨A, 2, none⟩ = some (.string ⟨#[]⟩) := blk_at BR 2 rfl
    have r3 : x1.cell? ⟨A, 3, none⟩ = some (.int .i64 0) := blk_at BR 3 rfl
    have z0 : x1.frozen? ⟨A, 0, none⟩ = false := blk_free BR 0
    have z1 : x1.frozen? ⟨A, 1, none⟩ = false := blk_free BR 1
    have z2 : x1.frozen? ⟨A, 2, none⟩ = false := blk_free BR 2
    have z3 : x1.frozen? ⟨A, 3, none⟩ = false := blk_free BR 3
    clear BR
    obtain ⟨V, hV⟩ : ∃ V, V = (((x1.setCell ⟨A, 0, none⟩ (.int .i64 4)).setCell ⟨A, 1, none⟩ (.string (bs (tKey t.id)))).setCell ⟨A, 2, none⟩ (.string ⟨#[100, 111, 110, 101]⟩)).setCell ⟨A, 3, none⟩ (.int .i64 1) := ⟨_, rfl⟩
    have HV : Hid (V.heap[A]? = some (.cells #[.int .i64 4, .string (bs (tKey t.id)), .string ⟨#[100, 111, 110, 101]⟩, .int .i64 1] 31 (0, 0)) ∧ Kept Nil w V) := by
      rw [hV]
      exact ⟨blk_set (blk_set (blk_set (blk_set (FC x1 J1.out) 0 _) 1 _) 2 _) 3 _, ((((KW.out.trans J1.out).setNew (p := ⟨A, 0, none⟩) HAw.out _).setNew (p := ⟨A, 1, none⟩) HAw.out _).setNew (p := ⟨A, 2, none⟩) HAw.out _).setNew (p := ⟨A, 3, none⟩) HAw.out _⟩
    go_wp2
    rw [← hV]
    clear hV
    have j0 := blk_at HV.out.1 0 rfl
    have j1 := blk_at HV.out.1 1 rfl
    have j2 := blk_at HV.out.1 2 rfl
    have j3 := blk_at HV.out.1 3 rfl
    exact bodyPost_ret (v := .tuple #[.agg #[.int .i64 4, .string (bs (tKey t.id)), .string ⟨#[100, 111, 110, 101]⟩, .int .i64 1], .bool true]) (by simp [results, Tryz.results11, go_sem, j0, j1, j2, j3]) rfl ⟨by rw [HUE.out]; rfl, HV.out.2⟩
  · have HUE : Hid (u = (swapC (tKey t.id) wOff 1, true)) := by
      show _ = _
      rw [HU.out]
      unfold Tx.next
      simp [hp]
    have q4 : W.cell? ⟨b, 4, none⟩ = some (.int .i64 7) := GEN 7 hp
    clear GEN hp hph
    have q0 : W.cell? ⟨b, 0, none⟩ = some (.int .i64 t.id) := blk_at HTW.out 0 rfl
    have q2 : W.cell? ⟨b, 2, none⟩ = some (.int .i64 t.st) := blk_at HTW.out 2 rfl
    have q6 : W.cell? ⟨b, 6, none⟩ = some (.int .i64 t.sn.n) := blk_at HTW.out 6 rfl
    have q7 : W.cell? ⟨b, 7, none⟩ = some (.int .i64 t.sn.b) := blk_at HTW.out 7 rfl
    have q8 : W.cell? ⟨b, 8, none⟩ = some (.int .i64 t.sn.t) := blk_at HTW.out 8 rfl
    have q10 : W.cell? ⟨b, 10, none⟩ = some (.bool t.hd) := blk_at HTW.out 10 rfl
    have q11 : W.cell? ⟨b, 11, none⟩ = some (.int .i64 t.hv) := blk_at HTW.out 11 rfl
    go_enter Tryz.func11, Tryz.ntmps11
    go_upto_region 1 with fail
    rw [← hW, ← HAe.out]
    clear hW
    go_wp2_with fail
    go_fit (RI W K0.out)
    rintro _ x0 ⟨rfl, k⟩
    have J0 : Hid (Kept Nil W x0) := K0.out.trans k
    clear k
    go_wp2_with fail
    go_fit ((show Calls Tryz.prog 48 #[.string (bs (tKey t.id)), .string ⟨#[111, 102, 102]⟩, .int .i64 1] x0 fun e w' => e = .returned (.agg #[.int .i64 4, .string (bs (tKey t.id)), .string ⟨#[111, 102, 102]⟩, .int .i64 1]) ∧ Kept Nil x0 w' from swapCommand_any (tKey t.id) wOff 1 x0))
    rintro _ x1 ⟨rfl, k⟩
    have J1 : Hid (Kept Nil W x1) := J0.out.trans k
    clear k
    have BR := FC x1 J1.out
    have r0 : x1.cell? ⟨A, 0, none⟩ = some (.int .i64 0) := blk_at BR 0 rfl
    have r1 : x1.cell? ⟨A, 1, none⟩ = some (.string ⟨#[]⟩) := blk_at BR 1 rfl
    have r2 : x1.cell? ⟨A, 2, none⟩ = some (.string ⟨#[]⟩) := blk_at BR 2 rfl
    have r3 : x1.cell? ⟨A, 3, none⟩ = some (.int .i64 0) := blk_at BR 3 rfl
    have z0 : x1.frozen? ⟨A, 0, none⟩ = false := blk_free BR 0
    have z1 : x1.frozen? ⟨A, 1, none⟩ = false := blk_free BR 1
    have z2 : x1.frozen? ⟨A, 2, none⟩ = false := blk_free BR 2
    have z3 : x1.frozen? ⟨A, 3, none⟩ = false := blk_free BR 3
    clear BR
    obtain ⟨V, hV⟩ : ∃ V, V = (((x1.setCell ⟨A, 0, none⟩ (.int .i64 4)).setCell ⟨A, 1, none⟩ (.string (bs (tKey t.id)))).setCell ⟨A, 2, none⟩ (.string ⟨#[111, 102, 102]⟩)).setCell ⟨A, 3, none⟩ (.int .i64 1) := ⟨_, rfl⟩
    have HV : Hid (V.heap[A]? = some (.cells #[.int .i64 4, .string (bs (tKey t.id)), .string ⟨#[111, 102, 102]⟩, .int .i64 1] 31 (0, 0)) ∧ Kept Nil w V) := by
      rw [hV]
      exact ⟨blk_set (blk_set (blk_set (blk_set (FC x1 J1.out) 0 _) 1 _) 2 _) 3 _, ((((KW.out.trans J1.out).setNew (p := ⟨A, 0, none⟩) HAw.out _).setNew (p := ⟨A, 1, none⟩) HAw.out _).setNew (p := ⟨A, 2, none⟩) HAw.out _).setNew (p := ⟨A, 3, none⟩) HAw.out _⟩
    go_wp2
    rw [← hV]
    clear hV
    have j0 := blk_at HV.out.1 0 rfl
    have j1 := blk_at HV.out.1 1 rfl
    have j2 := blk_at HV.out.1 2 rfl
    have j3 := blk_at HV.out.1 3 rfl
    exact bodyPost_ret (v := .tuple #[.agg #[.int .i64 4, .string (bs (tKey t.id)), .string ⟨#[111, 102, 102]⟩, .int .i64 1], .bool true]) (by simp [results, Tryz.results11, go_sem, j0, j1, j2, j3]) rfl ⟨by rw [HUE.out]; rfl, HV.out.2⟩
  · have HUE : Hid (u = (getC t.key, true)) := by
      show _ = _
      rw [HU.out]
      unfold Tx.next
      simp [hp]
    have q4 : W.cell? ⟨b, 4, none⟩ = some (.int .i64 8) := GEN 8 hp
    clear GEN hp hph
    have q0 : W.cell? ⟨b, 0, none⟩ = some (.int .i64 t.id) := blk_at HTW.out 0 rfl
    have q2 : W.cell? ⟨b, 2, none⟩ = some (.int .i64 t.st) := blk_at HTW.out 2 rfl
    have q6 : W.cell? ⟨b, 6, none⟩ = some (.int .i64 t.sn.n) := blk_at HTW.out 6 rfl
    have q7 : W.cell? ⟨b, 7, none⟩ = some (.int .i64 t.sn.b) := blk_at HTW.out 7 rfl
    have q8 : W.cell? ⟨b, 8, none⟩ = some (.int .i64 t.sn.t) := blk_at HTW.out 8 rfl
    have q10 : W.cell? ⟨b, 10, none⟩ = some (.bool t.hd) := blk_at HTW.out 10 rfl
    have q11 : W.cell? ⟨b, 11, none⟩ = some (.int .i64 t.hv) := blk_at HTW.out 11 rfl
    go_enter Tryz.func11, Tryz.ntmps11
    go_upto_region 1 with fail
    rw [← hW, ← HAe.out]
    clear hW
    go_wp2_with fail
    go_fit (KY W K0.out)
    rintro _ x0 ⟨rfl, k⟩
    have J0 : Hid (Kept Nil W x0) := K0.out.trans k
    clear k
    go_wp2_with fail
    go_fit (GC t.key x0)
    rintro _ x1 ⟨rfl, k⟩
    have J1 : Hid (Kept Nil W x1) := J0.out.trans k
    clear k
    have BR := FC x1 J1.out
    have r0 : x1.cell? ⟨A, 0, none⟩ = some (.int .i64 0) := blk_at BR 0 rfl
    have r1 : x1.cell? ⟨A, 1, none⟩ = some (.string ⟨#[]⟩) := blk_at BR 1 rfl
    have r2 : x1.cell? ⟨A, 2, none⟩ = some (.string ⟨#[]⟩) := blk_at BR 2 rfl
    have r3 : x1.cell? ⟨A, 3, none⟩ = some (.int .i64 0) := blk_at BR 3 rfl
    have z0 : x1.frozen? ⟨A, 0, none⟩ = false := blk_free BR 0
    have z1 : x1.frozen? ⟨A, 1, none⟩ = false := blk_free BR 1
    have z2 : x1.frozen? ⟨A, 2, none⟩ = false := blk_free BR 2
    have z3 : x1.frozen? ⟨A, 3, none⟩ = false := blk_free BR 3
    clear BR
    obtain ⟨V, hV⟩ : ∃ V, V = (((x1.setCell ⟨A, 0, none⟩ (.int .i64 2)).setCell ⟨A, 1, none⟩ (.string (bs (t.key)))).setCell ⟨A, 2, none⟩ (.string (bs []))).setCell ⟨A, 3, none⟩ (.int .i64 0) := ⟨_, rfl⟩
    have HV : Hid (V.heap[A]? = some (.cells #[.int .i64 2, .string (bs (t.key)), .string (bs []), .int .i64 0] 31 (0, 0)) ∧ Kept Nil w V) := by
      rw [hV]
      exact ⟨blk_set (blk_set (blk_set (blk_set (FC x1 J1.out) 0 _) 1 _) 2 _) 3 _, ((((KW.out.trans J1.out).setNew (p := ⟨A, 0, none⟩) HAw.out _).setNew (p := ⟨A, 1, none⟩) HAw.out _).setNew (p := ⟨A, 2, none⟩) HAw.out _).setNew (p := ⟨A, 3, none⟩) HAw.out _⟩
    go_wp2
    rw [← hV]
    clear hV
    have j0 := blk_at HV.out.1 0 rfl
    have j1 := blk_at HV.out.1 1 rfl
    have j2 := blk_at HV.out.1 2 rfl
    have j3 := blk_at HV.out.1 3 rfl
    exact bodyPost_ret (v := .tuple #[.agg #[.int .i64 2, .string (bs (t.key)), .string (bs []), .int .i64 0], .bool true]) (by simp [results, Tryz.results11, go_sem, j0, j1, j2, j3]) rfl ⟨by rw [HUE.out]; rfl, HV.out.2⟩
  · obtain ⟨d, HDe⟩ : ∃ d : Bool, Hid (d = decide (t.st = 2)) := ⟨_, rfl⟩
    obtain ⟨n, HNe⟩ : ∃ n, Hid (n = t.sn.settled d) := ⟨_, rfl⟩
    obtain ⟨v, HVe⟩ : ∃ v, Hid (v = Tx.numT n 0 0) := ⟨_, rfl⟩
    have HUE : Hid (u = (swapC t.key v t.vr, true)) := by
      show _ = _
      rw [HU.out, HVe.out, HNe.out, HDe.out]
      unfold Tx.next
      simp [hp]
    have q4 : W.cell? ⟨b, 4, none⟩ = some (.int .i64 9) := GEN 9 hp
    clear GEN hp hph
    have hst : ((t.st : Int) == 2) = d := by rw [HDe.out, Bool.eq_iff_iff]; simp; omega
    have ST : ∀ X, Calls Tryz.prog 54 #[.agg #[.int .i64 t.sn.n, .int .i64 t.sn.b, .int .i64 t.sn.t], .bool d] X fun e w' => e = .returned (.int .i64 n) ∧ Kept Nil X w' := fun X => by rw [HNe.out]; exact settled_any t.sn d X
    have WX : ∀ X, Kept Nil W X → Calls Tryz.prog 52 #[.pointer (some ⟨b, 0, none⟩), .agg #[.int .i64 n, .int .i64 0, .int .i64 0]] X fun e w' => e = .returned (.agg #[.int .i64 4, .string (bs t.key), .string (bs v), .int .i64 t.vr]) ∧ Kept Nil X w' := WR n 0 0 v (fun X kX => by rw [HVe.out]; exact text_none n 0 X (HLW.out.kept kX) (by rw [HNe.out]; exact settled_le _ _ HK.out.sn))
    have SS : ∀ X, Kept Nil W X → X.cell? ⟨b, 6, none⟩ = some (.int .i64 t.sn.n) ∧ X.cell? ⟨b, 7, none⟩ = some (.int .i64 t.sn.b) ∧ X.cell? ⟨b, 8, none⟩ = some (.int .i64 t.sn.t) ∧ X.cell? ⟨b, 2, none⟩ = some (.int .i64 t.st) := fun X kX => ⟨blk_at (HTW.out.kept kX) 6 rfl, blk_at (HTW.out.kept kX) 7 rfl, blk_at (HTW.out.kept kX) 8 rfl, blk_at (HTW.out.kept kX) 2 rfl⟩
    have s0 := SS W (Kept.refl _ _)
    have ST' := ST W.drew
    go_enter Tryz.func11, Tryz.ntmps11
    go_upto_region 1 with fail
    rw [← hW, ← HAe.out]
    clear hW
    go_wp2_with fail
    go_region_held3 (fun w' => w'.cell? ⟨b, 6, none⟩ = some (.int .i64 t.sn.n) ∧ w'.cell? ⟨b, 7, none⟩ = some (.int .i64 t.sn.b) ∧ w'.cell? ⟨b, 8, none⟩ = some (.int .i64 t.sn.t) ∧ w'.cell? ⟨b, 2, none⟩ = some (.int .i64 t.st)) (first | assumption | go_keep) (first | (go_at_call 54; go_must (go_fit ST'; rintro e wa ⟨rfl, ka⟩; have Ka : Hid (Kept Nil W wa) := KD.out.trans ka; have sa := SS wa Ka.out)) | (go_at_call 52; go_must (go_fit (WX wa Ka.out); rintro e wc ⟨rfl, kc⟩; have Kc : Hid (Kept Nil W wc) := Ka.out.trans kc; have sc := SS wc Kc.out; have BR := FC wc Kc.out; have r0 := blk_at BR 0 rfl; have r1 := blk_at BR 1 rfl; have r2 := blk_at BR 2 rfl; have r3 := blk_at BR 3 rfl; have z0 := blk_free BR 0; have z1 := blk_free BR 1; have z2 := blk_free BR 2; have z3 := blk_free BR 3; clear BR)))
    all_goals
      obtain ⟨V, hV⟩ : ∃ V, V = (((wc.setCell ⟨A, 0, none⟩ (.int .i64 4)).setCell ⟨A, 1, none⟩ (.string (bs t.key))).setCell ⟨A, 2, none⟩ (.string (bs v))).setCell ⟨A, 3, none⟩ (.int .i64 t.vr) := ⟨_, rfl⟩
      have HV : Hid (V.heap[A]? = some (.cells #[.int .i64 4, .string (bs t.key), .string (bs v), .int .i64 t.vr] 31 (0, 0)) ∧ Kept Nil w V) := by
        rw [hV]
        exact ⟨blk_set (blk_set (blk_set (blk_set (FC wc Kc.out) 0 _) 1 _) 2 _) 3 _, ((((KW.out.trans Kc.out).setNew (p := ⟨A, 0, none⟩) HAw.out _).setNew (p := ⟨A, 1, none⟩) HAw.out _).setNew (p := ⟨A, 2, none⟩) HAw.out _).setNew (p := ⟨A, 3, none⟩) HAw.out _⟩
      rw [← hV]
      clear hV
      go_wp2
      have j0 := blk_at HV.out.1 0 rfl
      have j1 := blk_at HV.out.1 1 rfl
      have j2 := blk_at HV.out.1 2 rfl
      have j3 := blk_at HV.out.1 3 rfl
      exact bodyPost_ret (v := .tuple #[.agg #[.int .i64 4, .string (bs t.key), .string (bs v), .int .i64 t.vr], .bool true]) (by simp [results, Tryz.results11, go_sem, j0, j1, j2, j3]) rfl ⟨by rw [HUE.out]; rfl, HV.out.2⟩
  · have HUE : Hid (u = (⟨0, [], [], 0⟩, false)) := by
      show _ = _
      rw [HU.out]
      unfold Tx.next
      simp [hp]
    have q4 : W.cell? ⟨b, 4, none⟩ = some (.int .i64 10) := GEN 10 hp
    clear GEN hp hph
    have BR := FC W K0.out
    have r0 : W.cell? ⟨A, 0, none⟩ = some (.int .i64 0) := blk_at BR 0 rfl
    have r1 : W.cell? ⟨A, 1, none⟩ = some (.string ⟨#[]⟩) := blk_at BR 1 rfl
    have r2 : W.cell? ⟨A, 2, none⟩ = some (.string ⟨#[]⟩) := blk_at BR 2 rfl
    have r3 : W.cell? ⟨A, 3, none⟩ = some (.int .i64 0) := blk_at BR 3 rfl
    have z0 : W.frozen? ⟨A, 0, none⟩ = false := blk_free BR 0
    have z1 : W.frozen? ⟨A, 1, none⟩ = false := blk_free BR 1
    have z2 : W.frozen? ⟨A, 2, none⟩ = false := blk_free BR 2
    have z3 : W.frozen? ⟨A, 3, none⟩ = false := blk_free BR 3
    clear BR
    obtain ⟨V, hV⟩ : ∃ V, V = (((W.setCell ⟨A, 0, none⟩ (.int .i64 0)).setCell ⟨A, 1, none⟩ (.string ⟨#[]⟩)).setCell ⟨A, 2, none⟩ (.string ⟨#[]⟩)).setCell ⟨A, 3, none⟩ (.int .i64 0) := ⟨_, rfl⟩
    have HV : Hid (V.heap[A]? = some (.cells #[.int .i64 0, .string ⟨#[]⟩, .string ⟨#[]⟩, .int .i64 0] 31 (0, 0)) ∧ Kept Nil w V) := by
      rw [hV]
      exact ⟨blk_set (blk_set (blk_set (blk_set (FC W K0.out) 0 _) 1 _) 2 _) 3 _, ((((KW.out.trans K0.out).setNew (p := ⟨A, 0, none⟩) HAw.out _).setNew (p := ⟨A, 1, none⟩) HAw.out _).setNew (p := ⟨A, 2, none⟩) HAw.out _).setNew (p := ⟨A, 3, none⟩) HAw.out _⟩
    go_enter Tryz.func11, Tryz.ntmps11
    go_upto_region 1 with fail
    rw [← hW, ← HAe.out]
    clear hW
    go_wp2
    rw [← hV]
    clear hV
    have j0 := blk_at HV.out.1 0 rfl
    have j1 := blk_at HV.out.1 1 rfl
    have j2 := blk_at HV.out.1 2 rfl
    have j3 := blk_at HV.out.1 3 rfl
    exact bodyPost_ret (v := .tuple #[.agg #[.int .i64 0, .string ⟨#[]⟩, .string ⟨#[]⟩, .int .i64 0], .bool false]) (by simp [results, Tryz.results11, go_sem, j0, j1, j2, j3]) rfl ⟨by rw [HUE.out]; rfl, HV.out.2⟩
end Go.Proofs.YtflnjlbafchnaaaGreatDoor
