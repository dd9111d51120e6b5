/-
  Joined: WTx5, WCe5, WCe6, WCd1.
-/
import Derived.Test.YtflnjlbafchnaaaGreatDoorR05
import Derived.Test.YtflnjlbafchnaaaGreatDoorR06
import Derived.Deep.RegionHeld3
/-
  Transactions: one in memory.
-/
namespace Go.Proofs.YtflnjlbafchnaaaGreatDoor
open Go.RowKit

def intC (zs : List Int) : List Value := zs.map fun z => Value.int .i64 z
theorem intC_snoc (zs : List Int) (z : Int) : intC (zs ++ [z]) = intC zs ++ [.int .i64 z] := by simp [intC]
/-- Numbers of one's own. -/
def OwnI (B : Nat) (w : World) (ao : Option Addr) (c : Nat) (zs : List Int) : Prop := w.ownsRow B 3 1 (.slice ao zs.length c) zs.length (intC zs)
theorem OwnI.keptX {B c : Nat} {w w' : World} {ao : Option Addr} {zs : List Int} {X : Nat → Obj → Prop} (h : OwnI B w ao c zs) (hk : Kept X w w') (hX : ∀ a, ao = some a → ∀ o, ¬ X a.block o) : OwnI B w' ao c zs := by
  refine ⟨h.1, h.2.imp id ?_⟩
  rintro ⟨g, cap, cur, h1, h2, h3, h4⟩
  simp only [Value.slice.injEq] at h1
  refine ⟨g, cap, cur, by simp [h1], h2, hk.block _ _ h3 (hX _ h1.1 _), h4⟩
theorem OwnI.kept {B c : Nat} {w w' : World} {ao : Option Addr} {zs : List Int} (h : OwnI B w ao c zs) (hk : Kept Nil w w') : OwnI B w' ao c zs := h.keptX hk (fun _ _ _ x => x.elim)
theorem OwnI.lt {B c : Nat} {w : World} {ao : Option Addr} {zs : List Int} (h : OwnI B w ao c zs) : ∀ a, ao = some a → B ≤ a.block ∧ ∃ cur fr, w.heap[a.block]? = some (.cells cur 3 fr) := fun a ha => by
  rcases h.2 with ⟨h1, _⟩ | ⟨g, cap, cur, h1, h2, h3, _⟩
  · simp at h1
    rw [h1.1] at ha
    cases ha
  · simp only [Value.slice.injEq] at h1
    rw [h1.1] at ha
    cases ha
    exact ⟨h2, _, _, h3⟩
/-- A row of parts that lies below block B. -/
def PtRow (B : Nat) (w : World) (ao : Option Addr) (ps : List Pt) : Prop := ∀ j, (hj : j < ps.length) → ∃ a, ao = some a ∧ a.block < B ∧ w.cell? (a.add (j * 2)) = some (.string (bs ps[j].k)) ∧ w.cell? ⟨(a.add (j * 2)).block, (a.add (j * 2)).off + 1, none⟩ = some (.int .i64 ps[j].a)
theorem PtRow.keptX {B : Nat} {w w' : World} {ao : Option Addr} {ps : List Pt} {X : Nat → Obj → Prop} (h : PtRow B w ao ps) (hk : Kept X w w') (hX : ∀ a, ao = some a → ∀ o, ¬ X a.block o) : PtRow B w' ao ps := fun j hj => by
  obtain ⟨a, ha, hb, c0, c1⟩ := h j hj
  have hx := hX a ha
  refine ⟨a, ha, hb, cell_kept hk (by rw [show (a.add (j * 2)).block = a.block from by unfold Addr.add; split <;> rfl]; exact hx) c0, cell_kept hk (by show ∀ o, ¬ X (a.add (j * 2)).block o; rw [show (a.add (j * 2)).block = a.block from by unfold Addr.add; split <;> rfl]; exact hx) c1⟩
/-- A transaction's block. -/
def TxAt (w : World) (b : Nat) (t : Tx) (ap oo : Option Addr) (cp oc : Nat) : Prop := w.heap[b]? = some (.cells #[.int .i64 t.id, .slice ap t.ps.length cp, .int .i64 t.st, .slice oo t.old.length oc, .int .i64 t.ph, .int .i64 t.at', .int .i64 t.sn.n, .int .i64 t.sn.b, .int .i64 t.sn.t, .int .i64 t.vr, .bool t.hd, .int .i64 t.hv] 106 (0, 0))
theorem TxAt.s2 {w : World} {b : Nat} {t : Tx} {ap oo : Option Addr} {cp oc : Nat} (h : TxAt w b t ap oo cp oc) (x : Nat) : TxAt (w.setCell ⟨b, 2, none⟩ (.int .i64 (x : Nat))) b { t with st := x } ap oo cp oc := blk_set h 2 _
theorem TxAt.s4 {w : World} {b : Nat} {t : Tx} {ap oo : Option Addr} {cp oc : Nat} (h : TxAt w b t ap oo cp oc) (x : Nat) : TxAt (w.setCell ⟨b, 4, none⟩ (.int .i64 (x : Nat))) b { t with ph := x } ap oo cp oc := blk_set h 4 _
theorem TxAt.s5 {w : World} {b : Nat} {t : Tx} {ap oo : Option Addr} {cp oc : Nat} (h : TxAt w b t ap oo cp oc) (x : Nat) : TxAt (w.setCell ⟨b, 5, none⟩ (.int .i64 (x : Nat))) b { t with at' := x } ap oo cp oc := blk_set h 5 _
theorem TxAt.s9 {w : World} {b : Nat} {t : Tx} {ap oo : Option Addr} {cp oc : Nat} (h : TxAt w b t ap oo cp oc) (x : Int) : TxAt (w.setCell ⟨b, 9, none⟩ (.int .i64 x)) b { t with vr := x } ap oo cp oc := blk_set h 9 _
theorem TxAt.s10 {w : World} {b : Nat} {t : Tx} {ap oo : Option Addr} {cp oc : Nat} (h : TxAt w b t ap oo cp oc) (x : Bool) : TxAt (w.setCell ⟨b, 10, none⟩ (.bool x)) b { t with hd := x } ap oo cp oc := blk_set h 10 _
theorem TxAt.s11 {w : World} {b : Nat} {t : Tx} {ap oo : Option Addr} {cp oc : Nat} (h : TxAt w b t ap oo cp oc) (x : Int) : TxAt (w.setCell ⟨b, 11, none⟩ (.int .i64 x)) b { t with hv := x } ap oo cp oc := blk_set h 11 _
theorem TxAt.s678 {w : World} {b : Nat} {t : Tx} {ap oo : Option Addr} {cp oc : Nat} (h : TxAt w b t ap oo cp oc) (x : Hd) : TxAt (((w.setCell ⟨b, 6, none⟩ (.int .i64 x.n)).setCell ⟨b, 7, none⟩ (.int .i64 x.b)).setCell ⟨b, 8, none⟩ (.int .i64 x.t)) b { t with sn := x } ap oo cp oc := blk_set (blk_set (blk_set h 6 _) 7 _) 8 _
theorem TxAt.s3 {w : World} {b : Nat} {t : Tx} {ap oo : Option Addr} {cp oc : Nat} (h : TxAt w b t ap oo cp oc) (ao : Option Addr) (c : Nat) (zs : List Int) : TxAt (w.setCell ⟨b, 3, none⟩ (.slice ao zs.length c)) b { t with old := zs } ap ao cp c := blk_set h 3 _
theorem TxAt.keptX {w w' : World} {b : Nat} {t : Tx} {ap oo : Option Addr} {cp oc : Nat} {X : Nat → Obj → Prop} (h : TxAt w b t ap oo cp oc) (hk : Kept X w w') (hX : ∀ o, ¬ X b o) : TxAt w' b t ap oo cp oc := hk.block _ _ h (hX _)
theorem TxAt.kept {w w' : World} {b : Nat} {t : Tx} {ap oo : Option Addr} {cp oc : Nat} (h : TxAt w b t ap oo cp oc) (hk : Kept Nil w w') : TxAt w' b t ap oo cp oc := hk.block _ _ h (fun x => x.elim)
set_option maxRecDepth 100000 in
set_option maxHeartbeats 2000000 in
theorem further_any (w : World) (b : Nat) (t : Tx) (ap oo : Option Addr) (cp oc : Nat) (h : TxAt w b t ap oo cp oc) (p be : Nat) (hl : t.ps.length ≤ 4) (ha : t.at' < t.ps.length) :
    Calls Tryz.prog 64 #[.pointer (some ⟨b, 0, none⟩), .int .i64 p, .int .i64 be] w fun e w' => e = .returned (.tuple #[]) ∧ TxAt w' b (t.further p be) ap oo cp oc ∧ Kept (One b) w w' := by
  obtain ⟨u, HU⟩ : ∃ u, Hid (u = t.further p be) := ⟨_, rfl⟩
  rw [← HU.out]
  have hlt : b < w.heap.size := lt_of_block h
  have q1 : w.cell? ⟨b, 1, none⟩ = some (.slice ap t.ps.length cp) := blk_at h 1 rfl
  have q4 : w.cell? ⟨b, 4, none⟩ = some (.int .i64 t.ph) := blk_at h 4 rfl
  have q5 : w.cell? ⟨b, 5, none⟩ = some (.int .i64 t.at') := blk_at h 5 rfl
  have f4 : w.frozen? ⟨b, 4, none⟩ = false := blk_free h 4
  have f5 : w.frozen? ⟨b, 5, none⟩ = false := blk_free h 5
  by_cases c : t.at' + 1 = t.ps.length
  · have hb : (((t.at' : Int) + 1) == (t.ps.length : Int)) = true := by simp; omega
    obtain ⟨V, hV⟩ : ∃ V, V = ((w.setCell ⟨b, 5, none⟩ (.int .i64 ((t.at' : Int) + 1))).setCell ⟨b, 4, none⟩ (.int .i64 p)) := ⟨_, rfl⟩
    have HT : Hid (TxAt V b { t with at' := t.at' + 1, ph := p } ap oo cp oc) := by
      have := (h.s5 (t.at' + 1)).s4 p
      rw [hV]
      exact this
    have HK : Hid (Kept (One b) w V) := by rw [hV]; exact (((Kept.refl _ _).setCell (p := ⟨b, 5, none⟩) (fun _ => rfl) _).setCell (p := ⟨b, 4, none⟩) (fun _ => rfl) _)
    have j1 : V.cell? ⟨b, 1, none⟩ = some (.slice ap t.ps.length cp) := blk_at HT.out 1 rfl
    have j4 : V.cell? ⟨b, 4, none⟩ = some (.int .i64 p) := blk_at HT.out 4 rfl
    have j5 : V.cell? ⟨b, 5, none⟩ = some (.int .i64 ((t.at' : Int) + 1)) := blk_at HT.out 5 rfl
    have g4 : V.frozen? ⟨b, 4, none⟩ = false := blk_free HT.out 4
    have g5 : V.frozen? ⟨b, 5, none⟩ = false := blk_free HT.out 5
    clear h
    go_enter Tryz.func64, Tryz.ntmps64
    go_upto_region 2 with fail
    rw [← hV]
    clear hV q1 q4 q5 f4 f5
    obtain ⟨Y, hY⟩ : ∃ Y, Y = ((V.setCell ⟨b, 5, none⟩ (.int .i64 0)).setCell ⟨b, 4, none⟩ (.int .i64 be)).drew := ⟨_, rfl⟩
    have HY : Hid (TxAt Y b u ap oo cp oc ∧ Kept (One b) w Y) := by
      rw [HU.out]
      unfold Tx.further
      rw [if_pos c, hY]
      exact ⟨((HT.out.s5 0).s4 be), (((HK.out.setCell (p := ⟨b, 5, none⟩) (fun _ => rfl) _).setCell (p := ⟨b, 4, none⟩) (fun _ => rfl) _)).drew⟩
    clear c
    go_region
    all_goals
      go_wp2
      rw [← hY]
      go_end0
      exact ⟨rfl, HY.out⟩
  · have hb : (((t.at' : Int) + 1) == (t.ps.length : Int)) = false := by simp; omega
    obtain ⟨V, hV⟩ : ∃ V, V = ((w.setCell ⟨b, 5, none⟩ (.int .i64 ((t.at' : Int) + 1))).setCell ⟨b, 4, none⟩ (.int .i64 p)) := ⟨_, rfl⟩
    have HT : Hid (TxAt V b { t with at' := t.at' + 1, ph := p } ap oo cp oc) := by
      have := (h.s5 (t.at' + 1)).s4 p
      rw [hV]
      exact this
    have HK : Hid (Kept (One b) w V) := by rw [hV]; exact (((Kept.refl _ _).setCell (p := ⟨b, 5, none⟩) (fun _ => rfl) _).setCell (p := ⟨b, 4, none⟩) (fun _ => rfl) _)
    have j1 : V.cell? ⟨b, 1, none⟩ = some (.slice ap t.ps.length cp) := blk_at HT.out 1 rfl
    have j4 : V.cell? ⟨b, 4, none⟩ = some (.int .i64 p) := blk_at HT.out 4 rfl
    have j5 : V.cell? ⟨b, 5, none⟩ = some (.int .i64 ((t.at' : Int) + 1)) := blk_at HT.out 5 rfl
    have g4 : V.frozen? ⟨b, 4, none⟩ = false := blk_free HT.out 4
    have g5 : V.frozen? ⟨b, 5, none⟩ = false := blk_free HT.out 5
    clear h
    go_enter Tryz.func64, Tryz.ntmps64
    go_upto_region 2 with fail
    rw [← hV]
    clear hV q1 q4 q5 f4 f5
    have HY : Hid (TxAt V.drew b u ap oo cp oc ∧ Kept (One b) w V.drew) := by
      rw [HU.out]
      unfold Tx.further
      rw [if_neg c]
      exact ⟨HT.out, HK.out.drew⟩
    clear c
    go_region
    all_goals
      go_wp2
      go_end0
      exact ⟨rfl, HY.out⟩
set_option maxRecDepth 100000 in
set_option maxHeartbeats 2000000 in
theorem begun_any (w : World) (b : Nat) (t : Tx) (ap oo : Option Addr) (cp oc : Nat) (h : TxAt w b t ap oo cp oc) (ok : Bool) :
    Calls Tryz.prog 58 #[.pointer (some ⟨b, 0, none⟩), .bool ok] w fun e w' => e = .returned (.tuple #[]) ∧ TxAt w' b (t.begun ok) ap oo cp oc ∧ Kept (One b) w w' := by
  obtain ⟨u, HU⟩ : ∃ u, Hid (u = t.begun ok) := ⟨_, rfl⟩
  rw [← HU.out]
  have q2 : w.cell? ⟨b, 2, none⟩ = some (.int .i64 t.st) := blk_at h 2 rfl
  have q4 : w.cell? ⟨b, 4, none⟩ = some (.int .i64 t.ph) := blk_at h 4 rfl
  have q5 : w.cell? ⟨b, 5, none⟩ = some (.int .i64 t.at') := blk_at h 5 rfl
  have f2 : w.frozen? ⟨b, 2, none⟩ = false := blk_free h 2
  have f4 : w.frozen? ⟨b, 4, none⟩ = false := blk_free h 4
  have f5 : w.frozen? ⟨b, 5, none⟩ = false := blk_free h 5
  cases ok with
  | true =>
    obtain ⟨Y, hY⟩ : ∃ Y, Y = (w.setCell ⟨b, 4, none⟩ (.int .i64 1)) := ⟨_, rfl⟩
    have HY : Hid (TxAt Y b u ap oo cp oc ∧ Kept (One b) w Y) := by
      rw [HU.out, hY]
      exact ⟨(h.s4 1), ((Kept.refl _ _).setCell (p := ⟨b, 4, none⟩) (fun _ => rfl) _)⟩
    clear h
    go_enter Tryz.func58, Tryz.ntmps58
    go_wp2
    rw [← hY]
    go_end0
    exact ⟨rfl, HY.out⟩
  | false =>
    obtain ⟨Y, hY⟩ : ∃ Y, Y = (((w.setCell ⟨b, 4, none⟩ (.int .i64 1)).setCell ⟨b, 2, none⟩ (.int .i64 3)).setCell ⟨b, 4, none⟩ (.int .i64 10)) := ⟨_, rfl⟩
    have HY : Hid (TxAt Y b u ap oo cp oc ∧ Kept (One b) w Y) := by
      rw [HU.out, hY]
      exact ⟨(((h.s4 1).s2 3).s4 10), ((((Kept.refl _ _).setCell (p := ⟨b, 4, none⟩) (fun _ => rfl) _).setCell (p := ⟨b, 2, none⟩) (fun _ => rfl) _).setCell (p := ⟨b, 4, none⟩) (fun _ => rfl) _)⟩
    clear h
    go_enter Tryz.func58, Tryz.ntmps58
    go_wp2
    rw [← hY]
    go_end0
    exact ⟨rfl, HY.out⟩
set_option maxRecDepth 100000 in
set_option maxHeartbeats 2000000 in
theorem settle_any (w : World) (b : Nat) (t : Tx) (ap oo : Option Addr) (cp oc : Nat) (h : TxAt w b t ap oo cp oc) (ok : Bool) :
    Calls Tryz.prog 62 #[.pointer (some ⟨b, 0, none⟩), .bool ok] w fun e w' => e = .returned (.tuple #[]) ∧ TxAt w' b (t.settle ok) ap oo cp oc ∧ Kept (One b) w w' := by
  obtain ⟨u, HU⟩ : ∃ u, Hid (u = t.settle ok) := ⟨_, rfl⟩
  rw [← HU.out]
  have q2 : w.cell? ⟨b, 2, none⟩ = some (.int .i64 t.st) := blk_at h 2 rfl
  have q4 : w.cell? ⟨b, 4, none⟩ = some (.int .i64 t.ph) := blk_at h 4 rfl
  have q5 : w.cell? ⟨b, 5, none⟩ = some (.int .i64 t.at') := blk_at h 5 rfl
  have f2 : w.frozen? ⟨b, 2, none⟩ = false := blk_free h 2
  have f4 : w.frozen? ⟨b, 4, none⟩ = false := blk_free h 4
  have f5 : w.frozen? ⟨b, 5, none⟩ = false := blk_free h 5
  cases ok with
  | true =>
    obtain ⟨Y, hY⟩ : ∃ Y, Y = ((((w.setCell ⟨b, 2, none⟩ (.int .i64 3)).setCell ⟨b, 2, none⟩ (.int .i64 2)).setCell ⟨b, 5, none⟩ (.int .i64 0)).setCell ⟨b, 4, none⟩ (.int .i64 8)) := ⟨_, rfl⟩
    have HY : Hid (TxAt Y b u ap oo cp oc ∧ Kept (One b) w Y) := by
      rw [HU.out, hY]
      exact ⟨((((h.s2 3).s2 2).s5 0).s4 8), (((((Kept.refl _ _).setCell (p := ⟨b, 2, none⟩) (fun _ => rfl) _).setCell (p := ⟨b, 2, none⟩) (fun _ => rfl) _).setCell (p := ⟨b, 5, none⟩) (fun _ => rfl) _).setCell (p := ⟨b, 4, none⟩) (fun _ => rfl) _)⟩
    clear h
    go_enter Tryz.func62, Tryz.ntmps62
    go_wp2
    rw [← hY]
    go_end0
    exact ⟨rfl, HY.out⟩
  | false =>
    obtain ⟨Y, hY⟩ : ∃ Y, Y = (((w.setCell ⟨b, 2, none⟩ (.int .i64 3)).setCell ⟨b, 5, none⟩ (.int .i64 0)).setCell ⟨b, 4, none⟩ (.int .i64 8)) := ⟨_, rfl⟩
    have HY : Hid (TxAt Y b u ap oo cp oc ∧ Kept (One b) w Y) := by
      rw [HU.out, hY]
      exact ⟨(((h.s2 3).s5 0).s4 8), ((((Kept.refl _ _).setCell (p := ⟨b, 2, none⟩) (fun _ => rfl) _).setCell (p := ⟨b, 5, none⟩) (fun _ => rfl) _).setCell (p := ⟨b, 4, none⟩) (fun _ => rfl) _)⟩
    clear h
    go_enter Tryz.func62, Tryz.ntmps62
    go_wp2
    rw [← hY]
    go_end0
    exact ⟨rfl, HY.out⟩
set_option maxRecDepth 100000 in
set_option maxHeartbeats 2000000 in
theorem versionOf_any (r : Rr) (ko : Option Addr) (kc : Nat) (w : World) :
    Calls Tryz.prog 109 #[rrV r ko kc] w fun e w' => e = .returned (.int .i64 (versR r)) ∧ Kept Nil w w' := by
  obtain ⟨s, HS⟩ : ∃ s, Hid (s = versR r) := ⟨_, rfl⟩
  rw [← HS.out]
  obtain ⟨kd, v, n, ks⟩ := r
  unfold rrV
  by_cases c : kd = 1
  · obtain rfl : s = n := by rw [HS.out]; unfold versR; simp [c]
    subst c
    go_enter Tryz.func109, Tryz.ntmps109
    go_wp2
    go_ret
    exact ⟨rfl, (Kept.refl _ _).alloc _⟩
  · obtain rfl : s = 0 := by rw [HS.out]; unfold versR; simp [c]
    go_enter Tryz.func109, Tryz.ntmps109
    go_wp2
    go_ret
    exact ⟨rfl, (Kept.refl _ _).alloc _⟩
def cdV (c : Cd) : Value := .agg #[.int .i64 c.kd, .string (bs c.k), .string (bs c.v), .int .i64 c.m]
set_option maxRecDepth 100000 in
set_option maxHeartbeats 2000000 in
theorem swapCommand_any (k v : List UInt8) (m : Int) (w : World) :
    Calls Tryz.prog 48 #[.string (bs k), .string (bs v), .int .i64 m] w fun e w' => e = .returned (.agg #[.int .i64 4, .string (bs k), .string (bs v), .int .i64 m]) ∧ Kept Nil w w' := by
  go_enter Tryz.func48, Tryz.ntmps48
  go_wp2
  exact bodyPost_ret (v := .agg #[.int .i64 4, .string (bs k), .string (bs v), .int .i64 m]) (by simp [results, Tryz.results48, go_sem]) rfl ⟨rfl, (Kept.refl _ _).alloc _⟩
set_option maxRecDepth 100000 in
set_option maxHeartbeats 2000000 in
theorem key_any (w : World) (b : Nat) (t : Tx) (ap oo : Option Addr) (cp oc : Nat) (h : TxAt w b t ap oo cp oc) (B : Nat) (hp : PtRow B w ap t.ps) (ha : t.at' < t.ps.length) (hk : t.part.k.length ≤ 140737488355328) :
    Calls Tryz.prog 51 #[.pointer (some ⟨b, 0, none⟩)] w fun e w' => e = .returned (.string (bs t.key)) ∧ Kept Nil w w' := by
  obtain ⟨a, ea, _, c0, c1⟩ := hp t.at' ha
  have e0 : t.ps[t.at'] = t.part := by unfold Tx.part; rw [List.getElem?_eq_getElem ha]; rfl
  rw [e0] at c0 c1
  have hlt : b < w.heap.size := lt_of_block h
  have q1 : w.cell? ⟨b, 1, none⟩ = some (.slice ap t.ps.length cp) := blk_at h 1 rfl
  have q5 : w.cell? ⟨b, 5, none⟩ = some (.int .i64 t.at') := blk_at h 5 rfl
  rw [ea] at q1
  have AK := fun X => amountKey_any t.part.k hk X
  clear h hp e0
  go_enter Tryz.func51, Tryz.ntmps51
  go_wp2
  go_region_with (go_at_call 75; go_must (go_fit (AK _); rintro _ wq ⟨rfl, rfl⟩))
  all_goals
    go_wp2
    go_ret
    exact ⟨rfl, by repeat (first | exact Kept.refl _ _ | refine Kept.drew ?_)⟩
set_option maxRecDepth 100000 in
set_option maxHeartbeats 2000000 in
theorem held_any (w : World) (b : Nat) (t : Tx) (ap oo : Option Addr) (cp oc : Nat) (h : TxAt w b t ap oo cp oc) (B : Nat) (hp : PtRow B w ap t.ps) (ha : t.at' < t.ps.length) (hz : -999999999 ≤ t.part.a ∧ t.part.a ≤ 999999999) (hn : t.sn.n ≤ 999999999) :
    Calls Tryz.prog 53 #[.pointer (some ⟨b, 0, none⟩)] w fun e w' => e = .returned (.agg #[.int .i64 t.sn.n, .int .i64 t.id, .int .i64 t.thenZ]) ∧ Kept Nil w w' := by
  obtain ⟨a, ea, hab, c0, c1⟩ := hp t.at' ha
  have e0 : t.ps[t.at'] = t.part := by unfold Tx.part; rw [List.getElem?_eq_getElem ha]; rfl
  rw [e0] at c0 c1
  have hlt : b < w.heap.size := lt_of_block h
  have hal : (a.add (t.at' * 2)).block < w.heap.size := World.block_lt_of_cell? w _ c0
  obtain ⟨z, HZ⟩ : ∃ z, Hid (z = t.thenZ) := ⟨_, rfl⟩
  have hsum : (t.sn.n : Int) + t.part.a = z := HZ.out.symm
  rw [← HZ.out]
  have q0 : w.cell? ⟨b, 0, none⟩ = some (.int .i64 t.id) := blk_at h 0 rfl
  have q1 : w.cell? ⟨b, 1, none⟩ = some (.slice ap t.ps.length cp) := blk_at h 1 rfl
  have q5 : w.cell? ⟨b, 5, none⟩ = some (.int .i64 t.at') := blk_at h 5 rfl
  have q6 : w.cell? ⟨b, 6, none⟩ = some (.int .i64 t.sn.n) := blk_at h 6 rfl
  rw [ea] at q1
  clear h hp e0
  go_enter Tryz.func53, Tryz.ntmps53
  go_wp2
  go_region
  all_goals
    go_wp2
    exact bodyPost_ret (v := .agg #[.int .i64 t.sn.n, .int .i64 t.id, .int .i64 z]) (by simp [results, Tryz.results53, go_sem]) rfl ⟨rfl, by repeat (first | exact Kept.refl _ _ | refine Kept.drew ?_ | refine Kept.alloc ?_ _)⟩
set_option maxRecDepth 100000 in
set_option maxHeartbeats 2000000 in
theorem text_none (n : Nat) (z : Int) (w : World) (hL : LD w) (hn : n ≤ 999999999) :
    Calls Tryz.prog 106 #[.agg #[.int .i64 n, .int .i64 0, .int .i64 z]] w fun e w' => e = .returned (.string (bs (Tx.numT n 0 z))) ∧ Kept Nil w w' := by
  have IT := fun X (hX : LD X) => itoa_any n (by omega) (by omega) X hX
  rw [itoa_nat] at IT
  have HL : Hid (LD (w.alloc (.cells #[.int .i64 n, .int .i64 0, .int .i64 z] 104))) := hL.kept ((Kept.refl _ _).alloc _)
  clear hL
  have IT' := IT _ HL.out
  go_enter Tryz.func106, Tryz.ntmps106
  go_wp2_with fail
  go_fit IT'
  rintro _ w1 ⟨rfl, k1⟩
  have K1 : Hid (Kept Nil w w1) := ((Kept.refl _ _).alloc _).trans k1
  clear k1 IT IT'
  go_wp2
  go_ret
  exact ⟨rfl, K1.out⟩
set_option maxRecDepth 100000 in
set_option maxHeartbeats 2000000 in
theorem text_held (n b : Nat) (z : Int) (w : World) (hL : LD w) (hn : n ≤ 999999999) (hb0 : 1 ≤ b) (hb : b ≤ 999) (hz0 : 0 ≤ z) (hz : z ≤ 999999999) :
    Calls Tryz.prog 106 #[.agg #[.int .i64 n, .int .i64 b, .int .i64 z]] w fun e w' => e = .returned (.string (bs (Tx.numT n b z))) ∧ Kept Nil w w' := by
  obtain ⟨y, HYe⟩ : ∃ y, Hid (y = Tx.numT n b z) := ⟨_, rfl⟩
  rw [← HYe.out]
  obtain ⟨W, hW⟩ : ∃ W, W = w.alloc (.cells #[.int .i64 n, .int .i64 b, .int .i64 z] 104) := ⟨_, rfl⟩
  obtain ⟨A, HAe⟩ : ∃ A, Hid (A = w.heap.size) := ⟨_, rfl⟩
  have KW : Hid (Kept Nil w W) := by rw [hW]; exact (Kept.refl _ _).alloc _
  have HAW : Hid (W.heap[A]? = some (.cells #[.int .i64 n, .int .i64 b, .int .i64 z] 104 (0, 0))) := by rw [hW, HAe.out]; exact blk_new _ _
  have HLW : Hid (LD W) := hL.kept KW.out
  have SS : ∀ X, Kept Nil W X → X.cell? ⟨A, 0, none⟩ = some (.int .i64 n) ∧ X.cell? ⟨A, 1, none⟩ = some (.int .i64 b) ∧ X.cell? ⟨A, 2, none⟩ = some (.int .i64 z) := fun X kX =>
    ⟨blk_at (kX.block _ _ HAW.out (fun x => x.elim)) 0 rfl, blk_at (kX.block _ _ HAW.out (fun x => x.elim)) 1 rfl, blk_at (kX.block _ _ HAW.out (fun x => x.elim)) 2 rfl⟩
  have I1 : ∀ X, Kept Nil W X → Calls Tryz.prog 105 #[.int .i64 n] X fun e w' => e = .returned (.string (bs (Lib.decDigits n))) ∧ Kept Nil X w' := fun X kX => by
    have := itoa_any n (by omega) (by omega) X (HLW.out.kept kX)
    rw [itoa_nat] at this
    exact this
  have I2 : ∀ X, Kept Nil W X → Calls Tryz.prog 105 #[.int .i64 b] X fun e w' => e = .returned (.string (bs (Lib.decDigits b))) ∧ Kept Nil X w' := fun X kX => by
    have := itoa_any b (by omega) (by omega) X (HLW.out.kept kX)
    rw [itoa_nat] at this
    exact this
  have I3 : ∀ X, Kept Nil W X → Calls Tryz.prog 105 #[.int .i64 z] X fun e w' => e = .returned (.string (bs (Lib.itoa z))) ∧ Kept Nil X w' := fun X kX => itoa_any z (by omega) (by omega) X (HLW.out.kept kX)
  have g1 : bs (Lib.decDigits n) ++ (⟨#[32]⟩ : ByteArray) = bs (Lib.decDigits n ++ [32]) := bs_append _ [32]
  have g2 : bs (Lib.decDigits n ++ [32]) ++ bs (Lib.decDigits b) = bs (Lib.decDigits n ++ 32 :: Lib.decDigits b) := by rw [bs_append]; simp
  have g3 : bs (Lib.decDigits n ++ 32 :: Lib.decDigits b) ++ (⟨#[32]⟩ : ByteArray) = bs (Lib.decDigits n ++ 32 :: (Lib.decDigits b ++ [32])) := by
    show _ ++ bs [32] = _
    rw [bs_append]
    simp
  have g4 : bs (Lib.decDigits n ++ 32 :: (Lib.decDigits b ++ [32])) ++ bs (Lib.itoa z) = bs y := by
    rw [bs_append, HYe.out]
    unfold Tx.numT
    rw [if_neg (by omega)]
    simp
  have cat : ∀ (p q r : ByteArray), p ++ q = r → p.size ≤ 1000 → q.size ≤ 1000 → ∀ X, (Op.stringOp .add p q).run Tryz.prog X = .ok (.string r) X := fun p q r e h1 h2 X => by
    unfold Op.stringOp
    simp only
    rw [if_neg (by have e : IntKind.i64.max = 9223372036854775807 := rfl; omega), e]
    rfl
  have z1 : (bs (Lib.decDigits n)).size ≤ 9 := by rw [bs_size]; exact digits_len9 (by omega)
  have z2 : (bs (Lib.decDigits b)).size ≤ 9 := by rw [bs_size]; exact digits_len9 (by omega)
  have z3 : (bs (Lib.itoa z)).size ≤ 9 := by
    obtain ⟨m, rfl⟩ : ∃ m : Nat, z = m := ⟨z.toNat, by omega⟩
    rw [bs_size, itoa_nat]
    exact digits_len9 (by omega)
  have z4 : (bs (Lib.decDigits n ++ [32])).size ≤ 10 := by rw [bs_size] at z1 ⊢; simp; omega
  have z5 : (bs (Lib.decDigits n ++ 32 :: Lib.decDigits b)).size ≤ 19 := by rw [bs_size] at z1 z2 ⊢; simp; omega
  have z6 : (bs (Lib.decDigits n ++ 32 :: (Lib.decDigits b ++ [32]))).size ≤ 20 := by rw [bs_size] at z1 z2 ⊢; simp; omega
  have z7 : (⟨#[32]⟩ : ByteArray).size = 1 := rfl
  have t1 := cat _ _ _ g1 (by omega) (by rw [z7]; omega)
  have t2 := cat _ _ _ g2 (by omega) (by omega)
  have t3 := cat _ _ _ g3 (by omega) (by rw [z7]; omega)
  have t4 := cat _ _ _ g4 (by omega) (by omega)
  clear cat
  have m0 : IntKind.i64.max = 9223372036854775807 := rfl
  have y1 : ¬ ((((bs (Lib.decDigits n)).size + (⟨#[32]⟩ : ByteArray).size : Nat) : Int) > IntKind.i64.max) := by rw [z7, m0]; omega
  have y2 : ¬ ((((bs (Lib.decDigits n ++ [32])).size + (bs (Lib.decDigits b)).size : Nat) : Int) > IntKind.i64.max) := by rw [m0]; omega
  have y3 : ¬ ((((bs (Lib.decDigits n ++ 32 :: Lib.decDigits b)).size + (⟨#[32]⟩ : ByteArray).size : Nat) : Int) > IntKind.i64.max) := by rw [z7, m0]; omega
  have y4 : ¬ ((((bs (Lib.decDigits n ++ 32 :: (Lib.decDigits b ++ [32]))).size + (bs (Lib.itoa z)).size : Nat) : Int) > IntKind.i64.max) := by rw [m0]; omega
  clear m0
  have hc0 : ((b : Int) == 0) = false := by simp; omega
  have s0 := SS W (Kept.refl _ _)
  clear hL
  go_enter Tryz.func106, Tryz.ntmps106
  go_upto_region 3 with fail
  rw [← hW, ← HAe.out]
  clear hW
  go_region_held3 (fun w' => w'.cell? ⟨A, 0, none⟩ = some (.int .i64 n) ∧ w'.cell? ⟨A, 1, none⟩ = some (.int .i64 b) ∧ w'.cell? ⟨A, 2, none⟩ = some (.int .i64 z)) (first | assumption | go_keep) (first | (go_at_call 105; go_fit (I1 W.drew ((Kept.refl _ _).drew)); rintro e wa ⟨rfl, ka⟩; have Ka : Hid (Kept Nil W wa) := ((Kept.refl _ _).drew).trans ka; have sa := SS wa Ka.out) | (go_at_call 105; go_fit (I2 wa Ka.out); rintro e wb ⟨rfl, kb⟩; have Kb : Hid (Kept Nil W wb) := Ka.out.trans kb; have sb := SS wb Kb.out) | (go_at_call 105; go_fit (I3 wb Kb.out); rintro e wc ⟨rfl, kc⟩; have Kc : Hid (Kept Nil W wc) := Kb.out.trans kc; have sc := SS wc Kc.out))
  go_wp2
  go_ret
  exact ⟨rfl, KW.out.trans Kc.out⟩
end Go.Proofs.YtflnjlbafchnaaaGreatDoor

/-
  Cells: the small functions of the program: tail, text, unsaid, arrived, left, towards, the keys and commands, fits, isLost.
-/
namespace Go.Proofs.YtflnjlbafchnaaaGreatDoor
open Go.RowKit

end Go.Proofs.YtflnjlbafchnaaaGreatDoor

/-
  Cells: pair, tail, text (the program).
-/
namespace Go.Proofs.YtflnjlbafchnaaaGreatDoor
open Go.RowKit

end Go.Proofs.YtflnjlbafchnaaaGreatDoor

/-
  Cells, plainly: a text read word by word (the document's way) says the same.
-/
namespace Go.Proofs.YtflnjlbafchnaaaGreatDoor
open Go.RowKit Go.Lib

end Go.Proofs.YtflnjlbafchnaaaGreatDoor
