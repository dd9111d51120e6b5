/-
  TxnFree: the pieces of its code, and what its rows say.
-/
import Derived.Test.YtgkacepcggjfkaaGreatDoorWTfMm
namespace Go.Proofs.YtgkacepcggjfkaaGreatDoor
open Go.RowKit

noncomputable def fT11 : Code := (Tryz.f5.body.bind (findTailC 11)).getD .skip
noncomputable def fT16 : Code := (Tryz.f5.body.bind (findTailC 16)).getD .skip
noncomputable def fT21 : Code := (Tryz.f5.body.bind (findTailC 21)).getD .skip
noncomputable def fT25 : Code := (Tryz.f5.body.bind (findTailC 25)).getD .skip
noncomputable def fT30 : Code := (Tryz.f5.body.bind (findTailC 30)).getD .skip
noncomputable def fT33 : Code := (Tryz.f5.body.bind (findTailC 33)).getD .skip
noncomputable def fT36 : Code := (Tryz.f5.body.bind (findTailC 36)).getD .skip
noncomputable def fT45 : Code := (Tryz.f5.body.bind (findTailC 45)).getD .skip
theorem bs_subF (l : List UInt8) (a b : Nat) : (bs l).extract a b = bs ((l.drop a).take (b - a)) := by
  apply ByteArray.ext; simp [bs]
/-- The row of those that were begun, in every later world. -/
def LRF (w1 : World) (es : List Eb) (la : Addr) : Prop := ∀ X, Kept (XT w1.heap.size w1.heap.size (InE es) (dOf es).b) w1 X → ∀ k, (hk : k < es.length) → X.cell? (la.add k) = some (.pointer (some ⟨es[k].b, 0, none⟩))
/-- What is so between the rounds of the others. -/
structure FO (w w1 : World) (n0 : Nat) (es : List Eb) (X : World) (T : Nat → Tx) (ps : List Pr) (pa : Option Addr) (pc c : Nat) : Prop where
  mf : MF w w1 n0 (InE es) (allK es) (dOf es).b X T ps pa pc c
  good : (St.of ps).Good
  small : Small (es.map Eb.id) T (St.of ps)
  parts : ∀ i, (T i).ps = (enAt es i).ps
theorem FO.next {w w1 X X' : World} {n0 pc c : Nat} {es : List Eb} {T : Nat → Tx} {ps : List Pr} {pa : Option Addr} (h : FO w w1 n0 es X T ps pa pc c) (k : Kept Nil X X') : FO w w1 n0 es X' T ps pa pc c := ⟨h.mf.next k, h.good, h.small, h.parts⟩
theorem FO.more {w w1 X : World} {n0 pc c : Nat} {es : List Eb} {T : Nat → Tx} {ps : List Pr} {pa : Option Addr} (h : FO w w1 n0 es X T ps pa pc c) : FO w w1 n0 es X T ps pa pc (c + 1) := ⟨h.mf.more, h.good, h.small, h.parts⟩
theorem FO.answered {w w1 X X' : World} {n0 pc pc' c i : Nat} {es : List Eb} {T : Nat → Tx} {ps : List Pr} {pa pa' : Option Addr} {e : Ending} {D : TD} (h : FO w w1 n0 es X T ps pa pc c) (hl : es.length < 28) (hc : c < 1099511627775) (hi : InE es i) (h9 : (T i).ph ≤ 9) (hnd : (es.map Eb.id).Nodup) (ha9 : ∀ e ∈ es, ∀ p ∈ e.ps, p.a ≤ 9)
    (hD : D.b = (dOf es).b) (hM : TM n0 w1.heap.size X (InE es) T D) (hp : OwnP w1.heap.size X pa' pc' ((T i).psOf ps))
    (ha : TxPost n0 X (D.b i) ((T i).answer ((T i).rOf ps)) (D.ap i) (D.oo i) (D.cp i) e X') : e = .returned (.tuple #[]) ∧ FO w w1 n0 es X' (upd T i ((T i).answer ((T i).rOf ps))) ((T i).psOf ps) pa' pc' (c + 1) := by
  have hK : (allK es).length < 32 := by rw [allK_len]; omega
  obtain ⟨h1, h2⟩ := h.mf.answered hK hc hi h9 hD hM hp ha
  obtain ⟨r1, r2, r3, r4⟩ := h.mf.run.step hK hc hi h9
  refine ⟨h1, h2, Good.step h.mf.run hK hc hi h9 h.good, h.small.step r2 hnd ?_ ?_, fun j => ?_⟩
  · obtain ⟨x, hx, rfl⟩ := hi
    exact List.mem_map.2 ⟨x, hx, rfl⟩
  · rw [h.parts i]
    exact ha9 _ (enAt_mem hi).1
  · by_cases ej : j = i
    · subst ej
      rw [upd_same, r4, (go_ps _ _).1]
      exact h.parts j
    · rw [upd_ne T _ ej]
      exact h.parts j
end Go.Proofs.YtgkacepcggjfkaaGreatDoor
