/-
  Rows of one's own; maps in a row.
-/
import Derived.Test.YtflnjlbafchnaaaGreatDoorWTmB
import Derived.Test.YtflnjlbafchnaaaGreatDoorWOld
import Derived.Test.YtflnjlbafchnaaaGreatDoorWCgA
import Derived.Deep.DeepCutAuto
import Derived.Deep.DeepFit
import Derived.Deep.RegionLaw
import Derived.Deep.RegionHeld3
namespace Go.Proofs.YtflnjlbafchnaaaGreatDoor
open Go.RowKit

/-! ### rows -/
/-- A row of one's own is touched by no append to one of another type, nor by what is kept. -/
def TyG (n0 : Nat) (t : TypeId) : Nat → Obj → Prop := fun g o => n0 ≤ g ∧ ∃ cs fr, o = .cells cs t fr
theorem kept_grown {n0 : Nat} {t : TypeId} {w w' : World} {v : Value} {size n : Nat} {xs : List Value} (h : w.ownsRow n0 t size v n xs) (hg : w.grownBy w' v.ownBlock) : Kept (TyG n0 t) w w' :=
  ⟨hg.os, hg.tape, hg.output, hg.size, fun k o ho hx => grown_blk hg ho (fun e => hx (by
    rcases h.2 with ⟨e1, _⟩ | ⟨g, cap, cur, e1, h2, h3, _⟩
    · rw [e1] at e; simp [Value.ownBlock] at e
    · rw [e1] at e
      have e2 : g = k := by simpa [Value.ownBlock] using e
      subst e2
      rw [h3] at ho
      cases ho
      exact ⟨h2, _, _, rfl⟩))⟩
theorem own_ty {n0 B : Nat} {t e : TypeId} {w w' : World} {v : Value} {size n : Nat} {xs : List Value} (h : w.ownsRow B e size v n xs) (hk : Kept (TyG n0 t) w w') (hne : e ≠ t) : w'.ownsRow B e size v n xs :=
  own_kept h hk (fun k cs _ x => by obtain ⟨_, _, _, x⟩ := x; simp at x; exact hne x.2.1)
theorem one_ty {b : Nat} {X X' : World} {cs : Array Value} {t : TypeId} {fr : Nat × Nat} (k : Kept (One b) X X') (hb : X.heap[b]? = some (.cells cs t fr)) : Kept (TyG 0 t) X X' :=
  ⟨k.os, k.tape, k.output, k.size, fun q o hq hx => k.block q o hq (fun e => hx (by
    have e' : q = b := e
    subst e'
    rw [hb] at hq
    cases hq
    exact ⟨Nat.zero_le _, _, _, rfl⟩))⟩
theorem Kept.grown0 {w w1 w2 : World} {v : Value} (k : Kept Nil w w1) (hg : w1.grownBy w2 v.ownBlock) (hb : ∀ g, v.ownBlock = some g → w.heap.size ≤ g) : Kept Nil w w2 :=
  ⟨hg.os.trans k.os, hg.tape.trans k.tape, hg.output.trans k.output, Nat.le_trans k.size hg.size, fun q o hq _ => grown_blk hg (k.block q o hq (fun x => x)) (fun e => by have := hb q e; have := lt_of_block hq; omega)⟩
theorem Kept.grownB {w w1 w2 : World} {n0 size n : Nat} {t : TypeId} {v : Value} {xs : List Value} (k : Kept Nil w w1) (h : w1.ownsRow n0 t size v n xs) (hg : w1.grownBy w2 v.ownBlock) (hn : w.heap.size ≤ n0) : Kept Nil w w2 :=
  k.grown0 hg (fun g e => Nat.le_trans hn (World.ownsRow.lt h g e).1)
theorem one_src (w : World) (t st : TypeId) (v : Value) (hu : Tryz.prog.underlying st = some (.slice t)) (hv : v.oneCell' = true) : Src Tryz.prog 1 st (.slice (some ⟨w.heap.size, 0, .none⟩) 1 1) 1 [v] (w.alloc (.cells #[v] t)) := by
  refine Src.ofSlice _ hu ⟨w.heap.size, 0, .none⟩ 1 1 _ rfl ?_ (fun u hu => by simp at hu; subst hu; exact hv)
  intro j u hj
  rw [addr_addE, blk_cell (blk_new w (.cells #[v] t)), ← hj]
  simp
theorem own_cell {B c n s : Nat} {t : TypeId} {w : World} {a : Addr} {xs : List Value} (h : w.ownsRow B t s (.slice (some a) n c) n xs) {j : Nat} {u : Value} (hj : xs[j]? = some u) : w.cell? (a.add j) = some u := by
  rcases h.2 with ⟨h1, _⟩ | ⟨g, cap, cur, h1, h2, h3, h4⟩
  · simp at h1
  · simp only [Value.slice.injEq, Option.some.injEq] at h1
    have hc := World.ownsRow.cells h (g := g) (by rw [h1.1]; rfl) j u hj
    rw [← h1.1] at hc
    exact hc
theorem own_some {B c n s : Nat} {t : TypeId} {w : World} {ao : Option Addr} {xs : List Value} (h : w.ownsRow B t s (.slice ao n c) n xs) (hn : 0 < n) : ∃ g, ao = some ⟨g, 0, none⟩ ∧ B ≤ g ∧ ∃ cs, w.heap[g]? = some (.cells cs t (0, 0)) := by
  rcases h.2 with ⟨h1, _⟩ | ⟨g, cap, cur, h1, h2, h3, h4⟩
  · simp at h1; omega
  · simp only [Value.slice.injEq] at h1
    exact ⟨g, h1.1, h2, cur, h3⟩
theorem OwnP.nilc {B c : Nat} {w : World} {ao : Option Addr} {ps : List Pr} (h : OwnP B w ao c ps) : ao = none → ps = [] ∧ c = 0 := fun e => by
  rcases h.2 with ⟨h1, h2⟩ | ⟨g, cap, cur, h1, _⟩
  · simp only [Value.slice.injEq] at h1
    exact ⟨List.eq_nil_of_length_eq_zero h1.2.1, h1.2.2⟩
  · rw [e] at h1
    simp at h1
theorem pairs_fit {ps : List Pr} (h : pairsOk ps = true) : Fit ps := fun p hp => by
  have := (prOk_iff ((pairs_ok h).2.2 p hp))
  unfold maxLen
  omega
theorem apR_v (kd : Int) (ck val : List UInt8) (m : Int) (ps : List Pr) : (apR kd ck val m ps).v.length ≤ 64 := by
  unfold apR
  split
  · rename_i h
    simp only [Bool.and_eq_true] at h
    have hs := (spot_ok h.1 ck).2.2.2
    unfold doR putRr swapRr putRr tellRr dropRr
    (repeat' split) <;> first | exact hs | exact Nat.zero_le _
  · exact Nat.zero_le _
/-- One map: where it lies. -/
structure Ml where
  ao : Option Addr
  c : Nat
  ps : List Pr
def mlV (m : Ml) : Value := .slice m.ao m.ps.length m.c
end Go.Proofs.YtflnjlbafchnaaaGreatDoor
