/-
  Which configurations may be: the program's Valid (Votes, ContainsFunc with its own function) and the document's IsConfig: the same plain answer.
-/
import Derived.Test.YtbfleeilpccmcaaWOld
namespace Go.Proofs.Ytbfleeilpccmcaa
open Go.RowKit

def vot (v n : List Int) (z : Int) : Bool := hasZ v z || hasZ n z
def isCfg (v n l : List Int) : Bool := !v.isEmpty && rise 0 v && rise 0 n && rise 0 l && !l.any (vot v n)
/-- A configuration's three rows. -/
structure CfRows (B : Nat) (w : World) (a1 a2 a3 : Option Addr) (v n l : List Int) : Prop where
  r1 : IntRow B w a1 v
  r2 : IntRow B w a2 n
  r3 : IntRow B w a3 l
theorem CfRows.nil {B : Nat} {w w' : World} {a1 a2 a3 : Option Addr} {v n l : List Int} (h : CfRows B w a1 a2 a3 v n l) (hk : Kept Nil w w') : CfRows B w' a1 a2 a3 v n l := ⟨h.r1.nil hk, h.r2.nil hk, h.r3.nil hk⟩
theorem CfRows.kept {X : Nat → Obj → Prop} {B : Nat} {w w' : World} {a1 a2 a3 : Option Addr} {v n l : List Int} (h : CfRows B w a1 a2 a3 v n l) (hk : Kept X w w') (hX : ∀ k o, k < B → ¬ X k o) : CfRows B w' a1 a2 a3 v n l := ⟨h.r1.kept hk hX, h.r2.kept hk hX, h.r3.kept hk hX⟩
theorem CfRows.alloc {B : Nat} {w : World} {a1 a2 a3 : Option Addr} {v n l : List Int} (h : CfRows B w a1 a2 a3 v n l) (o : Obj) : CfRows B (w.alloc o) a1 a2 a3 v n l := h.nil ((Kept.refl _ _).alloc o)
theorem CfRows.full {B : Nat} {w : World} {a1 a2 a3 : Option Addr} {v n l : List Int} (h : CfRows B w a1 a2 a3 v n l) : CfRows w.heap.size w a1 a2 a3 v n l := ⟨h.r1.full, h.r2.full, h.r3.full⟩

def idxF (p : Int → Bool) : Nat → List Int → Int
  | _, [] => -1
  | k, y :: t => if p y then k else idxF p (k + 1) t
theorem idxF_at {zs : List Int} {p : Int → Bool} {k : Nat} (h : k < zs.length) : idxF p k (zs.drop k) = if p zs[k] then (k : Int) else idxF p (k + 1) (zs.drop (k + 1)) := by
  rw [List.drop_eq_getElem_cons h]
  rfl
theorem idxF_any (p : Int → Bool) : ∀ (zs : List Int) (k : Nat), decide (0 ≤ idxF p k zs) = zs.any p
  | [], k => rfl
  | y :: t, k => by
    unfold idxF
    cases h : p y with
    | true => simp [h]
    | false => rw [if_neg (by decide), idxF_any p t (k + 1), List.any_cons, h, Bool.false_or]

def anyV (v n l : List Int) : Bool := l.any (vot v n)
theorem isCfg_eq (v n l : List Int) : isCfg v n l = (!v.isEmpty && rise 0 v && rise 0 n && rise 0 l && !anyV v n l) := rfl

/-! ### the document's -/
end Go.Proofs.Ytbfleeilpccmcaa
