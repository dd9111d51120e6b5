/-
  Sessions: a client is served: what comes of it.
-/
import Derived.Test.YtilolhjlokfkeaaWSe9
import Derived.Deep.DeepCutAuto
namespace Go.Proofs.Ytilolhjlokfkeaa
open Go.RowKit

def lowS (cl : Int) (ss : List Ss) : Nat := ss.findIdx fun e => decide (cl ≤ e.cl)
def isS (cl : Int) (ss : List Ss) : Bool := match ss[lowS cl ss]? with | none => false | some e => decide (e.cl = cl)
theorem lowE_map (cl : Int) (es : List Se) : lowE cl es = lowS cl (es.map Se.s) := by
  unfold lowE lowS
  rw [List.findIdx_map]
  rfl
theorem isE_map (cl : Int) (es : List Se) : isE cl es = isS cl (es.map Se.s) := by
  unfold isE isS
  rw [lowE_map, List.getElem?_map]
  cases es[lowS cl (es.map Se.s)]? <;> rfl
theorem isE_at {cl : Int} {es : List Se} (h : isE cl es = true) : ∃ hl : lowE cl es < es.length, es[lowE cl es].s.cl = cl := by
  unfold isE at h
  by_cases hl : lowE cl es < es.length
  · rw [List.getElem?_eq_getElem hl] at h
    exact ⟨hl, by simpa using h⟩
  · rw [List.getElem?_eq_none (by omega)] at h
    cases h
/-- What is said without keys. -/
def rr0 (k : Int) : Rr := ⟨k, [], 0, []⟩
/-- A request is served: the pairs, the sessions, the answer. -/
def servT (ps : List Pr) (ss : List Ss) (tm cl nu kd : Int) (key val : List UInt8) (m : Int) : List Pr × List Ss × Rr :=
  if isS cl ss = false then (ps, ss, rr0 8) else
  match ss[lowS cl ss]? with
  | none => (ps, ss, rr0 8)
  | some s =>
    if nu < s.ls ∨ nu < 1 then (ps, ss.set (lowS cl ss) { s with sn := tm }, rr0 6)
    else if s.ls + 1 < nu then (ps, ss.set (lowS cl ss) { s with sn := tm }, rr0 7)
    else if s.ls < nu then (apP kd key val m ps, ss.set (lowS cl ss) { s with sn := tm, ls := nu, kd := (apR kd key val m ps).kd, val := (apR kd key val m ps).v, ver := (apR kd key val m ps).n, ks := (apR kd key val m ps).ks }, apR kd key val m ps)
    else (ps, ss.set (lowS cl ss) { s with sn := tm }, ⟨s.kd, s.val, s.ver, s.ks⟩)

end Go.Proofs.Ytilolhjlokfkeaa
