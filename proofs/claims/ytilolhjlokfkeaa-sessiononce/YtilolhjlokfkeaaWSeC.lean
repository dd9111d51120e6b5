/-
  Sessions: a session is opened.
-/
import Derived.Test.YtilolhjlokfkeaaWSeB
import Derived.Test.YtilolhjlokfkeaaWSe8z
namespace Go.Proofs.Ytilolhjlokfkeaa
open Go.RowKit

def minFromS (m : Ss) : List Ss → Ss
  | [] => m
  | e :: t => minFromS (if e.sn < m.sn then e else m) t
def oldS : List Ss → Int
  | [] => 0
  | e :: t => (minFromS e t).cl
theorem minFrom_map : ∀ (t : List Se) (m : Se), (minFrom m t).s = minFromS m.s (t.map Se.s)
  | [], m => rfl
  | e :: t, m => by
    show (minFrom (if e.s.sn < m.s.sn then e else m) t).s = minFromS (if e.s.sn < m.s.sn then e.s else m.s) (t.map Se.s)
    rw [minFrom_map t]
    congr 1
    split <;> rfl
theorem oldE_map (es : List Se) : oldE es = oldS (es.map Se.s) := by
  cases es with
  | nil => rfl
  | cons e t =>
    show (minFrom e t).s.cl = (minFromS e.s (t.map Se.s)).cl
    rw [minFrom_map]
def roomS (ss : List Ss) : List Ss := if ss.length < 8 then ss else ss.filter fun f => !decide (f.cl = oldS ss)
def newS (cl tm : Int) : Ss := ⟨cl, 0, 0, [], 0, [], tm⟩
def insS (i : Nat) (x : Ss) (ss : List Ss) : List Ss := ss.take i ++ x :: ss.drop i
theorem roomE_map (es : List Se) : (roomE es).map Se.s = roomS (es.map Se.s) := by
  unfold roomE roomS
  rw [List.length_map]
  split
  · rfl
  · rw [oldE_map, List.filter_map]
    rfl
theorem insE_map (i : Nat) (x : Se) (es : List Se) : (insE i x es).map Se.s = insS i x.s (es.map Se.s) := by
  unfold insE insS
  rw [List.map_append, List.map_cons, List.map_take, List.map_drop]
/-- A session is opened. -/
def openT (ps : List Pr) (ss : List Ss) (tm cl : Int) : List Pr × List Ss × Rr :=
  if isS cl ss = true ∨ isCnt cl = false then (ps, ss, rr0 5) else
  (ps, insS (lowS cl (roomS ss)) (newS cl tm) (roomS ss), ⟨1, [], cl, []⟩)

end Go.Proofs.Ytilolhjlokfkeaa
