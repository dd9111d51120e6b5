/-
  What the texts on single records share: readings one behind another, the document's reader behind a fault, blocks that are none of the writer's.
-/
import Derived.Test.YtmlncfnnldplgaaWNum
import Derived.Test.YtmlncfnnldplgaaWCatch
import Derived.Test.YtmlncfnnldplgaaWFrame3
namespace Go.Proofs.Ytmlncfnnldplgaa
open Go.RowKit

theorem ret_bool {a b : Bool} (h : a = b) : Ending.returned (.bool a) = .returned (.bool b) := by rw [h]
def isNum (x : Int) : Bool := decide (0 ≤ x) && decide (x ≤ 1099511627775)
theorem ints3 (w : World) (o : Obj) (x y z : Int) : IntsAt ((w.alloc o).alloc (.cells #[.int .i64 x, .int .i64 y, .int .i64 z] 3)) (w.heap.size + 1) [x, y, z] := by
  have hb := blk_new (w.alloc o) (.cells #[.int .i64 x, .int .i64 y, .int .i64 z] 3)
  rw [show (w.alloc o).heap.size = w.heap.size + 1 by simp] at hb
  intro j hj
  simp at hj
  rcases (show j = 0 ∨ j = 1 ∨ j = 2 by omega) with rfl | rfl | rfl
  · exact blk_cell hb 0
  · exact blk_cell hb 1
  · exact blk_cell hb 2
theorem WInv.alloc {b : Nat} {w : World} {l : List UInt8} (h : WInv b w l) (o : Obj) : WInv b (w.alloc o) l := by
  obtain ⟨ao, c, hb, ho⟩ := h
  exact ⟨ao, c, blk_past hb o, ho.alloc o⟩
theorem WInv.lt {b : Nat} {w : World} {l : List UInt8} (h : WInv b w l) : b < w.heap.size := by
  obtain ⟨ao, c, hb, ho⟩ := h
  exact lt_of_block hb
/-- A block of another type that lies behind the writer is none of the writer's. -/
theorem not_wr {b g : Nat} {cs : Array Value} {t : TypeId} {m : Nat × Nat} (hg : g ≠ b) (ht : t ≠ 5) : ¬ Wr b g (.cells cs t m) := by
  rintro (e | ⟨_, cs', m', e⟩)
  · exact hg e
  · simp at e; exact ht e.2.1
theorem encText_len {l : List UInt8} (h : l.length ≤ 1099511627775) : (encText l).length ≤ l.length + 6 := by
  have := enc_len6 h
  simp only [encText, List.length_append]; omega
theorem isNum_nat {x : Int} (h : isNum x = true) : (x.toNat : Int) = x ∧ x.toNat ≤ 1099511627775 := by
  simp only [isNum, Bool.and_eq_true, decide_eq_true_eq] at h
  omega
/-- One reading behind another. -/
def rdThen {α β : Type} (r : Except Int (α × List UInt8)) (f : α → List UInt8 → Except Int (β × List UInt8)) : Except Int (β × List UInt8) :=
  match r with
  | .ok (a, t) => f a t
  | .error c => .error c
theorem rdThen_ok {α β : Type} {r : Except Int (α × List UInt8)} {f : α → List UInt8 → Except Int (β × List UInt8)} {a : α} {t : List UInt8} (h : r = .ok (a, t)) : rdThen r f = f a t := by rw [h]; rfl
theorem rdThen_no {α β : Type} {r : Except Int (α × List UInt8)} {f : α → List UInt8 → Except Int (β × List UInt8)} {c : Int} (h : r = .error c) : rdThen r f = .error c := by rw [h]; rfl
theorem rdText_le {most : Nat} {l s t : List UInt8} (h : rdText most l = .ok (s, t)) : s.length ≤ most := (rdText_len h).1
theorem Left.kept {p : Addr} {w w' : World} {l : List UInt8} (h : Left p w l) (k : Kept Nil w w') : Left p w' l := by
  have hlt := cell_lt h.cell
  have e : w'.heap[p.block]? = w.heap[p.block]? := by
    rw [k.block p.block _ (Array.getElem?_eq_getElem hlt) (fun x => x.elim), Array.getElem?_eq_getElem hlt]
  exact ⟨(World.cell?_of_block e).trans h.cell, (World.frozen?_of_block e).trans h.free⟩
theorem numGo_err : ∀ {l : List UInt8} {k x : Nat} {c : Int}, numGo k x l = .error c → c ≠ 0 := by
  intro l
  induction l with
  | nil => intro k x c h; simp [numGo] at h; omega
  | cons d l ih =>
    intro k x c h
    by_cases h1 : k ≤ 5 ∧ x + d.toNat % 128 * 2 ^ (7 * k) ≤ maxNum ∧ (d.toNat ≠ 0 ∨ k = 0)
    · by_cases h2 : d.toNat < 128
      · rw [numGo_end h1 h2] at h; cases h
      · rw [numGo_more h1 h2] at h; exact ih h
    · rw [numGo_bad h1] at h; cases h; decide
theorem rdNum_err {l : List UInt8} {c : Int} (h : rdNum l = .error c) : c ≠ 0 := numGo_err h
theorem rdText_err {most : Nat} {l : List UInt8} {c : Int} (h : rdText most l = .error c) : c ≠ 0 := by
  unfold rdText rdUpTo at h
  cases hn : rdNum l with
  | error d => rw [hn] at h; simp only [Except.error.injEq] at h; subst h; exact rdNum_err hn
  | ok x =>
    obtain ⟨n, t⟩ := x
    rw [hn] at h
    simp only at h
    by_cases h1 : n ≤ most
    · rw [if_pos h1] at h
      simp only [rdTake] at h
      split at h
      · cases h
      · cases h; decide
    · rw [if_neg h1] at h
      cases h; decide
/-- A state behind a fault that is told. -/
def stBad (c : Int) (st : Except Int (List UInt8)) : Except Int (List UInt8) :=
  match st with
  | .ok _ => .error c
  | .error d => .error d
theorem isNum_of {n : Nat} (h : n ≤ maxNum) : isNum (n : Int) = true := by
  unfold maxNum at h
  simp [isNum]; omega
end Go.Proofs.Ytmlncfnnldplgaa
