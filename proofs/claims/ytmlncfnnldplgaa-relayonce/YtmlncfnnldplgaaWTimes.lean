/-
  Rows of numbers: what is read so many times, by the program (times) and by the document's reader; numbers written one behind the other; two rows held against each other.
-/
import Derived.Test.YtmlncfnnldplgaaWTorn1
import Derived.Test.YtmlncfnnldplgaaWNum
import Derived.Laws.OwnMore
namespace Go.Proofs.Ytmlncfnnldplgaa
open Go.RowKit

/-! ### a row of its own, and what calls leave of it -/
theorem own_kept {X : Nat → Obj → Prop} {w w' : World} {B : Nat} {e : TypeId} {size : Nat} {v : Value} {n : Nat} {xs : List Value} (h : w.ownsRow B e size v n xs) (hk : Kept X w w')
    (hX : ∀ k cs, B ≤ k → ¬ X k (.cells cs e (0, 0))) : w'.ownsRow B e size v n xs := by
  refine ⟨h.1, h.2.imp id ?_⟩
  rintro ⟨g, cap, cur, h1, h2, h3, h4⟩
  exact ⟨g, cap, cur, h1, h2, hk.block _ _ h3 (hX _ _ h2), h4⟩
theorem Kept.grown {X : Nat → Obj → Prop} {a w w' : World} {row : Option Nat} (h : Kept X a w) (hg : w.grownBy w' row) (hrow : ∀ k, row = some k → a.heap.size ≤ k) : Kept X a w' :=
  ⟨hg.os.trans h.os, hg.tape.trans h.tape, hg.output.trans h.output, Nat.le_trans h.size hg.size, fun k o ho hx => by
    have hk := lt_of_block ho
    rw [hg.block k (by have := h.size; omega) (fun e => by have := hrow k e.symm; omega)]
    exact h.block k o ho hx⟩
theorem own_row {w : World} {B : Nat} {e : TypeId} {size : Nat} {v : Value} {n : Nat} {xs : List Value} (h : w.ownsRow B e size v n xs) : ∀ k, v.ownBlock = some k → B ≤ k := fun k hk => (h.lt k hk).1

/-! ### so many of a kind -/
def rdTimes {α : Type} (rd : List UInt8 → Except Int (α × List UInt8)) : Nat → List UInt8 → Except Int (List α × List UInt8)
  | 0, l => .ok ([], l)
  | n + 1, l =>
    match rd l with
    | .error c => .error c
    | .ok (a, t) =>
      match rdTimes rd n t with
      | .error c => .error c
      | .ok (xs, u) => .ok (a :: xs, u)
/-- With these ahead. -/
def preT {α : Type} (xs : List α) : Except Int (List α × List UInt8) → Except Int (List α × List UInt8)
  | .ok (bs, u) => .ok (xs ++ bs, u)
  | .error c => .error c
theorem preT_nil {α : Type} (r : Except Int (List α × List UInt8)) : preT [] r = r := by
  cases r with
  | error c => rfl
  | ok x => rfl
theorem rdTimes_no {α : Type} {rd : List UInt8 → Except Int (α × List UInt8)} {xs : List α} {m : Nat} {t : List UInt8} {c : Int} (h : rd t = .error c) : preT xs (rdTimes rd (m + 1) t) = .error c := by
  simp [rdTimes, h, preT]
theorem rdTimes_more {α : Type} {rd : List UInt8 → Except Int (α × List UInt8)} {xs : List α} {m : Nat} {t u : List UInt8} {a : α} (h : rd t = .ok (a, u)) : preT xs (rdTimes rd (m + 1) t) = preT (xs ++ [a]) (rdTimes rd m u) := by
  simp only [rdTimes, h]
  cases rdTimes rd m u with
  | error c => rfl
  | ok x => simp [preT]
theorem rdTimes_len {α : Type} {rd : List UInt8 → Except Int (α × List UInt8)} : ∀ {n : Nat} {l t : List UInt8} {xs : List α}, rdTimes rd n l = .ok (xs, t) → xs.length = n
  | 0, l, t, xs, h => by
    simp only [rdTimes, Except.ok.injEq, Prod.mk.injEq] at h
    rw [← h.1]; rfl
  | n + 1, l, t, xs, h => by
    unfold rdTimes at h
    split at h
    · cases h
    · split at h
      · cases h
      · rename_i hr
        simp only [Except.ok.injEq, Prod.mk.injEq] at h
        rw [← h.1, List.length_cons, rdTimes_len hr]

/-! ### rows of ints -/
def natCells (ns : List Nat) : List Value := ns.map fun (n : Nat) => Value.int .i64 n
theorem natCells_snoc (ns : List Nat) (n : Nat) : natCells (ns ++ [n]) = natCells ns ++ [.int .i64 n] := by simp [natCells]
def OwnNats (B : Nat) (w : World) (ao : Option Addr) (c : Nat) (ns : List Nat) : Prop := w.ownsRow B 3 1 (.slice ao ns.length c) ns.length (natCells ns)
def NatsV (B : Nat) : List Nat → World → Value → Prop := fun ns w v => ∃ ao c, v = .slice ao ns.length c ∧ OwnNats B w ao c ns

theorem Try.infoInt : (Try.prog.info? 3).map (fun i => (i.zero, i.size, i.bytes)) = some (some (.int .i64 0), 1, 8) := by kernel_rfl

theorem OwnNats.push {B : Nat} {w' : World} {ao : Option Addr} {c : Nat} {ns : List Nat} {n : Nat} (h : w'.ownsRow B 3 1 (.slice ao (ns.length + 1) c) (ns.length + 1) (natCells ns ++ [.int .i64 n])) : OwnNats B w' ao c (ns ++ [n]) := by
  unfold OwnNats
  rw [natCells_snoc, List.length_append]
  exact h

end Go.Proofs.Ytmlncfnnldplgaa
