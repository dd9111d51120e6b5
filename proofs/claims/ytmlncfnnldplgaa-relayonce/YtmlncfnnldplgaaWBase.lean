/-
  The plain mathematics of the wire format, in which the two readers and the two writers are told alike: bytes as lists, a number read byte by byte, a text, and what a call leaves of the memory that was there.
-/
import Derived.WalkKit
import Derived.WalkLawsBesides
import Derived.WalkSpells
import Derived.Below
import Derived.OneCell
namespace Go.Proofs.Ytmlncfnnldplgaa
open Go.RowKit

theorem ret_int {k : IntKind} {a b : Int} (h : a = b) : Ending.returned (.int k a) = .returned (.int k b) := by rw [h]

/-! ### bytes as a list -/

def bs (l : List UInt8) : ByteArray := ⟨l.toArray⟩
theorem bs_size (l : List UInt8) : (bs l).size = l.length := by simp [bs, ByteArray.size]
theorem bs_take (l : List UInt8) (n : Nat) : (bs l).extract 0 n = bs (l.take n) := by
  apply ByteArray.ext; simp [bs]
theorem bs_drop (l : List UInt8) (n : Nat) : (bs l).extract n (bs l).size = bs (l.drop n) := by
  apply ByteArray.ext; simp [bs, ByteArray.size]; exact List.take_of_length_le (by simp)
theorem bs_append (a b : List UInt8) : bs a ++ bs b = bs (a ++ b) := by
  apply ByteArray.ext; simp [bs]
theorem bs_self (s : ByteArray) : bs s.data.toList = s := by
  apply ByteArray.ext; simp [bs]
theorem bs_at (l : List UInt8) (i : Nat) (h : i < (bs l).size) : (bs l)[i]'h = l[i]'(by rw [← bs_size]; exact h) := by
  simp [bs, ByteArray.getElem_eq_getElem_data]
theorem bs_data (l : List UInt8) : (bs l).data.toList = l := by simp [bs]
theorem bs_toList (l : List UInt8) : (bs l).toList = l := by rw [Go.ByteArray.toList_eq, bs_data]
theorem bs_inj {a b : List UInt8} (h : bs a = bs b) : a = b := by
  have := congrArg (fun s => s.data.toList) h
  simpa [bs] using this

/-! ### a number -/

def maxNum : Nat := 1099511627775

/-- A number's bytes from the k-th on, x what the bytes ahead of it say: the number and what is left; or the error. -/
def numGo : Nat → Nat → List UInt8 → Except Int (Nat × List UInt8)
  | _, _, [] => .error 3
  | k, x, c :: t =>
    if k ≤ 5 ∧ x + c.toNat % 128 * 2 ^ (7 * k) ≤ maxNum ∧ (c.toNat ≠ 0 ∨ k = 0) then
      if c.toNat < 128 then .ok (x + c.toNat % 128 * 2 ^ (7 * k), t) else numGo (k + 1) (x + c.toNat % 128 * 2 ^ (7 * k)) t
    else .error 1

def rdNum (l : List UInt8) : Except Int (Nat × List UInt8) := numGo 0 0 l

theorem numGo_nil (k x : Nat) : numGo k x [] = .error 3 := rfl
theorem numGo_bad {k x : Nat} {c : UInt8} {t : List UInt8} (h : ¬ (k ≤ 5 ∧ x + c.toNat % 128 * 2 ^ (7 * k) ≤ maxNum ∧ (c.toNat ≠ 0 ∨ k = 0))) : numGo k x (c :: t) = .error 1 := by
  rw [numGo, if_neg h]
theorem numGo_end {k x : Nat} {c : UInt8} {t : List UInt8} (h : k ≤ 5 ∧ x + c.toNat % 128 * 2 ^ (7 * k) ≤ maxNum ∧ (c.toNat ≠ 0 ∨ k = 0)) (h2 : c.toNat < 128) : numGo k x (c :: t) = .ok (x + c.toNat % 128 * 2 ^ (7 * k), t) := by
  rw [numGo, if_pos h, if_pos h2]
theorem numGo_more {k x : Nat} {c : UInt8} {t : List UInt8} (h : k ≤ 5 ∧ x + c.toNat % 128 * 2 ^ (7 * k) ≤ maxNum ∧ (c.toNat ≠ 0 ∨ k = 0)) (h2 : ¬ c.toNat < 128) : numGo k x (c :: t) = numGo (k + 1) (x + c.toNat % 128 * 2 ^ (7 * k)) t := by
  rw [numGo, if_pos h, if_neg h2]

theorem numGo_ok {l : List UInt8} : ∀ {k x n : Nat} {t : List UInt8}, numGo k x l = .ok (n, t) → n ≤ maxNum ∧ t.length < l.length := by
  induction l with
  | nil => intro k x n t h; simp [numGo] at h
  | cons c l ih =>
    intro k x n t h
    by_cases h1 : k ≤ 5 ∧ x + c.toNat % 128 * 2 ^ (7 * k) ≤ maxNum ∧ (c.toNat ≠ 0 ∨ k = 0)
    · by_cases h2 : c.toNat < 128
      · rw [numGo_end h1 h2] at h
        simp only [Except.ok.injEq, Prod.mk.injEq] at h
        obtain ⟨rfl, rfl⟩ := h
        exact ⟨h1.2.1, by simp⟩
      · rw [numGo_more h1 h2] at h
        have := ih h
        exact ⟨this.1, by simp; omega⟩
    · rw [numGo_bad h1] at h; simp at h

theorem rdNum_ok {l t : List UInt8} {n : Nat} (h : rdNum l = .ok (n, t)) : n ≤ maxNum ∧ t.length < l.length := numGo_ok h

/-- A number that is a length or a count. -/
def rdUpTo (most : Nat) (l : List UInt8) : Except Int (Nat × List UInt8) :=
  match rdNum l with
  | .ok (n, t) => if n ≤ most then .ok (n, t) else .error 4
  | .error c => .error c
def rdTake (n : Nat) (l : List UInt8) : Except Int (List UInt8 × List UInt8) :=
  if n ≤ l.length then .ok (l.take n, l.drop n) else .error 3
/-- A text of at most so many bytes. -/
def rdText (most : Nat) (l : List UInt8) : Except Int (List UInt8 × List UInt8) :=
  match rdUpTo most l with
  | .ok (n, t) => rdTake n t
  | .error c => .error c

theorem rdUpTo_ok {most n : Nat} {l t : List UInt8} (h : rdUpTo most l = .ok (n, t)) : n ≤ most ∧ n ≤ maxNum ∧ t.length < l.length := by
  unfold rdUpTo at h
  split at h
  · rename_i m u hr
    have := rdNum_ok hr
    split at h
    · simp only [Except.ok.injEq, Prod.mk.injEq] at h
      obtain ⟨rfl, rfl⟩ := h
      exact ⟨by assumption, this⟩
    · cases h
  · cases h

theorem pow7 (k : Nat) (h : k ≤ 6) : 2 ^ (7 * k) ≤ 4398046511104 := by
  have h1 : 2 ^ (7 * k) ≤ 2 ^ 42 := Nat.pow_le_pow_right (by omega) (by omega)
  have h2 : 2 ^ 42 = 4398046511104 := by decide
  omega

/-- The step of both readers: the next seven bits. -/
theorem step_lt {k x y : Nat} (hx : x < 2 ^ (7 * k)) (hy : y < 128) : x + y * 2 ^ (7 * k) < 2 ^ (7 * (k + 1)) := by
  have : 2 ^ (7 * (k + 1)) = 128 * 2 ^ (7 * k) := by rw [Nat.mul_add, Nat.pow_add]; omega
  rw [this]
  have : (y + 1) * 2 ^ (7 * k) ≤ 128 * 2 ^ (7 * k) := Nat.mul_le_mul_right _ (by omega)
  rw [Nat.add_mul] at this
  omega

theorem or_add {k x y : Nat} (hx : x < 2 ^ (7 * k)) : x ||| y * 2 ^ (7 * k) = x + y * 2 ^ (7 * k) := by
  rw [Nat.or_comm, ← Nat.shiftLeft_eq, ← Nat.shiftLeft_add_eq_or_of_lt hx, Nat.add_comm]

/-! ### what a call leaves of memory -/

/-- Of the blocks that were there those that 'X' doesn't name are as they were. -/
structure Kept (X : Nat → Obj → Prop) (w w' : World) : Prop where
  os : w'.os = w.os
  tape : w'.tape = w.tape
  output : w'.output = w.output
  size : w.heap.size ≤ w'.heap.size
  block : ∀ k o, w.heap[k]? = some o → ¬ X k o → w'.heap[k]? = some o

theorem Kept.refl (X : Nat → Obj → Prop) (w : World) : Kept X w w := ⟨rfl, rfl, rfl, Nat.le_refl _, fun _ _ h _ => h⟩
theorem Kept.trans {X : Nat → Obj → Prop} {a b c : World} (h : Kept X a b) (k : Kept X b c) : Kept X a c :=
  ⟨k.os.trans h.os, k.tape.trans h.tape, k.output.trans h.output, Nat.le_trans h.size k.size, fun i o ho hx => k.block i o (h.block i o ho hx) hx⟩
theorem Kept.mono {X Y : Nat → Obj → Prop} {a b : World} (h : Kept X a b) (hXY : ∀ k o, X k o → Y k o) : Kept Y a b :=
  ⟨h.os, h.tape, h.output, h.size, fun i o ho hx => h.block i o ho (fun x => hx (hXY _ _ x))⟩
theorem Kept.drew {X : Nat → Obj → Prop} {a w : World} (h : Kept X a w) : Kept X a w.drew := ⟨h.os, h.tape, h.output, h.size, h.block⟩
theorem Kept.alloc {X : Nat → Obj → Prop} {a w : World} (h : Kept X a w) (o : Obj) : Kept X a (w.alloc o) :=
  h.trans ⟨rfl, rfl, rfl, by simp, fun k p hp _ => by
    have hk : k < w.heap.size := by
      by_cases hk : k < w.heap.size
      · exact hk
      · rw [Array.getElem?_eq_none (by omega)] at hp; cases hp
    rw [Below.heap_alloc _ _ _ hk]; exact hp⟩
theorem Kept.setCell {X : Nat → Obj → Prop} {a w : World} (h : Kept X a w) {p : Addr} (hp : ∀ o, X p.block o) (u : Value) : Kept X a (w.setCell p u) :=
  h.trans ⟨rfl, rfl, rfl, by simp [World.setCell], fun k o ho hx => by
    rw [Below.heap_setCell _ _ _ _ (fun e => hx (by rw [e]; exact hp o))]; exact ho⟩
/-- A store into a block that was not there at first. -/
theorem Kept.setNew {X : Nat → Obj → Prop} {a w : World} (h : Kept X a w) {p : Addr} (hp : a.heap.size ≤ p.block) (u : Value) : Kept X a (w.setCell p u) :=
  ⟨h.os, h.tape, h.output, by simpa [World.setCell] using h.size, fun k o ho hx => by
    have hk : k < a.heap.size := by
      by_cases hk : k < a.heap.size
      · exact hk
      · rw [Array.getElem?_eq_none (by omega)] at ho; cases ho
    rw [Below.heap_setCell _ _ _ _ (by omega)]; exact h.block k o ho hx⟩
theorem Kept.below {X : Nat → Obj → Prop} {B : Nat} {w w' : World} (h : Kept X w w') (hX : ∀ k o, X k o → B ≤ k) (hB : B ≤ w.heap.size) : Below B w w' :=
  ⟨h.os, h.tape, h.output, h.size, fun k hk => by
    have : w.heap[k]? = some (w.heap[k]'(by omega)) := Array.getElem?_eq_getElem (by omega)
    rw [h.block k _ this (fun x => by have := hX _ _ x; omega), this]⟩
theorem Kept.ofBelow {w w' : World} (h : Below w.heap.size w w') (X : Nat → Obj → Prop) : Kept X w w' :=
  ⟨h.os, h.tape, h.output, h.size, fun k o ho _ => by
    have hk : k < w.heap.size := by
      by_cases hk : k < w.heap.size
      · exact hk
      · rw [Array.getElem?_eq_none (by omega)] at ho; cases ho
    rw [h.block k hk]; exact ho⟩
theorem Kept.cell {X : Nat → Obj → Prop} {w w' : World} (h : Kept X w w') {b : Nat} {o : Obj} (hb : w.heap[b]? = some o) (hx : ¬ X b o) (i : Nat) : w'.cell? ⟨b, i, none⟩ = w.cell? ⟨b, i, none⟩ :=
  World.cell?_of_block (w := w) (a := ⟨b, i, none⟩) (by rw [h.block b o hb hx, hb])
/-! ### a block of cells -/
theorem blk_cell {w : World} {b : Nat} {cs : Array Value} {t : TypeId} (h : w.heap[b]? = some (.cells cs t (0, 0))) (i : Nat) : w.cell? ⟨b, i, none⟩ = cs[i]? := by simp [World.cell?, h]
theorem blk_free {w : World} {b : Nat} {cs : Array Value} {t : TypeId} (h : w.heap[b]? = some (.cells cs t (0, 0))) (i : Nat) : w.frozen? ⟨b, i, none⟩ = false := by simp [World.frozen?, h]
theorem blk_set {w : World} {b : Nat} {cs : Array Value} {t : TypeId} (h : w.heap[b]? = some (.cells cs t (0, 0))) (i : Nat) (u : Value) : (w.setCell ⟨b, i, none⟩ u).heap[b]? = some (.cells (cs.setIfInBounds i u) t (0, 0)) := by
  have hlt := lt_of_block h
  have h' : w.heap[b] = .cells cs t (0, 0) := by simpa [Array.getElem?_eq_getElem hlt] using h
  show (w.heap.modify b _)[b]? = _
  rw [Array.getElem?_eq_getElem (by simpa using hlt), Array.getElem_modify_self, h']
  rfl
theorem blk_new (w : World) (o : Obj) : (w.alloc o).heap[w.heap.size]? = some o := by
  show (w.heap.push o)[w.heap.size]? = _
  rw [Array.getElem?_push, if_pos rfl]
theorem blk_past {w : World} {b : Nat} {o : Obj} (h : w.heap[b]? = some o) (o' : Obj) : (w.alloc o').heap[b]? = some o := by
  rw [Below.heap_alloc _ _ _ (lt_of_block h)]; exact h
theorem blk_other {w : World} {b : Nat} {o : Obj} (h : w.heap[b]? = some o) {a : Addr} (ha : b ≠ a.block) (u : Value) : (w.setCell a u).heap[b]? = some o := by
  rw [Below.heap_setCell _ _ _ _ ha]; exact h

/-! ### the document's reader: it goes on behind an error -/
/-- What a reading makes of a state: behind an error nothing is read. -/
def stRun {α : Type} (r : List UInt8 → Except Int (α × List UInt8)) (d : α) (st : Except Int (List UInt8)) : α × Except Int (List UInt8) :=
  match st with
  | .error c => (d, .error c)
  | .ok l =>
    match r l with
    | .ok (a, t) => (a, .ok t)
    | .error c => (d, .error c)
theorem stRun_err {α : Type} (r : List UInt8 → Except Int (α × List UInt8)) (d : α) (c : Int) : stRun r d (.error c) = (d, .error c) := rfl
theorem stRun_ok {α : Type} {r : List UInt8 → Except Int (α × List UInt8)} {d a : α} {l t : List UInt8} (h : r l = .ok (a, t)) : stRun r d (.ok l) = (a, .ok t) := by simp only [stRun, h]
theorem stRun_no {α : Type} {r : List UInt8 → Except Int (α × List UInt8)} {d : α} {l : List UInt8} {c : Int} (h : r l = .error c) : stRun r d (.ok l) = (d, .error c) := by simp only [stRun, h]

/-- Nothing that was there has turned. -/
def Nil : Nat → Obj → Prop := fun _ _ => False
/-- Block b alone. -/
def One (b : Nat) : Nat → Obj → Prop := fun k _ => k = b

end Go.Proofs.Ytmlncfnnldplgaa
