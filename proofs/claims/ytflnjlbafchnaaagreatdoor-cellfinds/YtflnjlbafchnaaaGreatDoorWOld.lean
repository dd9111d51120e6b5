/-
  Joined: WBase, WCfg1, WTab1, WEnc, WApp, WWrite, WCrc, WSum, WRef, WFrame1, WNum, WRead, WFrame2, WCatch, WFrame3, WGen, WEnt1, WTab2, WTorn1, WTimes, WNums, WLog1, WStepA, WLog2, WKv0, WKv1, WKvM, WKv2, WKv3.
-/
import Derived.WalkKit
import Derived.WalkLawsBesides
import Derived.WalkSpells
import Derived.Below
import Derived.OneCell
import Derived.Test.YtflnjlbafchnaaaGreatDoorProg
import Derived.Outline
import Derived.Deep.DeepMust
import Derived.Deep.QuietTactic
import Derived.BigQuiet
import Derived.Laws.BitsAllLaws
import Derived.Laws.BytesArg
import Derived.Deep.AppendSrc
import Derived.Laws.CopyRow
import Derived.OwnWalk
import Derived.Laws.IdiomStrings
import Derived.Recover
import Derived.Defers
import Derived.RegionCalls
import Derived.Deep.RegionWith
import Derived.Laws.OwnMore
import Derived.Deep.CutRange
import Derived.Deep.CutBlock
import Derived.Deep.LoopGhost
import Derived.Deep.RegionLaw
import Derived.Lib.SliceRun
import Derived.Lib.AppendZeros
import Derived.Shelf.Small.Strs
import Derived.Deep.DeepFit
import Derived.BigRegion
import Derived.Deep.RegionHeld3
/-
  The plain mathematics of the wire format, in which the two readers and the two writers are told alike: bytes as lists, a number read byte by byte, a text, and what a call leaves of the memory that was there.
-/
namespace Go.Proofs.YtflnjlbafchnaaaGreatDoor
open Go.RowKit

theorem ret_int {k : IntKind} {a b : Int} (h : a = b) : Ending.returned (.int k a) = .returned (.int k b) := by rw [h]

/-! ### bytes as a list -/

def bs (l : List UInt8) : ByteArray := ⟨l.toArray⟩
theorem bs_size (l : List UInt8) : (bs l).size = l.length := by simp [bs, ByteArray.size]
theorem bs_take (l : List UInt8) (n : Nat) : (bs l).extract 0 n = bs (l.take n) := by
  apply ByteArray.ext; simp [bs]
theorem bs_drop (l : List UInt8) (n : Nat) : (bs l).extract n (bs l).size = bs (l.drop n) := by
  apply ByteArray.ext; simp [bs, ByteArray.size]; exact List.take_of_length_le (by simp)
theorem bs_append (a b : List UInt8) : bs a ++ bs b = bs (a ++ b) := by
  apply ByteArray.ext; simp [bs]
theorem bs_self (s : ByteArray) : bs s.data.toList = s := by
  apply ByteArray.ext; simp [bs]
theorem bs_at (l : List UInt8) (i : Nat) (h : i < (bs l).size) : (bs l)[i]'h = l[i]'(by rw [← bs_size]; exact h) := by
  simp [bs, ByteArray.getElem_eq_getElem_data]
theorem bs_data (l : List UInt8) : (bs l).data.toList = l := by simp [bs]
theorem bs_toList (l : List UInt8) : (bs l).toList = l := by rw [Go.ByteArray.toList_eq, bs_data]
theorem bs_inj {a b : List UInt8} (h : bs a = bs b) : a = b := by
  have := congrArg (fun s => s.data.toList) h
  simpa [bs] using this

/-! ### a number -/

def maxNum : Nat := 1099511627775

/-- A number's bytes from the k-th on, x what the bytes ahead of it say: the number and what is left; or the error. -/
def numGo : Nat → Nat → List UInt8 → Except Int (Nat × List UInt8)
  | _, _, [] => .error 3
  | k, x, c :: t =>
    if k ≤ 5 ∧ x + c.toNat % 128 * 2 ^ (7 * k) ≤ maxNum ∧ (c.toNat ≠ 0 ∨ k = 0) then
      if c.toNat < 128 then .ok (x + c.toNat % 128 * 2 ^ (7 * k), t) else numGo (k + 1) (x + c.toNat % 128 * 2 ^ (7 * k)) t
    else .error 1

def rdNum (l : List UInt8) : Except Int (Nat × List UInt8) := numGo 0 0 l

theorem numGo_nil (k x : Nat) : numGo k x [] = .error 3 := rfl
theorem numGo_bad {k x : Nat} {c : UInt8} {t : List UInt8} (h : ¬ (k ≤ 5 ∧ x + c.toNat % 128 * 2 ^ (7 * k) ≤ maxNum ∧ (c.toNat ≠ 0 ∨ k = 0))) : numGo k x (c :: t) = .error 1 := by
  rw [numGo, if_neg h]
theorem numGo_end {k x : Nat} {c : UInt8} {t : List UInt8} (h : k ≤ 5 ∧ x + c.toNat % 128 * 2 ^ (7 * k) ≤ maxNum ∧ (c.toNat ≠ 0 ∨ k = 0)) (h2 : c.toNat < 128) : numGo k x (c :: t) = .ok (x + c.toNat % 128 * 2 ^ (7 * k), t) := by
  rw [numGo, if_pos h, if_pos h2]
theorem numGo_more {k x : Nat} {c : UInt8} {t : List UInt8} (h : k ≤ 5 ∧ x + c.toNat % 128 * 2 ^ (7 * k) ≤ maxNum ∧ (c.toNat ≠ 0 ∨ k = 0)) (h2 : ¬ c.toNat < 128) : numGo k x (c :: t) = numGo (k + 1) (x + c.toNat % 128 * 2 ^ (7 * k)) t := by
  rw [numGo, if_pos h, if_neg h2]

theorem numGo_ok {l : List UInt8} : ∀ {k x n : Nat} {t : List UInt8}, numGo k x l = .ok (n, t) → n ≤ maxNum ∧ t.length < l.length := by
  induction l with
  | nil => intro k x n t h; simp [numGo] at h
  | cons c l ih =>
    intro k x n t h
    by_cases h1 : k ≤ 5 ∧ x + c.toNat % 128 * 2 ^ (7 * k) ≤ maxNum ∧ (c.toNat ≠ 0 ∨ k = 0)
    · by_cases h2 : c.toNat < 128
      · rw [numGo_end h1 h2] at h
        simp only [Except.ok.injEq, Prod.mk.injEq] at h
        obtain ⟨rfl, rfl⟩ := h
        exact ⟨h1.2.1, by simp⟩
      · rw [numGo_more h1 h2] at h
        have := ih h
        exact ⟨this.1, by simp; omega⟩
    · rw [numGo_bad h1] at h; simp at h

theorem rdNum_ok {l t : List UInt8} {n : Nat} (h : rdNum l = .ok (n, t)) : n ≤ maxNum ∧ t.length < l.length := numGo_ok h

/-- A number that is a length or a count. -/
def rdUpTo (most : Nat) (l : List UInt8) : Except Int (Nat × List UInt8) :=
  match rdNum l with
  | .ok (n, t) => if n ≤ most then .ok (n, t) else .error 4
  | .error c => .error c
def rdTake (n : Nat) (l : List UInt8) : Except Int (List UInt8 × List UInt8) :=
  if n ≤ l.length then .ok (l.take n, l.drop n) else .error 3
/-- A text of at most so many bytes. -/
def rdText (most : Nat) (l : List UInt8) : Except Int (List UInt8 × List UInt8) :=
  match rdUpTo most l with
  | .ok (n, t) => rdTake n t
  | .error c => .error c

theorem rdUpTo_ok {most n : Nat} {l t : List UInt8} (h : rdUpTo most l = .ok (n, t)) : n ≤ most ∧ n ≤ maxNum ∧ t.length < l.length := by
  unfold rdUpTo at h
  split at h
  · rename_i m u hr
    have := rdNum_ok hr
    split at h
    · simp only [Except.ok.injEq, Prod.mk.injEq] at h
      obtain ⟨rfl, rfl⟩ := h
      exact ⟨by assumption, this⟩
    · cases h
  · cases h

theorem pow7 (k : Nat) (h : k ≤ 6) : 2 ^ (7 * k) ≤ 4398046511104 := by
  have h1 : 2 ^ (7 * k) ≤ 2 ^ 42 := Nat.pow_le_pow_right (by omega) (by omega)
  have h2 : 2 ^ 42 = 4398046511104 := by decide
  omega

/-- The step of both readers: the next seven bits. -/
theorem step_lt {k x y : Nat} (hx : x < 2 ^ (7 * k)) (hy : y < 128) : x + y * 2 ^ (7 * k) < 2 ^ (7 * (k + 1)) := by
  have : 2 ^ (7 * (k + 1)) = 128 * 2 ^ (7 * k) := by rw [Nat.mul_add, Nat.pow_add]; omega
  rw [this]
  have : (y + 1) * 2 ^ (7 * k) ≤ 128 * 2 ^ (7 * k) := Nat.mul_le_mul_right _ (by omega)
  rw [Nat.add_mul] at this
  omega

theorem or_add {k x y : Nat} (hx : x < 2 ^ (7 * k)) : x ||| y * 2 ^ (7 * k) = x + y * 2 ^ (7 * k) := by
  rw [Nat.or_comm, ← Nat.shiftLeft_eq, ← Nat.shiftLeft_add_eq_or_of_lt hx, Nat.add_comm]

/-! ### what a call leaves of memory -/

/-- Of the blocks that were there those that 'X' doesn't name are as they were. -/
structure Kept (X : Nat → Obj → Prop) (w w' : World) : Prop where
  os : w'.os = w.os
  tape : w'.tape = w.tape
  output : w'.output = w.output
  size : w.heap.size ≤ w'.heap.size
  block : ∀ k o, w.heap[k]? = some o → ¬ X k o → w'.heap[k]? = some o

theorem Kept.refl (X : Nat → Obj → Prop) (w : World) : Kept X w w := ⟨rfl, rfl, rfl, Nat.le_refl _, fun _ _ h _ => h⟩
theorem Kept.trans {X : Nat → Obj → Prop} {a b c : World} (h : Kept X a b) (k : Kept X b c) : Kept X a c :=
  ⟨k.os.trans h.os, k.tape.trans h.tape, k.output.trans h.output, Nat.le_trans h.size k.size, fun i o ho hx => k.block i o (h.block i o ho hx) hx⟩
theorem Kept.mono {X Y : Nat → Obj → Prop} {a b : World} (h : Kept X a b) (hXY : ∀ k o, X k o → Y k o) : Kept Y a b :=
  ⟨h.os, h.tape, h.output, h.size, fun i o ho hx => h.block i o ho (fun x => hx (hXY _ _ x))⟩
theorem Kept.drew {X : Nat → Obj → Prop} {a w : World} (h : Kept X a w) : Kept X a w.drew := ⟨h.os, h.tape, h.output, h.size, h.block⟩
theorem Kept.alloc {X : Nat → Obj → Prop} {a w : World} (h : Kept X a w) (o : Obj) : Kept X a (w.alloc o) :=
  h.trans ⟨rfl, rfl, rfl, by simp, fun k p hp _ => by
    have hk : k < w.heap.size := by
      by_cases hk : k < w.heap.size
      · exact hk
      · rw [Array.getElem?_eq_none (by omega)] at hp; cases hp
    rw [Below.heap_alloc _ _ _ hk]; exact hp⟩
theorem Kept.setCell {X : Nat → Obj → Prop} {a w : World} (h : Kept X a w) {p : Addr} (hp : ∀ o, X p.block o) (u : Value) : Kept X a (w.setCell p u) :=
  h.trans ⟨rfl, rfl, rfl, by simp [World.setCell], fun k o ho hx => by
    rw [Below.heap_setCell _ _ _ _ (fun e => hx (by rw [e]; exact hp o))]; exact ho⟩
/-- A store into a block that was not there at first. -/
theorem Kept.setNew {X : Nat → Obj → Prop} {a w : World} (h : Kept X a w) {p : Addr} (hp : a.heap.size ≤ p.block) (u : Value) : Kept X a (w.setCell p u) :=
  ⟨h.os, h.tape, h.output, by simpa [World.setCell] using h.size, fun k o ho hx => by
    have hk : k < a.heap.size := by
      by_cases hk : k < a.heap.size
      · exact hk
      · rw [Array.getElem?_eq_none (by omega)] at ho; cases ho
    rw [Below.heap_setCell _ _ _ _ (by omega)]; exact h.block k o ho hx⟩
theorem Kept.below {X : Nat → Obj → Prop} {B : Nat} {w w' : World} (h : Kept X w w') (hX : ∀ k o, X k o → B ≤ k) (hB : B ≤ w.heap.size) : Below B w w' :=
  ⟨h.os, h.tape, h.output, h.size, fun k hk => by
    have : w.heap[k]? = some (w.heap[k]'(by omega)) := Array.getElem?_eq_getElem (by omega)
    rw [h.block k _ this (fun x => by have := hX _ _ x; omega), this]⟩
theorem Kept.ofBelow {w w' : World} (h : Below w.heap.size w w') (X : Nat → Obj → Prop) : Kept X w w' :=
  ⟨h.os, h.tape, h.output, h.size, fun k o ho _ => by
    have hk : k < w.heap.size := by
      by_cases hk : k < w.heap.size
      · exact hk
      · rw [Array.getElem?_eq_none (by omega)] at ho; cases ho
    rw [h.block k hk]; exact ho⟩
theorem Kept.cell {X : Nat → Obj → Prop} {w w' : World} (h : Kept X w w') {b : Nat} {o : Obj} (hb : w.heap[b]? = some o) (hx : ¬ X b o) (i : Nat) : w'.cell? ⟨b, i, none⟩ = w.cell? ⟨b, i, none⟩ :=
  World.cell?_of_block (w := w) (a := ⟨b, i, none⟩) (by rw [h.block b o hb hx, hb])
/-! ### a block of cells -/
theorem blk_cell {w : World} {b : Nat} {cs : Array Value} {t : TypeId} (h : w.heap[b]? = some (.cells cs t (0, 0))) (i : Nat) : w.cell? ⟨b, i, none⟩ = cs[i]? := by simp [World.cell?, h]
theorem blk_free {w : World} {b : Nat} {cs : Array Value} {t : TypeId} (h : w.heap[b]? = some (.cells cs t (0, 0))) (i : Nat) : w.frozen? ⟨b, i, none⟩ = false := by simp [World.frozen?, h]
theorem blk_set {w : World} {b : Nat} {cs : Array Value} {t : TypeId} (h : w.heap[b]? = some (.cells cs t (0, 0))) (i : Nat) (u : Value) : (w.setCell ⟨b, i, none⟩ u).heap[b]? = some (.cells (cs.setIfInBounds i u) t (0, 0)) := by
  have hlt := lt_of_block h
  have h' : w.heap[b] = .cells cs t (0, 0) := by simpa [Array.getElem?_eq_getElem hlt] using h
  show (w.heap.modify b _)[b]? = _
  rw [Array.getElem?_eq_getElem (by simpa using hlt), Array.getElem_modify_self, h']
  rfl
theorem blk_new (w : World) (o : Obj) : (w.alloc o).heap[w.heap.size]? = some o := by
  show (w.heap.push o)[w.heap.size]? = _
  rw [Array.getElem?_push, if_pos rfl]
theorem blk_past {w : World} {b : Nat} {o : Obj} (h : w.heap[b]? = some o) (o' : Obj) : (w.alloc o').heap[b]? = some o := by
  rw [Below.heap_alloc _ _ _ (lt_of_block h)]; exact h
theorem blk_other {w : World} {b : Nat} {o : Obj} (h : w.heap[b]? = some o) {a : Addr} (ha : b ≠ a.block) (u : Value) : (w.setCell a u).heap[b]? = some o := by
  rw [Below.heap_setCell _ _ _ _ ha]; exact h

/-! ### the document's reader: it goes on behind an error -/
/-- What a reading makes of a state: behind an error nothing is read. -/
def stRun {α : Type} (r : List UInt8 → Except Int (α × List UInt8)) (d : α) (st : Except Int (List UInt8)) : α × Except Int (List UInt8) :=
  match st with
  | .error c => (d, .error c)
  | .ok l =>
    match r l with
    | .ok (a, t) => (a, .ok t)
    | .error c => (d, .error c)
theorem stRun_err {α : Type} (r : List UInt8 → Except Int (α × List UInt8)) (d : α) (c : Int) : stRun r d (.error c) = (d, .error c) := rfl
theorem stRun_ok {α : Type} {r : List UInt8 → Except Int (α × List UInt8)} {d a : α} {l t : List UInt8} (h : r l = .ok (a, t)) : stRun r d (.ok l) = (a, .ok t) := by simp only [stRun, h]
theorem stRun_no {α : Type} {r : List UInt8 → Except Int (α × List UInt8)} {d : α} {l : List UInt8} {c : Int} (h : r l = .error c) : stRun r d (.ok l) = (d, .error c) := by simp only [stRun, h]

/-- Nothing that was there has turned. -/
def Nil : Nat → Obj → Prop := fun _ _ => False
/-- Block b alone. -/
def One (b : Nat) : Nat → Obj → Prop := fun k _ => k = b

end Go.Proofs.YtflnjlbafchnaaaGreatDoor

/-
  Rows of numbers, read where they lie: are they nodes, rising; is a number among them: by the program (slices.Contains, slices.Index) and by the document's answer.
-/
namespace Go.Proofs.YtflnjlbafchnaaaGreatDoor
open Go.RowKit

theorem Kept.drewN {X : Nat → Obj → Prop} {a w : World} (h : Kept X a w) (n : Nat) : Kept X a (w.drewN n) := ⟨h.os, h.tape, h.output, h.size, h.block⟩

/-- A row of numbers that lies below block B. -/
def IntRow (B : Nat) (w : World) (ao : Option Addr) (zs : List Int) : Prop := ∀ j, (hj : j < zs.length) → ∃ a, ao = some a ∧ a.block < B ∧ w.cell? (a.add j) = some (.int .i64 zs[j])
theorem IntRow.kept {X : Nat → Obj → Prop} {B : Nat} {w w' : World} {ao : Option Addr} {zs : List Int} (h : IntRow B w ao zs) (hk : Kept X w w') (hX : ∀ k o, k < B → ¬ X k o) : IntRow B w' ao zs := by
  intro j hj
  obtain ⟨a, ha, hb, hc⟩ := h j hj
  refine ⟨a, ha, hb, ?_⟩
  have e : (a.add j).block = a.block := by unfold Addr.add; split <;> rfl
  have hlt : a.block < w.heap.size := by
    have : (a.add j).block < w.heap.size := World.block_lt_of_cell? w _ hc
    omega
  rw [World.cell?_of_block (w := w) (by rw [e, hk.block a.block _ (Array.getElem?_eq_getElem hlt) (hX _ _ hb), Array.getElem?_eq_getElem hlt])]
  exact hc
theorem IntRow.nil {B : Nat} {w w' : World} {ao : Option Addr} {zs : List Int} (h : IntRow B w ao zs) (hk : Kept Nil w w') : IntRow B w' ao zs := h.kept hk (fun _ _ _ x => x)
theorem IntRow.alloc {B : Nat} {w : World} {ao : Option Addr} {zs : List Int} (h : IntRow B w ao zs) (o : Obj) : IntRow B (w.alloc o) ao zs := h.nil ((Kept.refl _ _).alloc o)
theorem IntRow.mono {B B' : Nat} {w : World} {ao : Option Addr} {zs : List Int} (h : IntRow B w ao zs) (hB : B ≤ B') : IntRow B' w ao zs := fun j hj => by
  obtain ⟨a, ha, hb, hc⟩ := h j hj
  exact ⟨a, ha, by omega, hc⟩
theorem IntRow.full {B : Nat} {w : World} {ao : Option Addr} {zs : List Int} (h : IntRow B w ao zs) : IntRow w.heap.size w ao zs := fun j hj => by
  obtain ⟨a, ha, hb, hc⟩ := h j hj
  have e : (a.add j).block = a.block := by unfold Addr.add; split <;> rfl
  have := World.block_lt_of_cell? w _ hc
  exact ⟨a, ha, by omega, hc⟩
theorem intRow_nil (B : Nat) (w : World) (ao : Option Addr) : IntRow B w ao [] := fun j hj => by simp at hj

/-! ### rising -/
def isNd (z : Int) : Bool := decide (1 ≤ z) && decide (z ≤ 9)
def rise : Int → List Int → Bool
  | _, [] => true
  | p, z :: t => isNd z && decide (p < z) && rise z t
def pv (zs : List Int) (k : Nat) : Int := if k = 0 then 0 else zs.getD (k - 1) 0
theorem rise_at {zs : List Int} {k : Nat} (h : k < zs.length) : rise (pv zs k) (zs.drop k) = (isNd zs[k] && decide (pv zs k < zs[k]) && rise (pv zs (k + 1)) (zs.drop (k + 1))) := by
  have e : pv zs (k + 1) = zs[k] := by simp [pv, List.getD_eq_getElem?_getD, h]
  rw [List.drop_eq_getElem_cons h, e]
  rfl
theorem rise_end {zs : List Int} {k : Nat} (h : ¬ k < zs.length) : rise (pv zs k) (zs.drop k) = true := by
  rw [List.drop_of_length_le (by omega)]
  rfl

/-! ### among them -/
def pos (z : Int) : Nat → List Int → Int
  | _, [] => -1
  | k, y :: t => if y = z then k else pos z (k + 1) t
theorem pos_at {zs : List Int} {z : Int} {k : Nat} (h : k < zs.length) : pos z k (zs.drop k) = if zs[k] = z then (k : Int) else pos z (k + 1) (zs.drop (k + 1)) := by
  rw [List.drop_eq_getElem_cons h]
  rfl
/-- Is a number among them? -/
def hasZ (zs : List Int) (z : Int) : Bool := decide (0 ≤ pos z 0 zs)
theorem pos_has (z : Int) : ∀ (zs : List Int) (k : Nat), decide (0 ≤ pos z k zs) = zs.contains z
  | [], k => rfl
  | y :: t, k => by
    unfold pos
    by_cases h : y = z
    · rw [if_pos h, List.contains_cons, h]
      simp
    · rw [if_neg h, pos_has z t (k + 1), List.contains_cons]
      have : (z == y) = false := by simp; exact fun e => h e.symm
      rw [this, Bool.false_or]

theorem hasZ_eq (zs : List Int) (z : Int) : hasZ zs z = zs.contains z := pos_has z zs 0

/-! ### the document's -/
end Go.Proofs.YtflnjlbafchnaaaGreatDoor

/-
  Keys: a row of texts, rising, none too long: by the program (areKeys).
-/
namespace Go.Proofs.YtflnjlbafchnaaaGreatDoor
open Go.RowKit

/-- A row of texts that lies below block B. -/
def StrRow (B : Nat) (w : World) (ao : Option Addr) (ks : List (List UInt8)) : Prop := ∀ j, (hj : j < ks.length) → ∃ a, ao = some a ∧ a.block < B ∧ w.cell? (a.add j) = some (.string (bs ks[j])) ∧ ks[j].length ≤ maxLen
theorem StrRow.kept {X : Nat → Obj → Prop} {B : Nat} {w w' : World} {ao : Option Addr} {ks : List (List UInt8)} (h : StrRow B w ao ks) (hk : Kept X w w') (hX : ∀ k o, k < B → ¬ X k o) : StrRow B w' ao ks := by
  intro j hj
  obtain ⟨a, ha, hb, hc, hl⟩ := h j hj
  refine ⟨a, ha, hb, ?_, hl⟩
  have e : (a.add j).block = a.block := by unfold Addr.add; split <;> rfl
  have hlt : a.block < w.heap.size := by
    have : (a.add j).block < w.heap.size := World.block_lt_of_cell? w _ hc
    omega
  rw [World.cell?_of_block (w := w) (by rw [e, hk.block a.block _ (Array.getElem?_eq_getElem hlt) (hX _ _ hb), Array.getElem?_eq_getElem hlt])]
  exact hc
theorem StrRow.nil {B : Nat} {w w' : World} {ao : Option Addr} {ks : List (List UInt8)} (h : StrRow B w ao ks) (hk : Kept Nil w w') : StrRow B w' ao ks := h.kept hk (fun _ _ _ x => x)
theorem StrRow.alloc {B : Nat} {w : World} {ao : Option Addr} {ks : List (List UInt8)} (h : StrRow B w ao ks) (o : Obj) : StrRow B (w.alloc o) ao ks := h.nil ((Kept.refl _ _).alloc o)

/-- Is one text ahead of another? -/
def lessB (x y : List UInt8) : Bool := Op.bytesLess x y
/-- Rising, none longer than 16 (the first one may be anything). -/
def kRise : Option (List UInt8) → List (List UInt8) → Bool
  | _, [] => true
  | p, k :: t => decide (k.length ≤ 16) && (match p with | none => true | some q => lessB q k) && kRise (some k) t
def kpv (ks : List (List UInt8)) (k : Nat) : Option (List UInt8) := if k = 0 then none else ks[k - 1]?
theorem kRise_at {ks : List (List UInt8)} {k : Nat} (h : k < ks.length) : kRise (kpv ks k) (ks.drop k) = (decide (ks[k].length ≤ 16) && (match kpv ks k with | none => true | some q => lessB q ks[k]) && kRise (kpv ks (k + 1)) (ks.drop (k + 1))) := by
  have e : kpv ks (k + 1) = some ks[k] := by simp [kpv, h]
  rw [List.drop_eq_getElem_cons h, e]
  rfl
theorem kRise_end {ks : List (List UInt8)} {k : Nat} (h : ¬ k < ks.length) : kRise (kpv ks k) (ks.drop k) = true := by
  rw [List.drop_of_length_le (by omega)]
  unfold kRise
  cases kpv ks k <;> rfl
def keysOk (ks : List (List UInt8)) : Bool := decide (ks.length ≤ 32) && kRise none ks

end Go.Proofs.YtflnjlbafchnaaaGreatDoor

/-
  The document's writers of a number and of a text, in plain bytes.
-/
namespace Go.Proofs.YtflnjlbafchnaaaGreatDoor
open Go.RowKit

/-- A number's bytes. -/
def encF : Nat → Nat → List UInt8
  | 0, n => [UInt8.ofNat n]
  | f + 1, n => if n < 128 then [UInt8.ofNat n] else UInt8.ofNat (128 + n % 128) :: encF f (n / 128)
def enc (n : Nat) : List UInt8 := encF n n
theorem encF_small {n : Nat} (h : n < 128) : ∀ f, encF f n = [UInt8.ofNat n]
  | 0 => rfl
  | f + 1 => by rw [encF, if_pos h]
theorem encF_same : ∀ (f g n : Nat), n ≤ f → n ≤ g → encF f n = encF g n
  | 0, g, n, hf, _ => by rw [encF_small (by omega) 0, encF_small (by omega) g]
  | f + 1, 0, n, _, hg => by rw [encF_small (by omega) 0, encF_small (by omega) (f + 1)]
  | f + 1, g + 1, n, hf, hg => by
    by_cases h : n < 128
    · rw [encF_small h, encF_small h]
    · rw [encF, encF, if_neg h, if_neg h, encF_same f g (n / 128) (by omega) (by omega)]
theorem enc_small {n : Nat} (h : n < 128) : enc n = [UInt8.ofNat n] := encF_small h n
theorem enc_big {n : Nat} (h : ¬ n < 128) : enc n = UInt8.ofNat (128 + n % 128) :: enc (n / 128) := by
  unfold enc
  obtain ⟨m, rfl⟩ : ∃ m, n = m + 1 := ⟨n - 1, by omega⟩
  rw [encF, if_neg h, encF_same m ((m + 1) / 128) ((m + 1) / 128) (by omega) (by omega)]
theorem ofNat_toNat {n : Nat} (h : n < 256) : (UInt8.ofNat n).toNat = n := by rw [UInt8.toNat_ofNat']; omega
theorem enc_small_byte {n : Nat} (h : n < 128) : ∃ d : UInt8, enc n = [d] ∧ d.toNat = n := ⟨_, enc_small h, ofNat_toNat (by omega)⟩
theorem enc_big_byte {n : Nat} (h : ¬ n < 128) : ∃ d : UInt8, enc n = d :: enc (n / 128) ∧ d.toNat = 128 + n % 128 := ⟨_, enc_big h, ofNat_toNat (by omega)⟩
theorem or_high : ∀ x, x < 256 → x ||| 128 = 128 + x % 128 := by decide +kernel
theorem or128 (r : Nat) : bits .or .u8 ((r : Int) % 256) 128 = ((128 + r % 128 : Nat) : Int) := by
  have e : ((r : Int) % 256) = ((r % 256 : Nat) : Int) := by omega
  have := u8_or_nat (r % 256) 128 (by omega) (by omega)
  rw [e]
  refine this.trans ?_
  rw [or_high _ (by omega)]
  omega
def encText (l : List UInt8) : List UInt8 := enc l.length ++ l
theorem enc_length (n : Nat) : ∀ k, n < 128 ^ (k + 1) → (enc n).length ≤ k + 1 := by
  intro k
  induction k generalizing n with
  | zero => intro h; rw [enc_small (by omega)]; simp
  | succ k ih =>
    intro h
    by_cases hn : n < 128
    · rw [enc_small hn]; simp
    · rw [enc_big hn]
      have : n / 128 < 128 ^ (k + 1) := by
        rw [Nat.div_lt_iff_lt_mul (by omega)]
        rw [Nat.pow_succ] at h
        exact h
      have := ih _ this
      simp; omega

/-- A literal's bytes as a string. -/
theorem conv1 (w : World) (x : Int) :
    (convert 159 9 (.slice (some ⟨w.heap.size, 0, none⟩) 1 1)).run Tryz.prog (w.alloc (.cells #[.int .u8 x] 5)) = .ok (.string (bs [UInt8.ofNat x.toNat])) (w.alloc (.cells #[.int .u8 x] 5)) := by
  refine (run_convert_bytes_arg _ 159 5 Tryz.underlying159 Tryz.underlying5 w.heap.size 0 1 1 [x] rfl ?_ 9 Tryz.underlying9).trans ?_
  · intro i hi
    obtain rfl : i = 0 := by omega
    exact blk_cell (blk_new w _) 0
  · rfl

theorem enc_len6 {n : Nat} (h : n ≤ 1099511627775) : (enc n).length ≤ 6 := enc_length _ 5 (by omega)

end Go.Proofs.YtflnjlbafchnaaaGreatDoor

/-
  'append' onto a row of the call's own, of whatever is appended (a slice's elements, a string's bytes): what is owned behind it. A law on the model, over any program.
-/
namespace Go.Proofs.YtflnjlbafchnaaaGreatDoor
open Go.RowKit
variable {P : Program} (w : World)

theorem room_src (t tx ty e : TypeId) (i : TypeInfo) (ht : P.underlying t = some (.slice e)) (hi : P.info? e = some i)
    (g sLen sCap : Nat) (cur : Array Value) (hg : w.heap[g]? = some (.cells cur e (0, 0))) (x : Value) (m : Nat) (news : List Value) (hs : Src P i.size tx x m news w)
    (hroom : sLen + m ≤ sCap) (hfit : sLen * i.size + news.length ≤ cur.size) :
    (Builtin.append_ #[t, tx] ty #[.slice (some ⟨g, 0, none⟩) sLen sCap, x]).run P w =
      .ok (.slice (some ⟨g, 0, none⟩) (sLen + m) sCap) (w.setRow g (cur.toList.take (sLen * i.size) ++ news ++ cur.toList.drop (sLen * i.size + news.length)).toArray) := by
  have hst := run_storeCells_at P g (sLen * i.size) e news 0 cur w hg (by simpa using hfit) hs.one
  simp only [Nat.add_zero] at hst
  rcases hs.kind with ⟨e', hk⟩ | hk <;> simp [Builtin.append_, run_underlying ht, run_underlying hk, sizeOf, typeInfo, hi, hs.len, hroom, hs.cells, Addr.add_lit, hst]

theorem run_append_src (base : Nat) (t tx ty e : TypeId) (i : TypeInfo) (z : Value) (size bytes : Nat) (ht : P.underlying t = some (.slice e)) (hi : P.info? e = some i) (hz : i.zero = some z)
    (hsize : i.size = size) (hby : i.bytes = bytes) (hzs : z.cells.size = size)
    (v : Value) (n : Nat) (xs : List Value) (hown : w.ownsRow base e size v n xs) (x : Value) (m : Nat) (news : List Value) (hs : Src P size tx x m news w)
    (h63 : n + m ≤ maxLen) (hbytes : (n + m) * bytes ≤ 140737488355328) (hbase : base ≤ w.heap.size) :
    ∃ v' w', (Builtin.append_ #[t, tx] ty #[v, x]).run P w = .ok v' w' ∧ w'.ownsRow base e size v' (n + m) (xs ++ news) ∧ w.grownBy w' v.ownBlock := by
  subst hsize
  subst hby
  have hsmall : n + m ≤ 9223372036854775807 := by simp only [maxLen] at h63; omega
  have hl := hs.newsLen
  have hlen : (xs ++ news).length = (n + m) * i.size := by rw [List.length_append, hown.1, hl, Nat.add_mul]
  have grown : ∀ (old : Nat), ∀ (row : Option Nat),
      (w.drew.alloc (.cells ((xs ++ news).toArray ++ Builtin.zeroCells z.cells (grownCap w (n + m) old e - (n + m))) e)).ownsRow base e i.size
        (.slice (some ⟨w.heap.size, 0, none⟩) (n + m) (grownCap w (n + m) old e)) (n + m) (xs ++ news) ∧
      w.grownBy (w.drew.alloc (.cells ((xs ++ news).toArray ++ Builtin.zeroCells z.cells (grownCap w (n + m) old e - (n + m))) e)) row := by
    intro old row
    have hge := grownCap_ge w (n + m) old e
    have hcm : grownCap w (n + m) old e ≤ maxLen := grownCap_le_maxLen w (n + m) old e h63
    refine ⟨⟨hlen, .inr ⟨w.heap.size, _, _, rfl, hbase, heap_alloc_new w.drew _, hge, hcm, ?_, ?_⟩⟩, ⟨rfl, rfl, rfl, by simp, fun k hk _ => Below.heap_alloc w.drew _ k hk⟩⟩
    · simp only [Array.size_append, List.size_toArray, size_zeroCells, hzs, hlen, ← Nat.add_mul]
      congr 1
      omega
    · simp only [Array.toList_append]
      rw [← hlen]
      exact List.take_left
  rcases hown.2 with ⟨rfl, rfl⟩ | ⟨g, cap, cur, rfl, hbg, hg, hnc, hcm, hcs, htake⟩
  · have hx : xs = [] := List.eq_nil_of_length_eq_zero (by simpa using hown.1)
    subst hx
    by_cases hm : m = 0
    · subst hm
      have hn : news = [] := List.eq_nil_of_length_eq_zero (by simpa using hl)
      subst hn
      refine ⟨.slice none 0 0, w, ?_, World.ownsRow_nil w base e i.size, ⟨rfl, rfl, rfl, Nat.le_refl _, fun _ _ _ => rfl⟩⟩
      rcases hs.kind with ⟨e', hk⟩ | hk <;> simp [Builtin.append_, run_underlying ht, run_underlying hk, sizeOf, typeInfo, hi, hs.len, hs.cells]
    · have hr := run_append_grow_src (P := P) w t tx ty e i z ht hi hz none 0 0 [] (run_firstCells_none w.drew i.size 0 0 0) x m news hs (by omega) (by omega) (growslice_fits (by omega) hbytes)
      have hgr := grown 0 (Value.ownBlock (.slice none 0 0))
      exact ⟨_, _, hr, hgr.1, hgr.2⟩
  · by_cases hroom : n + m ≤ cap
    · have hfit : n * i.size + news.length ≤ cur.size := by rw [hl, hcs, ← Nat.add_mul]; exact Nat.mul_le_mul_right _ hroom
      have hr := room_src (P := P) w t tx ty e i ht hi g n cap cur hg x m news hs hroom hfit
      refine ⟨_, _, hr, ⟨hlen, .inr ⟨g, cap, _, rfl, hbg, setRow_heap w g cur _ e _ hg, hroom, hcm, ?_, ?_⟩⟩, ⟨rfl, rfl, rfl, by simp, fun k _ hk => setRow_other w g k _ (fun e => hk (by simp [Value.ownBlock, e]))⟩⟩
      · simp only [List.size_toArray, List.length_append, List.length_take, List.length_drop, Array.length_toList]
        omega
      · rw [htake, ← hlen]
        exact List.take_left
    · have holds : ∀ j u, xs[j]? = some u → w.cell? ((⟨g, 0, none⟩ : Addr).add j) = some u := hown.cells (g := g) rfl
      have hr := run_append_grow_src (P := P) w t tx ty e i z ht hi hz (some ⟨g, 0, none⟩) n cap xs (run_firstCells_some w.drew i.size n ⟨g, 0, none⟩ n cap xs hown.1 holds) x m news hs (by omega) (by omega) (growslice_fits (by omega) hbytes)
      have hgr := grown cap (Value.ownBlock (.slice (some ⟨g, 0, none⟩) n cap))
      exact ⟨_, _, hr, hgr.1, hgr.2⟩

theorem wp_append_src {o : Oper} {a : Act} {K : Act → World → Prop} {Q : Exit → Act → World → Prop} (s xo : Operand) (t tx : TypeId)
    (ho : o.op = .call { callee := .builtin .append, args := #[s, xo], argTypes := #[t, tx] })
    (base : Nat) (e : TypeId) (i : TypeInfo) (z : Value) (size bytes : Nat) (ht : P.underlying t = some (.slice e)) (hi : P.info? e = some i) (hz : i.zero = some z)
    (hsize : i.size = size) (hby : i.bytes = bytes) (hzs : z.cells.size = size)
    (v : Value) (n : Nat) (xs : List Value) (hv : a.eval s = v) (hown : w.ownsRow base e size v n xs) (x : Value) (m : Nat) (news : List Value) (hx : a.eval xo = x) (hs : Src P size tx x m news w)
    (h63 : n + m ≤ maxLen) (hbytes : (n + m) * bytes ≤ 140737488355328) (hbase : base ≤ w.heap.size)
    (h : ∀ v' w', w'.ownsRow base e size v' (n + m) (xs ++ news) → w.grownBy w' v.ownBlock → K (a.put o.dst v') w') : o.wp P a w K Q := by
  obtain ⟨v', w', hr, h2, h3⟩ := run_append_src (P := P) w base t tx o.type e i z size bytes ht hi hz hsize hby hzs v n xs hown x m news hs h63 hbytes hbase
  unfold Oper.wp execOp
  simp only [ho, resolve, invoke, builtin, Sem.run_bind, Sem.run_pure, Result.andThen_ok, List.map_toArray, List.map_cons, List.map_nil, hv, hx, hr]
  exact h v' w' h2 h3

theorem own_shape {w : World} {base : Nat} {e : TypeId} {size : Nat} {v : Value} {n : Nat} {xs : List Value} (h : w.ownsRow base e size v n xs) : ∃ ao c, v = .slice ao n c := by
  rcases h.2 with ⟨rfl, rfl⟩ | ⟨g, cap, cur, rfl, _⟩
  · exact ⟨_, _, rfl⟩
  · exact ⟨_, _, rfl⟩

theorem wpList_append_src {ops : Array Oper} {rest : List Oper} {o : Oper} {a : Act} {Q : Exit → Act → World → Prop} (hgd : o.guard = none) (s xo : Operand) (t tx : TypeId)
    (ho : o.op = .call { callee := .builtin .append, args := #[s, xo], argTypes := #[t, tx] })
    (base : Nat) (e : TypeId) (i : TypeInfo) (z : Value) (size bytes : Nat) (ht : P.underlying t = some (.slice e)) (hi : P.info? e = some i) (hz : i.zero = some z)
    (hsize : i.size = size) (hby : i.bytes = bytes) (hzs : z.cells.size = size)
    (v : Value) (n : Nat) (xs : List Value) (hv : a.eval s = v) (hown : w.ownsRow base e size v n xs) (x : Value) (m : Nat) (news : List Value) (hx : a.eval xo = x) (hs : Src P size tx x m news w)
    (h63 : n + m ≤ maxLen) (hbytes : (n + m) * bytes ≤ 140737488355328) (hbase : base ≤ w.heap.size)
    (h : ∀ ao c w', w'.ownsRow base e size (.slice ao (n + m) c) (n + m) (xs ++ news) → w.grownBy w' v.ownBlock → wpList P ops Q rest (a.put o.dst (.slice ao (n + m) c)) w') : wpList P ops Q (o :: rest) a w :=
  wpList_plain hgd fun _ hK => wp_append_src w s xo t tx ho base e i z size bytes ht hi hz hsize hby hzs v n xs hv hown x m news hx hs h63 hbytes hbase fun v' w' h2 h3 => by
    obtain ⟨ao, c, rfl⟩ := own_shape h2
    exact hK _ _ (h ao c w' h2 h3)

end Go.Proofs.YtflnjlbafchnaaaGreatDoor

/-
  What the program's writer does, method by method: its bytes behind each call, and what it leaves of memory.
-/
namespace Go.Proofs.YtflnjlbafchnaaaGreatDoor
open Go.RowKit

def cellsOf (l : List UInt8) : List Value := l.map fun c => Value.int .u8 c.toNat
theorem cellsOf_append (a b : List UInt8) : cellsOf (a ++ b) = cellsOf a ++ cellsOf b := by simp [cellsOf]

/-- What a writer's method may turn: its own block, and rows of bytes behind it. -/
def Wr (b : Nat) : Nat → Obj → Prop := fun k o => k = b ∨ (b < k ∧ ∃ cs m, o = .cells cs 5 m)

theorem Tryz.infoByte : (Tryz.prog.info? 5).map (fun i => (i.zero, i.size, i.bytes)) = some (some (.int .u8 0), 1, 1) := by kernel_rfl

theorem Kept.grownOwn {b : Nat} {w w' : World} {v : Value} {n : Nat} {xs : List Value} (hg : w.grownBy w' v.ownBlock) (ho : w.ownsRow (b + 1) 5 1 v n xs) : Kept (Wr b) w w' := by
  refine ⟨hg.os, hg.tape, hg.output, hg.size, fun k o hk hx => ?_⟩
  have hlt := lt_of_block hk
  rw [hg.block k hlt ?_, hk]
  intro e
  rcases ho.2 with ⟨rfl, _⟩ | ⟨g, cap, cur, rfl, hb, hh, _⟩
  · simp [Value.ownBlock] at e
  · simp [Value.ownBlock] at e
    subst e
    rw [hh] at hk
    exact hx (.inr ⟨by omega, cur, (0, 0), by simpa using hk.symm⟩)

theorem after_grow {b : Nat} {w w1 : World} {v : Value} {n : Nat} {xs : List Value} {o : Obj} (hb : w.heap[b]? = some o) (ho : w.ownsRow (b + 1) 5 1 v n xs) (hg : w.grownBy w1 v.ownBlock) : w1.heap[b]? = some o := by
  rw [hg.block b (lt_of_block hb) ?_, hb]
  intro e
  have := (ho.lt b e.symm).1
  omega
theorem le_alloc {w : World} {n : Nat} (h : n ≤ w.heap.size) (o : Obj) : n ≤ (w.alloc o).heap.size := by simp; omega

/-- One byte, laid in a block of its own, as what is appended. -/
theorem src_one {w : World} (d : UInt8) {y : Int} (hy : y = d.toNat) : Src Tryz.prog 1 159 (.slice (some ⟨w.heap.size, 0, none⟩) 1 1) 1 (cellsOf [d]) (w.alloc (.cells #[.int .u8 y] 5)) := by
  subst hy
  refine Src.ofSlice _ Tryz.underlying159 _ 1 1 _ rfl ?_ ?_
  · intro j u hj
    match j, hj with
    | 0, hj =>
      simp [cellsOf] at hj
      subst hj
      simp [Addr.add]
  · intro u hu
    simp [cellsOf] at hu
    subst hu
    rfl

end Go.Proofs.YtflnjlbafchnaaaGreatDoor

/-
  The sum of bytes, plainly: bit by bit, as the program reckons it and as the document's answer does; the two are one.
-/
namespace Go.Proofs.YtflnjlbafchnaaaGreatDoor

def crcStep (c : Nat) : Nat := if c % 2 = 1 then c / 2 ^^^ 2197175160 else c / 2
def crcSteps : Nat → Nat → Nat
  | 0, c => c
  | k + 1, c => crcSteps k (crcStep c)
def crcByte (c : Nat) (b : UInt8) : Nat := crcSteps 8 (c ^^^ b.toNat)
/-- The register behind these bytes. -/
def crcReg (l : List UInt8) : Nat := l.foldl crcByte 4294967295
def crc (l : List UInt8) : Nat := 4294967295 - crcReg l

theorem crcStep_lt {c : Nat} (h : c < 4294967296) : crcStep c < 4294967296 := by
  unfold crcStep
  split
  · have : c / 2 ^^^ 2197175160 < 2 ^ 32 := Nat.xor_lt_two_pow (by omega) (by omega)
    omega
  · omega
theorem crcSteps_lt : ∀ (k : Nat) {c : Nat}, c < 4294967296 → crcSteps k c < 4294967296
  | 0, _, h => h
  | k + 1, _, h => crcSteps_lt k (crcStep_lt h)
theorem crcSteps_snoc : ∀ (k c : Nat), crcSteps (k + 1) c = crcStep (crcSteps k c)
  | 0, _ => rfl
  | k + 1, c => by
    show crcSteps (k + 1) (crcStep c) = _
    rw [crcSteps_snoc k]; rfl
theorem xor_lt {c b : Nat} (h : c < 4294967296) (hb : b < 4294967296) : c ^^^ b < 4294967296 := by
  have : c ^^^ b < 2 ^ 32 := Nat.xor_lt_two_pow (by omega) (by omega)
  omega
theorem crcByte_lt {c : Nat} {b : UInt8} (h : c < 4294967296) : crcByte c b < 4294967296 :=
  crcSteps_lt 8 (xor_lt h (by have := b.toNat_lt; omega))
theorem fold_lt : ∀ (l : List UInt8) {c : Nat}, c < 4294967296 → l.foldl crcByte c < 4294967296
  | [], _, h => h
  | _ :: l, _, h => fold_lt l (crcByte_lt h)
theorem crcReg_lt (l : List UInt8) : crcReg l < 4294967296 := fold_lt l (by omega)
theorem crc_lt (l : List UInt8) : crc l < 4294967296 := by unfold crc; omega
theorem crcReg_snoc (l : List UInt8) (b : UInt8) : crcReg (l ++ [b]) = crcByte (crcReg l) b := by
  simp [crcReg, List.foldl_append]

/-! The document's answer takes the byte in bit by bit. -/
def refStep (c b k : Nat) : Nat := if (c ^^^ b / 2 ^ k) % 2 = 1 then c / 2 ^^^ 2197175160 else c / 2
def refSteps (b : Nat) : Nat → Nat → Nat
  | 0, c => c
  | k + 1, c => refStep (refSteps b k c) b k
theorem xor_half (a b : Nat) : (a ^^^ b) / 2 = a / 2 ^^^ b / 2 := by
  have := Nat.shiftRight_xor_distrib (a := a) (b := b) (i := 1)
  simpa [Nat.shiftRight_eq_div_pow] using this
theorem steps_same (b c : Nat) : ∀ k, crcSteps k (c ^^^ b) = refSteps b k c ^^^ b / 2 ^ k
  | 0 => by simp [crcSteps, refSteps]
  | k + 1 => by
    rw [crcSteps_snoc, steps_same b c k]
    have hd : b / 2 ^ (k + 1) = b / 2 ^ k / 2 := by rw [Nat.pow_succ, Nat.div_div_eq_div_mul]
    simp only [refSteps, refStep, crcStep, xor_half, hd]
    split
    · rw [Nat.xor_assoc, Nat.xor_comm (b / 2 ^ k / 2), ← Nat.xor_assoc]
    · rfl
theorem byte_same (c : Nat) (b : UInt8) : refSteps b.toNat 8 c = crcByte c b := by
  have h := steps_same b.toNat c 8
  have : b.toNat / 2 ^ 8 = 0 := by have := b.toNat_lt; omega
  rw [this, Nat.xor_zero] at h
  exact h.symm
theorem refSteps_lt (b : Nat) (hb : b < 256) (c : Nat) (h : c < 4294967296) : ∀ k, refSteps b k c < 4294967296
  | 0 => h
  | k + 1 => by
    have ih := refSteps_lt b hb c h k
    show refStep _ b k < _
    unfold refStep
    split
    · exact xor_lt (by omega) (by omega)
    · omega

end Go.Proofs.YtflnjlbafchnaaaGreatDoor

/-
  The program's Sum and the document's: each answers the plain sum of WCrc.
-/
namespace Go.Proofs.YtflnjlbafchnaaaGreatDoor
open Go.RowKit

theorem u32_facts (x : Nat) (hx : x < 4294967296) : bits .and .u32 (x : Int) 1 = ((x % 2 : Nat) : Int) ∧ bits .xor .u32 ((x / 2 : Nat) : Int) 2197175160 = ((x / 2 ^^^ 2197175160 : Nat) : Int) := by
  constructor
  · have := u32_and_nat x 1 hx (by omega)
    rw [nat_mask1] at this
    exact this
  · exact u32_xor_nat (x / 2) 2197175160 (by omega) (by omega)

theorem xor_max (x : Nat) (hx : x < 4294967296) : bits BinOp.xor IntKind.u32 IntKind.u32.max (x : Int) = ((4294967295 - x : Nat) : Int) := by
  have e : IntKind.u32.max = ((4294967295 : Nat) : Int) := by decide
  rw [e, u32_xor_nat _ _ (by omega) hx]
  congr 1
  have h : (4294967295 : Nat) = 2 ^ 32 - 1 := by decide
  rw [h]
  apply Nat.eq_of_testBit_eq
  intro i
  rw [Nat.testBit_xor, Nat.testBit_two_pow_sub_one]
  have := Nat.testBit_two_pow_sub_succ (x := x) (n := 32) (by omega) i
  have e2 : 2 ^ 32 - 1 - x = 2 ^ 32 - (x + 1) := by omega
  rw [e2, this]
  by_cases hi : i < 32
  · simp [hi]
  · have : x.testBit i = false := Nat.testBit_lt_two_pow (Nat.lt_of_lt_of_le (by omega : x < 2 ^ 32) (Nat.pow_le_pow_right (by omega) (by omega)))
    simp [hi, this]

end Go.Proofs.YtflnjlbafchnaaaGreatDoor

/-
  What the document's reader does, method by method, in the plain readings of WBase; and its Sum.
-/
namespace Go.Proofs.YtflnjlbafchnaaaGreatDoor
open Go.RowKit

theorem i64_xor_nat (a b : Nat) (ha : a < 9223372036854775808) (hb : b < 9223372036854775808) : bits .xor .i64 (a : Int) (b : Int) = ((a ^^^ b : Nat) : Int) := by
  show IntKind.i64.wrap ((BitVec.ofInt 64 (a : Int) ^^^ BitVec.ofInt 64 (b : Int)).toNat : Int) = _
  rw [BitVec.toNat_xor, ofInt_u64 a (by omega), ofInt_u64 b (by omega)]
  have : a ^^^ b < 2 ^ 63 := Nat.xor_lt_two_pow (by omega) (by omega)
  rw [IntKind.wrap_i64]; omega

theorem tmod_nat (n m : Nat) : (n : Int).tmod (m : Int) = ((n % m : Nat) : Int) := by
  rw [Int.tmod_eq_emod_of_nonneg (by omega)]; rfl

theorem stText (most : Nat) (st : Except Int (List UInt8)) : stRun (rdText most) [] st = stRun (rdTake (stRun (rdUpTo most) 0 st).1) [] (stRun (rdUpTo most) 0 st).2 := by
  cases st with
  | error c => rfl
  | ok l =>
    cases hr : rdUpTo most l with
    | error c => rw [stRun_no hr, stRun_no (c := c) (by unfold rdText; rw [hr]), stRun_err]
    | ok r =>
      obtain ⟨n, t⟩ := r
      rw [stRun_ok hr]
      have e : rdText most l = rdTake n t := by unfold rdText; rw [hr]
      cases h2 : rdTake n t with
      | error c => rw [stRun_no (h2 ▸ e), stRun_no h2]
      | ok r2 => obtain ⟨a, u⟩ := r2; rw [stRun_ok (h2 ▸ e), stRun_ok h2]

/-- The error that the document's reader ends with: bytes that are left are one, too. -/
def stEnd (st : Except Int (List UInt8)) : Int :=
  match st with
  | .ok [] => 0
  | .ok _ => 1
  | .error c => c

end Go.Proofs.YtflnjlbafchnaaaGreatDoor

/-
  The program's writer of a text and of a frame; Frame, and the document's Frame: the same plain bytes.
-/
namespace Go.Proofs.YtflnjlbafchnaaaGreatDoor
open Go.RowKit

/-- Four bytes, the lowest first. -/
def le4 (c : Nat) : List UInt8 := [UInt8.ofNat (c % 256), UInt8.ofNat (c / 256 % 256), UInt8.ofNat (c / 65536 % 256), UInt8.ofNat (c / 16777216 % 256)]
def encFrame (l : List UInt8) : List UInt8 := encText l ++ le4 (crc l)

theorem byteCells_bs (l : List UInt8) : byteCells (bs l) = cellsOf l := by simp [byteCells, bs_data, cellsOf]
theorem src_str (l : List UInt8) (w : World) : Src Tryz.prog 1 9 (.string (bs l)) l.length (cellsOf l) w := by
  have := Src.ofString w (P := Tryz.prog) Tryz.underlying9 (bs l)
  rwa [bs_size, byteCells_bs] at this

def leN : Nat → Nat → List UInt8
  | 0, _ => []
  | k + 1, c => UInt8.ofNat (c % 256) :: leN k (c / 256)
theorem le4_eq (c : Nat) : leN 4 c = le4 c := by
  simp only [leN, le4]
  rw [Nat.div_div_eq_div_mul, Nat.div_div_eq_div_mul]

/-- The writer's bytes as a string. -/
theorem conv_own {b : Nat} {w : World} {l : List UInt8} {ao : Option Addr} {c : Nat} (ho : w.ownsRow (b + 1) 5 1 (.slice ao l.length c) l.length (cellsOf l)) :
    (convert 159 9 (.slice ao l.length c)).run Tryz.prog w = .ok (.string (bs l)) w := by
  rcases ho.2 with ⟨hv, hn⟩ | ⟨g, cap, cur, hv, hg⟩
  · obtain rfl : l = [] := List.eq_nil_of_length_eq_zero hn
    cases hv
    exact run_convert_bytes_nil w 159 5 Tryz.underlying159 Tryz.underlying5 0 0 9 Tryz.underlying9
  · cases hv
    refine run_convert_bytes_back w 159 9 5 ⟨g, 0, none⟩ c l Tryz.underlying159 Tryz.underlying5 Tryz.underlying9 ?_
    intro j hj
    refine ho.cells (g := g) rfl j _ ?_
    simp [cellsOf, hj]

/-- What a new writer has turned is nothing that was there. -/
theorem Kept.newWr {w w' : World} {o : Obj} (h : Kept (Wr w.heap.size) (w.alloc o) w') : Kept Nil w w' := by
  have h2 := (h.mono (Y := fun k _ => w.heap.size ≤ k) (by
    rintro k o (rfl | ⟨hk, _⟩)
    · exact Nat.le_refl _
    · exact Nat.le_of_lt hk)).below (B := w.heap.size) (fun k o hk => hk) (by simp)
  exact Kept.ofBelow (((Below.refl _ _).alloc (Nat.le_refl _) o).trans h2) _

/-- Four bytes of a literal as a string. -/
theorem conv4 (w : World) (a b c d : Int) :
    (convert 159 9 (.slice (some ⟨w.heap.size, 0, none⟩) 4 4)).run Tryz.prog (w.alloc (.cells #[.int .u8 a, .int .u8 b, .int .u8 c, .int .u8 d] 5)) =
      .ok (.string (bs [UInt8.ofNat a.toNat, UInt8.ofNat b.toNat, UInt8.ofNat c.toNat, UInt8.ofNat d.toNat])) (w.alloc (.cells #[.int .u8 a, .int .u8 b, .int .u8 c, .int .u8 d] 5)) := by
  refine (run_convert_bytes_arg _ 159 5 Tryz.underlying159 Tryz.underlying5 w.heap.size 0 4 4 [a, b, c, d] rfl ?_ 9 Tryz.underlying9).trans ?_
  · intro i hi
    have hb := blk_new w (.cells #[.int .u8 a, .int .u8 b, .int .u8 c, .int .u8 d] 5)
    rcases (show i = 0 ∨ i = 1 ∨ i = 2 ∨ i = 3 by omega) with rfl | rfl | rfl | rfl
    · exact blk_cell hb 0
    · exact blk_cell hb 1
    · exact blk_cell hb 2
    · exact blk_cell hb 3
  · rfl

/-! ### both at once -/
/-- What a frame is made of, or that it can't be: the bytes and the error. -/
def putFrame (s : List UInt8) : List UInt8 × Int := if s.length ≤ 65536 then (encFrame s, 0) else ([], 4)

end Go.Proofs.YtflnjlbafchnaaaGreatDoor

/-
  Which numbers may be, and numbers written one behind the other: the program's areFrom, AreNumbers, AreCounts, and its writer's numbers.
-/
namespace Go.Proofs.YtflnjlbafchnaaaGreatDoor
open Go.RowKit

theorem blk_at {w : World} {b : Nat} {cs : Array Value} {t : TypeId} {v : Value} (h : w.heap[b]? = some (.cells cs t (0, 0))) (i : Nat) (hv : cs[i]? = some v) : w.cell? ⟨b, i, none⟩ = some v := (blk_cell h i).trans hv

/-- A row of ints in a block of its own. -/
def IntsAt (w : World) (b : Nat) (zs : List Int) : Prop := ∀ j, j < zs.length → w.cell? ⟨b, j, none⟩ = some (.int .i64 (zs.getD j 0))

def fromTo (least : Int) (zs : List Int) : Bool := zs.all fun z => decide (least ≤ z) && decide (z ≤ 1099511627775)

set_option maxRecDepth 100000 in
set_option maxHeartbeats 1000000 in
theorem areFrom_any (least : Int) (b cap : Nat) (zs : List Int) (w : World) (hc : IntsAt w b zs) (hl : zs.length ≤ 1099511627775) :
    Calls Tryz.prog 147 #[.int .i64 least, .slice (some ⟨b, 0, none⟩) zs.length cap] w fun e w' => e = .returned (.bool (fromTo least zs)) ∧ w' = w := by
  have hl' : (zs.length : Int) ≤ 1099511627775 := by omega
  have HC : Hid (IntsAt w b zs) := hc
  clear hc hl
  go_enter Tryz.func147, Tryz.ntmps147
  go_wp2
  go_loop [9] (fun i => ∃ k : Nat, k ≤ zs.length ∧ i = .int .i64 k ∧ Hid (fromTo least (zs.take k) = true)) (fun i => zs.length - (intOf i).toNat)
  case atStart => exact ⟨0, Nat.zero_le _, rfl, rfl⟩
  case round =>
    obtain ⟨k, hk, rfl, HT⟩ := hrel
    by_cases hlt : k < zs.length
    · have hcell := HC.out k hlt
      obtain ⟨z, hz⟩ : ∃ z, z = zs.getD k 0 := ⟨_, rfl⟩
      have HZ : Hid (zs.take (k + 1) = zs.take k ++ [z]) := by
        show zs.take (k + 1) = _
        rw [List.take_succ_eq_append_getElem hlt, hz]
        simp [List.getD_eq_getElem?_getD, hlt]
      have HG : Hid (zs = zs.take k ++ z :: zs.drop (k + 1)) := by
        show zs = _
        rw [hz]
        simp [List.getD_eq_getElem?_getD, hlt]
      rw [← hz] at hcell
      clear hz
      by_cases hin : least ≤ z ∧ z ≤ 1099511627775
      · obtain ⟨hin1, hin2⟩ := hin
        have HT2 : Hid (fromTo least (zs.take (k + 1)) = true) := by
          show fromTo least _ = true
          rw [HZ.out]
          have := HT.out
          simp only [fromTo, List.all_append, List.all_cons, List.all_nil, Bool.and_true] at this ⊢
          rw [this]; simp [hin1, hin2]
        go_wp2
        go_round
        case rel => exact ⟨k + 1, by omega, by go_num, HT2⟩
        case measure => simp [intOf]; omega
      · have HF : Hid (fromTo least zs = false) := by
          show fromTo least zs = false
          rw [HG.out]
          simp only [fromTo, List.all_append, List.all_cons]
          have : (decide (least ≤ z) && decide (z ≤ 1099511627775)) = false := by simp; omega
          rw [this]; simp
        by_cases h1 : z < least
        · clear hin
          go_wp2
          go_ret
          rw [HF.out]
          exact ⟨rfl, rfl⟩
        · have h2 : 1099511627775 < z := by omega
          clear hin
          go_wp2
          go_ret
          rw [HF.out]
          exact ⟨rfl, rfl⟩
    · have HF : Hid (fromTo least zs = true) := by
        have := HT.out
        rw [List.take_of_length_le (by omega)] at this
        exact this
      go_wp2
      go_ret
      rw [HF.out]
      exact ⟨rfl, rfl⟩

theorem areNumbers_any (b cap : Nat) (zs : List Int) (w : World) (hc : IntsAt w b zs) (hl : zs.length ≤ 1099511627775) :
    Calls Tryz.prog 112 #[.slice (some ⟨b, 0, none⟩) zs.length cap] w fun e w' => e = .returned (.bool (fromTo 0 zs)) ∧ w' = w := by
  have H := areFrom_any 0 b cap zs w hc hl
  clear hc hl
  go_enter Tryz.func112, Tryz.ntmps112
  go_wp2_with (go_at_call 147; go_must (refine H.mono ?_); rintro e w' ⟨rfl, rfl⟩)
  go_ret
  exact ⟨rfl, rfl⟩

theorem areCounts_any (b cap : Nat) (zs : List Int) (w : World) (hc : IntsAt w b zs) (hl : zs.length ≤ 1099511627775) :
    Calls Tryz.prog 146 #[.slice (some ⟨b, 0, none⟩) zs.length cap] w fun e w' => e = .returned (.bool (fromTo 1 zs)) ∧ w' = w := by
  have H := areFrom_any 1 b cap zs w hc hl
  clear hc hl
  go_enter Tryz.func146, Tryz.ntmps146
  go_wp2_with (go_at_call 147; go_must (refine H.mono ?_); rintro e w' ⟨rfl, rfl⟩)
  go_ret
  exact ⟨rfl, rfl⟩

/-- Numbers written one behind the other. -/
def encAll (ns : List Nat) : List UInt8 := ns.flatMap enc
def intsOf (ns : List Nat) : List Int := ns.map fun (n : Nat) => (n : Int)

theorem encAll_len (ns : List Nat) (h : ∀ n ∈ ns, n ≤ 1099511627775) : (encAll ns).length ≤ 6 * ns.length := by
  induction ns with
  | nil => simp [encAll]
  | cons n ns ih =>
    have h1 := enc_len6 (h n (by simp))
    have h2 := ih (fun m hm => h m (by simp [hm]))
    simp only [encAll, List.flatMap_cons, List.length_append, List.length_cons] at h2 ⊢
    omega

end Go.Proofs.YtflnjlbafchnaaaGreatDoor

/-
  What the program's reader does, method by method: must, take, number, upTo, text: each answers by the plain reading of WBase, or gives up by its panic, and turns the reader's one cell alone.
-/
namespace Go.Proofs.YtflnjlbafchnaaaGreatDoor
open Go.RowKit

/-- The reader's cell, told by the bytes that are left. -/
structure Left (p : Addr) (w : World) (l : List UInt8) : Prop where
  cell : w.cell? p = some (.string (bs l))
  free : w.frozen? p = false

theorem Left.set {p : Addr} {w : World} {l : List UInt8} (h : Left p w l) (t : List UInt8) : Left p (w.setCell p (.string (bs t))) t :=
  ⟨World.cell?_setCell_same _ _ _ (by rw [h.cell]), by rw [World.frozen?_setCell]; exact h.free⟩

theorem i64_or_nat (a b : Nat) (ha : a < 9223372036854775808) (hb : b < 9223372036854775808) : bits .or .i64 (a : Int) (b : Int) = ((a ||| b : Nat) : Int) := by
  show IntKind.i64.wrap ((BitVec.ofInt 64 (a : Int) ||| BitVec.ofInt 64 (b : Int)).toNat : Int) = _
  rw [BitVec.toNat_or, ofInt_u64 a (by omega), ofInt_u64 b (by omega)]
  have : a ||| b < 2 ^ 63 := Nat.or_lt_two_pow (by omega) (by omega)
  rw [IntKind.wrap_i64]; omega

theorem or_fact (k x : Nat) (c : UInt8) (hk : k ≤ 6) (hx : x < 2 ^ (7 * k)) :
    bits BinOp.or IntKind.i64 (x : Int) (wrap64 (wrap64 (bits BinOp.and IntKind.u8 (c.toNat : Int) 127) * 2 ^ (7 * k))) = ((x + c.toNat % 128 * 2 ^ (7 * k) : Nat) : Int) := by
  have hc : c.toNat < 256 := c.toNat_lt
  have hp := pow7 k hk
  have e1 : bits BinOp.and IntKind.u8 (c.toNat : Int) 127 = ((c.toNat % 128 : Nat) : Int) := by
    have := u8_and_nat c.toNat 127 hc (by omega)
    rw [nat_mask7] at this
    exact this
  have hm : c.toNat % 128 * 2 ^ (7 * k) ≤ 127 * 4398046511104 := Nat.mul_le_mul (by omega) hp
  have e2 : wrap64 ((c.toNat % 128 : Nat) : Int) = ((c.toNat % 128 : Nat) : Int) := by unfold wrap64; omega
  have e3 : wrap64 (((c.toNat % 128 : Nat) : Int) * 2 ^ (7 * k)) = ((c.toNat % 128 * 2 ^ (7 * k) : Nat) : Int) := by
    have : (((c.toNat % 128 : Nat) : Int) * 2 ^ (7 * k)) = ((c.toNat % 128 * 2 ^ (7 * k) : Nat) : Int) := by push_cast; rfl
    rw [this]; unfold wrap64; omega
  rw [e1, e2, e3, i64_or_nat _ _ (by omega) (by omega), or_add hx]

def NumV : Nat → World → Value → Prop := fun n _ v => v = .int .i64 n

def StrV : List UInt8 → World → Value → Prop := fun s _ v => v = .string (bs s)

end Go.Proofs.YtflnjlbafchnaaaGreatDoor

/-
  The program's reader of a frame, Unframe; and the document's: the same plain reading.
-/
namespace Go.Proofs.YtflnjlbafchnaaaGreatDoor
open Go.RowKit

/-- What so many bytes say, the lowest first. -/
def valN : Nat → List UInt8 → Nat
  | 0, _ => 0
  | k + 1, l => valN k l + (l.getD k 0).toNat * 2 ^ (8 * k)
theorem valN_lt (l : List UInt8) : ∀ k, valN k l < 2 ^ (8 * k)
  | 0 => by simp [valN]
  | k + 1 => by
    have ih := valN_lt l k
    have hb := (l.getD k 0).toNat_lt
    have e : 2 ^ (8 * (k + 1)) = 256 * 2 ^ (8 * k) := by rw [Nat.mul_add, Nat.pow_add]; omega
    have : ((l.getD k 0).toNat + 1) * 2 ^ (8 * k) ≤ 256 * 2 ^ (8 * k) := Nat.mul_le_mul_right _ (by omega)
    rw [Nat.add_mul] at this
    show valN k l + _ < _
    omega

theorem cell_lt {w : World} {a : Addr} {v : Value} (h : w.cell? a = some v) : a.block < w.heap.size := by
  cases hb : w.heap[a.block]? with
  | none => simp [World.cell?, hb] at h
  | some o => exact lt_of_block hb
theorem Left.alloc {p : Addr} {w : World} {l : List UInt8} (h : Left p w l) (o : Obj) : Left p (w.alloc o) l :=
  have e := Below.heap_alloc w o p.block (cell_lt h.cell)
  ⟨(World.cell?_of_block e).trans h.cell, (World.frozen?_of_block e).trans h.free⟩
theorem Left.other {p : Addr} {w : World} {l : List UInt8} (h : Left p w l) {a : Addr} (ha : p.block ≠ a.block) (u : Value) : Left p (w.setCell a u) l :=
  have e := Below.heap_setCell w a u p.block ha
  ⟨(World.cell?_of_block e).trans h.cell, (World.frozen?_of_block e).trans h.free⟩
theorem Left.drew {p : Addr} {w : World} {l : List UInt8} (h : Left p w l) : Left p w.drew l := ⟨h.cell, h.free⟩

theorem or8 (k x : Nat) (d : UInt8) (hk : k < 4) (hx : x < 2 ^ (8 * k)) : bits BinOp.or IntKind.u32 (x : Int) ((d.toNat : Int) * 2 ^ (8 * k) % 4294967296) = ((x + d.toNat * 2 ^ (8 * k) : Nat) : Int) := by
  have hd := d.toNat_lt
  have hp : 2 ^ (8 * k) ≤ 2 ^ 24 := Nat.pow_le_pow_right (by omega) (by omega)
  have hm : d.toNat * 2 ^ (8 * k) ≤ 255 * 2 ^ 24 := Nat.mul_le_mul (by omega) hp
  have e : ((d.toNat : Int) * 2 ^ (8 * k) % 4294967296) = ((d.toNat * 2 ^ (8 * k) : Nat) : Int) := by
    have : ((d.toNat : Int) * 2 ^ (8 * k)) = ((d.toNat * 2 ^ (8 * k) : Nat) : Int) := by push_cast; rfl
    rw [this]; omega
  rw [e, u32_or_nat _ _ (by omega) (by omega), Nat.or_comm, ← Nat.shiftLeft_eq, ← Nat.shiftLeft_add_eq_or_of_lt hx, Nat.add_comm]

def rdSum (l : List UInt8) : Except Int (Nat × List UInt8) := if 4 ≤ l.length then .ok (valN 4 (l.take 4), l.drop 4) else .error 3
def U32V : Nat → World → Value → Prop := fun n _ v => v = .int .u32 n

theorem sum_cell (w : World) (l : List UInt8) (cap k : Nat) (m : Nat × Nat) (hk : k < l.length) :
    (w.alloc (.cells (bytesRow (bs l) cap) 5 m)).drew.cell? ⟨w.heap.size, k, none⟩ = some (.int .u8 (l.getD k 0).toNat) := by
  have hb : (w.alloc (.cells (bytesRow (bs l) cap) 5 m)).drew.heap[w.heap.size]? = some (.cells (bytesRow (bs l) cap) 5 m) := blk_new w _
  simp only [World.cell?, hb]
  simp [bytesRow, bs, hk, Array.getElem?_append, List.getD_eq_getElem?_getD]

/-- A frame: its body and what stands behind it; all is taken. -/
def rdFrame (l : List UInt8) : Except Int ((List UInt8 × List UInt8) × List UInt8) :=
  match rdText 65536 l with
  | .error c => .error c
  | .ok (body, t) =>
    match rdSum t with
    | .error c => .error c
    | .ok (n, u) => if n = crc body then .ok ((body, u), []) else .error 2
def FrV : List UInt8 × List UInt8 → World → Value → Prop := fun x _ v => v = .agg #[.string (bs x.1), .string (bs x.2)]

theorem rdText_len {most : Nat} {l s t : List UInt8} (h : rdText most l = .ok (s, t)) : s.length ≤ most ∧ s.length + t.length < l.length := by
  unfold rdText at h
  split at h
  · rename_i n u hr
    have := rdUpTo_ok hr
    unfold rdTake at h
    split at h
    · simp only [Except.ok.injEq, Prod.mk.injEq] at h
      obtain ⟨rfl, rfl⟩ := h
      simp
      omega
    · cases h
  · cases h

end Go.Proofs.YtflnjlbafchnaaaGreatDoor

/-
  The program's read: a reader that gives up is caught, and the error stands in the answer.
-/
namespace Go.Proofs.YtflnjlbafchnaaaGreatDoor
open Go.RowKit

theorem catch_slots (a b t : Value) : #[a, b] ++ ((Array.replicate 18 undef).setIfInBounds 4 t).setIfInBounds 0 t = #[a, b, t, undef, undef, undef, t, undef, undef, undef, undef, undef, undef, undef, undef, undef, undef, undef, undef, undef] := by
  apply Array.ext'
  simp [List.replicate]

/-- A whole text, read: nothing may be left. -/
def rdAll {α : Type} (r : Except Int (α × List UInt8)) : Except Int α :=
  match r with
  | .ok (a, []) => .ok a
  | .ok (_, _ :: _) => .error 1
  | .error c => .error c

theorem three (w : World) (o1 o2 o3 : Obj) : (((w.alloc o1).alloc o2).alloc o3).heap[w.heap.size]? = some o1 ∧ (((w.alloc o1).alloc o2).alloc o3).heap[w.heap.size + 1]? = some o2 ∧ (((w.alloc o1).alloc o2).alloc o3).heap[w.heap.size + 2]? = some o3 := by
  have e1 : (w.alloc o1).heap.size = w.heap.size + 1 := by simp
  have e2 : ((w.alloc o1).alloc o2).heap.size = w.heap.size + 2 := by simp
  refine ⟨blk_past (blk_past (blk_new w o1) _) _, ?_, ?_⟩
  · have := blk_past (blk_new (w.alloc o1) o2) o3
    rwa [e1] at this
  · have := blk_new ((w.alloc o1).alloc o2) o3
    rwa [e2] at this
theorem Left.ofBlk {b : Nat} {w : World} {l : List UInt8} {t : TypeId} (h : w.heap[b]? = some (.cells #[.string (bs l)] t (0, 0))) : Left ⟨b, 0, none⟩ w l := ⟨blk_cell h 0, blk_free h 0⟩
/-- What is new behind a world may turn. -/
theorem Kept.ofNew {w w1 w' : World} {X : Nat → Obj → Prop} (h1 : Kept Nil w w1) (h : Kept X w1 w') (hX : ∀ k o, X k o → w.heap.size ≤ k) : Kept Nil w w' :=
  Kept.ofBelow ((h1.below (B := w.heap.size) (fun _ _ x => x.elim) (Nat.le_refl _)).trans (h.below hX h1.size)) _

end Go.Proofs.YtflnjlbafchnaaaGreatDoor

/-
  Unframe, and the document's Unframe: the same plain answer.
-/
namespace Go.Proofs.YtflnjlbafchnaaaGreatDoor
open Go.RowKit

/-- A frame's body, what stands behind it, the error. -/
def unF (l : List UInt8) : List UInt8 × List UInt8 × Int :=
  match rdFrame l with
  | .ok (x, _) => (x.1, x.2, 0)
  | .error c => ([], [], c)

theorem rdFrame_nil {l : List UInt8} {x : List UInt8 × List UInt8} {t : List UInt8} (h : rdFrame l = .ok (x, t)) : t = [] := by
  unfold rdFrame at h
  split at h
  · cases h
  · split at h
    · cases h
    · split at h
      · simp only [Except.ok.injEq, Prod.mk.injEq] at h; exact h.2.symm
      · cases h

theorem val4 (x a b c d : Nat) (ha : a < 256) (hb : b < 256) (hc : c < 256) :
    a + b * 256 + c * 65536 + d * 16777216 = x ↔ (a = x % 256 ∧ b = x / 256 % 256 ∧ c = x / 65536 % 256 ∧ d = x / 16777216) := by
  omega

theorem ofNat_eq {d : UInt8} {n : Nat} (h : n < 256) : d = UInt8.ofNat n ↔ d.toNat = n := by
  rw [← UInt8.toNat_inj, ofNat_toNat h]

theorem len4 {l : List UInt8} (h : l.length = 4) : ∃ a b c d, l = [a, b, c, d] := by
  match l, h with
  | [a, b, c, d], _ => exact ⟨a, b, c, d, rfl⟩

theorem val_le4 {l : List UInt8} {x : Nat} (h : l.length = 4) (hx : x < 4294967296) : valN 4 l = x ↔ l = le4 x := by
  obtain ⟨a, b, c, d, rfl⟩ := len4 h
  have ha := a.toNat_lt
  have hb := b.toNat_lt
  have hc := c.toNat_lt
  have := val4 x a.toNat b.toNat c.toNat d.toNat ha hb hc
  simp only [valN, List.getD_cons_zero, List.getD_cons_succ]
  simp only [le4, List.cons.injEq, and_true]
  rw [ofNat_eq (by omega), ofNat_eq (by omega), ofNat_eq (by omega), ofNat_eq (by omega), Nat.mod_eq_of_lt (show x / 16777216 < 256 by omega)]
  rw [← this]
  simp

theorem unF_err {l : List UInt8} {c : Int} (h : rdText 65536 l = .error c) : unF l = ([], [], c) := by
  unfold unF rdFrame
  rw [h]
theorem unF_no {l body t : List UInt8} (h : rdText 65536 l = .ok (body, t)) (h4 : ¬ 4 ≤ t.length) : unF l = ([], [], 3) := by
  unfold unF rdFrame
  rw [h]
  simp only [show rdSum t = .error 3 from if_neg h4]
theorem rdFrame_if {l body t : List UInt8} (h : rdText 65536 l = .ok (body, t)) (h4 : 4 ≤ t.length) : rdFrame l = if valN 4 (t.take 4) = crc body then .ok ((body, t.drop 4), []) else .error 2 := by
  unfold rdFrame
  rw [h]
  simp only [show rdSum t = .ok (valN 4 (t.take 4), t.drop 4) from if_pos h4]
theorem val_sum (t body : List UInt8) (h4 : 4 ≤ t.length) : valN 4 (t.take 4) = crc body ↔ t.take 4 = le4 (crc body) := val_le4 (by simp; omega) (crc_lt body)
theorem unF_yes {l body t : List UInt8} (h : rdText 65536 l = .ok (body, t)) (h4 : 4 ≤ t.length) (hs : t.take 4 = le4 (crc body)) : unF l = (body, t.drop 4, 0) := by
  unfold unF
  rw [rdFrame_if h h4, if_pos ((val_sum t body h4).2 hs)]
theorem unF_sum {l body t : List UInt8} (h : rdText 65536 l = .ok (body, t)) (h4 : 4 ≤ t.length) (hs : ¬ t.take 4 = le4 (crc body)) : unF l = ([], [], 2) := by
  unfold unF
  rw [rdFrame_if h h4, if_neg (fun e => hs ((val_sum t body h4).1 e))]

theorem Kept.newOne {w w' : World} {o : Obj} (h : Kept (One w.heap.size) (w.alloc o) w') : Kept Nil w w' :=
  Kept.ofNew ((Kept.refl _ _).alloc o) h (fun k _ e => by have : k = w.heap.size := e; omega)

end Go.Proofs.YtflnjlbafchnaaaGreatDoor

/-
  What the texts on single records share: readings one behind another, the document's reader behind a fault, blocks that are none of the writer's.
-/
namespace Go.Proofs.YtflnjlbafchnaaaGreatDoor
open Go.RowKit

theorem ret_bool {a b : Bool} (h : a = b) : Ending.returned (.bool a) = .returned (.bool b) := by rw [h]
def isNum (x : Int) : Bool := decide (0 ≤ x) && decide (x ≤ 1099511627775)
theorem ints3 (w : World) (o : Obj) (x y z : Int) : IntsAt ((w.alloc o).alloc (.cells #[.int .i64 x, .int .i64 y, .int .i64 z] 3)) (w.heap.size + 1) [x, y, z] := by
  have hb := blk_new (w.alloc o) (.cells #[.int .i64 x, .int .i64 y, .int .i64 z] 3)
  rw [show (w.alloc o).heap.size = w.heap.size + 1 by simp] at hb
  intro j hj
  simp at hj
  rcases (show j = 0 ∨ j = 1 ∨ j = 2 by omega) with rfl | rfl | rfl
  · exact blk_cell hb 0
  · exact blk_cell hb 1
  · exact blk_cell hb 2
/-- A block of another type that lies behind the writer is none of the writer's. -/
theorem not_wr {b g : Nat} {cs : Array Value} {t : TypeId} {m : Nat × Nat} (hg : g ≠ b) (ht : t ≠ 5) : ¬ Wr b g (.cells cs t m) := by
  rintro (e | ⟨_, cs', m', e⟩)
  · exact hg e
  · simp at e; exact ht e.2.1
theorem encText_len {l : List UInt8} (h : l.length ≤ 1099511627775) : (encText l).length ≤ l.length + 6 := by
  have := enc_len6 h
  simp only [encText, List.length_append]; omega
theorem isNum_nat {x : Int} (h : isNum x = true) : (x.toNat : Int) = x ∧ x.toNat ≤ 1099511627775 := by
  simp only [isNum, Bool.and_eq_true, decide_eq_true_eq] at h
  omega
/-- One reading behind another. -/
def rdThen {α β : Type} (r : Except Int (α × List UInt8)) (f : α → List UInt8 → Except Int (β × List UInt8)) : Except Int (β × List UInt8) :=
  match r with
  | .ok (a, t) => f a t
  | .error c => .error c
theorem rdThen_ok {α β : Type} {r : Except Int (α × List UInt8)} {f : α → List UInt8 → Except Int (β × List UInt8)} {a : α} {t : List UInt8} (h : r = .ok (a, t)) : rdThen r f = f a t := by rw [h]; rfl
theorem rdThen_no {α β : Type} {r : Except Int (α × List UInt8)} {f : α → List UInt8 → Except Int (β × List UInt8)} {c : Int} (h : r = .error c) : rdThen r f = .error c := by rw [h]; rfl
theorem rdText_le {most : Nat} {l s t : List UInt8} (h : rdText most l = .ok (s, t)) : s.length ≤ most := (rdText_len h).1
theorem Left.kept {p : Addr} {w w' : World} {l : List UInt8} (h : Left p w l) (k : Kept Nil w w') : Left p w' l := by
  have hlt := cell_lt h.cell
  have e : w'.heap[p.block]? = w.heap[p.block]? := by
    rw [k.block p.block _ (Array.getElem?_eq_getElem hlt) (fun x => x.elim), Array.getElem?_eq_getElem hlt]
  exact ⟨(World.cell?_of_block e).trans h.cell, (World.frozen?_of_block e).trans h.free⟩
theorem numGo_err : ∀ {l : List UInt8} {k x : Nat} {c : Int}, numGo k x l = .error c → c ≠ 0 := by
  intro l
  induction l with
  | nil => intro k x c h; simp [numGo] at h; omega
  | cons d l ih =>
    intro k x c h
    by_cases h1 : k ≤ 5 ∧ x + d.toNat % 128 * 2 ^ (7 * k) ≤ maxNum ∧ (d.toNat ≠ 0 ∨ k = 0)
    · by_cases h2 : d.toNat < 128
      · rw [numGo_end h1 h2] at h; cases h
      · rw [numGo_more h1 h2] at h; exact ih h
    · rw [numGo_bad h1] at h; cases h; decide
theorem rdNum_err {l : List UInt8} {c : Int} (h : rdNum l = .error c) : c ≠ 0 := numGo_err h
theorem rdText_err {most : Nat} {l : List UInt8} {c : Int} (h : rdText most l = .error c) : c ≠ 0 := by
  unfold rdText rdUpTo at h
  cases hn : rdNum l with
  | error d => rw [hn] at h; simp only [Except.error.injEq] at h; subst h; exact rdNum_err hn
  | ok x =>
    obtain ⟨n, t⟩ := x
    rw [hn] at h
    simp only at h
    by_cases h1 : n ≤ most
    · rw [if_pos h1] at h
      simp only [rdTake] at h
      split at h
      · cases h
      · cases h; decide
    · rw [if_neg h1] at h
      cases h; decide
/-- A state behind a fault that is told. -/
def stBad (c : Int) (st : Except Int (List UInt8)) : Except Int (List UInt8) :=
  match st with
  | .ok _ => .error c
  | .error d => .error d
theorem isNum_of {n : Nat} (h : n ≤ maxNum) : isNum (n : Int) = true := by
  unfold maxNum at h
  simp [isNum]; omega
end Go.Proofs.YtflnjlbafchnaaaGreatDoor

/-
  Which entries may be, by the program and by the document's answer; an entry written by either.
-/
namespace Go.Proofs.YtflnjlbafchnaaaGreatDoor
open Go.RowKit

/-- An entry, plainly. -/
structure En where
  ix : Int
  tm : Int
  kd : Int
  dt : List UInt8
def isCnt (x : Int) : Bool := decide (1 ≤ x) && decide (x ≤ 1099511627775)
def En.ok (x : En) : Bool := isCnt x.ix && isCnt x.tm && (if x.kd = 0 then x.dt.isEmpty else if x.kd = 1 ∨ x.kd = 2 then decide (x.dt.length ≤ 256) else false)

theorem ints2 (w : World) (o : Obj) (x y : Int) : IntsAt ((w.alloc o).alloc (.cells #[.int .i64 x, .int .i64 y] 3)) (w.heap.size + 1) [x, y] := by
  have hb := blk_new (w.alloc o) (.cells #[.int .i64 x, .int .i64 y] 3)
  rw [show (w.alloc o).heap.size = w.heap.size + 1 by simp] at hb
  intro j hj
  simp at hj
  rcases (show j = 0 ∨ j = 1 by omega) with rfl | rfl
  · exact blk_cell hb 0
  · exact blk_cell hb 1

/-! ### the document's -/
end Go.Proofs.YtflnjlbafchnaaaGreatDoor

/-
  Pairs: rows of three cells; may they be: by the program.
-/
namespace Go.Proofs.YtflnjlbafchnaaaGreatDoor
open Go.RowKit

structure Pr where
  k : List UInt8
  v : List UInt8
  n : Int
/-- A row of pairs that lies below block B. -/
def PairRow (B : Nat) (w : World) (ao : Option Addr) (ps : List Pr) : Prop := ∀ j, (hj : j < ps.length) → ∃ a, ao = some a ∧ a.block < B ∧ w.cell? (a.add (j * 3)) = some (.string (bs ps[j].k)) ∧ w.cell? ⟨(a.add (j * 3)).block, (a.add (j * 3)).off + 1, none⟩ = some (.string (bs ps[j].v)) ∧ w.cell? ⟨(a.add (j * 3)).block, (a.add (j * 3)).off + 2, none⟩ = some (.int .i64 ps[j].n) ∧ ps[j].k.length ≤ maxLen ∧ ps[j].v.length ≤ maxLen
theorem cell_kept {X : Nat → Obj → Prop} {w w' : World} {a : Addr} {v : Value} (hk : Kept X w w') (hX : ∀ o, ¬ X a.block o) (h : w.cell? a = some v) : w'.cell? a = some v := by
  have hlt : a.block < w.heap.size := World.block_lt_of_cell? w _ h
  rw [World.cell?_of_block (w := w) (by rw [hk.block a.block _ (Array.getElem?_eq_getElem hlt) (hX _), Array.getElem?_eq_getElem hlt])]
  exact h
theorem add_block (a : Addr) (n : Nat) : (a.add n).block = a.block := by unfold Addr.add; split <;> rfl
theorem PairRow.kept {X : Nat → Obj → Prop} {B : Nat} {w w' : World} {ao : Option Addr} {ps : List Pr} (h : PairRow B w ao ps) (hk : Kept X w w') (hX : ∀ k o, k < B → ¬ X k o) : PairRow B w' ao ps := by
  intro j hj
  obtain ⟨a, ha, hb, c1, c2, c3, l1, l2⟩ := h j hj
  refine ⟨a, ha, hb, cell_kept hk (fun o => ?_) c1, cell_kept hk (fun o => ?_) c2, cell_kept hk (fun o => ?_) c3, l1, l2⟩ <;> exact hX _ _ (by simpa [add_block] using hb)
theorem PairRow.nil {B : Nat} {w w' : World} {ao : Option Addr} {ps : List Pr} (h : PairRow B w ao ps) (hk : Kept Nil w w') : PairRow B w' ao ps := h.kept hk (fun _ _ _ x => x)
theorem PairRow.alloc {B : Nat} {w : World} {ao : Option Addr} {ps : List Pr} (h : PairRow B w ao ps) (o : Obj) : PairRow B (w.alloc o) ao ps := h.nil ((Kept.refl _ _).alloc o)
theorem pairRow_nil (B : Nat) (w : World) (ao : Option Addr) : PairRow B w ao [] := fun j hj => by simp at hj

def prOk (x : Pr) : Bool := !x.k.isEmpty && decide (x.k.length ≤ 16) && decide (x.v.length ≤ 64) && isCnt x.n
def pRise : Option (List UInt8) → List Pr → Bool
  | _, [] => true
  | p, x :: t => prOk x && (match p with | none => true | some q => lessB q x.k) && pRise (some x.k) t
def ppv (ps : List Pr) (k : Nat) : Option (List UInt8) := if k = 0 then none else (ps[k - 1]?).map Pr.k
theorem pRise_at {ps : List Pr} {k : Nat} (h : k < ps.length) : pRise (ppv ps k) (ps.drop k) = (prOk ps[k] && (match ppv ps k with | none => true | some q => lessB q ps[k].k) && pRise (ppv ps (k + 1)) (ps.drop (k + 1))) := by
  have e : ppv ps (k + 1) = some ps[k].k := by simp [ppv, h]
  rw [List.drop_eq_getElem_cons h, e]
  rfl
theorem pRise_end {ps : List Pr} {k : Nat} (h : ¬ k < ps.length) : pRise (ppv ps k) (ps.drop k) = true := by
  rw [List.drop_of_length_le (by omega)]
  unfold pRise
  cases ppv ps k <;> rfl
def pairsOk (ps : List Pr) : Bool := decide (ps.length ≤ 32) && pRise none ps
theorem ints1k (w : World) (o : Obj) (x : Int) (b : Nat) (hb : b = w.heap.size + 1) : IntsAt ((w.alloc o).alloc (.cells #[.int .i64 x] 3)) b [x] := by
  subst hb
  intro j hj
  have : j = 0 := by simpa using hj
  subst this
  have hsz : (w.alloc o).heap.size = w.heap.size + 1 := by simp
  rw [← hsz]
  exact blk_at (blk_new (w.alloc o) (.cells #[.int .i64 x] 3)) 0 rfl

set_option maxRecDepth 100000 in
set_option maxHeartbeats 4000000 in
theorem isPairs_any (B cap : Nat) (ao : Option Addr) (ps : List Pr) (w : World) (h : PairRow B w ao ps) (hl : (ps.length : Int) ≤ 9223372036854775807) :
    Calls Tryz.prog 111 #[.slice ao ps.length cap] w fun e w' => e = .returned (.bool (pairsOk ps)) ∧ Kept Nil w w' := by
  have HR : Hid (PairRow B w ao ps) := h
  have ht := bs_toList
  have hsz := bs_size
  clear h
  by_cases h32 : ps.length ≤ 32
  · have HO : Hid (pairsOk ps = pRise none ps) := by show pairsOk ps = _; unfold pairsOk; rw [decide_eq_true h32]; rfl
    have h32' : (ps.length : Int) ≤ 32 := by omega
    rw [HO.out]
    clear h32 HO
    go_enter Tryz.func111, Tryz.ntmps111
    go_wp2
    go_loopw [10] (fun i wr => ∃ k : Nat, k ≤ ps.length ∧ i = .int .i64 k ∧ Hid (pRise none ps = pRise (ppv ps k) (ps.drop k)) ∧ Hid (Kept Nil w wr)) (fun i _ => ps.length - (intOf i).toNat)
    case atStart => exact ⟨0, Nat.zero_le _, rfl, rfl, Kept.refl _ _⟩
    case round =>
      obtain ⟨k, hk, rfl, HI, HK⟩ := hrel
      by_cases hlt : k < ps.length
      · obtain ⟨a, rfl, _, hc0, hc1, hc2, hm1, hm2⟩ := (HR.out.nil HK.out) k hlt
        have HA : Hid (pRise none ps = (prOk ps[k] && (match ppv ps k with | none => true | some q => lessB q ps[k].k) && pRise (ppv ps (k + 1)) (ps.drop (k + 1)))) := HI.out.trans (pRise_at hlt)
        have hm1' : (ps[k].k.length : Int) ≤ 9223372036854775807 := by unfold maxLen at hm1; omega
        have hm2' : (ps[k].v.length : Int) ≤ 9223372036854775807 := by unfold maxLen at hm2; omega
        have HN := areCounts_any (wr.heap.size + 1) 1 [ps[k].n] _ (ints1k wr (.cells #[.string (bs ps[k].k), .string (bs ps[k].v), .int .i64 ps[k].n] 63) ps[k].n _ rfl) (by simp)
        have ef : fromTo 1 [ps[k].n] = isCnt ps[k].n := by simp [fromTo, isCnt]
        rw [ef] at HN
        have HKK : Hid (Kept Nil w (wr.alloc (.cells #[.string (bs ps[k].k), .string (bs ps[k].v), .int .i64 ps[k].n] 63))) := HK.out.alloc _
        clear hm1 hm2 HI ef
        by_cases e0 : ps[k].k = []
        · have HF : Hid (pRise none ps = false) := by show pRise none ps = _; rw [HA.out]; unfold prOk; rw [e0]; rfl
          rw [e0] at hc0
          generalize ps[k].v = val at *
          generalize ps[k].n = ver at *
          clear HA HN
          go_wp2
          go_ret
          rw [HF.out]
          exact ⟨rfl, HK.out.alloc _⟩
        · have e1 : ps[k].k.isEmpty = false := by simpa using e0
          by_cases h16 : ps[k].k.length ≤ 16
          · have h16' : (ps[k].k.length : Int) ≤ 16 := by omega
            by_cases h64 : ps[k].v.length ≤ 64
            · have h64' : (ps[k].v.length : Int) ≤ 64 := by omega
              cases hn : isCnt ps[k].n with
              | false =>
                have HF : Hid (pRise none ps = false) := by show pRise none ps = _; rw [HA.out]; unfold prOk; rw [hn]; simp
                rw [hn] at HN
                generalize ps[k].k = key at *
                generalize ps[k].v = val at *
                generalize ps[k].n = ver at *
                clear HA e0 h16 h64 hn
                go_wp2_with fail
                refine HN.mono ?_
                rintro e w1 ⟨rfl, rfl⟩
                go_wp2
                go_ret
                rw [HF.out]
                exact ⟨rfl, HKK.out.alloc _⟩
              | true =>
                have hbox : (((wr.alloc (.cells #[.string (bs ps[k].k), .string (bs ps[k].v), .int .i64 ps[k].n] 63))).alloc (.cells #[.int .i64 ps[k].n] 3)).cell? ⟨wr.heap.size, 0, none⟩ = some (.string (bs ps[k].k)) := blk_at (blk_past (blk_new wr _) _) 0 rfl
                have hok : prOk ps[k] = true := by unfold prOk; rw [e1, hn, decide_eq_true h16, decide_eq_true h64]; rfl
                rw [hn] at HN
                by_cases k0 : k = 0
                · have b3 : decide (0 < k) = false := decide_eq_false (by omega)
                  have hpv : ppv ps k = none := by simp [ppv, k0]
                  have HF : Hid (pRise none ps = pRise (ppv ps (k + 1)) (ps.drop (k + 1))) := by show pRise none ps = _; rw [HA.out, hpv, hok]; rfl
                  generalize ps[k].k = key at *
                  generalize ps[k].v = val at *
                  generalize ps[k].n = ver at *
                  clear HA e0 h16 h64 hn hok k0 hpv
                  go_wp2_with fail
                  refine HN.mono ?_
                  rintro e w1 ⟨rfl, rfl⟩
                  go_wp2
                  go_quiet (fail)
                  go_wp2
                  go_roundw
                  case rel => exact ⟨k + 1, by omega, by go_num, HF, (HKK.out.alloc _).drewN _⟩
                  case measure => simp [intOf]; omega
                · obtain ⟨a', ha', _, hprev, _⟩ := (HR.out.nil (HKK.out.alloc (.cells #[.int .i64 ps[k].n] 3))) (k - 1) (by omega)
                  simp only [Option.some.injEq] at ha'
                  subst ha'
                  have hpv : ppv ps k = some ps[k - 1].k := by simp [ppv, k0, show k - 1 < ps.length by omega]
                  rw [hpv] at HA
                  simp only at HA
                  have hkp : (0 : Int) < (k : Int) := by omega
                  have hki : (k : Int) < ps.length := by omega
                  have b3 : decide (0 < k) = true := decide_eq_true (by omega)
                  have hprev2 : (((wr.alloc (.cells #[.string (bs ps[k].k), .string (bs ps[k].v), .int .i64 ps[k].n] 63))).alloc (.cells #[.int .i64 ps[k].n] 3)).cell? (a.add (((k : Int) - 1).toNat * 3)) = some (.string (bs ps[k - 1].k)) := by rw [show ((k : Int) - 1).toNat = k - 1 by omega]; exact hprev
                  cases hls : lessB ps[k - 1].k ps[k].k with
                  | true =>
                    have HF : Hid (pRise none ps = pRise (ppv ps (k + 1)) (ps.drop (k + 1))) := by show pRise none ps = _; rw [HA.out, hls, hok]; rfl
                    have hls' : Op.bytesLess ps[k - 1].k ps[k].k = true := hls
                    generalize ps[k].k = key at *
                    generalize ps[k].v = val at *
                    generalize ps[k].n = ver at *
                    generalize ps[k - 1].k = y at *
                    clear HA e0 h16 h64 hn hok k0 hpv hls
                    go_wp2_with fail
                    refine HN.mono ?_
                    rintro e w1 ⟨rfl, rfl⟩
                    go_wp2
                    go_quiet (fail)
                    go_wp2
                    go_roundw
                    case rel => exact ⟨k + 1, by omega, by go_num, HF, (HKK.out.alloc _).drewN _⟩
                    case measure => simp [intOf]; omega
                  | false =>
                    have HF : Hid (pRise none ps = false) := by show pRise none ps = _; rw [HA.out, hls]; simp
                    have hls' : Op.bytesLess ps[k - 1].k ps[k].k = false := hls
                    generalize ps[k].k = key at *
                    generalize ps[k].v = val at *
                    generalize ps[k].n = ver at *
                    generalize ps[k - 1].k = y at *
                    clear HA e0 h16 h64 hn hok k0 hpv hls
                    go_wp2_with fail
                    refine HN.mono ?_
                    rintro e w1 ⟨rfl, rfl⟩
                    go_wp2
                    go_quiet (fail)
                    go_wp2
                    go_ret
                    rw [HF.out]
                    exact ⟨rfl, (HKK.out.alloc _).drewN _⟩
            · have HF : Hid (pRise none ps = false) := by show pRise none ps = _; rw [HA.out]; unfold prOk; rw [decide_eq_false h64]; simp
              have h64' : ¬ (ps[k].v.length : Int) ≤ 64 := by omega
              generalize ps[k].k = key at *
              generalize ps[k].v = val at *
              generalize ps[k].n = ver at *
              clear HA HN e0 h16 h64
              go_wp2
              go_ret
              rw [HF.out]
              exact ⟨rfl, HK.out.alloc _⟩
          · have HF : Hid (pRise none ps = false) := by show pRise none ps = _; rw [HA.out]; unfold prOk; rw [decide_eq_false h16]; simp
            have h16' : ¬ (ps[k].k.length : Int) ≤ 16 := by omega
            generalize ps[k].k = key at *
            generalize ps[k].v = val at *
            generalize ps[k].n = ver at *
            clear HA HN e0 h16
            go_wp2
            go_ret
            rw [HF.out]
            exact ⟨rfl, HK.out.alloc _⟩
      · have HF : Hid (pRise none ps = true) := HI.out.trans (pRise_end hlt)
        go_wp2
        go_ret
        rw [HF.out]
        exact ⟨rfl, HK.out⟩
  · have HO : Hid (pairsOk ps = false) := by show pairsOk ps = _; unfold pairsOk; rw [decide_eq_false h32]; rfl
    have h32' : ¬ (ps.length : Int) ≤ 32 := by omega
    rw [HO.out]
    clear h32 HO
    go_enter Tryz.func111, Tryz.ntmps111
    go_wp2
    go_ret
    exact ⟨rfl, Kept.refl _ _⟩

end Go.Proofs.YtflnjlbafchnaaaGreatDoor

/-
  What comes of the sum and of numbers written: no two texts that part in up to four bytes standing together have one sum; what is written of a number is read again; what is cut off is short.
-/
namespace Go.Proofs.YtflnjlbafchnaaaGreatDoor

theorem crcStep_inj {a b : Nat} (ha : a < 4294967296) (hb : b < 4294967296) (h : crcStep a = crcStep b) : a = b := by
  have key : ∀ x y : Nat, x < 2147483648 → y < 2147483648 → x ^^^ 2197175160 ≠ y := by
    intro x y hx hy e
    have h1 : (x ^^^ 2197175160).testBit 31 = y.testBit 31 := by rw [e]
    rw [Nat.testBit_xor, Nat.testBit_lt_two_pow (x := x) (i := 31) (by omega), Nat.testBit_lt_two_pow (x := y) (i := 31) (by omega)] at h1
    exact absurd h1 (by decide)
  unfold crcStep at h
  split at h <;> split at h
  · have h2 : a / 2 = b / 2 := by
      have := congrArg (· ^^^ 2197175160) h
      simpa [Nat.xor_assoc] using this
    omega
  · exact absurd h (key _ _ (by omega) (by omega))
  · exact absurd h.symm (key _ _ (by omega) (by omega))
  · omega

theorem crcSteps_inj : ∀ (k : Nat) {a b : Nat}, a < 4294967296 → b < 4294967296 → crcSteps k a = crcSteps k b → a = b
  | 0, _, _, _, _, h => h
  | k + 1, _, _, ha, hb, h => crcStep_inj ha hb (crcSteps_inj k (crcStep_lt ha) (crcStep_lt hb) h)

theorem crcStep_high (x y k : Nat) : crcStep (x ^^^ y * 2 ^ (k + 1)) = crcStep x ^^^ y * 2 ^ k := by
  have e1 : y * 2 ^ (k + 1) = y * 2 ^ k * 2 := by rw [Nat.pow_succ, Nat.mul_assoc]
  have e2 : (x ^^^ y * 2 ^ (k + 1)) % 2 = x % 2 := by
    have := Nat.xor_mod_two_pow (a := x) (b := y * 2 ^ (k + 1)) (n := 1)
    rw [show (2 : Nat) ^ 1 = 2 from rfl] at this
    rw [this, e1, Nat.mul_mod_left, Nat.xor_zero]
  have e3 : (x ^^^ y * 2 ^ (k + 1)) / 2 = x / 2 ^^^ y * 2 ^ k := by
    rw [xor_half, e1, Nat.mul_div_cancel _ (by omega)]
  unfold crcStep
  rw [e2, e3]
  split
  · rw [Nat.xor_assoc, Nat.xor_assoc, Nat.xor_comm (y * 2 ^ k)]
  · rfl

theorem crcSteps_high : ∀ (k x y : Nat), crcSteps k (x ^^^ y * 2 ^ k) = crcSteps k x ^^^ y
  | 0, x, y => by simp [crcSteps]
  | k + 1, x, y => by
    show crcSteps k (crcStep (x ^^^ y * 2 ^ (k + 1))) = crcSteps k (crcStep x) ^^^ y
    rw [crcStep_high, crcSteps_high k]

theorem crcSteps_add : ∀ (j k x : Nat), crcSteps k (crcSteps j x) = crcSteps (j + k) x
  | 0, k, x => by rw [Nat.zero_add]; rfl
  | j + 1, k, x => by
    rw [Nat.succ_add]
    show crcSteps k (crcSteps j (crcStep x)) = crcSteps (j + k) (crcStep x)
    exact crcSteps_add j k _

/-- Bytes as one number, the first one lowest. -/
def word : List UInt8 → Nat
  | [] => 0
  | b :: l => b.toNat ^^^ word l * 2 ^ 8

theorem fold_word : ∀ (l : List UInt8) (c : Nat), l.foldl crcByte c = crcSteps (8 * l.length) (c ^^^ word l)
  | [], c => by simp [word, crcSteps]
  | b :: l, c => by
    rw [List.foldl_cons, fold_word l]
    unfold crcByte
    rw [← crcSteps_high, crcSteps_add, List.length_cons, show 8 + 8 * l.length = 8 * (l.length + 1) by omega, Nat.xor_assoc]
    rfl

theorem word_mod (b : UInt8) (l : List UInt8) : word (b :: l) % 256 = b.toNat := by
  have h := b.toNat_lt
  have := Nat.xor_mod_two_pow (a := b.toNat) (b := word l * 2 ^ 8) (n := 8)
  show (b.toNat ^^^ word l * 2 ^ 8) % 2 ^ 8 = _
  rw [this, Nat.mul_mod_left, Nat.xor_zero]
  omega
theorem word_div (b : UInt8) (l : List UInt8) : word (b :: l) / 256 = word l := by
  have h := b.toNat_lt
  have := Nat.shiftRight_xor_distrib (a := b.toNat) (b := word l * 2 ^ 8) (i := 8)
  rw [Nat.shiftRight_eq_div_pow, Nat.shiftRight_eq_div_pow, Nat.shiftRight_eq_div_pow] at this
  show (b.toNat ^^^ word l * 2 ^ 8) / 2 ^ 8 = _
  rw [this, Nat.mul_div_cancel _ (by omega), show b.toNat / 2 ^ 8 = 0 by omega, Nat.zero_xor]
theorem word_lt : ∀ (l : List UInt8), word l < 256 ^ l.length
  | [] => by simp [word]
  | b :: l => by
    have h1 := word_lt l
    have h2 := word_div b l
    rw [List.length_cons, Nat.pow_succ]
    exact (Nat.div_lt_iff_lt_mul (by omega)).mp (by rw [h2]; exact h1)
theorem word_inj : ∀ {a b : List UInt8}, a.length = b.length → word a = word b → a = b
  | [], [], _, _ => rfl
  | [], _ :: _, h, _ => by simp at h
  | _ :: _, [], h, _ => by simp at h
  | x :: a, y :: b, h, e => by
    have h1 : x.toNat = y.toNat := by rw [← word_mod x a, ← word_mod y b, e]
    have h2 : word a = word b := by rw [← word_div x a, ← word_div y b, e]
    rw [word_inj (by simpa using h) h2, UInt8.toNat.inj h1]

theorem fold_inj : ∀ (l : List UInt8) {a b : Nat}, a < 4294967296 → b < 4294967296 → l.foldl crcByte a = l.foldl crcByte b → a = b
  | [], _, _, _, _, h => h
  | x :: l, a, b, ha, hb, h => by
    have h1 : crcByte a x = crcByte b x := fold_inj l (crcByte_lt ha) (crcByte_lt hb) h
    have hx : x.toNat < 4294967296 := by have := x.toNat_lt; omega
    have h2 : a ^^^ x.toNat = b ^^^ x.toNat := crcSteps_inj 8 (xor_lt ha hx) (xor_lt hb hx) h1
    have := congrArg (· ^^^ x.toNat) h2
    simpa [Nat.xor_assoc] using this

/-- Texts that part in four bytes standing together have two sums. -/
theorem crc_parts {p m m' s : List UInt8} (hl : m.length = m'.length) (h4 : m.length ≤ 4) (h : crc (p ++ m ++ s) = crc (p ++ m' ++ s)) : m = m' := by
  have h1 : crcReg (p ++ m ++ s) = crcReg (p ++ m' ++ s) := by
    have a := crcReg_lt (p ++ m ++ s)
    have b := crcReg_lt (p ++ m' ++ s)
    unfold crc at h
    omega
  have hp := crcReg_lt p
  unfold crcReg at h1
  rw [List.foldl_append, List.foldl_append, List.foldl_append, List.foldl_append] at h1
  have h2 := fold_inj s (fold_lt m hp) (fold_lt m' hp) h1
  rw [fold_word m, fold_word m', hl] at h2
  have hb : ∀ n : List UInt8, n.length ≤ 4 → word n < 4294967296 := fun n hn => by
    have h3 := word_lt n
    have h4 : 256 ^ n.length ≤ 256 ^ 4 := Nat.pow_le_pow_right (by omega) hn
    omega
  have h3 := crcSteps_inj _ (xor_lt hp (hb m h4)) (xor_lt hp (hb m' (by omega))) h2
  have h5 := congrArg (crcReg p ^^^ ·) h3
  simp only [← Nat.xor_assoc, Nat.xor_self, Nat.zero_xor] at h5
  exact word_inj hl h5

/-- Texts that are alike but for the four bytes from one place on. -/
theorem crc_window {a b : List UInt8} {f : Nat} (hl : a.length = b.length) (hs : ∀ i, i < f ∨ f + 4 ≤ i → a[i]? = b[i]?) (hne : a ≠ b) : crc a ≠ crc b := by
  intro h
  have e1 : a.take f = b.take f := by
    apply List.ext_getElem?
    intro i
    by_cases hi : i < f
    · rw [List.getElem?_take_of_lt hi, List.getElem?_take_of_lt hi, hs i (.inl hi)]
    · rw [List.getElem?_eq_none (by simp; omega), List.getElem?_eq_none (by simp; omega)]
  have e2 : a.drop (f + 4) = b.drop (f + 4) := by
    apply List.ext_getElem?
    intro i
    rw [List.getElem?_drop, List.getElem?_drop, hs _ (.inr (by omega))]
  have d : ∀ l : List UInt8, l = l.take f ++ (l.drop f).take 4 ++ l.drop (f + 4) := fun l => by
    rw [List.append_assoc, ← List.drop_drop, List.take_append_drop, List.take_append_drop]
  have e3 : (a.drop f).take 4 = (b.drop f).take 4 := by
    refine crc_parts (p := a.take f) (s := a.drop (f + 4)) (by simp [hl]) (by simp; omega) ?_
    rw [← d a, e1, e2, ← d b]
    exact h
  exact hne (by rw [d a, d b, e1, e2, e3])

/-! ### what is written is read -/

theorem numGo_enc : ∀ (n k x : Nat) (t : List UInt8), x + n * 2 ^ (7 * k) ≤ maxNum → (n ≠ 0 ∨ k = 0) → numGo k x (enc n ++ t) = .ok (x + n * 2 ^ (7 * k), t) := by
  intro n
  induction n using Nat.strongRecOn with
  | ind n ih =>
  intro k x t hm hz
  have hk : k ≤ 5 := by
    rcases hz with hz | hz
    · by_cases hk : k ≤ 5
      · exact hk
      · have h1 : 2 ^ (7 * 6) ≤ 2 ^ (7 * k) := Nat.pow_le_pow_right (by omega) (by omega)
        have h2 : 1 * 2 ^ (7 * k) ≤ n * 2 ^ (7 * k) := Nat.mul_le_mul_right _ (by omega)
        unfold maxNum at hm
        omega
    · omega
  by_cases h : n < 128
  · obtain ⟨d, e, hd⟩ := enc_small_byte h
    rw [e]
    show numGo k x (d :: t) = _
    have hmod : d.toNat % 128 = n := by omega
    rw [numGo_end (by rw [hmod, hd]; exact ⟨hk, hm, hz⟩) (by omega), hmod]
  · obtain ⟨d, e, hd⟩ := enc_big_byte h
    rw [e]
    show numGo k x (d :: (enc (n / 128) ++ t)) = _
    have hmod : d.toNat % 128 = n % 128 := by omega
    have hs : x + n % 128 * 2 ^ (7 * k) + n / 128 * 2 ^ (7 * (k + 1)) = x + n * 2 ^ (7 * k) := by
      have h1 : 2 ^ (7 * (k + 1)) = 128 * 2 ^ (7 * k) := by rw [Nat.mul_add, Nat.pow_add]; omega
      rw [h1, ← Nat.mul_assoc, Nat.add_assoc, ← Nat.add_mul]
      congr 2
      omega
    rw [numGo_more (by rw [hmod]; exact ⟨hk, by omega, .inl (by omega)⟩) (by omega), hmod, ih (n / 128) (by omega) (k + 1) _ t (by omega) (.inl (by omega)), hs]

theorem rdNum_enc {n : Nat} (h : n ≤ maxNum) (t : List UInt8) : rdNum (enc n ++ t) = .ok (n, t) := by
  have := numGo_enc n 0 0 t (by simpa using h) (.inr rfl)
  unfold rdNum
  simpa using this

theorem numGo_cut : ∀ (n k x j : Nat), x + n * 2 ^ (7 * k) ≤ maxNum → (n ≠ 0 ∨ k = 0) → j < (enc n).length → numGo k x ((enc n).take j) = .error 3 := by
  intro n
  induction n using Nat.strongRecOn with
  | ind n ih =>
  intro k x j hm hz hj
  have hk : k ≤ 5 := by
    rcases hz with hz | hz
    · by_cases hk : k ≤ 5
      · exact hk
      · have h1 : 2 ^ (7 * 6) ≤ 2 ^ (7 * k) := Nat.pow_le_pow_right (by omega) (by omega)
        have h2 : 1 * 2 ^ (7 * k) ≤ n * 2 ^ (7 * k) := Nat.mul_le_mul_right _ (by omega)
        unfold maxNum at hm
        omega
    · omega
  by_cases h : n < 128
  · obtain ⟨d, e, hd⟩ := enc_small_byte h
    rw [e] at hj ⊢
    obtain rfl : j = 0 := by simpa using hj
    rfl
  · obtain ⟨d, e, hd⟩ := enc_big_byte h
    rw [e] at hj ⊢
    cases j with
    | zero => rfl
    | succ j =>
      rw [List.take_succ_cons]
      have hmod : d.toNat % 128 = n % 128 := by omega
      have hs : x + n % 128 * 2 ^ (7 * k) + n / 128 * 2 ^ (7 * (k + 1)) = x + n * 2 ^ (7 * k) := by
        have h1 : 2 ^ (7 * (k + 1)) = 128 * 2 ^ (7 * k) := by rw [Nat.mul_add, Nat.pow_add]; omega
        rw [h1, ← Nat.mul_assoc, Nat.add_assoc, ← Nat.add_mul]
        congr 2
        omega
      rw [numGo_more (by rw [hmod]; exact ⟨hk, by omega, .inl (by omega)⟩) (by omega), hmod]
      exact ih (n / 128) (by omega) (k + 1) _ j (by omega) (.inl (by omega)) (by simpa using hj)

theorem rdUpTo_enc {n most : Nat} (h : n ≤ maxNum) (hm : n ≤ most) (t : List UInt8) : rdUpTo most (enc n ++ t) = .ok (n, t) := by
  unfold rdUpTo
  rw [rdNum_enc h]
  exact if_pos hm
theorem rdText_enc {s : List UInt8} {most : Nat} (h : s.length ≤ maxNum) (hm : s.length ≤ most) (t : List UInt8) : rdText most (encText s ++ t) = .ok (s, t) := by
  unfold rdText encText
  rw [List.append_assoc, rdUpTo_enc h hm]
  show rdTake s.length (s ++ t) = _
  unfold rdTake
  rw [if_pos (by simp)]
  simp

/-- A frame, whatever its sum: read by its length. -/
theorem unF_frame {s q t : List UInt8} (hs : s.length ≤ 65536) (hq : q.length = 4) : unF (encText s ++ q ++ t) = if q = le4 (crc s) then (s, t, 0) else ([], [], 2) := by
  have h1 : rdText 65536 (encText s ++ q ++ t) = .ok (s, q ++ t) := by rw [List.append_assoc]; exact rdText_enc (by unfold maxNum; omega) hs _
  have h4 : 4 ≤ (q ++ t).length := by simp; omega
  have hq4 : (q ++ t).take 4 = q := by rw [← hq, List.take_left]
  by_cases he : q = le4 (crc s)
  · rw [if_pos he, unF_yes h1 h4 (by rw [hq4]; exact he), ← hq, List.drop_left]
  · rw [if_neg he, unF_sum h1 h4 (by rw [hq4]; exact he)]

theorem le4_inj {a b : Nat} (ha : a < 4294967296) (hb : b < 4294967296) (h : le4 a = le4 b) : a = b := by
  unfold le4 at h
  simp only [List.cons.injEq, and_true] at h
  obtain ⟨h0, h1, h2, h3⟩ := h
  have e : ∀ x y : Nat, x < 256 → y < 256 → UInt8.ofNat x = UInt8.ofNat y → x = y := fun x y hx hy h => by
    have := congrArg UInt8.toNat h
    rwa [ofNat_toNat hx, ofNat_toNat hy] at this
  have := e _ _ (by omega) (by omega) h0
  have := e _ _ (by omega) (by omega) h1
  have := e _ _ (by omega) (by omega) h2
  have := e _ _ (by omega) (by omega) h3
  omega

theorem unF_whole {s : List UInt8} (hs : s.length ≤ 65536) (t : List UInt8) : unF (encFrame s ++ t) = (s, t, 0) := by
  unfold encFrame
  rw [unF_frame hs rfl, if_pos rfl]
theorem unF_turned {s s' : List UInt8} (hs : s.length ≤ 65536) (hl : s'.length = s.length) (hc : crc s' ≠ crc s) (t : List UInt8) : unF (encText s' ++ le4 (crc s) ++ t) = ([], [], 2) := by
  rw [unF_frame (by omega) rfl, if_neg]
  intro h
  exact hc (le4_inj (crc_lt _) (crc_lt _) h).symm

theorem encFrame_len (s : List UInt8) : (encFrame s).length = (enc s.length).length + s.length + 4 := by
  simp only [encFrame, encText, le4, List.length_append, List.length_cons, List.length_nil]

/-- What is cut off a frame is short. -/
theorem unF_cut {s : List UInt8} (hs : s.length ≤ 65536) {j : Nat} (hj : j < (encFrame s).length) : unF ((encFrame s).take j) = ([], [], 3) := by
  have hm : s.length ≤ maxNum := by unfold maxNum; omega
  rw [encFrame_len] at hj
  by_cases h1 : j < (enc s.length).length
  · refine unF_err ?_
    unfold encFrame encText
    rw [List.append_assoc, List.take_append_of_le_length (by omega)]
    have := numGo_cut s.length 0 0 j (by simpa using hm) (.inr rfl) h1
    unfold rdText rdUpTo rdNum
    rw [this]
  · have e1 : (encFrame s).take j = enc s.length ++ (s ++ le4 (crc s)).take (j - (enc s.length).length) := by
      unfold encFrame encText
      rw [List.append_assoc, List.take_append, List.take_of_length_le (by omega)]
    rw [e1]
    generalize hd : j - (enc s.length).length = d
    by_cases h2 : d < s.length
    · refine unF_err ?_
      unfold rdText
      rw [rdUpTo_enc hm hs]
      show rdTake s.length _ = _
      unfold rdTake
      rw [if_neg (by simp; omega)]
    · have e2 : (s ++ le4 (crc s)).take d = s ++ (le4 (crc s)).take (d - s.length) := by
        rw [List.take_append, List.take_of_length_le (by omega)]
      rw [e2, ← List.append_assoc]
      refine unF_no (body := s) (t := (le4 (crc s)).take (d - s.length)) (rdText_enc hm hs _) ?_
      simp [le4]
      omega

/-! ### the turned bytes -/
theorem turned_step {a b : List UInt8} {i : Nat} {m : UInt8} (hi : i < a.length) (hs : b[i]? = a[i]?) : (b.set i (a[i] ^^^ m) = b ↔ m = 0) := by
  have hib : i < b.length := by
    by_cases h : i < b.length
    · exact h
    · rw [List.getElem?_eq_none (by omega), List.getElem?_eq_getElem hi] at hs; cases hs
  have hv : b[i] = a[i] := by
    rw [List.getElem?_eq_getElem hib, List.getElem?_eq_getElem hi] at hs
    simpa using hs
  constructor
  · intro h
    have h2 : (b.set i (a[i] ^^^ m))[i]? = b[i]? := by rw [h]
    rw [List.getElem?_set_self hib, List.getElem?_eq_getElem hib, hv] at h2
    have h3 : a[i] ^^^ m = a[i] := by simpa using h2
    have h4 := congrArg (a[i] ^^^ ·) h3
    simpa [← UInt8.xor_assoc] using h4
  · rintro rfl
    rw [UInt8.xor_zero, ← hv]
    exact List.set_getElem_self hib

end Go.Proofs.YtflnjlbafchnaaaGreatDoor

/-
  Rows of numbers: what is read so many times, by the program (times) and by the document's reader; numbers written one behind the other; two rows held against each other.
-/
namespace Go.Proofs.YtflnjlbafchnaaaGreatDoor
open Go.RowKit

/-! ### a row of its own, and what calls leave of it -/
theorem own_kept {X : Nat → Obj → Prop} {w w' : World} {B : Nat} {e : TypeId} {size : Nat} {v : Value} {n : Nat} {xs : List Value} (h : w.ownsRow B e size v n xs) (hk : Kept X w w')
    (hX : ∀ k cs, B ≤ k → ¬ X k (.cells cs e (0, 0))) : w'.ownsRow B e size v n xs := by
  refine ⟨h.1, h.2.imp id ?_⟩
  rintro ⟨g, cap, cur, h1, h2, h3, h4⟩
  exact ⟨g, cap, cur, h1, h2, hk.block _ _ h3 (hX _ _ h2), h4⟩
theorem Kept.grown {X : Nat → Obj → Prop} {a w w' : World} {row : Option Nat} (h : Kept X a w) (hg : w.grownBy w' row) (hrow : ∀ k, row = some k → a.heap.size ≤ k) : Kept X a w' :=
  ⟨hg.os.trans h.os, hg.tape.trans h.tape, hg.output.trans h.output, Nat.le_trans h.size hg.size, fun k o ho hx => by
    have hk := lt_of_block ho
    rw [hg.block k (by have := h.size; omega) (fun e => by have := hrow k e.symm; omega)]
    exact h.block k o ho hx⟩
theorem own_row {w : World} {B : Nat} {e : TypeId} {size : Nat} {v : Value} {n : Nat} {xs : List Value} (h : w.ownsRow B e size v n xs) : ∀ k, v.ownBlock = some k → B ≤ k := fun k hk => (h.lt k hk).1

/-! ### so many of a kind -/
def rdTimes {α : Type} (rd : List UInt8 → Except Int (α × List UInt8)) : Nat → List UInt8 → Except Int (List α × List UInt8)
  | 0, l => .ok ([], l)
  | n + 1, l =>
    match rd l with
    | .error c => .error c
    | .ok (a, t) =>
      match rdTimes rd n t with
      | .error c => .error c
      | .ok (xs, u) => .ok (a :: xs, u)
/-- With these ahead. -/
def preT {α : Type} (xs : List α) : Except Int (List α × List UInt8) → Except Int (List α × List UInt8)
  | .ok (bs, u) => .ok (xs ++ bs, u)
  | .error c => .error c
theorem preT_nil {α : Type} (r : Except Int (List α × List UInt8)) : preT [] r = r := by
  cases r with
  | error c => rfl
  | ok x => rfl
theorem rdTimes_no {α : Type} {rd : List UInt8 → Except Int (α × List UInt8)} {xs : List α} {m : Nat} {t : List UInt8} {c : Int} (h : rd t = .error c) : preT xs (rdTimes rd (m + 1) t) = .error c := by
  simp [rdTimes, h, preT]
theorem rdTimes_more {α : Type} {rd : List UInt8 → Except Int (α × List UInt8)} {xs : List α} {m : Nat} {t u : List UInt8} {a : α} (h : rd t = .ok (a, u)) : preT xs (rdTimes rd (m + 1) t) = preT (xs ++ [a]) (rdTimes rd m u) := by
  simp only [rdTimes, h]
  cases rdTimes rd m u with
  | error c => rfl
  | ok x => simp [preT]
theorem rdTimes_len {α : Type} {rd : List UInt8 → Except Int (α × List UInt8)} : ∀ {n : Nat} {l t : List UInt8} {xs : List α}, rdTimes rd n l = .ok (xs, t) → xs.length = n
  | 0, l, t, xs, h => by
    simp only [rdTimes, Except.ok.injEq, Prod.mk.injEq] at h
    rw [← h.1]; rfl
  | n + 1, l, t, xs, h => by
    unfold rdTimes at h
    split at h
    · cases h
    · split at h
      · cases h
      · rename_i hr
        simp only [Except.ok.injEq, Prod.mk.injEq] at h
        rw [← h.1, List.length_cons, rdTimes_len hr]

/-! ### rows of ints -/
def natCells (ns : List Nat) : List Value := ns.map fun (n : Nat) => Value.int .i64 n
theorem natCells_snoc (ns : List Nat) (n : Nat) : natCells (ns ++ [n]) = natCells ns ++ [.int .i64 n] := by simp [natCells]
def OwnNats (B : Nat) (w : World) (ao : Option Addr) (c : Nat) (ns : List Nat) : Prop := w.ownsRow B 3 1 (.slice ao ns.length c) ns.length (natCells ns)
def NatsV (B : Nat) : List Nat → World → Value → Prop := fun ns w v => ∃ ao c, v = .slice ao ns.length c ∧ OwnNats B w ao c ns

theorem Tryz.infoInt : (Tryz.prog.info? 3).map (fun i => (i.zero, i.size, i.bytes)) = some (some (.int .i64 0), 1, 8) := by kernel_rfl

theorem src_int {w : World} (z : Int) : Src Tryz.prog 1 37 (.slice (some ⟨w.heap.size, 0, none⟩) 1 1) 1 [.int .i64 z] (w.alloc (.cells #[.int .i64 z] 3)) := by
  refine Src.ofSlice _ Tryz.underlying37 _ 1 1 _ rfl ?_ ?_
  · intro j u hj
    match j, hj with
    | 0, hj =>
      simp at hj
      subst hj
      simp [Addr.add]
  · intro u hu
    simp at hu
    subst hu
    rfl

theorem OwnNats.push {B : Nat} {w' : World} {ao : Option Addr} {c : Nat} {ns : List Nat} {n : Nat} (h : w'.ownsRow B 3 1 (.slice ao (ns.length + 1) c) (ns.length + 1) (natCells ns ++ [.int .i64 n])) : OwnNats B w' ao c (ns ++ [n]) := by
  unfold OwnNats
  rw [natCells_snoc, List.length_append]
  exact h

end Go.Proofs.YtflnjlbafchnaaaGreatDoor

/-
  GetNumbers's own function: so many numbers, the count lying in a cell of its own; what it got.
-/
namespace Go.Proofs.YtflnjlbafchnaaaGreatDoor
open Go.RowKit

theorem own_mono {w : World} {B B' : Nat} {e : TypeId} {size : Nat} {v : Value} {n : Nat} {xs : List Value} (h : w.ownsRow B e size v n xs) (hb : B' ≤ B) : w.ownsRow B' e size v n xs :=
  ⟨h.1, h.2.imp id fun ⟨g, cap, cur, h1, h2, h3⟩ => ⟨g, cap, cur, h1, Nat.le_trans hb h2, h3⟩⟩

theorem OwnNats.through {w w1 w2 : World} {o1 o2 o3 : Obj} {ao : Option Addr} {c : Nat} {ns : List Nat} (h : OwnNats (((w.alloc o1).alloc o2).alloc o3).heap.size w1 ao c ns)
    (hk : Kept (fun k _ => k = w.heap.size ∨ k = w.heap.size + 1) w1 w2) : OwnNats w.heap.size w2 ao c ns := by
  have hb : (((w.alloc o1).alloc o2).alloc o3).heap.size = w.heap.size + 3 := by simp
  rw [hb] at h
  exact own_mono (own_kept h hk (fun k cs hb hx => by omega)) (by omega)

/-- What a reading of a row of numbers hands out. -/
def GotN (ns : List Nat) (w : World) (e : Ending) (w' : World) : Prop := ∃ ao c, e = .returned (.tuple #[.slice ao ns.length c, .int .i64 0]) ∧ OwnNats w.heap.size w' ao c ns ∧ Kept Nil w w'

end Go.Proofs.YtflnjlbafchnaaaGreatDoor

/-
  Rows of entries, as rows that can be read and as rows of one's own; the short functions of logs, the program's and the document's.
-/
namespace Go.Proofs.YtflnjlbafchnaaaGreatDoor
open Go.RowKit

/-- A row of entries that can be read. -/
def EntRow (B : Nat) (w : World) (ao : Option Addr) (es : List En) : Prop := ∀ j, (hj : j < es.length) → ∃ a, ao = some a ∧ a.block < B ∧ w.cell? (a.add (j * 4)) = some (.int .i64 es[j].ix) ∧ w.cell? ⟨(a.add (j * 4)).block, (a.add (j * 4)).off + 1, none⟩ = some (.int .i64 es[j].tm) ∧ w.cell? ⟨(a.add (j * 4)).block, (a.add (j * 4)).off + 2, none⟩ = some (.int .i64 es[j].kd) ∧ w.cell? ⟨(a.add (j * 4)).block, (a.add (j * 4)).off + 3, none⟩ = some (.string (bs es[j].dt)) ∧ es[j].dt.length ≤ maxLen
theorem EntRow.kept {X : Nat → Obj → Prop} {B : Nat} {w w' : World} {ao : Option Addr} {es : List En} (h : EntRow B w ao es) (hk : Kept X w w') (hX : ∀ k o, k < B → ¬ X k o) : EntRow B w' ao es := by
  intro j hj
  obtain ⟨a, h0, h1, h2, h3, h4, h5, h6⟩ := h j hj
  have hb : (a.add (j * 4)).block < B := by rw [add_block]; exact h1
  exact ⟨a, h0, h1, cell_kept hk (fun o => hX _ o hb) h2, cell_kept hk (fun o => hX _ o hb) h3, cell_kept hk (fun o => hX _ o hb) h4, cell_kept hk (fun o => hX _ o hb) h5, h6⟩
theorem EntRow.nil {B : Nat} {w w' : World} {ao : Option Addr} {es : List En} (h : EntRow B w ao es) (hk : Kept Nil w w') : EntRow B w' ao es := h.kept hk (fun _ _ _ x => x)
theorem EntRow.alloc {B : Nat} {w : World} {ao : Option Addr} {es : List En} (h : EntRow B w ao es) (o : Obj) : EntRow B (w.alloc o) ao es := h.nil ((Kept.refl _ _).alloc o)
theorem entRow_nil (B : Nat) (w : World) (ao : Option Addr) : EntRow B w ao [] := fun j hj => by simp at hj
theorem EntRow.mono {B B' : Nat} {w : World} {ao : Option Addr} {es : List En} (h : EntRow B w ao es) (hB : B ≤ B') : EntRow B' w ao es := fun j hj => by
  obtain ⟨a, h0, h1, h2⟩ := h j hj
  exact ⟨a, h0, Nat.lt_of_lt_of_le h1 hB, h2⟩
theorem EntRow.full {B : Nat} {w : World} {ao : Option Addr} {es : List En} (h : EntRow B w ao es) : EntRow w.heap.size w ao es := fun j hj => by
  obtain ⟨a, h0, h1, h2, h3⟩ := h j hj
  have hb := cell_lt h2
  rw [add_block] at hb
  exact ⟨a, h0, hb, h2, h3⟩
theorem addr_add2 (a : Addr) (i j : Nat) : (a.add i).add j = a.add (i + j) := by
  unfold Addr.add
  by_cases hi : i = 0
  · subst hi
    by_cases hj : j = 0
    · subst hj; simp
    · simp [hj]
  · by_cases hj : j = 0
    · subst hj; simp [hi]
    · simp [hi, hj, Nat.add_assoc]
theorem EntRow.drop {B : Nat} {w : World} {a : Addr} {es : List En} (h : EntRow B w (some a) es) (k : Nat) : EntRow B w (some (a.add (k * 4))) (es.drop k) := by
  intro j hj
  have hj' : k + j < es.length := by rw [List.length_drop] at hj; omega
  obtain ⟨a', h0, h1, h2⟩ := h (k + j) hj'
  simp only [Option.some.injEq] at h0
  subst h0
  simp only [List.getElem_drop]
  refine ⟨_, rfl, by rw [add_block]; exact h1, ?_⟩
  rw [addr_add2, show k * 4 + j * 4 = (k + j) * 4 by omega]
  exact h2
theorem EntRow.take {B : Nat} {w : World} {ao : Option Addr} {es : List En} (h : EntRow B w ao es) (k : Nat) : EntRow B w ao (es.take k) := by
  intro j hj
  have hj' : j < es.length := by rw [List.length_take] at hj; omega
  simp only [List.getElem_take]
  exact h j hj'

def enCells (es : List En) : List Value := es.flatMap fun e => [Value.int .i64 e.ix, .int .i64 e.tm, .int .i64 e.kd, .string (bs e.dt)]
theorem enCells_append (a b : List En) : enCells (a ++ b) = enCells a ++ enCells b := by simp [enCells]
theorem enCells_len (es : List En) : (enCells es).length = es.length * 4 := by
  induction es with
  | nil => rfl
  | cons e t ih =>
    have : enCells (e :: t) = [Value.int .i64 e.ix, .int .i64 e.tm, .int .i64 e.kd, .string (bs e.dt)] ++ enCells t := by simp [enCells]
    rw [this, List.length_append, ih]
    simp; omega
theorem enCells_at : ∀ (es : List En) (j : Nat) (hj : j < es.length), (enCells es)[j * 4]? = some (.int .i64 es[j].ix) ∧ (enCells es)[j * 4 + 1]? = some (.int .i64 es[j].tm) ∧ (enCells es)[j * 4 + 2]? = some (.int .i64 es[j].kd) ∧ (enCells es)[j * 4 + 3]? = some (.string (bs es[j].dt))
  | [], j, hj => by simp at hj
  | p :: t, 0, hj => by simp [enCells]
  | p :: t, j + 1, hj => by
    have h := enCells_at t j (by simpa using hj)
    have e : enCells (p :: t) = .int .i64 p.ix :: .int .i64 p.tm :: .int .i64 p.kd :: .string (bs p.dt) :: enCells t := by simp [enCells]
    have hx : ∀ i, (enCells (p :: t))[(j + 1) * 4 + i]? = (enCells t)[j * 4 + i]? := fun i => by
      rw [e, show (j + 1) * 4 + i = (j * 4 + i) + 1 + 1 + 1 + 1 by omega]
      simp only [List.getElem?_cons_succ]
    have hx0 := hx 0
    simp only [Nat.add_zero] at hx0
    rw [hx0, hx 1, hx 2, hx 3]
    simpa using h
theorem own_cellE {B n s c : Nat} {e : TypeId} {w : World} {ao : Option Addr} {xs : List Value} (h : w.ownsRow B e s (.slice ao n c) n xs) (hn : 0 < n) : ∃ g, ao = some ⟨g, 0, none⟩ ∧ B ≤ g ∧ g < w.heap.size ∧ ∀ i v, xs[i]? = some v → w.cell? ⟨g, i, none⟩ = some v := by
  rcases h.2 with ⟨_, h0⟩ | ⟨g, cap, cur, hv, hb, hh, h1, h2, h3, h4⟩
  · omega
  · simp only [Value.slice.injEq] at hv
    refine ⟨g, hv.1, hb, lt_of_block hh, fun i v hi => ?_⟩
    rw [blk_cell hh i]
    rw [← h4, List.getElem?_take] at hi
    split at hi
    · simpa using hi
    · cases hi
theorem addr_addE (g j : Nat) : (⟨g, 0, none⟩ : Addr).add j = ⟨g, j, none⟩ := by unfold Addr.add; split <;> simp_all
theorem EntRow.small {B : Nat} {w : World} {ao : Option Addr} {es : List En} (h : EntRow B w ao es) : ∀ e ∈ es, e.dt.length ≤ maxLen := by
  intro e he
  obtain ⟨j, hj, rfl⟩ := List.getElem_of_mem he
  obtain ⟨_, _, _, _, _, _, _, h6⟩ := h j hj
  exact h6

/-! ### the term of a place -/
/-- The term so many places behind the base. -/
def tmAt (bt : Int) (es : List En) (p : Nat) : Int := if p = 0 then bt else (es.getD (p - 1) ⟨0, 0, 0, []⟩).tm
theorem tmAt_zero (bt : Int) (es : List En) : tmAt bt es 0 = bt := rfl
theorem tmAt_pos {bt : Int} {es : List En} {p : Nat} (h : 0 < p) (hp : p - 1 < es.length) : tmAt bt es p = es[p - 1].tm := by
  unfold tmAt
  rw [if_neg (by omega)]
  simp [List.getD_eq_getElem?_getD, hp]
/-- TermAt: the term and the error. -/
def tAt (base bt : Int) (es : List En) (i : Int) : Int × Int := if i < base then (0, 11) else if base + es.length < i then (0, 12) else (tmAt bt es (i - base).toNat, 0)

theorem EntRow.tm {B : Nat} {w : World} {ao : Option Addr} {es : List En} (h : EntRow B w ao es) {j : Nat} (hj : j < es.length) : ∃ a, ao = some a ∧ w.cell? ⟨(a.add (j * 4)).block, (a.add (j * 4)).off + 1, none⟩ = some (.int .i64 es[j].tm) := by
  obtain ⟨a, h0, _, _, h3, _⟩ := h j hj
  exact ⟨a, h0, h3⟩
theorem EntRow.ix {B : Nat} {w : World} {ao : Option Addr} {es : List En} (h : EntRow B w ao es) {j : Nat} (hj : j < es.length) : ∃ a, ao = some a ∧ w.cell? (a.add (j * 4)) = some (.int .i64 es[j].ix) := by
  obtain ⟨a, h0, _, h2, _⟩ := h j hj
  exact ⟨a, h0, h2⟩

end Go.Proofs.YtflnjlbafchnaaaGreatDoor

/-
  'append' onto a row of the call's own, as a step within a region that draws its order. A law on the model, over any program.
-/
namespace Go.Proofs.YtflnjlbafchnaaaGreatDoor
open Go.RowKit
variable {P : Program} (w : World)

theorem step_append_src {ops : Array Oper} {o : Oper} {a : Act} {K : Act → World → Prop} {Q : Exit → Act → World → Prop} {E : Prop} (hgd : o.guard = none) (s xo : Operand) (t tx : TypeId)
    (ho : o.op = .call { callee := .builtin .append, args := #[s, xo], argTypes := #[t, tx] })
    (base : Nat) (e : TypeId) (i : TypeInfo) (z : Value) (size bytes : Nat) (ht : P.underlying t = some (.slice e)) (hi : P.info? e = some i) (hz : i.zero = some z)
    (hsize : i.size = size) (hby : i.bytes = bytes) (hzs : z.cells.size = size)
    (v : Value) (n : Nat) (xs : List Value) (hv : a.eval s = v) (hown : w.ownsRow base e size v n xs) (x : Value) (m : Nat) (news : List Value) (hx : a.eval xo = x) (hs : Src P size tx x m news w)
    (h63 : n + m ≤ maxLen) (hbytes : (n + m) * bytes ≤ 140737488355328) (hbase : base ≤ w.heap.size)
    (h : ∀ ao c w', w'.ownsRow base e size (.slice ao (n + m) c) (n + m) (xs ++ news) → w.grownBy w' v.ownBlock → K (a.put o.dst (.slice ao (n + m) c)) w') :
    if Region.wanted o (yielded ops a.tmps) = true then Oper.wp P o a w K Q else E := by
  rw [if_pos (by simp [Region.wanted, hgd])]
  exact wp_append_src w s xo t tx ho base e i z size bytes ht hi hz hsize hby hzs v n xs hv hown x m news hx hs h63 hbytes hbase fun v' w' h2 h3 => by
    obtain ⟨ao, c, rfl⟩ := own_shape h2
    exact h ao c w' h2 h3

end Go.Proofs.YtflnjlbafchnaaaGreatDoor

/-
  TermAt and Fresh, and slices.Clone at entries: the program's.
-/
namespace Go.Proofs.YtflnjlbafchnaaaGreatDoor
open Go.RowKit

/-- Fresh: is a log that ends so as far? -/
def freshB (base bt : Int) (es : List En) (index term : Int) : Bool := decide (tmAt bt es es.length < term) || (decide (term = tmAt bt es es.length) && decide (base + es.length ≤ index))

/-! ### the library's Clone at entries -/
theorem add_posE (a : Addr) {i : Nat} (h : 0 < i) : a.add i = ⟨a.block, a.off + i, none⟩ := by unfold Addr.add; rw [if_neg (by omega)]
end Go.Proofs.YtflnjlbafchnaaaGreatDoor

/-
  What the map's texts take from others: cells set in a row, blocks that grow, texts compared.
-/
namespace Go.Proofs.YtflnjlbafchnaaaGreatDoor
open Go.RowKit

theorem blk_setCellsK {b : Nat} {t : TypeId} : ∀ (vs : List Value) (o : Nat) (w : World) (cs : Array Value), w.heap[b]? = some (.cells cs t (0, 0)) → ∃ cs', (w.setCells b o vs).heap[b]? = some (.cells cs' t (0, 0)) ∧ cs'.size = cs.size ∧ ∀ i, cs'[i]? = if o ≤ i ∧ i < o + vs.length ∧ i < cs.size then vs[i - o]? else cs[i]?
  | [], o, w, cs, h => ⟨cs, h, rfl, fun i => by rw [if_neg (by simp; omega)]⟩
  | v :: r, o, w, cs, h => by
    obtain ⟨cs', h1, h2, h3⟩ := blk_setCellsK r (o + 1) _ _ (blk_set h o v)
    refine ⟨cs', h1, by simpa using h2, fun i => ?_⟩
    rw [h3 i]
    simp only [Array.size_setIfInBounds, List.length_cons]
    by_cases hi : i = o
    · subst hi
      rw [if_neg (by omega)]
      by_cases hs : i < cs.size
      · rw [if_pos (by omega)]
        simp [hs]
      · rw [if_neg (by omega)]
        simp [hs]
    · by_cases hc : o + 1 ≤ i ∧ i < o + 1 + r.length ∧ i < cs.size
      · rw [if_pos hc, if_pos (by omega), show i - o = (i - (o + 1)) + 1 by omega, List.getElem?_cons_succ]
      · rw [if_neg hc, if_neg (by omega)]
        rw [Array.getElem?_setIfInBounds, if_neg (by omega)]
theorem grownBy_setCellsK (b : Nat) : ∀ (vs : List Value) (o : Nat) {a w : World}, a.grownBy w (some b) → a.grownBy (w.setCells b o vs) (some b)
  | [], _, _, _, h => h
  | v :: r, o, a, w, h => grownBy_setCellsK b r (o + 1) ⟨h.os, h.tape, h.output, by simpa [World.setCell] using h.size, fun k hk hne => by
      rw [Below.heap_setCell _ _ _ _ (by intro e; exact hne (by rw [e]))]; exact h.block k hk hne⟩
theorem grown_drewK {a w : World} {r : Option Nat} (h : a.grownBy w r) : a.grownBy w.drew r := ⟨h.os, h.tape, h.output, h.size, h.block⟩
theorem grown_reflK (w : World) (r : Option Nat) : w.grownBy w r := ⟨rfl, rfl, rfl, Nat.le_refl _, fun _ _ _ => rfl⟩
theorem grown_allocK {a w : World} {r : Option Nat} (h : a.grownBy w r) (o : Obj) : a.grownBy (w.alloc o) r := ⟨h.os, h.tape, h.output, by have := h.size; simp; omega, fun k hk hne => by
  rw [Below.heap_alloc _ _ _ (by have := h.size; omega)]; exact h.block k hk hne⟩
theorem own_setAtK {B e size g n cap : Nat} {w : World} {xs : List Value} (h : w.ownsRow B e size (.slice (some ⟨g, 0, none⟩) n cap) n xs) (i : Nat) (u : Value) : (w.setCell ⟨g, i, none⟩ u).ownsRow B e size (.slice (some ⟨g, 0, none⟩) n cap) n (xs.set i u) := by
  refine ⟨by rw [List.length_set]; exact h.1, ?_⟩
  rcases h.2 with ⟨h1, _⟩ | ⟨g', cap', cur, hv, hb, hh, h1, h2, h3, h4⟩
  · simp at h1
  · simp only [Value.slice.injEq, Option.some.injEq, Addr.mk.injEq, true_and, and_true] at hv
    obtain ⟨rfl, rfl⟩ := hv
    refine .inr ⟨g, cap, _, rfl, hb, blk_set hh i u, h1, h2, by simpa using h3, ?_⟩
    rw [Array.toList_setIfInBounds, List.take_set, h4]
theorem bs_beqK (a b : List UInt8) : ((bs a).toList == (bs b).toList) = decide (a = b) := by
  rw [bs_toList, bs_toList]
  by_cases h : a = b
  · subst h; simp
  · rw [decide_eq_false h]
    exact beq_eq_false_iff_ne.2 h

end Go.Proofs.YtflnjlbafchnaaaGreatDoor

/-
  Rows of pairs of one's own; keys compared.
-/
namespace Go.Proofs.YtflnjlbafchnaaaGreatDoor
open Go.RowKit

def kvCell (p : Pr) : List Value := [.string (bs p.k), .string (bs p.v), .int .i64 p.n]
def kvCells (ps : List Pr) : List Value := ps.flatMap kvCell
def OwnP (B : Nat) (w : World) (ao : Option Addr) (c : Nat) (ps : List Pr) : Prop := w.ownsRow B 63 3 (.slice ao ps.length c) ps.length (kvCells ps)
/-- Texts that are no longer than a text may be. -/
def Fit (ps : List Pr) : Prop := ∀ p ∈ ps, p.k.length ≤ maxLen ∧ p.v.length ≤ maxLen
theorem kvCells_cons (o : Pr) (t : List Pr) : kvCells (o :: t) = .string (bs o.k) :: .string (bs o.v) :: .int .i64 o.n :: kvCells t := by simp [kvCells, kvCell]
theorem kvCells_app (a b : List Pr) : kvCells (a ++ b) = kvCells a ++ kvCells b := by simp [kvCells]
theorem kvCells_len (ps : List Pr) : (kvCells ps).length = ps.length * 3 := by
  induction ps with
  | nil => rfl
  | cons o t ih => rw [kvCells_cons]; simp only [List.length_cons, ih]; omega
theorem kvCells_take (ps : List Pr) (i : Nat) : kvCells (ps.take i) = (kvCells ps).take (i * 3) := by
  by_cases h : i ≤ ps.length
  · have e : kvCells ps = kvCells (ps.take i) ++ kvCells (ps.drop i) := by rw [← kvCells_app, List.take_append_drop]
    rw [e, List.take_left' (by rw [kvCells_len, List.length_take, Nat.min_eq_left h])]
  · rw [List.take_of_length_le (by omega), List.take_of_length_le (by rw [kvCells_len]; omega)]
theorem kvCells_drop (ps : List Pr) (i : Nat) : kvCells (ps.drop i) = (kvCells ps).drop (i * 3) := by
  by_cases h : i ≤ ps.length
  · have e : kvCells ps = kvCells (ps.take i) ++ kvCells (ps.drop i) := by rw [← kvCells_app, List.take_append_drop]
    rw [e, List.drop_left' (by rw [kvCells_len, List.length_take, Nat.min_eq_left h])]
  · rw [List.drop_of_length_le (by omega), List.drop_of_length_le (by rw [kvCells_len]; omega)]
    rfl
theorem kvCells_at : ∀ (ps : List Pr) (j : Nat) (hj : j < ps.length), (kvCells ps)[j * 3]? = some (.string (bs ps[j].k)) ∧ (kvCells ps)[j * 3 + 1]? = some (.string (bs ps[j].v)) ∧ (kvCells ps)[j * 3 + 2]? = some (.int .i64 ps[j].n)
  | [], j, hj => by simp at hj
  | o :: t, 0, hj => by simp [kvCells_cons]
  | o :: t, j + 1, hj => by
    have h := kvCells_at t j (by simpa using hj)
    have hx : ∀ i, (kvCells (o :: t))[(j + 1) * 3 + i]? = (kvCells t)[j * 3 + i]? := fun i => by
      rw [kvCells_cons, show (j + 1) * 3 + i = (j * 3 + i) + 1 + 1 + 1 by omega]
      simp only [List.getElem?_cons_succ]
    have hx0 := hx 0
    simp only [Nat.add_zero] at hx0
    rw [hx0, hx 1, hx 2]
    simpa using h
theorem kvCells_one (ps : List Pr) : ∀ v ∈ kvCells ps, v.oneCell' = true := fun u hu => by
  obtain ⟨o, _, hu⟩ := List.mem_flatMap.1 hu
  simp [kvCell] at hu
  rcases hu with rfl | rfl | rfl <;> rfl
theorem kvCells_set : ∀ (ps : List Pr) (k : Nat), k < ps.length → ∀ (x : Pr), (((kvCells ps).set (k * 3) (.string (bs x.k))).set (k * 3 + 1) (.string (bs x.v))).set (k * 3 + 2) (.int .i64 x.n) = kvCells (ps.set k x)
  | [], k, hk, x => by simp at hk
  | o :: t, 0, hk, x => by simp [kvCells_cons]
  | o :: t, k + 1, hk, x => by
    have h1 := kvCells_set t k (by simpa using hk) x
    rw [show (k + 1) * 3 = k * 3 + 1 + 1 + 1 by omega, show k * 3 + 1 + 1 + 1 + 1 = (k * 3 + 1) + 1 + 1 + 1 by omega, show k * 3 + 1 + 1 + 1 + 2 = (k * 3 + 2) + 1 + 1 + 1 by omega, kvCells_cons]
    simp only [List.set_cons_succ]
    rw [h1]
    simp [kvCells_cons]
theorem OwnP.set3 {B g c k : Nat} {w : World} {ps : List Pr} (h : OwnP B w (some ⟨g, 0, none⟩) c ps) (hk : k < ps.length) (x : Pr) : OwnP B (((w.setCell ⟨g, k * 3, none⟩ (.string (bs x.k))).setCell ⟨g, k * 3 + 1, none⟩ (.string (bs x.v))).setCell ⟨g, k * 3 + 2, none⟩ (.int .i64 x.n)) (some ⟨g, 0, none⟩) c (ps.set k x) := by
  have := own_setAtK (own_setAtK (own_setAtK h (k * 3) (.string (bs x.k))) (k * 3 + 1) (.string (bs x.v))) (k * 3 + 2) (.int .i64 x.n)
  rw [kvCells_set ps k hk x] at this
  unfold OwnP
  rw [List.length_set]
  exact this
theorem OwnP.block {B c : Nat} {w : World} {ao : Option Addr} {ps : List Pr} (h : OwnP B w ao c ps) (h0 : ao ≠ none) : ∃ g cs, ao = some ⟨g, 0, none⟩ ∧ B ≤ g ∧ w.heap[g]? = some (.cells cs 63 (0, 0)) ∧ ps.length ≤ c ∧ c ≤ maxLen ∧ cs.size = c * 3 ∧ cs.toList.take (ps.length * 3) = kvCells ps := by
  rcases h.2 with ⟨h1, h2⟩ | ⟨g, cap, cur, hv, hb, hh, h1, h2, h3, h4⟩
  · simp only [Value.slice.injEq] at h1
    exact absurd h1.1 h0
  · simp only [Value.slice.injEq] at hv
    obtain ⟨rfl, _, rfl⟩ := hv
    exact ⟨g, cur, rfl, hb, hh, h1, h2, h3, h4⟩
theorem OwnP.cells {B c : Nat} {w : World} {ao : Option Addr} {ps : List Pr} (h : OwnP B w ao c ps) (h0 : 0 < ps.length) : ∃ g, ao = some ⟨g, 0, none⟩ ∧ B ≤ g ∧ g < w.heap.size ∧ ∀ j, (hj : j < ps.length) → w.cell? ⟨g, j * 3, none⟩ = some (.string (bs ps[j].k)) ∧ w.cell? ⟨g, j * 3 + 1, none⟩ = some (.string (bs ps[j].v)) ∧ w.cell? ⟨g, j * 3 + 2, none⟩ = some (.int .i64 ps[j].n) ∧ w.frozen? ⟨g, j * 3, none⟩ = false ∧ w.frozen? ⟨g, j * 3 + 1, none⟩ = false ∧ w.frozen? ⟨g, j * 3 + 2, none⟩ = false := by
  rcases h.2 with ⟨h1, h2⟩ | ⟨g, cap, cur, hv, hb, hh, h1, h2, h3, h4⟩
  · omega
  · simp only [Value.slice.injEq] at hv
    obtain ⟨rfl, _, rfl⟩ := hv
    refine ⟨g, rfl, hb, lt_of_block hh, fun j hj => ?_⟩
    have hc : ∀ i, i < ps.length * 3 → cur[i]? = (kvCells ps)[i]? := fun i hi => by
      have := congrArg (fun l => l[i]?) h4
      simpa only [List.getElem?_take, if_pos hi, Array.getElem?_toList] using this
    obtain ⟨e1, e2, e3⟩ := kvCells_at ps j hj
    exact ⟨by rw [blk_cell hh, hc _ (by omega), e1], by rw [blk_cell hh, hc _ (by omega), e2], by rw [blk_cell hh, hc _ (by omega), e3], blk_free hh _, blk_free hh _, blk_free hh _⟩
theorem OwnP.row {B c : Nat} {w : World} {ao : Option Addr} {ps : List Pr} (h : OwnP B w ao c ps) (hs : Fit ps) : PairRow w.heap.size w ao ps := by
  intro j hj
  obtain ⟨g, rfl, _, hg, hc⟩ := h.cells (by omega)
  obtain ⟨e1, e2, e3, _⟩ := hc j hj
  obtain ⟨l1, l2⟩ := hs ps[j] (List.getElem_mem hj)
  refine ⟨⟨g, 0, none⟩, rfl, hg, ?_, ?_, ?_, l1, l2⟩
  · rw [addr_addE]; exact e1
  · rw [addr_addE]; exact e2
  · rw [addr_addE]; exact e3
theorem OwnP.kept {B c : Nat} {w w' : World} {ao : Option Addr} {ps : List Pr} (h : OwnP B w ao c ps) (hk : Kept Nil w w') : OwnP B w' ao c ps := own_kept h hk (fun _ _ _ x => x.elim)
theorem OwnP.mono {B B' c : Nat} {w : World} {ao : Option Addr} {ps : List Pr} (h : OwnP B w ao c ps) (hb : B' ≤ B) : OwnP B' w ao c ps := by
  refine ⟨h.1, h.2.imp id ?_⟩
  rintro ⟨g, cap, cur, h1, h2, h3⟩
  exact ⟨g, cap, cur, h1, Nat.le_trans hb h2, h3⟩
theorem PairRow.fit {B : Nat} {w : World} {ao : Option Addr} {ps : List Pr} (h : PairRow B w ao ps) : Fit ps := fun p hp => by
  obtain ⟨j, hj, rfl⟩ := List.getElem_of_mem hp
  obtain ⟨_, _, _, _, _, _, l1, l2⟩ := h j hj
  exact ⟨l1, l2⟩
theorem Tryz.infoPr : (Tryz.prog.info? 63).map (fun i => (i.zero, i.size, i.bytes)) = some (some (.agg #[.string ⟨#[]⟩, .string ⟨#[]⟩, .int .i64 0]), 3, 40) := by kernel_rfl
theorem PairRow.src {B c : Nat} {w : World} {ao : Option Addr} {ps : List Pr} (h : PairRow B w ao ps) : Src Tryz.prog 3 55 (.slice ao ps.length c) ps.length (kvCells ps) w := by
  cases hes : ps with
  | nil =>
    cases ao with
    | none => exact Src.ofNil _ Tryz.underlying55 c
    | some a => exact Src.ofSlice _ Tryz.underlying55 a 0 c [] rfl (fun j u hj => by simp at hj) (fun u hu => by simp at hu)
  | cons x t =>
    rw [← hes]
    obtain ⟨a, rfl, _⟩ := h 0 (by rw [hes]; simp)
    refine Src.ofSlice _ Tryz.underlying55 a ps.length c _ (kvCells_len ps) ?_ (kvCells_one ps)
    intro j u hj
    have hlt : j < ps.length * 3 := by have := (List.getElem?_eq_some_iff.1 hj).1; rwa [kvCells_len] at this
    obtain ⟨a', e, _, q0, q1, q2, _⟩ := h (j / 3) (by omega)
    simp only [Option.some.injEq] at e
    subst e
    obtain ⟨e1, e2, e3⟩ := kvCells_at ps (j / 3) (by omega)
    have hadd : ∀ r, 0 < r → j = j / 3 * 3 + r → a.add j = ⟨(a.add (j / 3 * 3)).block, (a.add (j / 3 * 3)).off + r, none⟩ := fun r hr hj => by
      generalize j / 3 * 3 = m at hj ⊢
      rw [hj, ← addr_add2]
      exact add_posE _ hr
    rcases (show j = j / 3 * 3 ∨ j = j / 3 * 3 + 1 ∨ j = j / 3 * 3 + 2 by omega) with e | e | e
    · rw [e] at hj ⊢; rw [e1] at hj; rw [← hj]; exact q0
    · rw [hadd 1 (by omega) e]; rw [e, e2] at hj; rw [← hj]; exact q1
    · rw [hadd 2 (by omega) e]; rw [e, e3] at hj; rw [← hj]; exact q2
theorem OwnP.push {B : Nat} {w' : World} {ao : Option Addr} {c : Nat} {ps : List Pr} {x : Pr} (h : w'.ownsRow B 63 3 (.slice ao (ps.length + 1) c) (ps.length + 1) (kvCells ps ++ [.string (bs x.k), .string (bs x.v), .int .i64 x.n])) : OwnP B w' ao c (ps ++ [x]) := by
  unfold OwnP
  rw [show kvCells (ps ++ [x]) = kvCells ps ++ [.string (bs x.k), .string (bs x.v), .int .i64 x.n] by simp [kvCells, kvCell], List.length_append]
  exact h

/-! compared -/
def cmpB (x y : List UInt8) : Int := Lib.compareBytes x y
set_option maxRecDepth 100000 in
set_option maxHeartbeats 1000000 in
theorem compareString_any (x y : List UInt8) (w : World) :
    Calls Tryz.prog 104 #[.string (bs x), .string (bs y)] w fun e w' => e = .returned (.int .i64 (cmpB x y)) ∧ w' = w := by
  go_enter Tryz.func104, Tryz.ntmps104
  go_wp2
  rw [run_callFunc_extern Tryz.func144 (by kernel_rfl) (by kernel_rfl) (by kernel_rfl) (e := Extern.BytealgCompare.compare) (by kernel_rfl), Lib.run_compareString]
  simp only [Result.andThen]
  rw [Oper.upon_value]
  go_wp2
  go_ret
  exact ⟨by unfold cmpB; rw [bs_data, bs_data]; rfl, rfl⟩
set_option maxRecDepth 100000 in
set_option maxHeartbeats 1000000 in
theorem compare_any (x y : List UInt8) (w : World) :
    Calls Tryz.prog 46 #[.string (bs x), .string (bs y)] w fun e w' => e = .returned (.int .i64 (cmpB x y)) ∧ w' = w := by
  go_enter Tryz.func46, Tryz.ntmps46
  go_wp2_with fail
  go_fit (compareString_any x y w)
  rintro e w1 ⟨rfl, rfl⟩
  go_wp2
  go_ret
  exact ⟨rfl, rfl⟩
set_option maxRecDepth 100000 in
set_option maxHeartbeats 1000000 in
theorem findF_any (p : Pr) (key : List UInt8) (w : World) :
    Calls Tryz.prog 114 #[.agg #[.string (bs p.k), .string (bs p.v), .int .i64 p.n], .string (bs key)] w fun e w' => e = .returned (.int .i64 (cmpB p.k key)) ∧ Kept Nil w w' := by
  go_enter Tryz.func114, Tryz.ntmps114
  go_wp2_with fail
  go_fit (compare_any p.k key _)
  rintro e w1 ⟨rfl, rfl⟩
  go_wp2
  go_ret
  exact ⟨rfl, (Kept.refl _ _).alloc _⟩

end Go.Proofs.YtflnjlbafchnaaaGreatDoor

/-
  Keys in order, plainly.
-/
namespace Go.Proofs.YtflnjlbafchnaaaGreatDoor
open Go.RowKit

theorem less_nil_right (x : List UInt8) : lessB x [] = false := by cases x <;> rfl
theorem less_cons (a b : UInt8) (x y : List UInt8) : lessB (a :: x) (b :: y) = (decide (a < b) || (a == b && lessB x y)) := rfl
theorem cmp_cons (a b : UInt8) (x y : List UInt8) : cmpB (a :: x) (b :: y) = if a < b then -1 else if b < a then 1 else cmpB x y := rfl
theorem u8_eq {a b : UInt8} (h1 : ¬ a < b) (h2 : ¬ b < a) : a = b := by
  apply UInt8.toNat_inj.1
  rw [UInt8.lt_iff_toNat_lt] at h1 h2
  omega
theorem cmp_less : ∀ (x y : List UInt8), (cmpB x y < 0 ↔ lessB x y = true) ∧ (cmpB x y = 0 ↔ x = y)
  | [], [] => by simp [cmpB, Lib.compareBytes, less_nil_right]
  | [], b :: y => by simp [cmpB, Lib.compareBytes]; rfl
  | a :: x, [] => by simp [cmpB, Lib.compareBytes, less_nil_right]
  | a :: x, b :: y => by
    obtain ⟨h1, h2⟩ := cmp_less x y
    rw [cmp_cons, less_cons]
    by_cases hab : a < b
    · have hne : a ≠ b := fun e => by subst e; rw [UInt8.lt_iff_toNat_lt] at hab; omega
      simp [hab, hne]
    · by_cases hba : b < a
      · have hne : a ≠ b := fun e => by subst e; rw [UInt8.lt_iff_toNat_lt] at hba; omega
        simp [hab, hba, hne]
      · obtain rfl := u8_eq hab hba
        simp [hab, h1, h2]
theorem less_irrefl (x : List UInt8) : lessB x x = false := by
  have h := cmp_less x x
  cases hx : lessB x x
  · rfl
  · have a := h.1.2 hx
    have b := h.2.2 rfl
    omega
theorem less_trans : ∀ {x y z : List UInt8}, lessB x y = true → lessB y z = true → lessB x z = true
  | _, [], _, h, _ => by rw [less_nil_right] at h; cases h
  | _, _ :: _, [], _, h => by rw [less_nil_right] at h; cases h
  | [], _ :: _, _ :: _, _, _ => rfl
  | a :: x, b :: y, c :: z, h1, h2 => by
    rw [less_cons] at h1 h2 ⊢
    simp only [Bool.or_eq_true, decide_eq_true_eq, Bool.and_eq_true, beq_iff_eq] at h1 h2 ⊢
    rcases h1 with h1 | ⟨rfl, h1⟩
    · rcases h2 with h2 | ⟨rfl, h2⟩
      · left; rw [UInt8.lt_iff_toNat_lt] at *; omega
      · left; exact h1
    · rcases h2 with h2 | ⟨rfl, h2⟩
      · left; exact h2
      · right; exact ⟨rfl, less_trans h1 h2⟩
theorem less_total {x y : List UInt8} (h : lessB x y = false) (hne : x ≠ y) : lessB y x = true := by
  have a := cmp_less x y
  have b := cmp_less y x
  cases hy : lessB y x
  · exfalso
    have h1 : ¬ cmpB x y < 0 := fun hh => by rw [a.1.1 hh] at h; cases h
    have h2 : ¬ cmpB y x < 0 := fun hh => by rw [b.1.1 hh] at hy; cases hy
    exact hne (less_eq h hy)
  · rfl
where
  less_eq : ∀ {x y : List UInt8}, lessB x y = false → lessB y x = false → x = y
  | [], [], _, _ => rfl
  | [], _ :: _, h, _ => by cases h
  | _ :: _, [], _, h => by cases h
  | a :: x, b :: y, h1, h2 => by
    rw [less_cons] at h1 h2
    simp only [Bool.or_eq_false_iff, decide_eq_false_iff_not, Bool.and_eq_false_iff] at h1 h2
    obtain rfl := u8_eq h1.1 h2.1
    simp only [beq_self_eq_true, Bool.true_eq_false, false_or] at h1 h2
    rw [less_eq h1.2 h2.2]
/-- Keys rise. -/
def Srt (ps : List Pr) : Prop := ps.Pairwise fun a b => lessB a.k b.k = true
theorem rise_srt : ∀ {ps : List Pr} {q : Option (List UInt8)}, pRise q ps = true → Srt ps ∧ (∀ p ∈ ps, prOk p = true) ∧ (∀ x, q = some x → ∀ p ∈ ps, lessB x p.k = true)
  | [], _, _ => ⟨List.Pairwise.nil, (fun p hp => by cases hp), (fun x _ p hp => by cases hp)⟩
  | p :: t, q, h => by
    unfold pRise at h
    simp only [Bool.and_eq_true] at h
    obtain ⟨⟨h1, h2⟩, h3⟩ := h
    obtain ⟨i1, i2, i3⟩ := rise_srt h3
    refine ⟨List.pairwise_cons.2 ⟨fun b hb => i3 p.k rfl b hb, i1⟩, fun x hx => ?_, fun x hx y hy => ?_⟩
    · rcases List.mem_cons.1 hx with rfl | hx
      · exact h1
      · exact i2 x hx
    · subst hx
      rcases List.mem_cons.1 hy with rfl | hy
      · exact h2
      · exact less_trans h2 (i3 p.k rfl y hy)
theorem srt_rise : ∀ {ps : List Pr} {q : Option (List UInt8)}, Srt ps → (∀ p ∈ ps, prOk p = true) → (∀ x, q = some x → ∀ p ∈ ps, lessB x p.k = true) → pRise q ps = true
  | [], _, _, _, _ => by unfold pRise; rfl
  | p :: t, q, h1, h2, h3 => by
    obtain ⟨g1, g2⟩ := List.pairwise_cons.1 h1
    unfold pRise
    simp only [Bool.and_eq_true]
    refine ⟨⟨h2 p (by simp), ?_⟩, srt_rise g2 (fun x hx => h2 x (by simp [hx])) (fun x hx y hy => by cases hx; exact g1 y hy)⟩
    cases q with
    | none => rfl
    | some x => exact h3 x rfl p (by simp)
/-- Where a key stands, or would stand. -/
def lowP (key : List UInt8) (ps : List Pr) : Nat := ps.findIdx fun p => !lessB p.k key
theorem lowP_le (key : List UInt8) (ps : List Pr) : lowP key ps ≤ ps.length := List.findIdx_le_length
theorem lowP_lt {key : List UInt8} {ps : List Pr} {j : Nat} (hj : j < ps.length) (h : j < lowP key ps) : lessB ps[j].k key = true := by
  have := List.not_of_lt_findIdx h
  simpa using this
theorem lowP_ge {key : List UInt8} {ps : List Pr} (hs : Srt ps) {j : Nat} (hj : j < ps.length) (h : lowP key ps ≤ j) : lessB ps[j].k key = false := by
  have hl : lowP key ps < ps.length := by omega
  have h0 : lessB ps[lowP key ps].k key = false := by
    have := List.findIdx_getElem (p := fun p : Pr => !lessB p.k key) (xs := ps) (w := hl)
    simp only [Bool.not_eq_true'] at this
    exact this
  by_cases e : lowP key ps = j
  · subst e; exact h0
  · cases hx : lessB ps[j].k key
    · rfl
    · have := List.pairwise_iff_getElem.1 hs (lowP key ps) j hl hj (by omega)
      rw [less_trans this hx] at h0
      cases h0
theorem lowP_eq {key : List UInt8} {ps : List Pr} (hs : Srt ps) {i : Nat} (hi : i ≤ ps.length) (h1 : ∀ j, (hj : j < ps.length) → j < i → lessB ps[j].k key = true) (h2 : ∀ j, (hj : j < ps.length) → i ≤ j → lessB ps[j].k key = false) : lowP key ps = i := by
  have hl := lowP_le key ps
  by_cases ha : lowP key ps < i
  · have := h1 _ (by omega) ha
    rw [lowP_ge hs (by omega) (Nat.le_refl _)] at this
    cases this
  · by_cases hb : i < lowP key ps
    · have := h2 i (by omega) (Nat.le_refl _)
      rw [lowP_lt (by omega) hb] at this
      cases this
    · omega
/-- Is the key there? -/
def isThere (key : List UInt8) (ps : List Pr) : Bool := match ps[lowP key ps]? with | none => false | some p => decide (p.k = key)

end Go.Proofs.YtflnjlbafchnaaaGreatDoor

/-
  kv: a key is searched.
-/
namespace Go.Proofs.YtflnjlbafchnaaaGreatDoor
open Go.RowKit

set_option maxRecDepth 100000 in
set_option maxHeartbeats 2000000 in
theorem bsf_any (B c : Nat) (ao : Option Addr) (ps : List Pr) (key : List UInt8) (w : World) (h : PairRow B w ao ps) (hs : Srt ps) (hl : ps.length ≤ 32) :
    Calls Tryz.prog 113 #[.slice ao ps.length c, .string (bs key), .func (.func 114) #[] #[]] w fun e w' => e = .returned (.tuple #[.int .i64 (lowP key ps), .bool (isThere key ps)]) ∧ Kept Nil w w' := by
  have HR : Hid (PairRow B w ao ps) := h
  have HS : Hid (Srt ps) := hs
  clear h hs
  go_enter Tryz.func113, Tryz.ntmps113
  go_wp2
  go_loopw [9, 10] (fun u v wr => ∃ i j : Nat, i ≤ j ∧ j ≤ ps.length ∧ u = .int .i64 i ∧ v = .int .i64 j ∧ Hid (∀ q, (hq : q < ps.length) → q < i → lessB ps[q].k key = true) ∧ Hid (∀ q, (hq : q < ps.length) → j ≤ q → lessB ps[q].k key = false) ∧ Hid (Kept Nil w wr)) (fun u v _ => (intOf v).toNat - (intOf u).toNat)
  case atStart => exact ⟨0, ps.length, Nat.zero_le _, Nat.le_refl _, rfl, rfl, fun q hq h0 => by omega, fun q hq h0 => by omega, Kept.refl _ _⟩
  case round =>
    obtain ⟨i, j, hij, hjn, rfl, rfl, H1, H2, HK⟩ := hrel
    by_cases hlt : i < j
    · have hli : (i : Int) < (j : Int) := by omega
      have hm : (i + j) / 2 < ps.length := by omega
      obtain ⟨a, rfl, hb, c0, c1, c2, _, _⟩ := (HR.out.nil HK.out) ((i + j) / 2) hm
      obtain ⟨y, HY⟩ : ∃ y : Pr, Hid (y = ps[(i + j) / 2]) := ⟨ps[(i + j) / 2], (rfl : ps[(i + j) / 2] = ps[(i + j) / 2])⟩
      rw [← HY.out] at c0 c1 c2
      have CM := findF_any y key wr
      have HC : Hid (cmpB y.k key < 0 ↔ lessB y.k key = true) := (cmp_less y.k key).1
      generalize cmpB y.k key = z at *
      by_cases hz : z < 0
      · have HL : Hid (lessB y.k key = true) := HC.out.1 hz
        go_wp2_with fail
        go_fit CM
        rintro e w1 ⟨rfl, k1⟩
        have K1 : Hid (Kept Nil w w1) := HK.out.trans k1
        clear k1 CM
        go_wp2
        go_roundw
        case rel => exact ⟨(i + j) / 2 + 1, j, by omega, hjn, by congr 1, rfl, fun q hq hqi => (by
          by_cases e : q = (i + j) / 2
          · subst e; rw [← HY.out]; exact HL.out
          · have h1 := List.pairwise_iff_getElem.1 HS.out q ((i + j) / 2) hq hm (by omega)
            rw [← HY.out] at h1
            exact less_trans h1 HL.out), H2.out, K1.out⟩
        case measure => simp [intOf]; omega
      · have HL : Hid (lessB y.k key = false) := by
          show lessB y.k key = false
          cases hx : lessB y.k key
          · rfl
          · exact absurd (HC.out.2 hx) hz
        go_wp2_with fail
        go_fit CM
        rintro e w1 ⟨rfl, k1⟩
        have K1 : Hid (Kept Nil w w1) := HK.out.trans k1
        clear k1 CM
        go_wp2
        go_roundw
        case rel => exact ⟨i, (i + j) / 2, by omega, by omega, rfl, by congr 1, H1.out, fun q hq hqi => (by
          by_cases e : q = (i + j) / 2
          · subst e; rw [← HY.out]; exact HL.out
          · cases hx : lessB ps[q].k key
            · rfl
            · have h1 := List.pairwise_iff_getElem.1 HS.out ((i + j) / 2) q hm hq (by omega)
              rw [← HY.out] at h1
              have h2 := HL.out
              rw [less_trans h1 hx] at h2
              cases h2), K1.out⟩
        case measure => simp [intOf]; omega
    · obtain rfl : i = j := by omega
      have HLow : Hid (lowP key ps = i) := lowP_eq HS.out hjn H1.out H2.out
      by_cases hin : i < ps.length
      · have hii : (i : Int) < ps.length := by omega
        obtain ⟨a, rfl, hb, c0, c1, c2, _, _⟩ := (HR.out.nil HK.out) i hin
        obtain ⟨y, HY⟩ : ∃ y : Pr, Hid (y = ps[i]) := ⟨ps[i], (rfl : ps[i] = ps[i])⟩
        rw [← HY.out] at c0 c1 c2
        have HTH : Hid (isThere key ps = decide (y.k = key)) := by
          show isThere key ps = _
          unfold isThere
          rw [HLow.out, List.getElem?_eq_getElem hin, ← HY.out]
        have CM := findF_any y key wr
        have HC : Hid (cmpB y.k key = 0 ↔ y.k = key) := (cmp_less y.k key).2
        generalize cmpB y.k key = z at *
        go_wp2_with fail
        go_fit CM
        rintro e w1 ⟨rfl, k1⟩
        have K1 : Hid (Kept Nil w w1) := HK.out.trans k1
        clear k1 CM
        go_wp2
        go_ret2
        exact ⟨by rw [HLow.out, HTH.out, ← decide_eq_decide.2 HC.out]; first | rfl | (cases hd : decide (z = 0) <;> simp_all), K1.out⟩
      · have hii : ¬ (i : Int) < ps.length := by omega
        have HTH : Hid (isThere key ps = false) := by
          show isThere key ps = _
          unfold isThere
          rw [HLow.out, List.getElem?_eq_none (by omega)]
        go_wp2
        go_ret2
        exact ⟨by rw [HLow.out, HTH.out]; rfl, HK.out⟩

/-- A spot in memory: its key, value, version, the pairs, the place. -/
def SpotAt (w : World) (b : Nat) (k v : List UInt8) (n : Int) (ao : Option Addr) (len c : Nat) (at' : Int) : Prop := w.heap[b]? = some (.cells #[.string (bs k), .string (bs v), .int .i64 n, .slice ao len c, .int .i64 at'] 121 (0, 0))
/-- What a key has: its value and version; nothing, and version 0, if it is not there. -/
def spotV (key : List UInt8) (ps : List Pr) : List UInt8 := if isThere key ps = true then ((ps[lowP key ps]?).map Pr.v).getD [] else []
def spotN (key : List UInt8) (ps : List Pr) : Int := if isThere key ps = true then ((ps[lowP key ps]?).map Pr.n).getD 0 else 0
theorem kept_one {b i : Nat} {w X : World} (h : Kept (One b) w X) (u : Value) : Kept (One b) w (X.setCell ⟨b, i, none⟩ u) := h.setCell (p := ⟨b, i, none⟩) (fun _ => rfl) u
theorem there_at {key : List UInt8} {ps : List Pr} (h : isThere key ps = true) : ∃ hl : lowP key ps < ps.length, ps[lowP key ps].k = key ∧ spotV key ps = ps[lowP key ps].v ∧ spotN key ps = ps[lowP key ps].n := by
  have h' := h
  unfold isThere at h'
  by_cases hl : lowP key ps < ps.length
  · rw [List.getElem?_eq_getElem hl] at h'
    refine ⟨hl, of_decide_eq_true h', ?_, ?_⟩
    · unfold spotV; rw [if_pos h, List.getElem?_eq_getElem hl]; rfl
    · unfold spotN; rw [if_pos h, List.getElem?_eq_getElem hl]; rfl
  · rw [List.getElem?_eq_none (by omega)] at h'
    cases h'

set_option maxRecDepth 100000 in
set_option maxHeartbeats 2000000 in
theorem find_any (b c : Nat) (ao : Option Addr) (ps : List Pr) (key : List UInt8) (w : World) (h : PairRow w.heap.size w ao ps) (hs : Srt ps) (hl : ps.length ≤ 32) (hb : SpotAt w b [] [] 0 ao ps.length c 0) (hne : ∀ a, ao = some a → a.block ≠ b) :
    Calls Tryz.prog 70 #[.pointer (some ⟨b, 0, none⟩), .string (bs key)] w fun e w' => e = .returned (.tuple #[]) ∧ SpotAt w' b key (spotV key ps) (spotN key ps) ao ps.length c (lowP key ps) ∧ Kept (One b) w w' := by
  have HR : Hid (PairRow w.heap.size w ao ps) := h
  have HB : Hid (w.heap[b]? = some (.cells #[.string (bs []), .string (bs []), .int .i64 0, .slice ao ps.length c, .int .i64 0] 121 (0, 0))) := hb
  have HNE : Hid (∀ a, ao = some a → a.block ≠ b) := hne
  have BS := bsf_any w.heap.size c ao ps key w h hs hl
  have q3 : w.cell? ⟨b, 3, none⟩ = some (.slice ao ps.length c) := blk_at HB.out 3 rfl
  clear h hs hb hne
  obtain ⟨sv, HSV⟩ : ∃ x : List UInt8, Hid (x = spotV key ps) := ⟨_, rfl⟩
  obtain ⟨sn, HSN⟩ : ∃ x : Int, Hid (x = spotN key ps) := ⟨_, rfl⟩
  obtain ⟨lo, HLO⟩ : ∃ x : Nat, Hid (x = lowP key ps) := ⟨_, rfl⟩
  obtain ⟨th, HTH⟩ : ∃ x : Bool, Hid (x = isThere key ps) := ⟨_, rfl⟩
  rw [← HSV.out, ← HSN.out, ← HLO.out]
  rw [← HLO.out, ← HTH.out] at BS
  go_enter Tryz.func70, Tryz.ntmps70
  go_wp2_with fail
  go_fit BS
  rintro e w1 ⟨rfl, k1⟩
  have K1 : Hid (Kept Nil w w1) := k1
  have HB1 : Hid (w1.heap[b]? = some (.cells #[.string (bs []), .string (bs []), .int .i64 0, .slice ao ps.length c, .int .i64 0] 121 (0, 0))) := k1.block _ _ HB.out (fun x => x.elim)
  clear k1 BS q3
  have p0 : w1.cell? ⟨b, 0, none⟩ = some (.string (bs [])) := blk_at HB1.out 0 rfl
  have p1 : w1.cell? ⟨b, 1, none⟩ = some (.string (bs [])) := blk_at HB1.out 1 rfl
  have p2 : w1.cell? ⟨b, 2, none⟩ = some (.int .i64 0) := blk_at HB1.out 2 rfl
  have p3 : w1.cell? ⟨b, 3, none⟩ = some (.slice ao ps.length c) := blk_at HB1.out 3 rfl
  have p4 : w1.cell? ⟨b, 4, none⟩ = some (.int .i64 0) := blk_at HB1.out 4 rfl
  have z0 : w1.frozen? ⟨b, 0, none⟩ = false := blk_free HB1.out 0
  have z1 : w1.frozen? ⟨b, 1, none⟩ = false := blk_free HB1.out 1
  have z2 : w1.frozen? ⟨b, 2, none⟩ = false := blk_free HB1.out 2
  have z4 : w1.frozen? ⟨b, 4, none⟩ = false := blk_free HB1.out 4
  cases th with
  | false =>
    have HV : Hid (sv = [] ∧ sn = 0) := ⟨by rw [HSV.out]; unfold spotV; rw [← HTH.out]; rfl, by rw [HSN.out]; unfold spotN; rw [← HTH.out]; rfl⟩
    go_wp2
    go_end0
    refine ⟨rfl, ?_, kept_one (kept_one (K1.out.mono (fun _ _ x => x.elim)) _) _⟩
    rw [HV.out.1, HV.out.2]
    exact blk_set (blk_set HB1.out 4 _) 0 _
  | true =>
    obtain ⟨hl', e1, e2, e3⟩ := there_at HTH.out.symm
    obtain ⟨a, rfl, hba, c0, c1, c2, _, _⟩ := (HR.out.nil K1.out) (lowP key ps) hl'
    have hne2 := HNE.out a rfl
    rw [e1] at c0
    rw [← e2, ← HSV.out] at c1
    rw [← e3, ← HSN.out] at c2
    rw [← HLO.out] at c0 c1 c2
    have hlo : lo < ps.length := by rw [HLO.out]; exact hl'
    clear e1 e2 e3
    have hne3 : (a.add (lo * 3)).block ≠ b := by rw [add_block]; exact hne2
    have hai : (lo : Int) < ps.length := by omega
    obtain ⟨W2, hW2⟩ : ∃ W, W = (w1.setCell ⟨b, 4, none⟩ (.int .i64 lo)).setCell ⟨b, 0, none⟩ (.string (bs key)) := ⟨_, rfl⟩
    have KO : Hid (Kept (One b) w1 W2) := by rw [hW2]; exact kept_one (kept_one (Kept.refl _ _) _) _
    have HB2 : Hid (W2.heap[b]? = some (.cells #[.string (bs key), .string (bs []), .int .i64 0, .slice (some a) ps.length c, .int .i64 lo] 121 (0, 0))) := by rw [hW2]; exact blk_set (blk_set HB1.out 4 _) 0 _
    have d0 := cell_kept KO.out (fun o e => hne3 e) c0
    have d1 : W2.cell? ⟨(a.add (lo * 3)).block, (a.add (lo * 3)).off + 1, none⟩ = some (.string (bs sv)) := cell_kept KO.out (fun o e => hne3 e) c1
    have d2 : W2.cell? ⟨(a.add (lo * 3)).block, (a.add (lo * 3)).off + 2, none⟩ = some (.int .i64 sn) := cell_kept KO.out (fun o e => hne3 e) c2
    go_upto_region 3 with fail
    rw [← hW2]
    clear hW2 c0 c1 c2 p0 p1 p2 p3 p4 z0 z1 z2 z4
    have p0 : W2.cell? ⟨b, 0, none⟩ = some (.string (bs key)) := blk_at HB2.out 0 rfl
    have p1 : W2.cell? ⟨b, 1, none⟩ = some (.string (bs [])) := blk_at HB2.out 1 rfl
    have p2 : W2.cell? ⟨b, 2, none⟩ = some (.int .i64 0) := blk_at HB2.out 2 rfl
    have p3 : W2.cell? ⟨b, 3, none⟩ = some (.slice (some a) ps.length c) := blk_at HB2.out 3 rfl
    have z0 : W2.frozen? ⟨b, 0, none⟩ = false := blk_free HB2.out 0
    have z1 : W2.frozen? ⟨b, 1, none⟩ = false := blk_free HB2.out 1
    have z2 : W2.frozen? ⟨b, 2, none⟩ = false := blk_free HB2.out 2
    go_wp2
    go_end0
    exact ⟨rfl, blk_set (blk_set (blk_set HB2.out 0 _) 1 _) 2 _, kept_one (kept_one (kept_one ((K1.out.mono (fun _ _ x => x.elim)).trans KO.out) _) _) _⟩

end Go.Proofs.YtflnjlbafchnaaaGreatDoor

/-
  kv: pairs copied; is there room; what a key has.
-/
namespace Go.Proofs.YtflnjlbafchnaaaGreatDoor
open Go.RowKit

set_option maxRecDepth 100000 in
set_option maxHeartbeats 1000000 in
theorem cloneP_any (B c : Nat) (ao : Option Addr) (ps : List Pr) (w : World) (h : PairRow B w ao ps) (hn : ao = none → ps = [] ∧ c = 0) (hl : (ps.length : Int) ≤ 3518437208780) :
    Calls Tryz.prog 67 #[.slice ao ps.length c] w fun e w' => ∃ ao' c', e = .returned (.slice ao' ps.length c') ∧ OwnP w.heap.size w' ao' c' ps ∧ Kept Nil w w' := by
  cases ao with
  | none =>
    obtain ⟨rfl, rfl⟩ := hn rfl
    have hnil : ∀ w : World, (binOp .eql 55 (.slice none 0 0) (.slice none 0 0)).run Tryz.prog w = .ok (.bool true) w := fun w => Lib.run_eql_slice_nil w 55 63 none 0 0 0 0 Tryz.underlying55
    go_enter Tryz.func67, Tryz.ntmps67
    go_wp2
    go_ret
    exact ⟨none, 0, rfl, World.ownsRow_nil _ _ _ _, Kept.refl _ _⟩
  | some a =>
    obtain ⟨i0, hi, hz0, hz1, hz2⟩ := info_parts Tryz.infoPr
    have HS : Hid (Src Tryz.prog 3 55 (.slice (some a) ps.length c) ps.length (kvCells ps) (w.alloc (.cells #[] 63))) := (h.nil ((Kept.refl _ _).alloc _)).src
    have HO : Hid ((w.alloc (.cells #[] 63)).ownsRow w.heap.size 63 3 (.slice (some ⟨w.heap.size, 0, none⟩) 0 0) 0 []) := World.ownsRow_lit w #[] 0 (Nat.le_refl _) (by decide) rfl
    have HLL : Hid (0 + ps.length ≤ maxLen ∧ (0 + ps.length) * 40 ≤ 140737488355328) := by constructor <;> (try unfold maxLen) <;> omega
    have hnil : ∀ w : World, (binOp .eql 55 (.slice (some a) ps.length c) (.slice none 0 0)).run Tryz.prog w = .ok (.bool false) w := fun w => Lib.run_eql_slice_nil w 55 63 (some a) ps.length c 0 0 Tryz.underlying55
    clear h hl hn
    go_enter Tryz.func67, Tryz.ntmps67
    go_wp2_with (at_builtin; go_must (refine wpList_append_src _ rfl _ _ 55 55 rfl w.heap.size 63 i0 (.agg #[.string ⟨#[]⟩, .string ⟨#[]⟩, .int .i64 0]) 3 40 Tryz.underlying55 hi hz0 hz1 hz2 rfl _ _ _ rfl HO.out (.slice (some a) ps.length c) ps.length (kvCells ps) rfl HS.out HLL.out.1 HLL.out.2 (by simp) ?_); intro ao' c' w1 ho' hg'; have HO1 : Hid (w1.ownsRow w.heap.size 63 3 (.slice ao' (0 + ps.length) c') (0 + ps.length) ([] ++ kvCells ps)) := ho'; have HG1 : Hid _ := hg'; clear ho' hg')
    go_ret
    have ho := HO1.out
    rw [Nat.zero_add, List.nil_append] at ho
    exact ⟨ao', c', rfl, ho, ((Kept.refl _ _).alloc _).grown HG1.out (fun k hk => own_row HO.out k hk)⟩

def roomB (len : Nat) (n : Int) (x : List UInt8) : Bool := !(decide (n = 0) && decide (len = 32)) && (decide (x.length ≤ 64) && decide (n < 1099511627775))
set_option maxRecDepth 100000 in
set_option maxHeartbeats 1000000 in
theorem hasRoom_any (b len c : Nat) (k v : List UInt8) (n at' : Int) (ao : Option Addr) (x : List UInt8) (w : World) (hb : SpotAt w b k v n ao len c at') (hlen : len ≤ 32) :
    Calls Tryz.prog 148 #[.pointer (some ⟨b, 0, none⟩), .string (bs x)] w fun e w' => e = .returned (.bool (roomB len n x)) ∧ w' = w := by
  have q2 : w.cell? ⟨b, 2, none⟩ = some (.int .i64 n) := blk_at hb 2 rfl
  have q3 : w.cell? ⟨b, 3, none⟩ = some (.slice ao len c) := blk_at hb 3 rfl
  have hds : (bs x).size = x.length := bs_size _
  obtain ⟨r, HR⟩ : ∃ r : Bool, Hid (r = roomB len n x) := ⟨_, rfl⟩
  rw [← HR.out]
  by_cases h0 : n = 0
  · subst h0
    by_cases hl : len = 32
    · subst hl
      have HF : Hid (r = false) := by show r = false; rw [HR.out]; unfold roomB; simp
      go_enter Tryz.func148, Tryz.ntmps148
      go_wp2
      go_ret
      exact ⟨by rw [HF.out]; rfl, rfl⟩
    · have hli : ((len : Int) == 32) = false := beq_eq_false_iff_ne.2 (by omega)
      have hli2 : ¬ ((len : Int) = 32) := by omega
      by_cases hx : x.length ≤ 64
      · have hxi : (x.length : Int) ≤ 64 := by omega
        have HF : Hid (r = true) := by show r = true; rw [HR.out]; unfold roomB; simp [hl, hx]
        go_enter Tryz.func148, Tryz.ntmps148
        go_wp2
        go_ret
        exact ⟨by rw [HF.out]; rfl, rfl⟩
      · have hxi : ¬ (x.length : Int) ≤ 64 := by omega
        have HF : Hid (r = false) := by show r = false; rw [HR.out]; unfold roomB; simp [hx]
        go_enter Tryz.func148, Tryz.ntmps148
        go_wp2
        go_ret
        exact ⟨by rw [HF.out]; rfl, rfl⟩
  · have h0i : (n == 0) = false := beq_eq_false_iff_ne.2 h0
    by_cases hx : x.length ≤ 64
    · have hxi : (x.length : Int) ≤ 64 := by omega
      by_cases hn : n < 1099511627775
      · have HF : Hid (r = true) := by show r = true; rw [HR.out]; unfold roomB; simp [h0, hx, hn]
        go_enter Tryz.func148, Tryz.ntmps148
        go_wp2
        go_ret
        exact ⟨by rw [HF.out]; rfl, rfl⟩
      · have HF : Hid (r = false) := by show r = false; rw [HR.out]; unfold roomB; simp [hn]
        go_enter Tryz.func148, Tryz.ntmps148
        go_wp2
        go_ret
        exact ⟨by rw [HF.out]; rfl, rfl⟩
    · have hxi : ¬ (x.length : Int) ≤ 64 := by omega
      have HF : Hid (r = false) := by show r = false; rw [HR.out]; unfold roomB; simp [hx]
      go_enter Tryz.func148, Tryz.ntmps148
      go_wp2
      go_ret
      exact ⟨by rw [HF.out]; rfl, rfl⟩

/-- A result without keys. -/
def resV (kind : Int) (v : List UInt8) (n : Int) : Value := .agg #[.int .i64 kind, .string (bs v), .int .i64 n, .slice none 0 0]
set_option maxRecDepth 100000 in
set_option maxHeartbeats 1000000 in
theorem tell_any (b len c : Nat) (k v : List UInt8) (n at' kind : Int) (ao : Option Addr) (w : World) (hb : SpotAt w b k v n ao len c at') :
    Calls Tryz.prog 116 #[.pointer (some ⟨b, 0, none⟩), .int .i64 kind] w fun e w' => e = .returned (if n = 0 then resV 2 [] 0 else resV kind v n) ∧ Kept Nil w w' := by
  have HB : Hid (w.heap[b]? = some (.cells #[.string (bs k), .string (bs v), .int .i64 n, .slice ao len c, .int .i64 at'] 121 (0, 0))) := hb
  have hlt := lt_of_block HB.out
  have q1 : w.cell? ⟨b, 1, none⟩ = some (.string (bs v)) := blk_at HB.out 1 rfl
  have q2 : w.cell? ⟨b, 2, none⟩ = some (.int .i64 n) := blk_at HB.out 2 rfl
  clear hb
  by_cases h0 : n = 0
  · subst h0
    rw [if_pos rfl]
    go_enter Tryz.func116, Tryz.ntmps116
    go_wp2
    exact bodyPost_ret (v := resV 2 [] 0) (by simp [results, Tryz.results116, go_sem, resV, bs]) rfl ⟨rfl, (Kept.refl _ _).alloc _⟩
  · have h0i : (n == 0) = false := beq_eq_false_iff_ne.2 h0
    rw [if_neg h0]
    obtain ⟨W, hW⟩ : ∃ W, W = w.alloc (.cells #[.int .i64 0, .string ⟨#[]⟩, .int .i64 0, .slice none 0 0] 50) := ⟨_, rfl⟩
    have KW : Hid (Kept Nil w W) := by rw [hW]; exact (Kept.refl _ _).alloc _
    have HBW : Hid (W.heap[b]? = some (.cells #[.string (bs k), .string (bs v), .int .i64 n, .slice ao len c, .int .i64 at'] 121 (0, 0))) := KW.out.block _ _ HB.out (fun x => x.elim)
    have HNW : Hid (W.heap[w.heap.size]? = some (.cells #[.int .i64 0, .string ⟨#[]⟩, .int .i64 0, .slice none 0 0] 50 (0, 0))) := by rw [hW]; exact blk_new _ _
    go_enter Tryz.func116, Tryz.ntmps116
    go_upto_region 3 with fail
    rw [← hW]
    clear hW q1 q2
    have q1 : W.cell? ⟨b, 1, none⟩ = some (.string (bs v)) := blk_at HBW.out 1 rfl
    have q2 : W.cell? ⟨b, 2, none⟩ = some (.int .i64 n) := blk_at HBW.out 2 rfl
    generalize hpr : w.heap.size = pr at *
    have HPR : Hid (w.heap.size ≤ pr) := by show _ ≤ _; omega
    clear hpr
    have r0 : W.cell? ⟨pr, 0, none⟩ = some (.int .i64 0) := blk_at HNW.out 0 rfl
    have r1 : W.cell? ⟨pr, 1, none⟩ = some (.string ⟨#[]⟩) := blk_at HNW.out 1 rfl
    have r2 : W.cell? ⟨pr, 2, none⟩ = some (.int .i64 0) := blk_at HNW.out 2 rfl
    have r3 : W.cell? ⟨pr, 3, none⟩ = some (.slice none 0 0) := blk_at HNW.out 3 rfl
    have z0 : W.frozen? ⟨pr, 0, none⟩ = false := blk_free HNW.out 0
    have z1 : W.frozen? ⟨pr, 1, none⟩ = false := blk_free HNW.out 1
    have z2 : W.frozen? ⟨pr, 2, none⟩ = false := blk_free HNW.out 2
    have z3 : W.frozen? ⟨pr, 3, none⟩ = false := blk_free HNW.out 3
    obtain ⟨V, hV⟩ : ∃ V, V = ((((W.setCell ⟨pr, 0, none⟩ (.int .i64 kind)).setCell ⟨pr, 1, none⟩ (.string (bs v))).setCell ⟨pr, 2, none⟩ (.int .i64 n)).setCell ⟨pr, 3, none⟩ (.slice none 0 0)).drew := ⟨_, rfl⟩
    have BF : Hid (V.heap[pr]? = some (.cells #[.int .i64 kind, .string (bs v), .int .i64 n, .slice none 0 0] 50 (0, 0))) := by rw [hV]; exact blk_set (blk_set (blk_set (blk_set HNW.out 0 _) 1 _) 2 _) 3 _
    have KV : Hid (Kept Nil w V) := by rw [hV]; exact ((((KW.out.setNew HPR.out _).setNew HPR.out _).setNew HPR.out _).setNew HPR.out _).drew
    go_region
    go_wp2
    rw [← hV]
    clear hV r0 r1 r2 r3
    have j0 : V.cell? ⟨pr, 0, none⟩ = some (.int .i64 kind) := blk_at BF.out 0 rfl
    have j1 : V.cell? ⟨pr, 1, none⟩ = some (.string (bs v)) := blk_at BF.out 1 rfl
    have j2 : V.cell? ⟨pr, 2, none⟩ = some (.int .i64 n) := blk_at BF.out 2 rfl
    have j3 : V.cell? ⟨pr, 3, none⟩ = some (.slice none 0 0) := blk_at BF.out 3 rfl
    exact bodyPost_ret (v := resV kind v n) (by simp [results, Tryz.results116, go_sem, j0, j1, j2, j3, resV]) rfl ⟨rfl, KV.out⟩

end Go.Proofs.YtflnjlbafchnaaaGreatDoor
