/-
  Joined: WBase, WCfg1, WCfg2, WEnc, WApp, WWrite, WCrc, WSum, WRef, WFrame1, WNum, WRead, WFrame2, WCatch, WFrame3, WGen, WEnt1, WTorn1, WTimes, WTab1, WTab2, WNums, WLog1, WLog4, WLogM, WStepA, WLog2, WLog3, WLog6, WLog7, WLog8, WLog9, WTrk1, WTorn2, WEnt2, WGetN, WNumsR, WCfg3, WStep, WEnt3, WEnt4, WCfg6, WCfg7, WKeep1, WKeep2, WLogB.
-/
import Derived.WalkKit
import Derived.WalkLawsBesides
import Derived.WalkSpells
import Derived.Below
import Derived.OneCell
import Derived.Test.YtnmkccdcgmajgaaProg
import Derived.Outline
import Derived.Deep.DeepMust
import Derived.Deep.QuietTactic
import Derived.BigQuiet
import Derived.Laws.BitsAllLaws
import Derived.Laws.BytesArg
import Derived.Deep.AppendSrc
import Derived.Laws.CopyRow
import Derived.OwnWalk
import Derived.Laws.IdiomStrings
import Derived.Recover
import Derived.Defers
import Derived.RegionCalls
import Derived.Deep.RegionWith
import Derived.Laws.OwnMore
import Derived.Deep.CutRange
import Derived.Deep.CutBlock
import Derived.Deep.LoopGhost
import Derived.Deep.RegionLaw
import Derived.Lib.SliceRun
/-
  The plain mathematics of the wire format, in which the two readers and the two writers are told alike: bytes as lists, a number read byte by byte, a text, and what a call leaves of the memory that was there.
-/
namespace Go.Proofs.Ytnmkccdcgmajgaa
open Go.RowKit

theorem ret_int {k : IntKind} {a b : Int} (h : a = b) : Ending.returned (.int k a) = .returned (.int k b) := by rw [h]

/-! ### bytes as a list -/

def bs (l : List UInt8) : ByteArray := ⟨l.toArray⟩
theorem bs_size (l : List UInt8) : (bs l).size = l.length := by simp [bs, ByteArray.size]
theorem bs_take (l : List UInt8) (n : Nat) : (bs l).extract 0 n = bs (l.take n) := by
  apply ByteArray.ext; simp [bs]
theorem bs_drop (l : List UInt8) (n : Nat) : (bs l).extract n (bs l).size = bs (l.drop n) := by
  apply ByteArray.ext; simp [bs, ByteArray.size]; exact List.take_of_length_le (by simp)
theorem bs_append (a b : List UInt8) : bs a ++ bs b = bs (a ++ b) := by
  apply ByteArray.ext; simp [bs]
theorem bs_self (s : ByteArray) : bs s.data.toList = s := by
  apply ByteArray.ext; simp [bs]
theorem bs_at (l : List UInt8) (i : Nat) (h : i < (bs l).size) : (bs l)[i]'h = l[i]'(by rw [← bs_size]; exact h) := by
  simp [bs, ByteArray.getElem_eq_getElem_data]
theorem bs_data (l : List UInt8) : (bs l).data.toList = l := by simp [bs]
theorem bs_toList (l : List UInt8) : (bs l).toList = l := by rw [Go.ByteArray.toList_eq, bs_data]
theorem bs_inj {a b : List UInt8} (h : bs a = bs b) : a = b := by
  have := congrArg (fun s => s.data.toList) h
  simpa [bs] using this

/-! ### a number -/

def maxNum : Nat := 1099511627775

/-- A number's bytes from the k-th on, x what the bytes ahead of it say: the number and what is left; or the error. -/
def numGo : Nat → Nat → List UInt8 → Except Int (Nat × List UInt8)
  | _, _, [] => .error 3
  | k, x, c :: t =>
    if k ≤ 5 ∧ x + c.toNat % 128 * 2 ^ (7 * k) ≤ maxNum ∧ (c.toNat ≠ 0 ∨ k = 0) then
      if c.toNat < 128 then .ok (x + c.toNat % 128 * 2 ^ (7 * k), t) else numGo (k + 1) (x + c.toNat % 128 * 2 ^ (7 * k)) t
    else .error 1

def rdNum (l : List UInt8) : Except Int (Nat × List UInt8) := numGo 0 0 l

theorem numGo_nil (k x : Nat) : numGo k x [] = .error 3 := rfl
theorem numGo_bad {k x : Nat} {c : UInt8} {t : List UInt8} (h : ¬ (k ≤ 5 ∧ x + c.toNat % 128 * 2 ^ (7 * k) ≤ maxNum ∧ (c.toNat ≠ 0 ∨ k = 0))) : numGo k x (c :: t) = .error 1 := by
  rw [numGo, if_neg h]
theorem numGo_end {k x : Nat} {c : UInt8} {t : List UInt8} (h : k ≤ 5 ∧ x + c.toNat % 128 * 2 ^ (7 * k) ≤ maxNum ∧ (c.toNat ≠ 0 ∨ k = 0)) (h2 : c.toNat < 128) : numGo k x (c :: t) = .ok (x + c.toNat % 128 * 2 ^ (7 * k), t) := by
  rw [numGo, if_pos h, if_pos h2]
theorem numGo_more {k x : Nat} {c : UInt8} {t : List UInt8} (h : k ≤ 5 ∧ x + c.toNat % 128 * 2 ^ (7 * k) ≤ maxNum ∧ (c.toNat ≠ 0 ∨ k = 0)) (h2 : ¬ c.toNat < 128) : numGo k x (c :: t) = numGo (k + 1) (x + c.toNat % 128 * 2 ^ (7 * k)) t := by
  rw [numGo, if_pos h, if_neg h2]

theorem numGo_ok {l : List UInt8} : ∀ {k x n : Nat} {t : List UInt8}, numGo k x l = .ok (n, t) → n ≤ maxNum ∧ t.length < l.length := by
  induction l with
  | nil => intro k x n t h; simp [numGo] at h
  | cons c l ih =>
    intro k x n t h
    by_cases h1 : k ≤ 5 ∧ x + c.toNat % 128 * 2 ^ (7 * k) ≤ maxNum ∧ (c.toNat ≠ 0 ∨ k = 0)
    · by_cases h2 : c.toNat < 128
      · rw [numGo_end h1 h2] at h
        simp only [Except.ok.injEq, Prod.mk.injEq] at h
        obtain ⟨rfl, rfl⟩ := h
        exact ⟨h1.2.1, by simp⟩
      · rw [numGo_more h1 h2] at h
        have := ih h
        exact ⟨this.1, by simp; omega⟩
    · rw [numGo_bad h1] at h; simp at h

theorem rdNum_ok {l t : List UInt8} {n : Nat} (h : rdNum l = .ok (n, t)) : n ≤ maxNum ∧ t.length < l.length := numGo_ok h

/-- A number that is a length or a count. -/
def rdUpTo (most : Nat) (l : List UInt8) : Except Int (Nat × List UInt8) :=
  match rdNum l with
  | .ok (n, t) => if n ≤ most then .ok (n, t) else .error 4
  | .error c => .error c
def rdTake (n : Nat) (l : List UInt8) : Except Int (List UInt8 × List UInt8) :=
  if n ≤ l.length then .ok (l.take n, l.drop n) else .error 3
/-- A text of at most so many bytes. -/
def rdText (most : Nat) (l : List UInt8) : Except Int (List UInt8 × List UInt8) :=
  match rdUpTo most l with
  | .ok (n, t) => rdTake n t
  | .error c => .error c

theorem rdUpTo_ok {most n : Nat} {l t : List UInt8} (h : rdUpTo most l = .ok (n, t)) : n ≤ most ∧ n ≤ maxNum ∧ t.length < l.length := by
  unfold rdUpTo at h
  split at h
  · rename_i m u hr
    have := rdNum_ok hr
    split at h
    · simp only [Except.ok.injEq, Prod.mk.injEq] at h
      obtain ⟨rfl, rfl⟩ := h
      exact ⟨by assumption, this⟩
    · cases h
  · cases h

theorem pow7 (k : Nat) (h : k ≤ 6) : 2 ^ (7 * k) ≤ 4398046511104 := by
  have h1 : 2 ^ (7 * k) ≤ 2 ^ 42 := Nat.pow_le_pow_right (by omega) (by omega)
  have h2 : 2 ^ 42 = 4398046511104 := by decide
  omega

/-- The step of both readers: the next seven bits. -/
theorem step_lt {k x y : Nat} (hx : x < 2 ^ (7 * k)) (hy : y < 128) : x + y * 2 ^ (7 * k) < 2 ^ (7 * (k + 1)) := by
  have : 2 ^ (7 * (k + 1)) = 128 * 2 ^ (7 * k) := by rw [Nat.mul_add, Nat.pow_add]; omega
  rw [this]
  have : (y + 1) * 2 ^ (7 * k) ≤ 128 * 2 ^ (7 * k) := Nat.mul_le_mul_right _ (by omega)
  rw [Nat.add_mul] at this
  omega

theorem or_add {k x y : Nat} (hx : x < 2 ^ (7 * k)) : x ||| y * 2 ^ (7 * k) = x + y * 2 ^ (7 * k) := by
  rw [Nat.or_comm, ← Nat.shiftLeft_eq, ← Nat.shiftLeft_add_eq_or_of_lt hx, Nat.add_comm]

/-! ### what a call leaves of memory -/

/-- Of the blocks that were there those that 'X' doesn't name are as they were. -/
structure Kept (X : Nat → Obj → Prop) (w w' : World) : Prop where
  os : w'.os = w.os
  tape : w'.tape = w.tape
  output : w'.output = w.output
  size : w.heap.size ≤ w'.heap.size
  block : ∀ k o, w.heap[k]? = some o → ¬ X k o → w'.heap[k]? = some o

theorem Kept.refl (X : Nat → Obj → Prop) (w : World) : Kept X w w := ⟨rfl, rfl, rfl, Nat.le_refl _, fun _ _ h _ => h⟩
theorem Kept.trans {X : Nat → Obj → Prop} {a b c : World} (h : Kept X a b) (k : Kept X b c) : Kept X a c :=
  ⟨k.os.trans h.os, k.tape.trans h.tape, k.output.trans h.output, Nat.le_trans h.size k.size, fun i o ho hx => k.block i o (h.block i o ho hx) hx⟩
theorem Kept.mono {X Y : Nat → Obj → Prop} {a b : World} (h : Kept X a b) (hXY : ∀ k o, X k o → Y k o) : Kept Y a b :=
  ⟨h.os, h.tape, h.output, h.size, fun i o ho hx => h.block i o ho (fun x => hx (hXY _ _ x))⟩
theorem Kept.drew {X : Nat → Obj → Prop} {a w : World} (h : Kept X a w) : Kept X a w.drew := ⟨h.os, h.tape, h.output, h.size, h.block⟩
theorem Kept.alloc {X : Nat → Obj → Prop} {a w : World} (h : Kept X a w) (o : Obj) : Kept X a (w.alloc o) :=
  h.trans ⟨rfl, rfl, rfl, by simp, fun k p hp _ => by
    have hk : k < w.heap.size := by
      by_cases hk : k < w.heap.size
      · exact hk
      · rw [Array.getElem?_eq_none (by omega)] at hp; cases hp
    rw [Below.heap_alloc _ _ _ hk]; exact hp⟩
theorem Kept.setCell {X : Nat → Obj → Prop} {a w : World} (h : Kept X a w) {p : Addr} (hp : ∀ o, X p.block o) (u : Value) : Kept X a (w.setCell p u) :=
  h.trans ⟨rfl, rfl, rfl, by simp [World.setCell], fun k o ho hx => by
    rw [Below.heap_setCell _ _ _ _ (fun e => hx (by rw [e]; exact hp o))]; exact ho⟩
/-- A store into a block that was not there at first. -/
theorem Kept.setNew {X : Nat → Obj → Prop} {a w : World} (h : Kept X a w) {p : Addr} (hp : a.heap.size ≤ p.block) (u : Value) : Kept X a (w.setCell p u) :=
  ⟨h.os, h.tape, h.output, by simpa [World.setCell] using h.size, fun k o ho hx => by
    have hk : k < a.heap.size := by
      by_cases hk : k < a.heap.size
      · exact hk
      · rw [Array.getElem?_eq_none (by omega)] at ho; cases ho
    rw [Below.heap_setCell _ _ _ _ (by omega)]; exact h.block k o ho hx⟩
theorem Kept.below {X : Nat → Obj → Prop} {B : Nat} {w w' : World} (h : Kept X w w') (hX : ∀ k o, X k o → B ≤ k) (hB : B ≤ w.heap.size) : Below B w w' :=
  ⟨h.os, h.tape, h.output, h.size, fun k hk => by
    have : w.heap[k]? = some (w.heap[k]'(by omega)) := Array.getElem?_eq_getElem (by omega)
    rw [h.block k _ this (fun x => by have := hX _ _ x; omega), this]⟩
theorem Kept.ofBelow {w w' : World} (h : Below w.heap.size w w') (X : Nat → Obj → Prop) : Kept X w w' :=
  ⟨h.os, h.tape, h.output, h.size, fun k o ho _ => by
    have hk : k < w.heap.size := by
      by_cases hk : k < w.heap.size
      · exact hk
      · rw [Array.getElem?_eq_none (by omega)] at ho; cases ho
    rw [h.block k hk]; exact ho⟩
theorem Kept.cell {X : Nat → Obj → Prop} {w w' : World} (h : Kept X w w') {b : Nat} {o : Obj} (hb : w.heap[b]? = some o) (hx : ¬ X b o) (i : Nat) : w'.cell? ⟨b, i, none⟩ = w.cell? ⟨b, i, none⟩ :=
  World.cell?_of_block (w := w) (a := ⟨b, i, none⟩) (by rw [h.block b o hb hx, hb])
/-! ### a block of cells -/
theorem blk_cell {w : World} {b : Nat} {cs : Array Value} {t : TypeId} (h : w.heap[b]? = some (.cells cs t (0, 0))) (i : Nat) : w.cell? ⟨b, i, none⟩ = cs[i]? := by simp [World.cell?, h]
theorem blk_free {w : World} {b : Nat} {cs : Array Value} {t : TypeId} (h : w.heap[b]? = some (.cells cs t (0, 0))) (i : Nat) : w.frozen? ⟨b, i, none⟩ = false := by simp [World.frozen?, h]
theorem blk_set {w : World} {b : Nat} {cs : Array Value} {t : TypeId} (h : w.heap[b]? = some (.cells cs t (0, 0))) (i : Nat) (u : Value) : (w.setCell ⟨b, i, none⟩ u).heap[b]? = some (.cells (cs.setIfInBounds i u) t (0, 0)) := by
  have hlt := lt_of_block h
  have h' : w.heap[b] = .cells cs t (0, 0) := by simpa [Array.getElem?_eq_getElem hlt] using h
  show (w.heap.modify b _)[b]? = _
  rw [Array.getElem?_eq_getElem (by simpa using hlt), Array.getElem_modify_self, h']
  rfl
theorem blk_new (w : World) (o : Obj) : (w.alloc o).heap[w.heap.size]? = some o := by
  show (w.heap.push o)[w.heap.size]? = _
  rw [Array.getElem?_push, if_pos rfl]
theorem blk_past {w : World} {b : Nat} {o : Obj} (h : w.heap[b]? = some o) (o' : Obj) : (w.alloc o').heap[b]? = some o := by
  rw [Below.heap_alloc _ _ _ (lt_of_block h)]; exact h
theorem blk_other {w : World} {b : Nat} {o : Obj} (h : w.heap[b]? = some o) {a : Addr} (ha : b ≠ a.block) (u : Value) : (w.setCell a u).heap[b]? = some o := by
  rw [Below.heap_setCell _ _ _ _ ha]; exact h

/-! ### the document's reader: it goes on behind an error -/
/-- What a reading makes of a state: behind an error nothing is read. -/
def stRun {α : Type} (r : List UInt8 → Except Int (α × List UInt8)) (d : α) (st : Except Int (List UInt8)) : α × Except Int (List UInt8) :=
  match st with
  | .error c => (d, .error c)
  | .ok l =>
    match r l with
    | .ok (a, t) => (a, .ok t)
    | .error c => (d, .error c)
theorem stRun_err {α : Type} (r : List UInt8 → Except Int (α × List UInt8)) (d : α) (c : Int) : stRun r d (.error c) = (d, .error c) := rfl
theorem stRun_ok {α : Type} {r : List UInt8 → Except Int (α × List UInt8)} {d a : α} {l t : List UInt8} (h : r l = .ok (a, t)) : stRun r d (.ok l) = (a, .ok t) := by simp only [stRun, h]
theorem stRun_no {α : Type} {r : List UInt8 → Except Int (α × List UInt8)} {d : α} {l : List UInt8} {c : Int} (h : r l = .error c) : stRun r d (.ok l) = (d, .error c) := by simp only [stRun, h]

/-- Nothing that was there has turned. -/
def Nil : Nat → Obj → Prop := fun _ _ => False
/-- Block b alone. -/
def One (b : Nat) : Nat → Obj → Prop := fun k _ => k = b

end Go.Proofs.Ytnmkccdcgmajgaa

/-
  Rows of numbers, read where they lie: are they nodes, rising; is a number among them: by the program (slices.Contains, slices.Index) and by the document's answer.
-/
namespace Go.Proofs.Ytnmkccdcgmajgaa
open Go.RowKit

theorem Kept.drewN {X : Nat → Obj → Prop} {a w : World} (h : Kept X a w) (n : Nat) : Kept X a (w.drewN n) := ⟨h.os, h.tape, h.output, h.size, h.block⟩

/-- A row of numbers that lies below block B. -/
def IntRow (B : Nat) (w : World) (ao : Option Addr) (zs : List Int) : Prop := ∀ j, (hj : j < zs.length) → ∃ a, ao = some a ∧ a.block < B ∧ w.cell? (a.add j) = some (.int .i64 zs[j])
theorem IntRow.kept {X : Nat → Obj → Prop} {B : Nat} {w w' : World} {ao : Option Addr} {zs : List Int} (h : IntRow B w ao zs) (hk : Kept X w w') (hX : ∀ k o, k < B → ¬ X k o) : IntRow B w' ao zs := by
  intro j hj
  obtain ⟨a, ha, hb, hc⟩ := h j hj
  refine ⟨a, ha, hb, ?_⟩
  have e : (a.add j).block = a.block := by unfold Addr.add; split <;> rfl
  have hlt : a.block < w.heap.size := by
    have : (a.add j).block < w.heap.size := World.block_lt_of_cell? w _ hc
    omega
  rw [World.cell?_of_block (w := w) (by rw [e, hk.block a.block _ (Array.getElem?_eq_getElem hlt) (hX _ _ hb), Array.getElem?_eq_getElem hlt])]
  exact hc
theorem IntRow.nil {B : Nat} {w w' : World} {ao : Option Addr} {zs : List Int} (h : IntRow B w ao zs) (hk : Kept Nil w w') : IntRow B w' ao zs := h.kept hk (fun _ _ _ x => x)
theorem IntRow.alloc {B : Nat} {w : World} {ao : Option Addr} {zs : List Int} (h : IntRow B w ao zs) (o : Obj) : IntRow B (w.alloc o) ao zs := h.nil ((Kept.refl _ _).alloc o)
theorem IntRow.mono {B B' : Nat} {w : World} {ao : Option Addr} {zs : List Int} (h : IntRow B w ao zs) (hB : B ≤ B') : IntRow B' w ao zs := fun j hj => by
  obtain ⟨a, ha, hb, hc⟩ := h j hj
  exact ⟨a, ha, by omega, hc⟩
theorem IntRow.full {B : Nat} {w : World} {ao : Option Addr} {zs : List Int} (h : IntRow B w ao zs) : IntRow w.heap.size w ao zs := fun j hj => by
  obtain ⟨a, ha, hb, hc⟩ := h j hj
  have e : (a.add j).block = a.block := by unfold Addr.add; split <;> rfl
  have := World.block_lt_of_cell? w _ hc
  exact ⟨a, ha, by omega, hc⟩
theorem intRow_nil (B : Nat) (w : World) (ao : Option Addr) : IntRow B w ao [] := fun j hj => by simp at hj

/-! ### rising -/
def isNd (z : Int) : Bool := decide (1 ≤ z) && decide (z ≤ 9)
def rise : Int → List Int → Bool
  | _, [] => true
  | p, z :: t => isNd z && decide (p < z) && rise z t
def pv (zs : List Int) (k : Nat) : Int := if k = 0 then 0 else zs.getD (k - 1) 0
theorem rise_at {zs : List Int} {k : Nat} (h : k < zs.length) : rise (pv zs k) (zs.drop k) = (isNd zs[k] && decide (pv zs k < zs[k]) && rise (pv zs (k + 1)) (zs.drop (k + 1))) := by
  have e : pv zs (k + 1) = zs[k] := by simp [pv, List.getD_eq_getElem?_getD, h]
  rw [List.drop_eq_getElem_cons h, e]
  rfl
theorem rise_end {zs : List Int} {k : Nat} (h : ¬ k < zs.length) : rise (pv zs k) (zs.drop k) = true := by
  rw [List.drop_of_length_le (by omega)]
  rfl

set_option maxRecDepth 100000 in
theorem isNode_any (z : Int) (w : World) : Calls Try.prog 98 #[.int .i64 z] w fun e w' => e = .returned (.bool (isNd z)) ∧ w' = w := by
  unfold isNd
  by_cases h1 : 1 ≤ z
  · by_cases h2 : z ≤ 9
    · rw [decide_eq_true h1, decide_eq_true h2]
      go_enter Try.func98, Try.ntmps98
      go_wp2
      go_ret
      exact ⟨rfl, rfl⟩
    · rw [decide_eq_true h1, decide_eq_false h2]
      go_enter Try.func98, Try.ntmps98
      go_wp2
      go_ret
      exact ⟨rfl, rfl⟩
  · rw [decide_eq_false h1]
    go_enter Try.func98, Try.ntmps98
    go_wp2
    go_ret
    exact ⟨rfl, rfl⟩

set_option maxRecDepth 100000 in
set_option maxHeartbeats 2000000 in
theorem areNodes_any (B cap : Nat) (ao : Option Addr) (zs : List Int) (w : World) (h : IntRow B w ao zs) (hl : (zs.length : Int) ≤ 9223372036854775807) :
    Calls Try.prog 64 #[.slice ao zs.length cap] w fun e w' => e = .returned (.bool (rise 0 zs)) ∧ w' = w := by
  have HR : Hid (IntRow B w ao zs) := h
  clear h
  go_enter Try.func64, Try.ntmps64
  go_wp2
  go_loop [7] (fun i => ∃ k : Nat, k ≤ zs.length ∧ i = .int .i64 k ∧ Hid (rise 0 zs = rise (pv zs k) (zs.drop k))) (fun i => zs.length - (intOf i).toNat)
  case atStart => exact ⟨0, Nat.zero_le _, rfl, rfl⟩
  case round =>
    obtain ⟨k, hk, rfl, HI⟩ := hrel
    by_cases hlt : k < zs.length
    · obtain ⟨a, rfl, _, hcell⟩ := HR.out k hlt
      have HA : Hid (rise 0 zs = (isNd zs[k] && decide (pv zs k < zs[k]) && rise (pv zs (k + 1)) (zs.drop (k + 1)))) := HI.out.trans (rise_at hlt)
      have HND := isNode_any zs[k] w
      by_cases k0 : k = 0
      · have hk0 : (k : Int) ≤ 0 := by omega
        have hpv : pv zs k = 0 := by simp [pv, k0]
        rw [hpv] at HA
        cases hnd : isNd zs[k] with
        | false =>
          rw [hnd] at HND
          have HF : Hid (rise 0 zs = false) := by show rise 0 zs = false; rw [HA.out, hnd]; rfl
          generalize zs[k] = z at *
          clear hnd HA HI k0 hpv
          go_wp2_with (first | (go_at_call 98; go_must (refine HND.mono ?_); rintro e w1 ⟨rfl, rfl⟩))
          go_ret
          rw [HF.out]
          exact ⟨rfl, rfl⟩
        | true =>
          rw [hnd] at HND
          have HF : Hid (rise 0 zs = rise (pv zs (k + 1)) (zs.drop (k + 1))) := by
            show rise 0 zs = _
            rw [HA.out, hnd]
            have : (0 : Int) < zs[k] := by
              simp only [isNd, Bool.and_eq_true, decide_eq_true_eq] at hnd
              omega
            rw [decide_eq_true this]; rfl
          generalize zs[k] = z at *
          clear hnd HA HI k0 hpv
          go_wp2_with (first | (go_at_call 98; go_must (refine HND.mono ?_); rintro e w1 ⟨rfl, rfl⟩))
          go_round
          case rel => exact ⟨k + 1, by omega, by go_num, HF⟩
          case measure => simp [intOf]; omega
      · obtain ⟨a', ha', _, hprev⟩ := HR.out (k - 1) (by omega)
        simp only [Option.some.injEq] at ha'
        subst ha'
        have hpv : pv zs k = zs[k - 1] := by simp [pv, k0, List.getD_eq_getElem?_getD, show k - 1 < zs.length by omega]
        rw [hpv] at HA
        have hkp : 0 < k := by omega
        cases hnd : isNd zs[k] with
        | false =>
          rw [hnd] at HND
          have HF : Hid (rise 0 zs = false) := by show rise 0 zs = false; rw [HA.out, hnd]; rfl
          generalize zs[k] = z at *
          clear hnd HA HI hpv
          go_wp2_with (first | (go_at_call 98; go_must (refine HND.mono ?_); rintro e w1 ⟨rfl, rfl⟩))
          go_ret
          rw [HF.out]
          exact ⟨rfl, rfl⟩
        | true =>
          rw [hnd] at HND
          by_cases hp : zs[k - 1] < zs[k]
          · have HF : Hid (rise 0 zs = rise (pv zs (k + 1)) (zs.drop (k + 1))) := by show rise 0 zs = _; rw [HA.out, hnd, decide_eq_true hp]; rfl
            generalize zs[k] = z at *
            generalize zs[k - 1] = y at *
            clear hnd HA HI hpv k0
            go_wp2_with (first | (go_at_call 98; go_must (refine HND.mono ?_); rintro e w1 ⟨rfl, rfl⟩))
            go_round
            case rel => exact ⟨k + 1, by omega, by go_num, HF⟩
            case measure => simp [intOf]; omega
          · have HF : Hid (rise 0 zs = false) := by show rise 0 zs = false; rw [HA.out, hnd, decide_eq_false hp]; rfl
            generalize zs[k] = z at *
            generalize zs[k - 1] = y at *
            clear hnd HA HI hpv k0
            go_wp2_with (first | (go_at_call 98; go_must (refine HND.mono ?_); rintro e w1 ⟨rfl, rfl⟩))
            go_ret
            rw [HF.out]
            exact ⟨rfl, rfl⟩
    · have HF : Hid (rise 0 zs = true) := HI.out.trans (rise_end hlt)
      go_wp2
      go_ret
      rw [HF.out]
      exact ⟨rfl, rfl⟩

/-! ### among them -/
def pos (z : Int) : Nat → List Int → Int
  | _, [] => -1
  | k, y :: t => if y = z then k else pos z (k + 1) t
theorem pos_at {zs : List Int} {z : Int} {k : Nat} (h : k < zs.length) : pos z k (zs.drop k) = if zs[k] = z then (k : Int) else pos z (k + 1) (zs.drop (k + 1)) := by
  rw [List.drop_eq_getElem_cons h]
  rfl
/-- Is a number among them? -/
def hasZ (zs : List Int) (z : Int) : Bool := decide (0 ≤ pos z 0 zs)
theorem pos_has (z : Int) : ∀ (zs : List Int) (k : Nat), decide (0 ≤ pos z k zs) = zs.contains z
  | [], k => rfl
  | y :: t, k => by
    unfold pos
    by_cases h : y = z
    · rw [if_pos h, List.contains_cons, h]
      simp
    · rw [if_neg h, pos_has z t (k + 1), List.contains_cons]
      have : (z == y) = false := by simp; exact fun e => h e.symm
      rw [this, Bool.false_or]

theorem hasZ_eq (zs : List Int) (z : Int) : hasZ zs z = zs.contains z := pos_has z zs 0

set_option maxRecDepth 100000 in
set_option maxHeartbeats 1000000 in
theorem index_any (B cap : Nat) (ao : Option Addr) (zs : List Int) (z : Int) (w : World) (h : IntRow B w ao zs) (hl : (zs.length : Int) ≤ 9223372036854775807) :
    Calls Try.prog 106 #[.slice ao zs.length cap, .int .i64 z] w fun e w' => e = .returned (.int .i64 (pos z 0 zs)) ∧ w' = w := by
  have HR : Hid (IntRow B w ao zs) := h
  clear h
  go_enter Try.func106, Try.ntmps106
  go_wp2
  go_loop [8] (fun i => ∃ k : Nat, k ≤ zs.length ∧ i = .int .i64 k ∧ Hid (pos z 0 zs = pos z k (zs.drop k))) (fun i => zs.length - (intOf i).toNat)
  case atStart => exact ⟨0, Nat.zero_le _, rfl, rfl⟩
  case round =>
    obtain ⟨k, hk, rfl, HI⟩ := hrel
    by_cases hlt : k < zs.length
    · obtain ⟨a, rfl, _, hcell⟩ := HR.out k hlt
      by_cases hz : zs[k] = z
      · have HF : Hid (pos z 0 zs = k) := HI.out.trans ((pos_at hlt).trans (if_pos hz))
        rw [hz] at hcell
        clear hz HI
        go_wp2
        go_ret
        rw [HF.out]
        exact ⟨rfl, rfl⟩
      · have HF : Hid (pos z 0 zs = pos z (k + 1) (zs.drop (k + 1))) := HI.out.trans ((pos_at hlt).trans (if_neg hz))
        have hz1 : (z == zs[k]) = false := by simp; exact fun e => hz e.symm
        have hz2 : (zs[k] == z) = false := by simp; exact hz
        generalize zs[k] = y at *
        clear hz HI
        go_wp2
        go_round
        case rel => exact ⟨k + 1, by omega, by go_num, HF⟩
        case measure => simp [intOf]; omega
    · have HF : Hid (pos z 0 zs = -1) := by show pos z 0 zs = -1; rw [HI.out, List.drop_of_length_le (by omega)]; rfl
      go_wp2
      go_ret
      rw [HF.out]
      exact ⟨rfl, rfl⟩

set_option maxRecDepth 100000 in
theorem contains_any (B cap : Nat) (ao : Option Addr) (zs : List Int) (z : Int) (w : World) (h : IntRow B w ao zs) (hl : (zs.length : Int) ≤ 9223372036854775807) :
    Calls Try.prog 71 #[.slice ao zs.length cap, .int .i64 z] w fun e w' => e = .returned (.bool (hasZ zs z)) ∧ w' = w := by
  have H := index_any B cap ao zs z w h hl
  have HP : Hid (decide (0 ≤ pos z 0 zs) = hasZ zs z) := rfl
  generalize pos z 0 zs = p at *
  clear h hl
  rw [← HP.out]
  go_enter Try.func71, Try.ntmps71
  go_wp2_with fail
  refine H.mono ?_
  rintro e w1 ⟨rfl, rfl⟩
  go_wp2
  go_ret
  exact ⟨rfl, rfl⟩

/-! ### the document's -/
set_option maxRecDepth 100000 in
set_option maxHeartbeats 1000000 in
theorem refHas_any (B cap : Nat) (ao : Option Addr) (zs : List Int) (z : Int) (w : World) (h : IntRow B w ao zs) (hl : (zs.length : Int) ≤ 9223372036854775807) :
    Calls Try.prog 59 #[.slice ao zs.length cap, .int .i64 z] w fun e w' => e = .returned (.bool (hasZ zs z)) ∧ w' = w := by
  have HR : Hid (IntRow B w ao zs) := h
  have HP : Hid (decide (0 ≤ pos z 0 zs) = hasZ zs z) := rfl
  clear h
  go_enter Try.func59, Try.ntmps59
  go_wp2
  go_loop [5] (fun i => ∃ k : Nat, k ≤ zs.length ∧ i = .int .i64 k ∧ Hid (pos z 0 zs = pos z k (zs.drop k))) (fun i => zs.length - (intOf i).toNat)
  case atStart => exact ⟨0, Nat.zero_le _, rfl, rfl⟩
  case round =>
    obtain ⟨k, hk, rfl, HI⟩ := hrel
    by_cases hlt : k < zs.length
    · obtain ⟨a, rfl, _, hcell⟩ := HR.out k hlt
      by_cases hz : zs[k] = z
      · have HF : Hid (hasZ zs z = true) := by show hasZ zs z = true; rw [← HP.out, HI.out, (pos_at hlt).trans (if_pos hz)]; simp
        rw [hz] at hcell
        clear hz HI HP
        go_wp2
        go_ret
        rw [HF.out]
        exact ⟨rfl, rfl⟩
      · have HF : Hid (pos z 0 zs = pos z (k + 1) (zs.drop (k + 1))) := HI.out.trans ((pos_at hlt).trans (if_neg hz))
        have hz2 : (zs[k] == z) = false := by simp; exact hz
        generalize zs[k] = y at *
        clear hz HI
        go_wp2
        go_round
        case rel => exact ⟨k + 1, by omega, by go_num, HF⟩
        case measure => simp [intOf]; omega
    · have HF : Hid (hasZ zs z = false) := by show hasZ zs z = false; rw [← HP.out, HI.out, List.drop_of_length_le (by omega)]; rfl
      go_wp2
      go_ret
      rw [HF.out]
      exact ⟨rfl, rfl⟩

set_option maxRecDepth 100000 in
set_option maxHeartbeats 4000000 in
theorem refRising_any (B cap : Nat) (ao : Option Addr) (zs : List Int) (w : World) (h : IntRow B w ao zs) (hl : (zs.length : Int) ≤ 9223372036854775807) :
    Calls Try.prog 67 #[.slice ao zs.length cap] w fun e w' => e = .returned (.bool (rise 0 zs)) ∧ Kept Nil w w' := by
  have HR : Hid (IntRow B w ao zs) := h
  clear h
  go_enter Try.func67, Try.ntmps67
  go_wp2
  go_loopw [3] (fun i wr => ∃ k : Nat, k ≤ zs.length ∧ i = .int .i64 k ∧ Hid (rise 0 zs = rise (pv zs k) (zs.drop k)) ∧ Hid (IntRow B wr ao zs) ∧ Hid (Kept Nil w wr)) (fun i _ => zs.length - (intOf i).toNat)
  case atStart => exact ⟨0, Nat.zero_le _, rfl, rfl, HR.out, Kept.refl _ _⟩
  case round =>
    obtain ⟨k, hk, rfl, HI, HRr, HKr⟩ := hrel
    clear HR
    by_cases hlt : k < zs.length
    · obtain ⟨a, rfl, _, hcell⟩ := HRr.out k hlt
      have HA : Hid (rise 0 zs = (isNd zs[k] && decide (pv zs k < zs[k]) && rise (pv zs (k + 1)) (zs.drop (k + 1)))) := HI.out.trans (rise_at hlt)
      have hki : (k : Int) < zs.length := by omega
      by_cases z1 : zs[k] < 1
      · have HF : Hid (rise 0 zs = false) := by show rise 0 zs = false; rw [HA.out]; unfold isNd; rw [decide_eq_false (by omega)]; rfl
        generalize zs[k] = z at *
        have b1 : decide (z < 1) = true := decide_eq_true z1
        clear HA HI
        go_wp2
        go_quiet (fail)
        go_wp2
        go_ret
        rw [HF.out]
        exact ⟨rfl, HKr.out.drewN _⟩
      · by_cases z9 : 9 < zs[k]
        · have HF : Hid (rise 0 zs = false) := by show rise 0 zs = false; rw [HA.out]; unfold isNd; rw [decide_eq_false (show ¬ zs[k] ≤ 9 by omega)]; simp
          generalize zs[k] = z at *
          have b1 : decide (z < 1) = false := decide_eq_false z1
          have b2 : decide (9 < z) = true := decide_eq_true z9
          clear HA HI
          go_wp2
          go_quiet (fail)
          go_wp2
          go_ret
          rw [HF.out]
          exact ⟨rfl, HKr.out.drewN _⟩
        · have hnd : isNd zs[k] = true := by unfold isNd; rw [decide_eq_true (by omega), decide_eq_true (by omega)]; rfl
          by_cases k0 : k = 0
          · have hk0 : (k : Int) ≤ 0 := by omega
            have hpv : pv zs k = 0 := by simp [pv, k0]
            rw [hpv] at HA
            have HF : Hid (rise 0 zs = rise (pv zs (k + 1)) (zs.drop (k + 1))) := by
              show rise 0 zs = _
              rw [HA.out, hnd]
              have : (0 : Int) < zs[k] := by omega
              rw [decide_eq_true this]; rfl
            generalize zs[k] = z at *
            have b1 : decide (z < 1) = false := decide_eq_false z1
            have b2 : decide (9 < z) = false := decide_eq_false z9
            have b3 : decide (0 < k) = false := decide_eq_false (by omega)
            clear HA HI hnd k0 hpv
            go_wp2
            go_quiet (fail)
            go_wp2
            go_roundw
            case rel => exact ⟨k + 1, by omega, by go_num, HF, HRr.out.nil ((Kept.refl _ _).drewN _), HKr.out.drewN _⟩
            case measure => simp [intOf]; omega
          · obtain ⟨a', ha', _, hprev⟩ := HRr.out (k - 1) (by omega)
            simp only [Option.some.injEq] at ha'
            subst ha'
            have hpv : pv zs k = zs[k - 1] := by simp [pv, k0, List.getD_eq_getElem?_getD, show k - 1 < zs.length by omega]
            rw [hpv] at HA
            have hkp : (0 : Int) < (k : Int) := by omega
            have b3 : decide (0 < k) = true := decide_eq_true (by omega)
            have hprev2 : wr.cell? (a.add ((k : Int) - 1).toNat) = some (.int .i64 zs[k - 1]) := by rw [show ((k : Int) - 1).toNat = k - 1 by omega]; exact hprev
            by_cases hp : zs[k - 1] < zs[k]
            · have HF : Hid (rise 0 zs = rise (pv zs (k + 1)) (zs.drop (k + 1))) := by show rise 0 zs = _; rw [HA.out, hnd, decide_eq_true hp]; rfl
              generalize zs[k] = z at *
              generalize zs[k - 1] = y at *
              have b1 : decide (z < 1) = false := decide_eq_false z1
              have b2 : decide (9 < z) = false := decide_eq_false z9
              have b4 : decide (z ≤ y) = false := decide_eq_false (by omega)
              clear HA HI hnd hpv k0
              go_wp2
              go_quiet (fail)
              go_wp2
              go_roundw
              case rel => exact ⟨k + 1, by omega, by go_num, HF, HRr.out.nil ((Kept.refl _ _).drewN _), HKr.out.drewN _⟩
              case measure => simp [intOf]; omega
            · have HF : Hid (rise 0 zs = false) := by show rise 0 zs = false; rw [HA.out, hnd, decide_eq_false hp]; rfl
              generalize zs[k] = z at *
              generalize zs[k - 1] = y at *
              have b1 : decide (z < 1) = false := decide_eq_false z1
              have b2 : decide (9 < z) = false := decide_eq_false z9
              have b4 : decide (z ≤ y) = true := decide_eq_true (by omega)
              clear HA HI hnd hpv k0
              go_wp2
              go_quiet (fail)
              go_wp2
              go_ret
              rw [HF.out]
              exact ⟨rfl, HKr.out.drewN _⟩
    · have HF : Hid (rise 0 zs = true) := HI.out.trans (rise_end hlt)
      go_wp2
      go_ret
      rw [HF.out]
      exact ⟨rfl, HKr.out⟩

end Go.Proofs.Ytnmkccdcgmajgaa

/-
  Which configurations may be: the program's Valid (Votes, ContainsFunc with its own function) and the document's IsConfig: the same plain answer.
-/
namespace Go.Proofs.Ytnmkccdcgmajgaa
open Go.RowKit

def vot (v n : List Int) (z : Int) : Bool := hasZ v z || hasZ n z
def isCfg (v n l : List Int) : Bool := !v.isEmpty && rise 0 v && rise 0 n && rise 0 l && !l.any (vot v n)
/-- A configuration's three rows. -/
structure CfRows (B : Nat) (w : World) (a1 a2 a3 : Option Addr) (v n l : List Int) : Prop where
  r1 : IntRow B w a1 v
  r2 : IntRow B w a2 n
  r3 : IntRow B w a3 l
theorem CfRows.nil {B : Nat} {w w' : World} {a1 a2 a3 : Option Addr} {v n l : List Int} (h : CfRows B w a1 a2 a3 v n l) (hk : Kept Nil w w') : CfRows B w' a1 a2 a3 v n l := ⟨h.r1.nil hk, h.r2.nil hk, h.r3.nil hk⟩
theorem CfRows.kept {X : Nat → Obj → Prop} {B : Nat} {w w' : World} {a1 a2 a3 : Option Addr} {v n l : List Int} (h : CfRows B w a1 a2 a3 v n l) (hk : Kept X w w') (hX : ∀ k o, k < B → ¬ X k o) : CfRows B w' a1 a2 a3 v n l := ⟨h.r1.kept hk hX, h.r2.kept hk hX, h.r3.kept hk hX⟩
theorem CfRows.alloc {B : Nat} {w : World} {a1 a2 a3 : Option Addr} {v n l : List Int} (h : CfRows B w a1 a2 a3 v n l) (o : Obj) : CfRows B (w.alloc o) a1 a2 a3 v n l := h.nil ((Kept.refl _ _).alloc o)
theorem CfRows.full {B : Nat} {w : World} {a1 a2 a3 : Option Addr} {v n l : List Int} (h : CfRows B w a1 a2 a3 v n l) : CfRows w.heap.size w a1 a2 a3 v n l := ⟨h.r1.full, h.r2.full, h.r3.full⟩

set_option maxRecDepth 100000 in
set_option maxHeartbeats 1000000 in
theorem votes_any (B c1 c2 c3 : Nat) (a1 a2 a3 : Option Addr) (v n l : List Int) (z : Int) (w : World) (h : CfRows B w a1 a2 a3 v n l) (h1 : (v.length : Int) ≤ 9223372036854775807) (h2 : (n.length : Int) ≤ 9223372036854775807) :
    Calls Try.prog 28 #[.agg #[.slice a1 v.length c1, .slice a2 n.length c2, .slice a3 l.length c3], .int .i64 z] w fun e w' => e = .returned (.bool (vot v n z)) ∧ Kept Nil w w' := by
  have C1 := contains_any B c1 a1 v z _ (h.r1.alloc (.cells #[.slice a1 v.length c1, .slice a2 n.length c2, .slice a3 l.length c3] 24)) h1
  have C2 := contains_any B c2 a2 n z _ (h.r2.alloc (.cells #[.slice a1 v.length c1, .slice a2 n.length c2, .slice a3 l.length c3] 24)) h2
  have HV : Hid (vot v n z = (hasZ v z || hasZ n z)) := rfl
  generalize hasZ v z = b1 at *
  generalize hasZ n z = b2 at *
  clear h h1 h2
  cases b1 with
  | true =>
    go_enter Try.func28, Try.ntmps28
    go_wp2_with fail
    refine C1.mono ?_
    rintro e w1 ⟨rfl, rfl⟩
    go_wp2
    go_ret
    rw [HV.out]
    exact ⟨rfl, (Kept.refl _ _).alloc _⟩
  | false =>
    go_enter Try.func28, Try.ntmps28
    go_wp2_with fail
    refine C1.mono ?_
    rintro e w1 ⟨rfl, hw1⟩
    rw [← hw1] at C2
    have K1 : Hid (Kept Nil w w1) := by rw [hw1]; exact (Kept.refl _ _).alloc _
    have hb : w1.heap[w.heap.size]? = some (.cells #[.slice a1 v.length c1, .slice a2 n.length c2, .slice a3 l.length c3] 24 (0, 0)) := by rw [hw1]; exact blk_new _ _
    have q1 : w1.cell? ⟨w.heap.size, 1, none⟩ = some (.slice a2 n.length c2) := blk_cell hb 1
    clear hw1 hb
    go_wp2_with fail
    refine C2.mono ?_
    rintro e w2 ⟨rfl, rfl⟩
    go_wp2
    go_ret
    rw [HV.out]
    exact ⟨rfl, K1.out⟩

def idxF (p : Int → Bool) : Nat → List Int → Int
  | _, [] => -1
  | k, y :: t => if p y then k else idxF p (k + 1) t
theorem idxF_at {zs : List Int} {p : Int → Bool} {k : Nat} (h : k < zs.length) : idxF p k (zs.drop k) = if p zs[k] then (k : Int) else idxF p (k + 1) (zs.drop (k + 1)) := by
  rw [List.drop_eq_getElem_cons h]
  rfl
theorem idxF_any (p : Int → Bool) : ∀ (zs : List Int) (k : Nat), decide (0 ≤ idxF p k zs) = zs.any p
  | [], k => rfl
  | y :: t, k => by
    unfold idxF
    cases h : p y with
    | true => simp [h]
    | false => rw [if_neg (by decide), idxF_any p t (k + 1), List.any_cons, h, Bool.false_or]

set_option maxRecDepth 100000 in
set_option maxHeartbeats 1000000 in
theorem validF_any (B C c1 c2 c3 : Nat) (a1 a2 a3 : Option Addr) (v n l : List Int) (z : Int) (w : World) (h : CfRows B w a1 a2 a3 v n l) (hb : w.heap[C]? = some (.cells #[.slice a1 v.length c1, .slice a2 n.length c2, .slice a3 l.length c3] 24 (0, 0)))
    (h1 : (v.length : Int) ≤ 9223372036854775807) (h2 : (n.length : Int) ≤ 9223372036854775807) :
    Calls Try.prog 65 #[.int .i64 z, .pointer (some ⟨C, 0, none⟩)] w fun e w' => e = .returned (.bool (vot v n z)) ∧ Kept Nil w w' := by
  have H := votes_any B c1 c2 c3 a1 a2 a3 v n l z w h h1 h2
  have q0 : w.cell? ⟨C, 0, none⟩ = some (.slice a1 v.length c1) := blk_cell hb 0
  have q1 : w.cell? ⟨C, 1, none⟩ = some (.slice a2 n.length c2) := blk_cell hb 1
  have q2 : w.cell? ⟨C, 2, none⟩ = some (.slice a3 l.length c3) := blk_cell hb 2
  clear h hb h1 h2
  go_enter Try.func65, Try.ntmps65
  go_wp2_with fail
  refine H.mono ?_
  rintro e w1 ⟨rfl, hk⟩
  go_wp2
  go_ret
  exact ⟨rfl, hk⟩

set_option maxRecDepth 100000 in
set_option maxHeartbeats 1000000 in
theorem indexF_any (B C c1 c2 c3 : Nat) (a1 a2 a3 : Option Addr) (v n l : List Int) (w : World) (h : CfRows B w a1 a2 a3 v n l) (hb : w.heap[C]? = some (.cells #[.slice a1 v.length c1, .slice a2 n.length c2, .slice a3 l.length c3] 24 (0, 0)))
    (h1 : (v.length : Int) ≤ 9223372036854775807) (h2 : (n.length : Int) ≤ 9223372036854775807) (h3 : (l.length : Int) ≤ 9223372036854775807) :
    Calls Try.prog 105 #[.slice a3 l.length c3, .func (.func 65) #[] #[.pointer (some ⟨C, 0, none⟩)]] w fun e w' => e = .returned (.int .i64 (idxF (vot v n) 0 l)) ∧ Kept Nil w w' := by
  have HR : Hid (CfRows B w a1 a2 a3 v n l) := h
  have HC : Hid (_) := hb
  clear h hb
  go_enter Try.func105, Try.ntmps105
  go_wp2
  go_loopw [8] (fun i wr => ∃ k : Nat, k ≤ l.length ∧ i = .int .i64 k ∧ Hid (idxF (vot v n) 0 l = idxF (vot v n) k (l.drop k)) ∧ Hid (Kept Nil w wr)) (fun i _ => l.length - (intOf i).toNat)
  case atStart => exact ⟨0, Nat.zero_le _, rfl, rfl, Kept.refl _ _⟩
  case round =>
    obtain ⟨k, hk, rfl, HI, HK⟩ := hrel
    by_cases hlt : k < l.length
    · obtain ⟨a, rfl, _, hcell⟩ := (HR.out.nil HK.out).r3 k hlt
      have F := validF_any B C c1 c2 c3 a1 a2 (some a) v n l l[k] wr (HR.out.nil HK.out) (HK.out.block _ _ HC.out (fun x => x.elim)) h1 h2
      have HA : Hid (idxF (vot v n) 0 l = if vot v n l[k] then (k : Int) else idxF (vot v n) (k + 1) (l.drop (k + 1))) := HI.out.trans (idxF_at hlt)
      generalize l[k] = z at *
      cases hz : vot v n z with
      | true =>
        rw [hz] at F
        have HF : Hid (idxF (vot v n) 0 l = k) := HA.out.trans (if_pos hz)
        clear hz HA HI
        go_wp2_with fail
        refine F.mono ?_
        rintro e w1 ⟨rfl, hk1⟩
        go_wp2
        go_ret
        rw [HF.out]
        exact ⟨rfl, HK.out.trans hk1⟩
      | false =>
        rw [hz] at F
        have HF : Hid (idxF (vot v n) 0 l = idxF (vot v n) (k + 1) (l.drop (k + 1))) := HA.out.trans (if_neg (by rw [hz]; decide))
        clear hz HA HI
        go_wp2_with fail
        refine F.mono ?_
        rintro e w1 ⟨rfl, hk1⟩
        go_wp2
        go_roundw
        case rel => exact ⟨k + 1, by omega, by go_num, HF, HK.out.trans hk1⟩
        case measure => simp [intOf]; omega
    · have HF : Hid (idxF (vot v n) 0 l = -1) := by show idxF (vot v n) 0 l = -1; rw [HI.out, List.drop_of_length_le (by omega)]; rfl
      go_wp2
      go_ret
      rw [HF.out]
      exact ⟨rfl, HK.out⟩

def anyV (v n l : List Int) : Bool := l.any (vot v n)
set_option maxRecDepth 100000 in
theorem containsF_any (B C c1 c2 c3 : Nat) (a1 a2 a3 : Option Addr) (v n l : List Int) (w : World) (h : CfRows B w a1 a2 a3 v n l) (hb : w.heap[C]? = some (.cells #[.slice a1 v.length c1, .slice a2 n.length c2, .slice a3 l.length c3] 24 (0, 0)))
    (h1 : (v.length : Int) ≤ 9223372036854775807) (h2 : (n.length : Int) ≤ 9223372036854775807) (h3 : (l.length : Int) ≤ 9223372036854775807) :
    Calls Try.prog 66 #[.slice a3 l.length c3, .func (.func 65) #[] #[.pointer (some ⟨C, 0, none⟩)]] w fun e w' => e = .returned (.bool (anyV v n l)) ∧ Kept Nil w w' := by
  have H := indexF_any B C c1 c2 c3 a1 a2 a3 v n l w h hb h1 h2 h3
  have HP : Hid (decide (0 ≤ idxF (vot v n) 0 l) = anyV v n l) := idxF_any (vot v n) l 0
  generalize idxF (vot v n) 0 l = p at *
  clear h hb h1 h2 h3
  rw [← HP.out]
  go_enter Try.func66, Try.ntmps66
  go_wp2_with fail
  refine H.mono ?_
  rintro e w1 ⟨rfl, hk⟩
  go_wp2
  go_ret
  exact ⟨rfl, hk⟩

theorem isCfg_eq (v n l : List Int) : isCfg v n l = (!v.isEmpty && rise 0 v && rise 0 n && rise 0 l && !anyV v n l) := rfl

set_option maxRecDepth 100000 in
set_option maxHeartbeats 2000000 in
theorem valid_any (B c1 c2 c3 : Nat) (a1 a2 a3 : Option Addr) (v n l : List Int) (w : World) (h : CfRows B w a1 a2 a3 v n l) (h1 : (v.length : Int) ≤ 9223372036854775807) (h2 : (n.length : Int) ≤ 9223372036854775807) (h3 : (l.length : Int) ≤ 9223372036854775807) :
    Calls Try.prog 22 #[.agg #[.slice a1 v.length c1, .slice a2 n.length c2, .slice a3 l.length c3]] w fun e w' => e = .returned (.bool (isCfg v n l)) ∧ Kept Nil w w' := by
  have hmf : ∀ (fn : Fn) (first cap : Array Value) (w : World), (Instr.makeFunc fn first cap).run Try.prog w = .ok (.func fn first cap) w := fun _ _ _ _ => rfl
  have hA := h.alloc (.cells #[.slice a1 v.length c1, .slice a2 n.length c2, .slice a3 l.length c3] 24)
  have A1 := areNodes_any B c1 a1 v _ hA.r1 h1
  have A2 := areNodes_any B c2 a2 n _ hA.r2 h2
  have A3 := areNodes_any B c3 a3 l _ hA.r3 h3
  have F := containsF_any B w.heap.size c1 c2 c3 a1 a2 a3 v n l _ hA (blk_new w _) h1 h2 h3
  have HE : Hid (isCfg v n l = (!v.isEmpty && rise 0 v && rise 0 n && rise 0 l && !anyV v n l)) := isCfg_eq v n l
  generalize anyV v n l = b4 at *
  generalize rise 0 v = b1 at *
  generalize rise 0 n = b2 at *
  generalize rise 0 l = b3 at *
  clear h hA
  cases hv : v.isEmpty with
  | true =>
    have hl : (v.length : Int) ≤ 0 := by rw [List.isEmpty_iff] at hv; rw [hv]; simp
    have hl2 : ((v.length : Int) == 0) = true := by simp; exact List.isEmpty_iff.1 hv
    have HF : Hid (isCfg v n l = false) := by show isCfg v n l = false; rw [HE.out, hv]; rfl
    clear hv HE
    go_enter Try.func22, Try.ntmps22
    go_wp2
    go_ret
    rw [HF.out]
    exact ⟨rfl, (Kept.refl _ _).alloc _⟩
  | false =>
    have hl2 : ((v.length : Int) == 0) = false := by
      cases v with
      | nil => cases hv
      | cons y t => simp; omega
    have HF : Hid (isCfg v n l = (b1 && b2 && b3 && !b4)) := by show isCfg v n l = _; rw [HE.out, hv]; simp
    clear hv HE
    rw [HF.out]
    cases b1 with
    | false =>
      go_enter Try.func22, Try.ntmps22
      go_wp2_with fail
      refine A1.mono ?_
      rintro e w1 ⟨rfl, rfl⟩
      go_wp2
      go_ret
      exact ⟨rfl, (Kept.refl _ _).alloc _⟩
    | true =>
      cases b2 with
      | false =>
        go_enter Try.func22, Try.ntmps22
        go_wp2_with fail
        refine A1.mono ?_
        rintro e w1 ⟨rfl, rfl⟩
        go_wp2_with fail
        refine A2.mono ?_
        rintro e w1 ⟨rfl, rfl⟩
        go_wp2
        go_ret
        exact ⟨rfl, (Kept.refl _ _).alloc _⟩
      | true =>
        cases b3 with
        | false =>
          go_enter Try.func22, Try.ntmps22
          go_wp2_with fail
          refine A1.mono ?_
          rintro e w1 ⟨rfl, rfl⟩
          go_wp2_with fail
          refine A2.mono ?_
          rintro e w1 ⟨rfl, rfl⟩
          go_wp2_with fail
          refine A3.mono ?_
          rintro e w1 ⟨rfl, rfl⟩
          go_wp2
          go_ret
          exact ⟨rfl, (Kept.refl _ _).alloc _⟩
        | true =>
          go_enter Try.func22, Try.ntmps22
          go_wp2_with fail
          refine A1.mono ?_
          rintro e w1 ⟨rfl, rfl⟩
          go_wp2_with fail
          refine A2.mono ?_
          rintro e w1 ⟨rfl, rfl⟩
          go_wp2_with fail
          refine A3.mono ?_
          rintro e w1 ⟨rfl, rfl⟩
          go_wp2_with fail
          refine F.mono ?_
          rintro e w1 ⟨rfl, hk⟩
          go_wp2
          go_ret
          exact ⟨rfl, ((Kept.refl _ _).alloc _).trans hk⟩

/-! ### the document's -/
set_option maxRecDepth 100000 in
set_option maxHeartbeats 4000000 in
theorem refIsConfig_any (B c1 c2 c3 : Nat) (a1 a2 a3 : Option Addr) (v n l : List Int) (w : World) (h : CfRows B w a1 a2 a3 v n l) (h1 : (v.length : Int) ≤ 9223372036854775807) (h2 : (n.length : Int) ≤ 9223372036854775807) (h3 : (l.length : Int) ≤ 9223372036854775807) :
    Calls Try.prog 23 #[.agg #[.slice a1 v.length c1, .slice a2 n.length c2, .slice a3 l.length c3]] w fun e w' => e = .returned (.bool (isCfg v n l)) ∧ Kept Nil w w' := by
  have HR : Hid (CfRows B w a1 a2 a3 v n l) := h
  have A1 := fun w h => refRising_any B c1 a1 v w h h1
  have A2 := fun w h => refRising_any B c2 a2 n w h h2
  have A3 := fun w h => refRising_any B c3 a3 l w h h3
  have HE : Hid (isCfg v n l = (!v.isEmpty && rise 0 v && rise 0 n && rise 0 l && !anyV v n l)) := isCfg_eq v n l
  have HB0 : Hid (_) := blk_new w (.cells #[.slice a1 v.length c1, .slice a2 n.length c2, .slice a3 l.length c3] 24)
  have HK0 : Hid (Kept Nil w (w.alloc (.cells #[.slice a1 v.length c1, .slice a2 n.length c2, .slice a3 l.length c3] 24))) := (Kept.refl _ _).alloc _
  generalize rise 0 v = b1 at *
  generalize rise 0 n = b2 at *
  generalize rise 0 l = b3 at *
  clear h
  go_enter Try.func23, Try.ntmps23
  go_wp2_with fail
  refine (A1 _ (HR.out.nil HK0.out).r1).mono ?_
  rintro e w1 ⟨rfl, k1⟩
  have HB1 : Hid (_) := k1.block _ _ HB0.out (fun x => x.elim)
  have HK1 : Hid (Kept Nil w w1) := HK0.out.trans k1
  have q1 := blk_cell HB1.out 1
  simp only [List.getElem?_toArray, List.getElem?_cons_zero, List.getElem?_cons_succ] at q1
  clear HB0 HK0 k1
  go_wp2_with fail
  refine (A2 _ (HR.out.nil HK1.out).r2).mono ?_
  rintro e w2 ⟨rfl, k2⟩
  have HB2 : Hid (_) := k2.block _ _ HB1.out (fun x => x.elim)
  have HK2 : Hid (Kept Nil w w2) := HK1.out.trans k2
  have q2 := blk_cell HB2.out 2
  simp only [List.getElem?_toArray, List.getElem?_cons_zero, List.getElem?_cons_succ] at q2
  clear HB1 HK1 k2
  go_wp2_with fail
  refine (A3 _ (HR.out.nil HK2.out).r3).mono ?_
  rintro e w3 ⟨rfl, k3⟩
  have HB3 : Hid (_) := k3.block _ _ HB2.out (fun x => x.elim)
  have HK3 : Hid (Kept Nil w w3) := HK2.out.trans k3
  have q0 := blk_cell HB3.out 0
  simp only [List.getElem?_toArray, List.getElem?_cons_zero] at q0
  clear HB2 HK2 k3 A1 A2 A3 q1 q2
  cases hv : v.isEmpty with
  | true =>
    have hl2 : ((v.length : Int) == 0) = true := by simp; exact List.isEmpty_iff.1 hv
    have HF : Hid (isCfg v n l = false) := by show isCfg v n l = false; rw [HE.out, hv]; rfl
    clear hv HE
    go_wp2
    go_ret
    rw [HF.out]
    exact ⟨rfl, HK3.out⟩
  | false =>
    have hl2 : ((v.length : Int) == 0) = false := by
      cases v with
      | nil => cases hv
      | cons y t => simp; omega
    have HF : Hid (isCfg v n l = (b1 && b2 && b3 && !anyV v n l)) := by show isCfg v n l = _; rw [HE.out, hv]; simp
    clear hv HE
    by_cases hbb : b1 = true ∧ b2 = true ∧ b3 = true
    · obtain ⟨rfl, rfl, rfl⟩ := hbb
      have HF : Hid (isCfg v n l = !anyV v n l) := by show isCfg v n l = _; rw [HF.out]; simp
      go_wp2
      go_loopw [6] (fun i wr => ∃ k : Nat, k ≤ l.length ∧ i = .int .i64 k ∧ Hid (anyV v n l = (l.drop k).any (vot v n)) ∧ Hid (wr.heap[w.heap.size]? = some (.cells #[.slice a1 v.length c1, .slice a2 n.length c2, .slice a3 l.length c3] 24 (0, 0))) ∧ Hid (Kept Nil w wr)) (fun i _ => l.length - (intOf i).toNat)
      case atStart => exact ⟨0, Nat.zero_le _, rfl, rfl, HB3.out, HK3.out⟩
      case round =>
        obtain ⟨k, hk, rfl, HI, HB, HK⟩ := hrel
        clear HB3 HK3 q0
        have q0 := blk_cell HB.out 0
        have q1 := blk_cell HB.out 1
        have q2 := blk_cell HB.out 2
        simp only [List.getElem?_toArray, List.getElem?_cons_zero, List.getElem?_cons_succ] at q0 q1 q2
        have hR := HR.out.nil HK.out
        by_cases hlt : k < l.length
        · obtain ⟨a, rfl, _, hcell⟩ := hR.r3 k hlt
          have HA : Hid (anyV v n l = (vot v n l[k] || (l.drop (k + 1)).any (vot v n))) := by show anyV v n l = _; rw [HI.out, List.drop_eq_getElem_cons hlt, List.any_cons]
          have hki : (k : Int) < l.length := by omega
          have Q1 := fun m => refHas_any B c1 a1 v l[k] (wr.drewN m) (hR.r1.nil ((Kept.refl _ _).drewN _)) h1
          have Q2 := fun (wd : World) (m : Nat) (hk : Kept Nil wr wd) => refHas_any B c2 a2 n l[k] (wd.drewN m) (hR.r2.nil (hk.drewN _)) h2
          have hvt : vot v n l[k] = (hasZ v l[k] || hasZ n l[k]) := rfl
          generalize l[k] = z at *
          rw [hvt] at HA
          generalize hasZ v z = d1 at *
          generalize hasZ n z = d2 at *
          clear hvt hR
          go_wp2
          go_quiet (first | (go_at_call 59; exact Calls.quiet_of_same (Q1 _)))
          generalize hwd : wr.drewN _ = wd
          have HKd : Hid (Kept Nil w wd) := by rw [← hwd]; exact HK.out.drewN _
          have HBd : Hid (wd.heap[w.heap.size]? = some (.cells #[.slice a1 v.length c1, .slice a2 n.length c2, .slice (some a) l.length c3] 24 (0, 0))) := by rw [← hwd]; exact HB.out
          have Q3 := fun m => Q2 wd m (by rw [← hwd]; exact (Kept.refl _ _).drewN _)
          have q0 := blk_cell HBd.out 0
          have q1 := blk_cell HBd.out 1
          have q2 := blk_cell HBd.out 2
          simp only [List.getElem?_toArray, List.getElem?_cons_zero, List.getElem?_cons_succ] at q0 q1 q2
          have hcell : wd.cell? (a.add k) = some (.int .i64 z) := by rw [← hwd]; exact hcell
          clear hwd Q2 Q1 HK HB
          go_wp2
          go_quiet (first | (go_at_call 59; exact Calls.quiet_of_same (Q3 _)))
          cases d1 with
          | true =>
            have HX : Hid (isCfg v n l = false) := by show isCfg v n l = false; rw [HF.out, HA.out]; rfl
            go_wp2
            go_ret
            rw [HX.out]
            exact ⟨rfl, HKd.out.drewN _⟩
          | false =>
            cases d2 with
            | true =>
              have HX : Hid (isCfg v n l = false) := by show isCfg v n l = false; rw [HF.out, HA.out]; rfl
              go_wp2
              go_ret
              rw [HX.out]
              exact ⟨rfl, HKd.out.drewN _⟩
            | false =>
              have HX : Hid (anyV v n l = (l.drop (k + 1)).any (vot v n)) := by show anyV v n l = _; rw [HA.out]; rfl
              go_wp2
              go_roundw
              case rel => exact ⟨k + 1, by omega, by go_num, HX, HBd.out, HKd.out.drewN _⟩
              case measure => simp [intOf]; omega
        · have HX : Hid (isCfg v n l = true) := by show isCfg v n l = true; rw [HF.out, HI.out, List.drop_of_length_le (by omega)]; rfl
          go_wp2
          go_ret
          rw [HX.out]
          exact ⟨rfl, HK.out⟩
    · have HX : Hid (isCfg v n l = false) := by
        show isCfg v n l = false
        rw [HF.out]
        cases b1 <;> cases b2 <;> cases b3 <;> simp_all
      cases b1 with
      | false =>
        go_wp2
        go_ret
        rw [HX.out]
        exact ⟨rfl, HK3.out⟩
      | true =>
        cases b2 with
        | false =>
          go_wp2
          go_ret
          rw [HX.out]
          exact ⟨rfl, HK3.out⟩
        | true =>
          cases b3 with
          | false =>
            go_wp2
            go_ret
            rw [HX.out]
            exact ⟨rfl, HK3.out⟩
          | true => exact absurd ⟨rfl, rfl, rfl⟩ hbb

end Go.Proofs.Ytnmkccdcgmajgaa

/-
  The document's writers of a number and of a text, in plain bytes.
-/
namespace Go.Proofs.Ytnmkccdcgmajgaa
open Go.RowKit

/-- A number's bytes. -/
def encF : Nat → Nat → List UInt8
  | 0, n => [UInt8.ofNat n]
  | f + 1, n => if n < 128 then [UInt8.ofNat n] else UInt8.ofNat (128 + n % 128) :: encF f (n / 128)
def enc (n : Nat) : List UInt8 := encF n n
theorem encF_small {n : Nat} (h : n < 128) : ∀ f, encF f n = [UInt8.ofNat n]
  | 0 => rfl
  | f + 1 => by rw [encF, if_pos h]
theorem encF_same : ∀ (f g n : Nat), n ≤ f → n ≤ g → encF f n = encF g n
  | 0, g, n, hf, _ => by rw [encF_small (by omega) 0, encF_small (by omega) g]
  | f + 1, 0, n, _, hg => by rw [encF_small (by omega) 0, encF_small (by omega) (f + 1)]
  | f + 1, g + 1, n, hf, hg => by
    by_cases h : n < 128
    · rw [encF_small h, encF_small h]
    · rw [encF, encF, if_neg h, if_neg h, encF_same f g (n / 128) (by omega) (by omega)]
theorem enc_small {n : Nat} (h : n < 128) : enc n = [UInt8.ofNat n] := encF_small h n
theorem enc_big {n : Nat} (h : ¬ n < 128) : enc n = UInt8.ofNat (128 + n % 128) :: enc (n / 128) := by
  unfold enc
  obtain ⟨m, rfl⟩ : ∃ m, n = m + 1 := ⟨n - 1, by omega⟩
  rw [encF, if_neg h, encF_same m ((m + 1) / 128) ((m + 1) / 128) (by omega) (by omega)]
theorem ofNat_toNat {n : Nat} (h : n < 256) : (UInt8.ofNat n).toNat = n := by rw [UInt8.toNat_ofNat']; omega
theorem enc_small_byte {n : Nat} (h : n < 128) : ∃ d : UInt8, enc n = [d] ∧ d.toNat = n := ⟨_, enc_small h, ofNat_toNat (by omega)⟩
theorem enc_big_byte {n : Nat} (h : ¬ n < 128) : ∃ d : UInt8, enc n = d :: enc (n / 128) ∧ d.toNat = 128 + n % 128 := ⟨_, enc_big h, ofNat_toNat (by omega)⟩
theorem or_high : ∀ x, x < 256 → x ||| 128 = 128 + x % 128 := by decide +kernel
theorem or128 (r : Nat) : bits .or .u8 ((r : Int) % 256) 128 = ((128 + r % 128 : Nat) : Int) := by
  have e : ((r : Int) % 256) = ((r % 256 : Nat) : Int) := by omega
  have := u8_or_nat (r % 256) 128 (by omega) (by omega)
  rw [e]
  refine this.trans ?_
  rw [or_high _ (by omega)]
  omega
def encText (l : List UInt8) : List UInt8 := enc l.length ++ l
theorem enc_length (n : Nat) : ∀ k, n < 128 ^ (k + 1) → (enc n).length ≤ k + 1 := by
  intro k
  induction k generalizing n with
  | zero => intro h; rw [enc_small (by omega)]; simp
  | succ k ih =>
    intro h
    by_cases hn : n < 128
    · rw [enc_small hn]; simp
    · rw [enc_big hn]
      have : n / 128 < 128 ^ (k + 1) := by
        rw [Nat.div_lt_iff_lt_mul (by omega)]
        rw [Nat.pow_succ] at h
        exact h
      have := ih _ this
      simp; omega

/-- A literal's bytes as a string. -/
theorem conv1 (w : World) (x : Int) :
    (convert 81 9 (.slice (some ⟨w.heap.size, 0, none⟩) 1 1)).run Try.prog (w.alloc (.cells #[.int .u8 x] 5)) = .ok (.string (bs [UInt8.ofNat x.toNat])) (w.alloc (.cells #[.int .u8 x] 5)) := by
  refine (run_convert_bytes_arg _ 81 5 Try.underlying81 Try.underlying5 w.heap.size 0 1 1 [x] rfl ?_ 9 Try.underlying9).trans ?_
  · intro i hi
    obtain rfl : i = 0 := by omega
    exact blk_cell (blk_new w _) 0
  · rfl

set_option maxRecDepth 100000 in
set_option maxHeartbeats 1000000 in
theorem refNum_any : ∀ (n : Nat), n ≤ 1099511627775 → ∀ (w : World),
    Calls Try.prog 88 #[.int .i64 n] w fun e w' => e = .returned (.string (bs (enc n))) ∧ Kept Nil w w' := by
  intro n
  induction n using Nat.strongRecOn with
  | ind n ih =>
  intro hn w
  by_cases h : n < 128
  · rw [enc_small h]
    clear ih hn
    have hcv := conv1
    go_enter Try.func88, Try.ntmps88
    go_wp2
    go_ret
    exact ⟨rfl, (Kept.refl _ _).alloc _⟩
  · rw [enc_big h]
    have H := ih (n / 128) (by omega) (by omega)
    have e1 : Hid (((n / 128 : Nat) : Int) = (n : Int) / 128) := by show ((n / 128 : Nat) : Int) = (n : Int) / 128; omega
    have hn' : (n : Int) ≤ 1099511627775 := by omega
    have hz1 : ∀ c, (bs [c]).size = 1 := fun c => bs_size [c]
    have hz2 : (bs (enc (n / 128))).size ≤ 6 := by rw [bs_size]; exact enc_length _ 5 (by omega)
    clear ih hn
    have hcv := conv1
    go_enter Try.func88, Try.ntmps88
    go_wp2_with (go_at_call 88; rw [← e1.out]; refine (H _).mono ?_; rintro e w' ⟨rfl, hk⟩)
    go_ret
    refine ⟨?_, hk.alloc _⟩
    show Ending.returned (Value.string (bs [128 + UInt8.ofNat (n % 128)] ++ bs (enc (n / 128)))) = _
    rw [bs_append, UInt8.ofNat_add]; rfl

theorem enc_len6 {n : Nat} (h : n ≤ 1099511627775) : (enc n).length ≤ 6 := enc_length _ 5 (by omega)

theorem refTextOf_any (l : List UInt8) (w : World) (hl : l.length ≤ 1099511627775) :
    Calls Try.prog 89 #[.string (bs l)] w fun e w' => e = .returned (.string (bs (encText l))) ∧ Kept Nil w w' := by
  have hz1 : (bs (enc l.length)).size ≤ 6 := by rw [bs_size]; exact enc_len6 hl
  have hz2 := bs_size l
  have hl' : (l.length : Int) ≤ 1099511627775 := by omega
  have H := refNum_any l.length hl
  clear hl
  go_enter Try.func89, Try.ntmps89
  go_wp2_with (go_at_call 88; refine (H _).mono ?_; rintro e w' ⟨rfl, hk⟩)
  go_ret
  refine ⟨?_, hk⟩
  show Ending.returned (Value.string (bs (enc l.length) ++ bs l)) = _
  rw [bs_append]; rfl

end Go.Proofs.Ytnmkccdcgmajgaa

/-
  'append' onto a row of the call's own, of whatever is appended (a slice's elements, a string's bytes): what is owned behind it. A law on the model, over any program.
-/
namespace Go.Proofs.Ytnmkccdcgmajgaa
open Go.RowKit
variable {P : Program} (w : World)

theorem room_src (t tx ty e : TypeId) (i : TypeInfo) (ht : P.underlying t = some (.slice e)) (hi : P.info? e = some i)
    (g sLen sCap : Nat) (cur : Array Value) (hg : w.heap[g]? = some (.cells cur e (0, 0))) (x : Value) (m : Nat) (news : List Value) (hs : Src P i.size tx x m news w)
    (hroom : sLen + m ≤ sCap) (hfit : sLen * i.size + news.length ≤ cur.size) :
    (Builtin.append_ #[t, tx] ty #[.slice (some ⟨g, 0, none⟩) sLen sCap, x]).run P w =
      .ok (.slice (some ⟨g, 0, none⟩) (sLen + m) sCap) (w.setRow g (cur.toList.take (sLen * i.size) ++ news ++ cur.toList.drop (sLen * i.size + news.length)).toArray) := by
  have hst := run_storeCells_at P g (sLen * i.size) e news 0 cur w hg (by simpa using hfit) hs.one
  simp only [Nat.add_zero] at hst
  rcases hs.kind with ⟨e', hk⟩ | hk <;> simp [Builtin.append_, run_underlying ht, run_underlying hk, sizeOf, typeInfo, hi, hs.len, hroom, hs.cells, Addr.add_lit, hst]

theorem run_append_src (base : Nat) (t tx ty e : TypeId) (i : TypeInfo) (z : Value) (size bytes : Nat) (ht : P.underlying t = some (.slice e)) (hi : P.info? e = some i) (hz : i.zero = some z)
    (hsize : i.size = size) (hby : i.bytes = bytes) (hzs : z.cells.size = size)
    (v : Value) (n : Nat) (xs : List Value) (hown : w.ownsRow base e size v n xs) (x : Value) (m : Nat) (news : List Value) (hs : Src P size tx x m news w)
    (h63 : n + m ≤ maxLen) (hbytes : (n + m) * bytes ≤ 140737488355328) (hbase : base ≤ w.heap.size) :
    ∃ v' w', (Builtin.append_ #[t, tx] ty #[v, x]).run P w = .ok v' w' ∧ w'.ownsRow base e size v' (n + m) (xs ++ news) ∧ w.grownBy w' v.ownBlock := by
  subst hsize
  subst hby
  have hsmall : n + m ≤ 9223372036854775807 := by simp only [maxLen] at h63; omega
  have hl := hs.newsLen
  have hlen : (xs ++ news).length = (n + m) * i.size := by rw [List.length_append, hown.1, hl, Nat.add_mul]
  have grown : ∀ (old : Nat), ∀ (row : Option Nat),
      (w.drew.alloc (.cells ((xs ++ news).toArray ++ Builtin.zeroCells z.cells (grownCap w (n + m) old e - (n + m))) e)).ownsRow base e i.size
        (.slice (some ⟨w.heap.size, 0, none⟩) (n + m) (grownCap w (n + m) old e)) (n + m) (xs ++ news) ∧
      w.grownBy (w.drew.alloc (.cells ((xs ++ news).toArray ++ Builtin.zeroCells z.cells (grownCap w (n + m) old e - (n + m))) e)) row := by
    intro old row
    have hge := grownCap_ge w (n + m) old e
    have hcm : grownCap w (n + m) old e ≤ maxLen := grownCap_le_maxLen w (n + m) old e h63
    refine ⟨⟨hlen, .inr ⟨w.heap.size, _, _, rfl, hbase, heap_alloc_new w.drew _, hge, hcm, ?_, ?_⟩⟩, ⟨rfl, rfl, rfl, by simp, fun k hk _ => Below.heap_alloc w.drew _ k hk⟩⟩
    · simp only [Array.size_append, List.size_toArray, size_zeroCells, hzs, hlen, ← Nat.add_mul]
      congr 1
      omega
    · simp only [Array.toList_append]
      rw [← hlen]
      exact List.take_left
  rcases hown.2 with ⟨rfl, rfl⟩ | ⟨g, cap, cur, rfl, hbg, hg, hnc, hcm, hcs, htake⟩
  · have hx : xs = [] := List.eq_nil_of_length_eq_zero (by simpa using hown.1)
    subst hx
    by_cases hm : m = 0
    · subst hm
      have hn : news = [] := List.eq_nil_of_length_eq_zero (by simpa using hl)
      subst hn
      refine ⟨.slice none 0 0, w, ?_, World.ownsRow_nil w base e i.size, ⟨rfl, rfl, rfl, Nat.le_refl _, fun _ _ _ => rfl⟩⟩
      rcases hs.kind with ⟨e', hk⟩ | hk <;> simp [Builtin.append_, run_underlying ht, run_underlying hk, sizeOf, typeInfo, hi, hs.len, hs.cells]
    · have hr := run_append_grow_src (P := P) w t tx ty e i z ht hi hz none 0 0 [] (run_firstCells_none w.drew i.size 0 0 0) x m news hs (by omega) (by omega) (growslice_fits (by omega) hbytes)
      have hgr := grown 0 (Value.ownBlock (.slice none 0 0))
      exact ⟨_, _, hr, hgr.1, hgr.2⟩
  · by_cases hroom : n + m ≤ cap
    · have hfit : n * i.size + news.length ≤ cur.size := by rw [hl, hcs, ← Nat.add_mul]; exact Nat.mul_le_mul_right _ hroom
      have hr := room_src (P := P) w t tx ty e i ht hi g n cap cur hg x m news hs hroom hfit
      refine ⟨_, _, hr, ⟨hlen, .inr ⟨g, cap, _, rfl, hbg, setRow_heap w g cur _ e _ hg, hroom, hcm, ?_, ?_⟩⟩, ⟨rfl, rfl, rfl, by simp, fun k _ hk => setRow_other w g k _ (fun e => hk (by simp [Value.ownBlock, e]))⟩⟩
      · simp only [List.size_toArray, List.length_append, List.length_take, List.length_drop, Array.length_toList]
        omega
      · rw [htake, ← hlen]
        exact List.take_left
    · have holds : ∀ j u, xs[j]? = some u → w.cell? ((⟨g, 0, none⟩ : Addr).add j) = some u := hown.cells (g := g) rfl
      have hr := run_append_grow_src (P := P) w t tx ty e i z ht hi hz (some ⟨g, 0, none⟩) n cap xs (run_firstCells_some w.drew i.size n ⟨g, 0, none⟩ n cap xs hown.1 holds) x m news hs (by omega) (by omega) (growslice_fits (by omega) hbytes)
      have hgr := grown cap (Value.ownBlock (.slice (some ⟨g, 0, none⟩) n cap))
      exact ⟨_, _, hr, hgr.1, hgr.2⟩

theorem wp_append_src {o : Oper} {a : Act} {K : Act → World → Prop} {Q : Exit → Act → World → Prop} (s xo : Operand) (t tx : TypeId)
    (ho : o.op = .call { callee := .builtin .append, args := #[s, xo], argTypes := #[t, tx] })
    (base : Nat) (e : TypeId) (i : TypeInfo) (z : Value) (size bytes : Nat) (ht : P.underlying t = some (.slice e)) (hi : P.info? e = some i) (hz : i.zero = some z)
    (hsize : i.size = size) (hby : i.bytes = bytes) (hzs : z.cells.size = size)
    (v : Value) (n : Nat) (xs : List Value) (hv : a.eval s = v) (hown : w.ownsRow base e size v n xs) (x : Value) (m : Nat) (news : List Value) (hx : a.eval xo = x) (hs : Src P size tx x m news w)
    (h63 : n + m ≤ maxLen) (hbytes : (n + m) * bytes ≤ 140737488355328) (hbase : base ≤ w.heap.size)
    (h : ∀ v' w', w'.ownsRow base e size v' (n + m) (xs ++ news) → w.grownBy w' v.ownBlock → K (a.put o.dst v') w') : o.wp P a w K Q := by
  obtain ⟨v', w', hr, h2, h3⟩ := run_append_src (P := P) w base t tx o.type e i z size bytes ht hi hz hsize hby hzs v n xs hown x m news hs h63 hbytes hbase
  unfold Oper.wp execOp
  simp only [ho, resolve, invoke, builtin, Sem.run_bind, Sem.run_pure, Result.andThen_ok, List.map_toArray, List.map_cons, List.map_nil, hv, hx, hr]
  exact h v' w' h2 h3

theorem own_shape {w : World} {base : Nat} {e : TypeId} {size : Nat} {v : Value} {n : Nat} {xs : List Value} (h : w.ownsRow base e size v n xs) : ∃ ao c, v = .slice ao n c := by
  rcases h.2 with ⟨rfl, rfl⟩ | ⟨g, cap, cur, rfl, _⟩
  · exact ⟨_, _, rfl⟩
  · exact ⟨_, _, rfl⟩

theorem wpList_append_src {ops : Array Oper} {rest : List Oper} {o : Oper} {a : Act} {Q : Exit → Act → World → Prop} (hgd : o.guard = none) (s xo : Operand) (t tx : TypeId)
    (ho : o.op = .call { callee := .builtin .append, args := #[s, xo], argTypes := #[t, tx] })
    (base : Nat) (e : TypeId) (i : TypeInfo) (z : Value) (size bytes : Nat) (ht : P.underlying t = some (.slice e)) (hi : P.info? e = some i) (hz : i.zero = some z)
    (hsize : i.size = size) (hby : i.bytes = bytes) (hzs : z.cells.size = size)
    (v : Value) (n : Nat) (xs : List Value) (hv : a.eval s = v) (hown : w.ownsRow base e size v n xs) (x : Value) (m : Nat) (news : List Value) (hx : a.eval xo = x) (hs : Src P size tx x m news w)
    (h63 : n + m ≤ maxLen) (hbytes : (n + m) * bytes ≤ 140737488355328) (hbase : base ≤ w.heap.size)
    (h : ∀ ao c w', w'.ownsRow base e size (.slice ao (n + m) c) (n + m) (xs ++ news) → w.grownBy w' v.ownBlock → wpList P ops Q rest (a.put o.dst (.slice ao (n + m) c)) w') : wpList P ops Q (o :: rest) a w :=
  wpList_plain hgd fun _ hK => wp_append_src w s xo t tx ho base e i z size bytes ht hi hz hsize hby hzs v n xs hv hown x m news hx hs h63 hbytes hbase fun v' w' h2 h3 => by
    obtain ⟨ao, c, rfl⟩ := own_shape h2
    exact hK _ _ (h ao c w' h2 h3)

end Go.Proofs.Ytnmkccdcgmajgaa

/-
  What the program's writer does, method by method: its bytes behind each call, and what it leaves of memory.
-/
namespace Go.Proofs.Ytnmkccdcgmajgaa
open Go.RowKit

def cellsOf (l : List UInt8) : List Value := l.map fun c => Value.int .u8 c.toNat
theorem cellsOf_append (a b : List UInt8) : cellsOf (a ++ b) = cellsOf a ++ cellsOf b := by simp [cellsOf]

/-- The writer in block b has these bytes. -/
def WInv (b : Nat) (w : World) (l : List UInt8) : Prop :=
  ∃ ao c, w.heap[b]? = some (.cells #[.slice ao l.length c] 183 (0, 0)) ∧ w.ownsRow (b + 1) 5 1 (.slice ao l.length c) l.length (cellsOf l)
/-- What a writer's method may turn: its own block, and rows of bytes behind it. -/
def Wr (b : Nat) : Nat → Obj → Prop := fun k o => k = b ∨ (b < k ∧ ∃ cs m, o = .cells cs 5 m)

theorem Try.infoByte : (Try.prog.info? 5).map (fun i => (i.zero, i.size, i.bytes)) = some (some (.int .u8 0), 1, 1) := by kernel_rfl

theorem Kept.grownOwn {b : Nat} {w w' : World} {v : Value} {n : Nat} {xs : List Value} (hg : w.grownBy w' v.ownBlock) (ho : w.ownsRow (b + 1) 5 1 v n xs) : Kept (Wr b) w w' := by
  refine ⟨hg.os, hg.tape, hg.output, hg.size, fun k o hk hx => ?_⟩
  have hlt := lt_of_block hk
  rw [hg.block k hlt ?_, hk]
  intro e
  rcases ho.2 with ⟨rfl, _⟩ | ⟨g, cap, cur, rfl, hb, hh, _⟩
  · simp [Value.ownBlock] at e
  · simp [Value.ownBlock] at e
    subst e
    rw [hh] at hk
    exact hx (.inr ⟨by omega, cur, (0, 0), by simpa using hk.symm⟩)

/-- Behind an append and the store of its slice. -/
theorem WInv.put {b : Nat} {w w1 : World} {l news : List UInt8} {ao ao' : Option Addr} {c c' m : Nat} (hb : w.heap[b]? = some (.cells #[.slice ao l.length c] 183 (0, 0)))
    (ho : w.ownsRow (b + 1) 5 1 (.slice ao l.length c) l.length (cellsOf l)) (hm : m = news.length)
    (hn : w1.ownsRow (b + 1) 5 1 (.slice ao' (l.length + m) c') (l.length + m) (cellsOf l ++ cellsOf news)) (hg : w.grownBy w1 (Value.slice ao l.length c).ownBlock) :
    WInv b (w1.setCell ⟨b, 0, none⟩ (.slice ao' (l.length + m) c')) (l ++ news) ∧ Kept (Wr b) w (w1.setCell ⟨b, 0, none⟩ (.slice ao' (l.length + m) c')) := by
  subst hm
  have hk := Kept.grownOwn hg ho
  have hb1 : w1.heap[b]? = some (.cells #[.slice ao l.length c] 183 (0, 0)) := by
    rw [hg.block b (lt_of_block hb) ?_, hb]
    intro e
    have := (ho.lt b e.symm).1
    omega
  refine ⟨⟨ao', c', ?_, ?_⟩, hk.setCell (fun _ => .inl rfl) _⟩
  · have := blk_set hb1 0 (.slice ao' (l.length + news.length) c')
    simpa using this
  · rw [cellsOf_append]
    have := ownsRow_setCell_below hn (a := ⟨b, 0, none⟩) (by simp) (.slice ao' (l.length + news.length) c')
    simpa using this

theorem after_grow {b : Nat} {w w1 : World} {v : Value} {n : Nat} {xs : List Value} {o : Obj} (hb : w.heap[b]? = some o) (ho : w.ownsRow (b + 1) 5 1 v n xs) (hg : w.grownBy w1 v.ownBlock) : w1.heap[b]? = some o := by
  rw [hg.block b (lt_of_block hb) ?_, hb]
  intro e
  have := (ho.lt b e.symm).1
  omega
theorem le_alloc {w : World} {n : Nat} (h : n ≤ w.heap.size) (o : Obj) : n ≤ (w.alloc o).heap.size := by simp; omega

/-- One byte, laid in a block of its own, as what is appended. -/
theorem src_one {w : World} (d : UInt8) {y : Int} (hy : y = d.toNat) : Src Try.prog 1 81 (.slice (some ⟨w.heap.size, 0, none⟩) 1 1) 1 (cellsOf [d]) (w.alloc (.cells #[.int .u8 y] 5)) := by
  subst hy
  refine Src.ofSlice _ Try.underlying81 _ 1 1 _ rfl ?_ ?_
  · intro j u hj
    match j, hj with
    | 0, hj =>
      simp [cellsOf] at hj
      subst hj
      simp [Addr.add]
  · intro u hu
    simp [cellsOf] at hu
    subst hu
    rfl

set_option maxRecDepth 100000 in
set_option maxHeartbeats 1000000 in
theorem wNumber_any (b n : Nat) (l : List UInt8) (w : World) (h : WInv b w l) (hn : n ≤ 1099511627775) (hl : l.length ≤ 1099511627775) :
    Calls Try.prog 178 #[.pointer (some ⟨b, 0, none⟩), .int .i64 n] w fun e w' => e = .returned (.tuple #[]) ∧ WInv b w' (l ++ enc n) ∧ Kept (Wr b) w w' := by
  obtain ⟨i0, hi, hz0, hz1, hz2⟩ := info_parts Try.infoByte
  have hn' : (n : Int) ≤ 1099511627775 := by omega
  have HN : Hid ((enc n).length ≤ 6) := enc_len6 hn
  have HL : Hid (l.length ≤ 1099511627775) := hl
  clear hn hl
  go_enter Try.func178, Try.ntmps178
  go_wp2
  go_loopw [4] (fun t wr => ∃ r : Nat, ∃ l' : List UInt8, (r : Int) ≤ 1099511627775 ∧ t = .int .u64 r ∧ WInv b wr l' ∧ Hid (l' ++ enc r = l ++ enc n) ∧ Kept (Wr b) w wr) (fun t _ => (intOf t).toNat)
  case atStart => exact ⟨n, l, hn', by go_num, h, rfl, .refl _ _⟩
  case round =>
    obtain ⟨r, l', hr, rfl, ⟨ao, c, hb, ho⟩, HE, hk⟩ := hrel
    have h0 : wr.cell? ⟨b, 0, none⟩ = some (.slice ao l'.length c) := blk_cell hb 0
    have f0 := blk_free hb 0
    have HLL : Hid (l'.length + 1 ≤ maxLen ∧ (l'.length + 1) * 1 ≤ 140737488355328) := by
      have h1 := congrArg List.length HE.out
      have h2 := HN.out
      have h3 := HL.out
      simp at h1
      constructor
      · unfold maxLen; omega
      · omega
    have HB : Hid (b + 1 ≤ wr.heap.size) := lt_of_block hb
    by_cases h128 : r < 128
    · obtain ⟨d, hE, hd⟩ := enc_small_byte h128
      have HD : Hid (enc r = [d]) := hE
      have DD : Hid ((r : Int) = d.toNat) := by show (r : Int) = _; omega
      clear hE hd
      go_wp2_with (first | (at_builtin; go_must (refine wpList_append_src _ rfl _ _ 81 81 rfl (b + 1) 5 i0 (.int .u8 0) 1 1 Try.underlying81 hi hz0 hz1 hz2 rfl _ _ _ rfl (ho.alloc _) (.slice (some ⟨wr.heap.size, 0, none⟩) 1 1) 1 (cellsOf [d]) rfl (src_one d DD.out) HLL.out.1 HLL.out.2 (le_alloc HB.out _) ?_); intro ao' c' w1 ho' hg'; have hb1 := after_grow (blk_past hb _) (ho.alloc _) hg'; have h1 : w1.cell? ⟨b, 0, none⟩ = some (.slice ao l'.length c) := blk_cell hb1 0; have f1 := blk_free hb1 0; have HP : Hid _ := WInv.put (m := 1) (news := [d]) (blk_past hb _) (ho.alloc _) rfl ho' hg'; clear ho' hg' hb1))
      go_end0
      refine ⟨rfl, ?_, hk.trans (((Kept.refl _ _).alloc _).trans HP.out.2)⟩
      rw [← HE.out, HD.out]
      exact HP.out.1
    · obtain ⟨d, hE, hd⟩ := enc_big_byte h128
      have HD : Hid (enc r = d :: enc (r / 128)) := hE
      have hbit := or128 r
      rw [← hd] at hbit
      clear hE hd
      go_wp2_with (first | (at_builtin; go_must (refine wpList_append_src _ rfl _ _ 81 81 rfl (b + 1) 5 i0 (.int .u8 0) 1 1 Try.underlying81 hi hz0 hz1 hz2 rfl _ _ _ rfl (ho.alloc _) (.slice (some ⟨wr.heap.size, 0, none⟩) 1 1) 1 (cellsOf [d]) rfl (src_one d rfl) HLL.out.1 HLL.out.2 (le_alloc HB.out _) ?_); intro ao' c' w1 ho' hg'; have hb1 := after_grow (blk_past hb _) (ho.alloc _) hg'; have h1 : w1.cell? ⟨b, 0, none⟩ = some (.slice ao l'.length c) := blk_cell hb1 0; have f1 := blk_free hb1 0; have HP : Hid _ := WInv.put (m := 1) (news := [d]) (blk_past hb _) (ho.alloc _) rfl ho' hg'; clear ho' hg' hb1))
      go_roundw
      case rel => exact ⟨r / 128, l' ++ [d], by omega, by go_num, HP.out.1, by show (l' ++ [d]) ++ enc (r / 128) = _; rw [← HE.out, HD.out]; simp, hk.trans (((Kept.refl _ _).alloc _).trans HP.out.2)⟩
      case measure => simp [intOf]; omega

end Go.Proofs.Ytnmkccdcgmajgaa

/-
  The sum of bytes, plainly: bit by bit, as the program reckons it and as the document's answer does; the two are one.
-/
namespace Go.Proofs.Ytnmkccdcgmajgaa

def crcStep (c : Nat) : Nat := if c % 2 = 1 then c / 2 ^^^ 2197175160 else c / 2
def crcSteps : Nat → Nat → Nat
  | 0, c => c
  | k + 1, c => crcSteps k (crcStep c)
def crcByte (c : Nat) (b : UInt8) : Nat := crcSteps 8 (c ^^^ b.toNat)
/-- The register behind these bytes. -/
def crcReg (l : List UInt8) : Nat := l.foldl crcByte 4294967295
def crc (l : List UInt8) : Nat := 4294967295 - crcReg l

theorem crcStep_lt {c : Nat} (h : c < 4294967296) : crcStep c < 4294967296 := by
  unfold crcStep
  split
  · have : c / 2 ^^^ 2197175160 < 2 ^ 32 := Nat.xor_lt_two_pow (by omega) (by omega)
    omega
  · omega
theorem crcSteps_lt : ∀ (k : Nat) {c : Nat}, c < 4294967296 → crcSteps k c < 4294967296
  | 0, _, h => h
  | k + 1, _, h => crcSteps_lt k (crcStep_lt h)
theorem crcSteps_snoc : ∀ (k c : Nat), crcSteps (k + 1) c = crcStep (crcSteps k c)
  | 0, _ => rfl
  | k + 1, c => by
    show crcSteps (k + 1) (crcStep c) = _
    rw [crcSteps_snoc k]; rfl
theorem xor_lt {c b : Nat} (h : c < 4294967296) (hb : b < 4294967296) : c ^^^ b < 4294967296 := by
  have : c ^^^ b < 2 ^ 32 := Nat.xor_lt_two_pow (by omega) (by omega)
  omega
theorem crcByte_lt {c : Nat} {b : UInt8} (h : c < 4294967296) : crcByte c b < 4294967296 :=
  crcSteps_lt 8 (xor_lt h (by have := b.toNat_lt; omega))
theorem fold_lt : ∀ (l : List UInt8) {c : Nat}, c < 4294967296 → l.foldl crcByte c < 4294967296
  | [], _, h => h
  | _ :: l, _, h => fold_lt l (crcByte_lt h)
theorem crcReg_lt (l : List UInt8) : crcReg l < 4294967296 := fold_lt l (by omega)
theorem crc_lt (l : List UInt8) : crc l < 4294967296 := by unfold crc; omega
theorem crcReg_snoc (l : List UInt8) (b : UInt8) : crcReg (l ++ [b]) = crcByte (crcReg l) b := by
  simp [crcReg, List.foldl_append]

/-! The document's answer takes the byte in bit by bit. -/
def refStep (c b k : Nat) : Nat := if (c ^^^ b / 2 ^ k) % 2 = 1 then c / 2 ^^^ 2197175160 else c / 2
def refSteps (b : Nat) : Nat → Nat → Nat
  | 0, c => c
  | k + 1, c => refStep (refSteps b k c) b k
theorem xor_half (a b : Nat) : (a ^^^ b) / 2 = a / 2 ^^^ b / 2 := by
  have := Nat.shiftRight_xor_distrib (a := a) (b := b) (i := 1)
  simpa [Nat.shiftRight_eq_div_pow] using this
theorem steps_same (b c : Nat) : ∀ k, crcSteps k (c ^^^ b) = refSteps b k c ^^^ b / 2 ^ k
  | 0 => by simp [crcSteps, refSteps]
  | k + 1 => by
    rw [crcSteps_snoc, steps_same b c k]
    have hd : b / 2 ^ (k + 1) = b / 2 ^ k / 2 := by rw [Nat.pow_succ, Nat.div_div_eq_div_mul]
    simp only [refSteps, refStep, crcStep, xor_half, hd]
    split
    · rw [Nat.xor_assoc, Nat.xor_comm (b / 2 ^ k / 2), ← Nat.xor_assoc]
    · rfl
theorem byte_same (c : Nat) (b : UInt8) : refSteps b.toNat 8 c = crcByte c b := by
  have h := steps_same b.toNat c 8
  have : b.toNat / 2 ^ 8 = 0 := by have := b.toNat_lt; omega
  rw [this, Nat.xor_zero] at h
  exact h.symm
theorem refSteps_lt (b : Nat) (hb : b < 256) (c : Nat) (h : c < 4294967296) : ∀ k, refSteps b k c < 4294967296
  | 0 => h
  | k + 1 => by
    have ih := refSteps_lt b hb c h k
    show refStep _ b k < _
    unfold refStep
    split
    · exact xor_lt (by omega) (by omega)
    · omega

end Go.Proofs.Ytnmkccdcgmajgaa

/-
  The program's Sum and the document's: each answers the plain sum of WCrc.
-/
namespace Go.Proofs.Ytnmkccdcgmajgaa
open Go.RowKit

theorem u32_facts (x : Nat) (hx : x < 4294967296) : bits .and .u32 (x : Int) 1 = ((x % 2 : Nat) : Int) ∧ bits .xor .u32 ((x / 2 : Nat) : Int) 2197175160 = ((x / 2 ^^^ 2197175160 : Nat) : Int) := by
  constructor
  · have := u32_and_nat x 1 hx (by omega)
    rw [nat_mask1] at this
    exact this
  · exact u32_xor_nat (x / 2) 2197175160 (by omega) (by omega)

theorem xor_max (x : Nat) (hx : x < 4294967296) : bits BinOp.xor IntKind.u32 IntKind.u32.max (x : Int) = ((4294967295 - x : Nat) : Int) := by
  have e : IntKind.u32.max = ((4294967295 : Nat) : Int) := by decide
  rw [e, u32_xor_nat _ _ (by omega) hx]
  congr 1
  have h : (4294967295 : Nat) = 2 ^ 32 - 1 := by decide
  rw [h]
  apply Nat.eq_of_testBit_eq
  intro i
  rw [Nat.testBit_xor, Nat.testBit_two_pow_sub_one]
  have := Nat.testBit_two_pow_sub_succ (x := x) (n := 32) (by omega) i
  have e2 : 2 ^ 32 - 1 - x = 2 ^ 32 - (x + 1) := by omega
  rw [e2, this]
  by_cases hi : i < 32
  · simp [hi]
  · have : x.testBit i = false := Nat.testBit_lt_two_pow (Nat.lt_of_lt_of_le (by omega : x < 2 ^ 32) (Nat.pow_le_pow_right (by omega) (by omega)))
    simp [hi, this]

end Go.Proofs.Ytnmkccdcgmajgaa

/-
  What the document's reader does, method by method, in the plain readings of WBase; and its Sum.
-/
namespace Go.Proofs.Ytnmkccdcgmajgaa
open Go.RowKit

theorem i64_xor_nat (a b : Nat) (ha : a < 9223372036854775808) (hb : b < 9223372036854775808) : bits .xor .i64 (a : Int) (b : Int) = ((a ^^^ b : Nat) : Int) := by
  show IntKind.i64.wrap ((BitVec.ofInt 64 (a : Int) ^^^ BitVec.ofInt 64 (b : Int)).toNat : Int) = _
  rw [BitVec.toNat_xor, ofInt_u64 a (by omega), ofInt_u64 b (by omega)]
  have : a ^^^ b < 2 ^ 63 := Nat.xor_lt_two_pow (by omega) (by omega)
  rw [IntKind.wrap_i64]; omega

theorem tmod_nat (n m : Nat) : (n : Int).tmod (m : Int) = ((n % m : Nat) : Int) := by
  rw [Int.tmod_eq_emod_of_nonneg (by omega)]; rfl

theorem stText (most : Nat) (st : Except Int (List UInt8)) : stRun (rdText most) [] st = stRun (rdTake (stRun (rdUpTo most) 0 st).1) [] (stRun (rdUpTo most) 0 st).2 := by
  cases st with
  | error c => rfl
  | ok l =>
    cases hr : rdUpTo most l with
    | error c => rw [stRun_no hr, stRun_no (c := c) (by unfold rdText; rw [hr]), stRun_err]
    | ok r =>
      obtain ⟨n, t⟩ := r
      rw [stRun_ok hr]
      have e : rdText most l = rdTake n t := by unfold rdText; rw [hr]
      cases h2 : rdTake n t with
      | error c => rw [stRun_no (h2 ▸ e), stRun_no h2]
      | ok r2 => obtain ⟨a, u⟩ := r2; rw [stRun_ok (h2 ▸ e), stRun_ok h2]

/-- The error that the document's reader ends with: bytes that are left are one, too. -/
def stEnd (st : Except Int (List UInt8)) : Int :=
  match st with
  | .ok [] => 0
  | .ok _ => 1
  | .error c => c

end Go.Proofs.Ytnmkccdcgmajgaa

/-
  The program's writer of a text and of a frame; Frame, and the document's Frame: the same plain bytes.
-/
namespace Go.Proofs.Ytnmkccdcgmajgaa
open Go.RowKit

/-- Four bytes, the lowest first. -/
def le4 (c : Nat) : List UInt8 := [UInt8.ofNat (c % 256), UInt8.ofNat (c / 256 % 256), UInt8.ofNat (c / 65536 % 256), UInt8.ofNat (c / 16777216 % 256)]
def encFrame (l : List UInt8) : List UInt8 := encText l ++ le4 (crc l)

theorem byteCells_bs (l : List UInt8) : byteCells (bs l) = cellsOf l := by simp [byteCells, bs_data, cellsOf]
theorem src_str (l : List UInt8) (w : World) : Src Try.prog 1 9 (.string (bs l)) l.length (cellsOf l) w := by
  have := Src.ofString w (P := Try.prog) Try.underlying9 (bs l)
  rwa [bs_size, byteCells_bs] at this

set_option maxRecDepth 100000 in
theorem wText_any (b : Nat) (s l : List UInt8) (w : World) (h : WInv b w l) (hs : s.length ≤ 1099511627775) (hl : l.length ≤ 1099511627775) :
    Calls Try.prog 179 #[.pointer (some ⟨b, 0, none⟩), .string (bs s)] w fun e w' => e = .returned (.tuple #[]) ∧ WInv b w' (l ++ encText s) ∧ Kept (Wr b) w w' := by
  obtain ⟨i0, hi, hz0, hz1, hz2⟩ := info_parts Try.infoByte
  have H := wNumber_any b s.length l w h hs hl
  have hsz := bs_size s
  have hs' : (s.length : Int) ≤ 1099511627775 := by omega
  have HLL : Hid ((l ++ enc s.length).length + s.length ≤ maxLen ∧ ((l ++ enc s.length).length + s.length) * 1 ≤ 140737488355328) := by
    have h1 := enc_len6 hs
    simp only [List.length_append]
    constructor
    · unfold maxLen; omega
    · omega
  clear hs hl h
  obtain ⟨l2, hl2⟩ : ∃ l2, l2 = l ++ enc s.length := ⟨_, rfl⟩
  rw [← hl2] at H HLL
  have HE : Hid (l2 ++ s = l ++ encText s) := by rw [hl2]; show _ = l ++ (enc s.length ++ s); simp
  clear hl2
  go_enter Try.func179, Try.ntmps179
  go_wp2_with (first | (go_at_call 178; refine H.mono ?_; rintro e w1 ⟨rfl, ⟨ao, c, hb, ho⟩, hk⟩; have h0 : w1.cell? ⟨b, 0, none⟩ = some (.slice ao l2.length c) := blk_cell hb 0; have f0 := blk_free hb 0) | (at_builtin; go_must (refine wpList_append_src _ rfl (.tmp 12) (.tmp 13) 81 9 rfl (b + 1) 5 i0 (.int .u8 0) 1 1 Try.underlying81 hi hz0 hz1 hz2 rfl _ _ _ rfl ho (.string (bs s)) s.length (cellsOf s) rfl (src_str s _) HLL.out.1 HLL.out.2 (lt_of_block hb) ?_); intro ao' c' w2 ho' hg'; have hb1 := after_grow hb ho hg'; have h1 : w2.cell? ⟨b, 0, none⟩ = some (.slice ao l2.length c) := blk_cell hb1 0; have f1 := blk_free hb1 0; have HP : Hid _ := WInv.put (m := s.length) (news := s) hb ho rfl ho' hg'; clear ho' hg' hb1))
  go_end0
  refine ⟨rfl, ?_, hk.trans HP.out.2⟩
  rw [← HE.out]
  exact HP.out.1

def leN : Nat → Nat → List UInt8
  | 0, _ => []
  | k + 1, c => UInt8.ofNat (c % 256) :: leN k (c / 256)
theorem le4_eq (c : Nat) : leN 4 c = le4 c := by
  simp only [leN, le4]
  rw [Nat.div_div_eq_div_mul, Nat.div_div_eq_div_mul]

/-- The writer's bytes as a string. -/
theorem conv_own {b : Nat} {w : World} {l : List UInt8} {ao : Option Addr} {c : Nat} (ho : w.ownsRow (b + 1) 5 1 (.slice ao l.length c) l.length (cellsOf l)) :
    (convert 81 9 (.slice ao l.length c)).run Try.prog w = .ok (.string (bs l)) w := by
  rcases ho.2 with ⟨hv, hn⟩ | ⟨g, cap, cur, hv, hg⟩
  · obtain rfl : l = [] := List.eq_nil_of_length_eq_zero hn
    cases hv
    exact run_convert_bytes_nil w 81 5 Try.underlying81 Try.underlying5 0 0 9 Try.underlying9
  · cases hv
    refine run_convert_bytes_back w 81 9 5 ⟨g, 0, none⟩ c l Try.underlying81 Try.underlying5 Try.underlying9 ?_
    intro j hj
    refine ho.cells (g := g) rfl j _ ?_
    simp [cellsOf, hj]

theorem winv_new (w : World) : WInv w.heap.size (w.alloc (.cells #[.slice none 0 0] 183)) [] := ⟨none, 0, blk_new w _, World.ownsRow_nil _ _ _ _⟩
/-- What a new writer has turned is nothing that was there. -/
theorem Kept.newWr {w w' : World} {o : Obj} (h : Kept (Wr w.heap.size) (w.alloc o) w') : Kept Nil w w' := by
  have h2 := (h.mono (Y := fun k _ => w.heap.size ≤ k) (by
    rintro k o (rfl | ⟨hk, _⟩)
    · exact Nat.le_refl _
    · exact Nat.le_of_lt hk)).below (B := w.heap.size) (fun k o hk => hk) (by simp)
  exact Kept.ofBelow (((Below.refl _ _).alloc (Nat.le_refl _) o).trans h2) _

/-- Four bytes of a literal as a string. -/
theorem conv4 (w : World) (a b c d : Int) :
    (convert 81 9 (.slice (some ⟨w.heap.size, 0, none⟩) 4 4)).run Try.prog (w.alloc (.cells #[.int .u8 a, .int .u8 b, .int .u8 c, .int .u8 d] 5)) =
      .ok (.string (bs [UInt8.ofNat a.toNat, UInt8.ofNat b.toNat, UInt8.ofNat c.toNat, UInt8.ofNat d.toNat])) (w.alloc (.cells #[.int .u8 a, .int .u8 b, .int .u8 c, .int .u8 d] 5)) := by
  refine (run_convert_bytes_arg _ 81 5 Try.underlying81 Try.underlying5 w.heap.size 0 4 4 [a, b, c, d] rfl ?_ 9 Try.underlying9).trans ?_
  · intro i hi
    have hb := blk_new w (.cells #[.int .u8 a, .int .u8 b, .int .u8 c, .int .u8 d] 5)
    rcases (show i = 0 ∨ i = 1 ∨ i = 2 ∨ i = 3 by omega) with rfl | rfl | rfl | rfl
    · exact blk_cell hb 0
    · exact blk_cell hb 1
    · exact blk_cell hb 2
    · exact blk_cell hb 3
  · rfl

/-! ### both at once -/
/-- What a frame is made of, or that it can't be: the bytes and the error. -/
def putFrame (s : List UInt8) : List UInt8 × Int := if s.length ≤ 65536 then (encFrame s, 0) else ([], 4)

end Go.Proofs.Ytnmkccdcgmajgaa

/-
  Which numbers may be, and numbers written one behind the other: the program's areFrom, AreNumbers, AreCounts, and its writer's numbers.
-/
namespace Go.Proofs.Ytnmkccdcgmajgaa
open Go.RowKit

theorem blk_at {w : World} {b : Nat} {cs : Array Value} {t : TypeId} {v : Value} (h : w.heap[b]? = some (.cells cs t (0, 0))) (i : Nat) (hv : cs[i]? = some v) : w.cell? ⟨b, i, none⟩ = some v := (blk_cell h i).trans hv

/-- A row of ints in a block of its own. -/
def IntsAt (w : World) (b : Nat) (zs : List Int) : Prop := ∀ j, j < zs.length → w.cell? ⟨b, j, none⟩ = some (.int .i64 (zs.getD j 0))

def fromTo (least : Int) (zs : List Int) : Bool := zs.all fun z => decide (least ≤ z) && decide (z ≤ 1099511627775)

set_option maxRecDepth 100000 in
set_option maxHeartbeats 1000000 in
theorem areFrom_any (least : Int) (b cap : Nat) (zs : List Int) (w : World) (hc : IntsAt w b zs) (hl : zs.length ≤ 1099511627775) :
    Calls Try.prog 148 #[.int .i64 least, .slice (some ⟨b, 0, none⟩) zs.length cap] w fun e w' => e = .returned (.bool (fromTo least zs)) ∧ w' = w := by
  have hl' : (zs.length : Int) ≤ 1099511627775 := by omega
  have HC : Hid (IntsAt w b zs) := hc
  clear hc hl
  go_enter Try.func148, Try.ntmps148
  go_wp2
  go_loop [9] (fun i => ∃ k : Nat, k ≤ zs.length ∧ i = .int .i64 k ∧ Hid (fromTo least (zs.take k) = true)) (fun i => zs.length - (intOf i).toNat)
  case atStart => exact ⟨0, Nat.zero_le _, rfl, rfl⟩
  case round =>
    obtain ⟨k, hk, rfl, HT⟩ := hrel
    by_cases hlt : k < zs.length
    · have hcell := HC.out k hlt
      obtain ⟨z, hz⟩ : ∃ z, z = zs.getD k 0 := ⟨_, rfl⟩
      have HZ : Hid (zs.take (k + 1) = zs.take k ++ [z]) := by
        show zs.take (k + 1) = _
        rw [List.take_succ_eq_append_getElem hlt, hz]
        simp [List.getD_eq_getElem?_getD, hlt]
      have HG : Hid (zs = zs.take k ++ z :: zs.drop (k + 1)) := by
        show zs = _
        rw [hz]
        simp [List.getD_eq_getElem?_getD, hlt]
      rw [← hz] at hcell
      clear hz
      by_cases hin : least ≤ z ∧ z ≤ 1099511627775
      · obtain ⟨hin1, hin2⟩ := hin
        have HT2 : Hid (fromTo least (zs.take (k + 1)) = true) := by
          show fromTo least _ = true
          rw [HZ.out]
          have := HT.out
          simp only [fromTo, List.all_append, List.all_cons, List.all_nil, Bool.and_true] at this ⊢
          rw [this]; simp [hin1, hin2]
        go_wp2
        go_round
        case rel => exact ⟨k + 1, by omega, by go_num, HT2⟩
        case measure => simp [intOf]; omega
      · have HF : Hid (fromTo least zs = false) := by
          show fromTo least zs = false
          rw [HG.out]
          simp only [fromTo, List.all_append, List.all_cons]
          have : (decide (least ≤ z) && decide (z ≤ 1099511627775)) = false := by simp; omega
          rw [this]; simp
        by_cases h1 : z < least
        · clear hin
          go_wp2
          go_ret
          rw [HF.out]
          exact ⟨rfl, rfl⟩
        · have h2 : 1099511627775 < z := by omega
          clear hin
          go_wp2
          go_ret
          rw [HF.out]
          exact ⟨rfl, rfl⟩
    · have HF : Hid (fromTo least zs = true) := by
        have := HT.out
        rw [List.take_of_length_le (by omega)] at this
        exact this
      go_wp2
      go_ret
      rw [HF.out]
      exact ⟨rfl, rfl⟩

theorem areNumbers_any (b cap : Nat) (zs : List Int) (w : World) (hc : IntsAt w b zs) (hl : zs.length ≤ 1099511627775) :
    Calls Try.prog 108 #[.slice (some ⟨b, 0, none⟩) zs.length cap] w fun e w' => e = .returned (.bool (fromTo 0 zs)) ∧ w' = w := by
  have H := areFrom_any 0 b cap zs w hc hl
  clear hc hl
  go_enter Try.func108, Try.ntmps108
  go_wp2_with (go_at_call 148; go_must (refine H.mono ?_); rintro e w' ⟨rfl, rfl⟩)
  go_ret
  exact ⟨rfl, rfl⟩

theorem areCounts_any (b cap : Nat) (zs : List Int) (w : World) (hc : IntsAt w b zs) (hl : zs.length ≤ 1099511627775) :
    Calls Try.prog 122 #[.slice (some ⟨b, 0, none⟩) zs.length cap] w fun e w' => e = .returned (.bool (fromTo 1 zs)) ∧ w' = w := by
  have H := areFrom_any 1 b cap zs w hc hl
  clear hc hl
  go_enter Try.func122, Try.ntmps122
  go_wp2_with (go_at_call 148; go_must (refine H.mono ?_); rintro e w' ⟨rfl, rfl⟩)
  go_ret
  exact ⟨rfl, rfl⟩

/-- Numbers written one behind the other. -/
def encAll (ns : List Nat) : List UInt8 := ns.flatMap enc
def intsOf (ns : List Nat) : List Int := ns.map fun (n : Nat) => (n : Int)

theorem encAll_len (ns : List Nat) (h : ∀ n ∈ ns, n ≤ 1099511627775) : (encAll ns).length ≤ 6 * ns.length := by
  induction ns with
  | nil => simp [encAll]
  | cons n ns ih =>
    have h1 := enc_len6 (h n (by simp))
    have h2 := ih (fun m hm => h m (by simp [hm]))
    simp only [encAll, List.flatMap_cons, List.length_append, List.length_cons] at h2 ⊢
    omega

set_option maxRecDepth 100000 in
set_option maxHeartbeats 1000000 in
theorem wNumbers_any (b g cap : Nat) (cs : Array Value) (m : Nat × Nat) (ns : List Nat) (l : List UInt8) (w : World) (h : WInv b w l) (hg : w.heap[g]? = some (.cells cs 3 m)) (hgb : g ≠ b)
    (hc : IntsAt w g (intsOf ns)) (hn : ∀ n ∈ ns, n ≤ 1099511627775) (hnl : ns.length ≤ 10000000) (hl : l.length ≤ 100000000000) :
    Calls Try.prog 157 #[.pointer (some ⟨b, 0, none⟩), .slice (some ⟨g, 0, none⟩) ns.length cap] w fun e w' => e = .returned (.tuple #[]) ∧ WInv b w' (l ++ encAll ns) ∧ Kept (Wr b) w w' := by
  have hx : ¬ Wr b g (.cells cs 3 m) := by
    rintro (e | ⟨_, cs', m', e⟩)
    · exact hgb e
    · simp at e
  have HX : Hid (w.heap[g]? = some (.cells cs 3 m) ∧ ¬ Wr b g (.cells cs 3 m)) := ⟨hg, hx⟩
  have HC : Hid (IntsAt w g (intsOf ns)) := hc
  have HN : Hid (∀ n ∈ ns, n ≤ 1099511627775) := hn
  have HL : Hid (l.length ≤ 100000000000) := hl
  have hnl' : (ns.length : Int) ≤ 10000000 := by omega
  clear hg hx hc hn hl hgb
  go_enter Try.func157, Try.ntmps157
  go_wp2
  go_loopw [8] (fun i wr => ∃ k : Nat, k ≤ ns.length ∧ i = .int .i64 k ∧ WInv b wr (l ++ encAll (ns.take k)) ∧ Kept (Wr b) w wr) (fun i _ => ns.length - (intOf i).toNat)
  case atStart => exact ⟨0, Nat.zero_le _, rfl, by simpa [encAll] using h, .refl _ _⟩
  case round =>
    obtain ⟨k, hk, rfl, hinv, hkk⟩ := hrel
    by_cases hlt : k < ns.length
    · have hcell : wr.cell? ⟨g, k, none⟩ = some (.int .i64 (ns[k] : Nat)) := by
        rw [hkk.cell HX.out.1 HX.out.2 k, HC.out k (by simpa [intsOf] using hlt)]
        simp [intsOf, List.getD_eq_getElem?_getD, hlt]
      have hle := HN.out ns[k] (List.getElem_mem hlt)
      have HE : Hid ((l ++ encAll (ns.take k)) ++ enc ns[k] = l ++ encAll (ns.take (k + 1))) := by
        show _ = _
        rw [List.take_succ_eq_append_getElem hlt]
        simp only [encAll, List.flatMap_append, List.flatMap_cons, List.flatMap_nil, List.append_nil, List.append_assoc]
      have H := wNumber_any b ns[k] (l ++ encAll (ns.take k)) wr hinv hle (by
        have h1 := encAll_len (ns.take k) (fun n hn => HN.out n (List.mem_of_mem_take hn))
        have h2 := HL.out
        simp only [List.length_append, List.length_take] at h1 ⊢
        omega)
      rw [HE.out] at H
      obtain ⟨z, hz⟩ : ∃ z, z = ns[k] := ⟨_, rfl⟩
      rw [← hz] at hcell H
      have hle' : (z : Int) ≤ 1099511627775 := by omega
      clear hz hle hinv HE
      go_wp2_with (go_at_call 178; go_must (refine H.mono ?_); rintro e w' ⟨rfl, hinv', hk'⟩)
      go_roundw
      case rel => exact ⟨k + 1, by omega, by go_num, hinv', hkk.trans hk'⟩
      case measure => simp [intOf]; omega
    · go_wp2
      go_end0
      rw [List.take_of_length_le (by omega)] at hinv
      exact ⟨rfl, hinv, hkk⟩

end Go.Proofs.Ytnmkccdcgmajgaa

/-
  What the program's reader does, method by method: must, take, number, upTo, text: each answers by the plain reading of WBase, or gives up by its panic, and turns the reader's one cell alone.
-/
namespace Go.Proofs.Ytnmkccdcgmajgaa
open Go.RowKit

/-- The reader's cell, told by the bytes that are left. -/
structure Left (p : Addr) (w : World) (l : List UInt8) : Prop where
  cell : w.cell? p = some (.string (bs l))
  free : w.frozen? p = false

theorem Left.set {p : Addr} {w : World} {l : List UInt8} (h : Left p w l) (t : List UInt8) : Left p (w.setCell p (.string (bs t))) t :=
  ⟨World.cell?_setCell_same _ _ _ (by rw [h.cell]), by rw [World.frozen?_setCell]; exact h.free⟩

theorem i64_or_nat (a b : Nat) (ha : a < 9223372036854775808) (hb : b < 9223372036854775808) : bits .or .i64 (a : Int) (b : Int) = ((a ||| b : Nat) : Int) := by
  show IntKind.i64.wrap ((BitVec.ofInt 64 (a : Int) ||| BitVec.ofInt 64 (b : Int)).toNat : Int) = _
  rw [BitVec.toNat_or, ofInt_u64 a (by omega), ofInt_u64 b (by omega)]
  have : a ||| b < 2 ^ 63 := Nat.or_lt_two_pow (by omega) (by omega)
  rw [IntKind.wrap_i64]; omega

theorem or_fact (k x : Nat) (c : UInt8) (hk : k ≤ 6) (hx : x < 2 ^ (7 * k)) :
    bits BinOp.or IntKind.i64 (x : Int) (wrap64 (wrap64 (bits BinOp.and IntKind.u8 (c.toNat : Int) 127) * 2 ^ (7 * k))) = ((x + c.toNat % 128 * 2 ^ (7 * k) : Nat) : Int) := by
  have hc : c.toNat < 256 := c.toNat_lt
  have hp := pow7 k hk
  have e1 : bits BinOp.and IntKind.u8 (c.toNat : Int) 127 = ((c.toNat % 128 : Nat) : Int) := by
    have := u8_and_nat c.toNat 127 hc (by omega)
    rw [nat_mask7] at this
    exact this
  have hm : c.toNat % 128 * 2 ^ (7 * k) ≤ 127 * 4398046511104 := Nat.mul_le_mul (by omega) hp
  have e2 : wrap64 ((c.toNat % 128 : Nat) : Int) = ((c.toNat % 128 : Nat) : Int) := by unfold wrap64; omega
  have e3 : wrap64 (((c.toNat % 128 : Nat) : Int) * 2 ^ (7 * k)) = ((c.toNat % 128 * 2 ^ (7 * k) : Nat) : Int) := by
    have : (((c.toNat % 128 : Nat) : Int) * 2 ^ (7 * k)) = ((c.toNat % 128 * 2 ^ (7 * k) : Nat) : Int) := by push_cast; rfl
    rw [this]; unfold wrap64; omega
  rw [e1, e2, e3, i64_or_nat _ _ (by omega) (by omega), or_add hx]

def NumV : Nat → World → Value → Prop := fun n _ v => v = .int .i64 n

def StrV : List UInt8 → World → Value → Prop := fun s _ v => v = .string (bs s)

end Go.Proofs.Ytnmkccdcgmajgaa

/-
  The program's reader of a frame, Unframe; and the document's: the same plain reading.
-/
namespace Go.Proofs.Ytnmkccdcgmajgaa
open Go.RowKit

/-- What so many bytes say, the lowest first. -/
def valN : Nat → List UInt8 → Nat
  | 0, _ => 0
  | k + 1, l => valN k l + (l.getD k 0).toNat * 2 ^ (8 * k)
theorem valN_lt (l : List UInt8) : ∀ k, valN k l < 2 ^ (8 * k)
  | 0 => by simp [valN]
  | k + 1 => by
    have ih := valN_lt l k
    have hb := (l.getD k 0).toNat_lt
    have e : 2 ^ (8 * (k + 1)) = 256 * 2 ^ (8 * k) := by rw [Nat.mul_add, Nat.pow_add]; omega
    have : ((l.getD k 0).toNat + 1) * 2 ^ (8 * k) ≤ 256 * 2 ^ (8 * k) := Nat.mul_le_mul_right _ (by omega)
    rw [Nat.add_mul] at this
    show valN k l + _ < _
    omega

theorem cell_lt {w : World} {a : Addr} {v : Value} (h : w.cell? a = some v) : a.block < w.heap.size := by
  cases hb : w.heap[a.block]? with
  | none => simp [World.cell?, hb] at h
  | some o => exact lt_of_block hb
theorem Left.alloc {p : Addr} {w : World} {l : List UInt8} (h : Left p w l) (o : Obj) : Left p (w.alloc o) l :=
  have e := Below.heap_alloc w o p.block (cell_lt h.cell)
  ⟨(World.cell?_of_block e).trans h.cell, (World.frozen?_of_block e).trans h.free⟩
theorem Left.other {p : Addr} {w : World} {l : List UInt8} (h : Left p w l) {a : Addr} (ha : p.block ≠ a.block) (u : Value) : Left p (w.setCell a u) l :=
  have e := Below.heap_setCell w a u p.block ha
  ⟨(World.cell?_of_block e).trans h.cell, (World.frozen?_of_block e).trans h.free⟩
theorem Left.drew {p : Addr} {w : World} {l : List UInt8} (h : Left p w l) : Left p w.drew l := ⟨h.cell, h.free⟩

theorem or8 (k x : Nat) (d : UInt8) (hk : k < 4) (hx : x < 2 ^ (8 * k)) : bits BinOp.or IntKind.u32 (x : Int) ((d.toNat : Int) * 2 ^ (8 * k) % 4294967296) = ((x + d.toNat * 2 ^ (8 * k) : Nat) : Int) := by
  have hd := d.toNat_lt
  have hp : 2 ^ (8 * k) ≤ 2 ^ 24 := Nat.pow_le_pow_right (by omega) (by omega)
  have hm : d.toNat * 2 ^ (8 * k) ≤ 255 * 2 ^ 24 := Nat.mul_le_mul (by omega) hp
  have e : ((d.toNat : Int) * 2 ^ (8 * k) % 4294967296) = ((d.toNat * 2 ^ (8 * k) : Nat) : Int) := by
    have : ((d.toNat : Int) * 2 ^ (8 * k)) = ((d.toNat * 2 ^ (8 * k) : Nat) : Int) := by push_cast; rfl
    rw [this]; omega
  rw [e, u32_or_nat _ _ (by omega) (by omega), Nat.or_comm, ← Nat.shiftLeft_eq, ← Nat.shiftLeft_add_eq_or_of_lt hx, Nat.add_comm]

def rdSum (l : List UInt8) : Except Int (Nat × List UInt8) := if 4 ≤ l.length then .ok (valN 4 (l.take 4), l.drop 4) else .error 3
def U32V : Nat → World → Value → Prop := fun n _ v => v = .int .u32 n

theorem sum_cell (w : World) (l : List UInt8) (cap k : Nat) (m : Nat × Nat) (hk : k < l.length) :
    (w.alloc (.cells (bytesRow (bs l) cap) 5 m)).drew.cell? ⟨w.heap.size, k, none⟩ = some (.int .u8 (l.getD k 0).toNat) := by
  have hb : (w.alloc (.cells (bytesRow (bs l) cap) 5 m)).drew.heap[w.heap.size]? = some (.cells (bytesRow (bs l) cap) 5 m) := blk_new w _
  simp only [World.cell?, hb]
  simp [bytesRow, bs, hk, Array.getElem?_append, List.getD_eq_getElem?_getD]

/-- A frame: its body and what stands behind it; all is taken. -/
def rdFrame (l : List UInt8) : Except Int ((List UInt8 × List UInt8) × List UInt8) :=
  match rdText 65536 l with
  | .error c => .error c
  | .ok (body, t) =>
    match rdSum t with
    | .error c => .error c
    | .ok (n, u) => if n = crc body then .ok ((body, u), []) else .error 2
def FrV : List UInt8 × List UInt8 → World → Value → Prop := fun x _ v => v = .agg #[.string (bs x.1), .string (bs x.2)]

theorem rdText_len {most : Nat} {l s t : List UInt8} (h : rdText most l = .ok (s, t)) : s.length ≤ most ∧ s.length + t.length < l.length := by
  unfold rdText at h
  split at h
  · rename_i n u hr
    have := rdUpTo_ok hr
    unfold rdTake at h
    split at h
    · simp only [Except.ok.injEq, Prod.mk.injEq] at h
      obtain ⟨rfl, rfl⟩ := h
      simp
      omega
    · cases h
  · cases h

end Go.Proofs.Ytnmkccdcgmajgaa

/-
  The program's read: a reader that gives up is caught, and the error stands in the answer.
-/
namespace Go.Proofs.Ytnmkccdcgmajgaa
open Go.RowKit

theorem catch_slots (a b t : Value) : #[a, b] ++ ((Array.replicate 18 undef).setIfInBounds 4 t).setIfInBounds 0 t = #[a, b, t, undef, undef, undef, t, undef, undef, undef, undef, undef, undef, undef, undef, undef, undef, undef, undef, undef] := by
  apply Array.ext'
  simp [List.replicate]

/-- A whole text, read: nothing may be left. -/
def rdAll {α : Type} (r : Except Int (α × List UInt8)) : Except Int α :=
  match r with
  | .ok (a, []) => .ok a
  | .ok (_, _ :: _) => .error 1
  | .error c => .error c

theorem three (w : World) (o1 o2 o3 : Obj) : (((w.alloc o1).alloc o2).alloc o3).heap[w.heap.size]? = some o1 ∧ (((w.alloc o1).alloc o2).alloc o3).heap[w.heap.size + 1]? = some o2 ∧ (((w.alloc o1).alloc o2).alloc o3).heap[w.heap.size + 2]? = some o3 := by
  have e1 : (w.alloc o1).heap.size = w.heap.size + 1 := by simp
  have e2 : ((w.alloc o1).alloc o2).heap.size = w.heap.size + 2 := by simp
  refine ⟨blk_past (blk_past (blk_new w o1) _) _, ?_, ?_⟩
  · have := blk_past (blk_new (w.alloc o1) o2) o3
    rwa [e1] at this
  · have := blk_new ((w.alloc o1).alloc o2) o3
    rwa [e2] at this
theorem Left.ofBlk {b : Nat} {w : World} {l : List UInt8} {t : TypeId} (h : w.heap[b]? = some (.cells #[.string (bs l)] t (0, 0))) : Left ⟨b, 0, none⟩ w l := ⟨blk_cell h 0, blk_free h 0⟩
/-- What is new behind a world may turn. -/
theorem Kept.ofNew {w w1 w' : World} {X : Nat → Obj → Prop} (h1 : Kept Nil w w1) (h : Kept X w1 w') (hX : ∀ k o, X k o → w.heap.size ≤ k) : Kept Nil w w' :=
  Kept.ofBelow ((h1.below (B := w.heap.size) (fun _ _ x => x.elim) (Nat.le_refl _)).trans (h.below hX h1.size)) _

end Go.Proofs.Ytnmkccdcgmajgaa

/-
  Unframe, and the document's Unframe: the same plain answer.
-/
namespace Go.Proofs.Ytnmkccdcgmajgaa
open Go.RowKit

/-- A frame's body, what stands behind it, the error. -/
def unF (l : List UInt8) : List UInt8 × List UInt8 × Int :=
  match rdFrame l with
  | .ok (x, _) => (x.1, x.2, 0)
  | .error c => ([], [], c)

theorem rdFrame_nil {l : List UInt8} {x : List UInt8 × List UInt8} {t : List UInt8} (h : rdFrame l = .ok (x, t)) : t = [] := by
  unfold rdFrame at h
  split at h
  · cases h
  · split at h
    · cases h
    · split at h
      · simp only [Except.ok.injEq, Prod.mk.injEq] at h; exact h.2.symm
      · cases h

theorem val4 (x a b c d : Nat) (ha : a < 256) (hb : b < 256) (hc : c < 256) :
    a + b * 256 + c * 65536 + d * 16777216 = x ↔ (a = x % 256 ∧ b = x / 256 % 256 ∧ c = x / 65536 % 256 ∧ d = x / 16777216) := by
  omega

theorem ofNat_eq {d : UInt8} {n : Nat} (h : n < 256) : d = UInt8.ofNat n ↔ d.toNat = n := by
  rw [← UInt8.toNat_inj, ofNat_toNat h]

theorem len4 {l : List UInt8} (h : l.length = 4) : ∃ a b c d, l = [a, b, c, d] := by
  match l, h with
  | [a, b, c, d], _ => exact ⟨a, b, c, d, rfl⟩

theorem val_le4 {l : List UInt8} {x : Nat} (h : l.length = 4) (hx : x < 4294967296) : valN 4 l = x ↔ l = le4 x := by
  obtain ⟨a, b, c, d, rfl⟩ := len4 h
  have ha := a.toNat_lt
  have hb := b.toNat_lt
  have hc := c.toNat_lt
  have := val4 x a.toNat b.toNat c.toNat d.toNat ha hb hc
  simp only [valN, List.getD_cons_zero, List.getD_cons_succ]
  simp only [le4, List.cons.injEq, and_true]
  rw [ofNat_eq (by omega), ofNat_eq (by omega), ofNat_eq (by omega), ofNat_eq (by omega), Nat.mod_eq_of_lt (show x / 16777216 < 256 by omega)]
  rw [← this]
  simp

theorem unF_err {l : List UInt8} {c : Int} (h : rdText 65536 l = .error c) : unF l = ([], [], c) := by
  unfold unF rdFrame
  rw [h]
theorem unF_no {l body t : List UInt8} (h : rdText 65536 l = .ok (body, t)) (h4 : ¬ 4 ≤ t.length) : unF l = ([], [], 3) := by
  unfold unF rdFrame
  rw [h]
  simp only [show rdSum t = .error 3 from if_neg h4]
theorem rdFrame_if {l body t : List UInt8} (h : rdText 65536 l = .ok (body, t)) (h4 : 4 ≤ t.length) : rdFrame l = if valN 4 (t.take 4) = crc body then .ok ((body, t.drop 4), []) else .error 2 := by
  unfold rdFrame
  rw [h]
  simp only [show rdSum t = .ok (valN 4 (t.take 4), t.drop 4) from if_pos h4]
theorem val_sum (t body : List UInt8) (h4 : 4 ≤ t.length) : valN 4 (t.take 4) = crc body ↔ t.take 4 = le4 (crc body) := val_le4 (by simp; omega) (crc_lt body)
theorem unF_yes {l body t : List UInt8} (h : rdText 65536 l = .ok (body, t)) (h4 : 4 ≤ t.length) (hs : t.take 4 = le4 (crc body)) : unF l = (body, t.drop 4, 0) := by
  unfold unF
  rw [rdFrame_if h h4, if_pos ((val_sum t body h4).2 hs)]
theorem unF_sum {l body t : List UInt8} (h : rdText 65536 l = .ok (body, t)) (h4 : 4 ≤ t.length) (hs : ¬ t.take 4 = le4 (crc body)) : unF l = ([], [], 2) := by
  unfold unF
  rw [rdFrame_if h h4, if_neg (fun e => hs ((val_sum t body h4).1 e))]

theorem Kept.newOne {w w' : World} {o : Obj} (h : Kept (One w.heap.size) (w.alloc o) w') : Kept Nil w w' :=
  Kept.ofNew ((Kept.refl _ _).alloc o) h (fun k _ e => by have : k = w.heap.size := e; omega)

end Go.Proofs.Ytnmkccdcgmajgaa

/-
  What the texts on single records share: readings one behind another, the document's reader behind a fault, blocks that are none of the writer's.
-/
namespace Go.Proofs.Ytnmkccdcgmajgaa
open Go.RowKit

theorem ret_bool {a b : Bool} (h : a = b) : Ending.returned (.bool a) = .returned (.bool b) := by rw [h]
def isNum (x : Int) : Bool := decide (0 ≤ x) && decide (x ≤ 1099511627775)
theorem ints3 (w : World) (o : Obj) (x y z : Int) : IntsAt ((w.alloc o).alloc (.cells #[.int .i64 x, .int .i64 y, .int .i64 z] 3)) (w.heap.size + 1) [x, y, z] := by
  have hb := blk_new (w.alloc o) (.cells #[.int .i64 x, .int .i64 y, .int .i64 z] 3)
  rw [show (w.alloc o).heap.size = w.heap.size + 1 by simp] at hb
  intro j hj
  simp at hj
  rcases (show j = 0 ∨ j = 1 ∨ j = 2 by omega) with rfl | rfl | rfl
  · exact blk_cell hb 0
  · exact blk_cell hb 1
  · exact blk_cell hb 2
theorem WInv.alloc {b : Nat} {w : World} {l : List UInt8} (h : WInv b w l) (o : Obj) : WInv b (w.alloc o) l := by
  obtain ⟨ao, c, hb, ho⟩ := h
  exact ⟨ao, c, blk_past hb o, ho.alloc o⟩
theorem WInv.lt {b : Nat} {w : World} {l : List UInt8} (h : WInv b w l) : b < w.heap.size := by
  obtain ⟨ao, c, hb, ho⟩ := h
  exact lt_of_block hb
/-- A block of another type that lies behind the writer is none of the writer's. -/
theorem not_wr {b g : Nat} {cs : Array Value} {t : TypeId} {m : Nat × Nat} (hg : g ≠ b) (ht : t ≠ 5) : ¬ Wr b g (.cells cs t m) := by
  rintro (e | ⟨_, cs', m', e⟩)
  · exact hg e
  · simp at e; exact ht e.2.1
theorem encText_len {l : List UInt8} (h : l.length ≤ 1099511627775) : (encText l).length ≤ l.length + 6 := by
  have := enc_len6 h
  simp only [encText, List.length_append]; omega
theorem isNum_nat {x : Int} (h : isNum x = true) : (x.toNat : Int) = x ∧ x.toNat ≤ 1099511627775 := by
  simp only [isNum, Bool.and_eq_true, decide_eq_true_eq] at h
  omega
/-- One reading behind another. -/
def rdThen {α β : Type} (r : Except Int (α × List UInt8)) (f : α → List UInt8 → Except Int (β × List UInt8)) : Except Int (β × List UInt8) :=
  match r with
  | .ok (a, t) => f a t
  | .error c => .error c
theorem rdThen_ok {α β : Type} {r : Except Int (α × List UInt8)} {f : α → List UInt8 → Except Int (β × List UInt8)} {a : α} {t : List UInt8} (h : r = .ok (a, t)) : rdThen r f = f a t := by rw [h]; rfl
theorem rdThen_no {α β : Type} {r : Except Int (α × List UInt8)} {f : α → List UInt8 → Except Int (β × List UInt8)} {c : Int} (h : r = .error c) : rdThen r f = .error c := by rw [h]; rfl
theorem rdText_le {most : Nat} {l s t : List UInt8} (h : rdText most l = .ok (s, t)) : s.length ≤ most := (rdText_len h).1
theorem Left.kept {p : Addr} {w w' : World} {l : List UInt8} (h : Left p w l) (k : Kept Nil w w') : Left p w' l := by
  have hlt := cell_lt h.cell
  have e : w'.heap[p.block]? = w.heap[p.block]? := by
    rw [k.block p.block _ (Array.getElem?_eq_getElem hlt) (fun x => x.elim), Array.getElem?_eq_getElem hlt]
  exact ⟨(World.cell?_of_block e).trans h.cell, (World.frozen?_of_block e).trans h.free⟩
theorem numGo_err : ∀ {l : List UInt8} {k x : Nat} {c : Int}, numGo k x l = .error c → c ≠ 0 := by
  intro l
  induction l with
  | nil => intro k x c h; simp [numGo] at h; omega
  | cons d l ih =>
    intro k x c h
    by_cases h1 : k ≤ 5 ∧ x + d.toNat % 128 * 2 ^ (7 * k) ≤ maxNum ∧ (d.toNat ≠ 0 ∨ k = 0)
    · by_cases h2 : d.toNat < 128
      · rw [numGo_end h1 h2] at h; cases h
      · rw [numGo_more h1 h2] at h; exact ih h
    · rw [numGo_bad h1] at h; cases h; decide
theorem rdNum_err {l : List UInt8} {c : Int} (h : rdNum l = .error c) : c ≠ 0 := numGo_err h
theorem rdText_err {most : Nat} {l : List UInt8} {c : Int} (h : rdText most l = .error c) : c ≠ 0 := by
  unfold rdText rdUpTo at h
  cases hn : rdNum l with
  | error d => rw [hn] at h; simp only [Except.error.injEq] at h; subst h; exact rdNum_err hn
  | ok x =>
    obtain ⟨n, t⟩ := x
    rw [hn] at h
    simp only at h
    by_cases h1 : n ≤ most
    · rw [if_pos h1] at h
      simp only [rdTake] at h
      split at h
      · cases h
      · cases h; decide
    · rw [if_neg h1] at h
      cases h; decide
/-- A state behind a fault that is told. -/
def stBad (c : Int) (st : Except Int (List UInt8)) : Except Int (List UInt8) :=
  match st with
  | .ok _ => .error c
  | .error d => .error d
theorem isNum_of {n : Nat} (h : n ≤ maxNum) : isNum (n : Int) = true := by
  unfold maxNum at h
  simp [isNum]; omega
end Go.Proofs.Ytnmkccdcgmajgaa

/-
  Which entries may be, by the program and by the document's answer; an entry written by either.
-/
namespace Go.Proofs.Ytnmkccdcgmajgaa
open Go.RowKit

/-- An entry, plainly. -/
structure En where
  ix : Int
  tm : Int
  kd : Int
  dt : List UInt8
def isCnt (x : Int) : Bool := decide (1 ≤ x) && decide (x ≤ 1099511627775)
def En.ok (x : En) : Bool := isCnt x.ix && isCnt x.tm && (if x.kd = 0 then x.dt.isEmpty else if x.kd = 1 ∨ x.kd = 2 then decide (x.dt.length ≤ 256) else false)

theorem ints2 (w : World) (o : Obj) (x y : Int) : IntsAt ((w.alloc o).alloc (.cells #[.int .i64 x, .int .i64 y] 3)) (w.heap.size + 1) [x, y] := by
  have hb := blk_new (w.alloc o) (.cells #[.int .i64 x, .int .i64 y] 3)
  rw [show (w.alloc o).heap.size = w.heap.size + 1 by simp] at hb
  intro j hj
  simp at hj
  rcases (show j = 0 ∨ j = 1 by omega) with rfl | rfl
  · exact blk_cell hb 0
  · exact blk_cell hb 1

/-! ### the document's -/
end Go.Proofs.Ytnmkccdcgmajgaa

/-
  What comes of the sum and of numbers written: no two texts that part in up to four bytes standing together have one sum; what is written of a number is read again; what is cut off is short.
-/
namespace Go.Proofs.Ytnmkccdcgmajgaa

theorem crcStep_inj {a b : Nat} (ha : a < 4294967296) (hb : b < 4294967296) (h : crcStep a = crcStep b) : a = b := by
  have key : ∀ x y : Nat, x < 2147483648 → y < 2147483648 → x ^^^ 2197175160 ≠ y := by
    intro x y hx hy e
    have h1 : (x ^^^ 2197175160).testBit 31 = y.testBit 31 := by rw [e]
    rw [Nat.testBit_xor, Nat.testBit_lt_two_pow (x := x) (i := 31) (by omega), Nat.testBit_lt_two_pow (x := y) (i := 31) (by omega)] at h1
    exact absurd h1 (by decide)
  unfold crcStep at h
  split at h <;> split at h
  · have h2 : a / 2 = b / 2 := by
      have := congrArg (· ^^^ 2197175160) h
      simpa [Nat.xor_assoc] using this
    omega
  · exact absurd h (key _ _ (by omega) (by omega))
  · exact absurd h.symm (key _ _ (by omega) (by omega))
  · omega

theorem crcSteps_inj : ∀ (k : Nat) {a b : Nat}, a < 4294967296 → b < 4294967296 → crcSteps k a = crcSteps k b → a = b
  | 0, _, _, _, _, h => h
  | k + 1, _, _, ha, hb, h => crcStep_inj ha hb (crcSteps_inj k (crcStep_lt ha) (crcStep_lt hb) h)

theorem crcStep_high (x y k : Nat) : crcStep (x ^^^ y * 2 ^ (k + 1)) = crcStep x ^^^ y * 2 ^ k := by
  have e1 : y * 2 ^ (k + 1) = y * 2 ^ k * 2 := by rw [Nat.pow_succ, Nat.mul_assoc]
  have e2 : (x ^^^ y * 2 ^ (k + 1)) % 2 = x % 2 := by
    have := Nat.xor_mod_two_pow (a := x) (b := y * 2 ^ (k + 1)) (n := 1)
    rw [show (2 : Nat) ^ 1 = 2 from rfl] at this
    rw [this, e1, Nat.mul_mod_left, Nat.xor_zero]
  have e3 : (x ^^^ y * 2 ^ (k + 1)) / 2 = x / 2 ^^^ y * 2 ^ k := by
    rw [xor_half, e1, Nat.mul_div_cancel _ (by omega)]
  unfold crcStep
  rw [e2, e3]
  split
  · rw [Nat.xor_assoc, Nat.xor_assoc, Nat.xor_comm (y * 2 ^ k)]
  · rfl

theorem crcSteps_high : ∀ (k x y : Nat), crcSteps k (x ^^^ y * 2 ^ k) = crcSteps k x ^^^ y
  | 0, x, y => by simp [crcSteps]
  | k + 1, x, y => by
    show crcSteps k (crcStep (x ^^^ y * 2 ^ (k + 1))) = crcSteps k (crcStep x) ^^^ y
    rw [crcStep_high, crcSteps_high k]

theorem crcSteps_add : ∀ (j k x : Nat), crcSteps k (crcSteps j x) = crcSteps (j + k) x
  | 0, k, x => by rw [Nat.zero_add]; rfl
  | j + 1, k, x => by
    rw [Nat.succ_add]
    show crcSteps k (crcSteps j (crcStep x)) = crcSteps (j + k) (crcStep x)
    exact crcSteps_add j k _

/-- Bytes as one number, the first one lowest. -/
def word : List UInt8 → Nat
  | [] => 0
  | b :: l => b.toNat ^^^ word l * 2 ^ 8

theorem fold_word : ∀ (l : List UInt8) (c : Nat), l.foldl crcByte c = crcSteps (8 * l.length) (c ^^^ word l)
  | [], c => by simp [word, crcSteps]
  | b :: l, c => by
    rw [List.foldl_cons, fold_word l]
    unfold crcByte
    rw [← crcSteps_high, crcSteps_add, List.length_cons, show 8 + 8 * l.length = 8 * (l.length + 1) by omega, Nat.xor_assoc]
    rfl

theorem word_mod (b : UInt8) (l : List UInt8) : word (b :: l) % 256 = b.toNat := by
  have h := b.toNat_lt
  have := Nat.xor_mod_two_pow (a := b.toNat) (b := word l * 2 ^ 8) (n := 8)
  show (b.toNat ^^^ word l * 2 ^ 8) % 2 ^ 8 = _
  rw [this, Nat.mul_mod_left, Nat.xor_zero]
  omega
theorem word_div (b : UInt8) (l : List UInt8) : word (b :: l) / 256 = word l := by
  have h := b.toNat_lt
  have := Nat.shiftRight_xor_distrib (a := b.toNat) (b := word l * 2 ^ 8) (i := 8)
  rw [Nat.shiftRight_eq_div_pow, Nat.shiftRight_eq_div_pow, Nat.shiftRight_eq_div_pow] at this
  show (b.toNat ^^^ word l * 2 ^ 8) / 2 ^ 8 = _
  rw [this, Nat.mul_div_cancel _ (by omega), show b.toNat / 2 ^ 8 = 0 by omega, Nat.zero_xor]
theorem word_lt : ∀ (l : List UInt8), word l < 256 ^ l.length
  | [] => by simp [word]
  | b :: l => by
    have h1 := word_lt l
    have h2 := word_div b l
    rw [List.length_cons, Nat.pow_succ]
    exact (Nat.div_lt_iff_lt_mul (by omega)).mp (by rw [h2]; exact h1)
theorem word_inj : ∀ {a b : List UInt8}, a.length = b.length → word a = word b → a = b
  | [], [], _, _ => rfl
  | [], _ :: _, h, _ => by simp at h
  | _ :: _, [], h, _ => by simp at h
  | x :: a, y :: b, h, e => by
    have h1 : x.toNat = y.toNat := by rw [← word_mod x a, ← word_mod y b, e]
    have h2 : word a = word b := by rw [← word_div x a, ← word_div y b, e]
    rw [word_inj (by simpa using h) h2, UInt8.toNat.inj h1]

theorem fold_inj : ∀ (l : List UInt8) {a b : Nat}, a < 4294967296 → b < 4294967296 → l.foldl crcByte a = l.foldl crcByte b → a = b
  | [], _, _, _, _, h => h
  | x :: l, a, b, ha, hb, h => by
    have h1 : crcByte a x = crcByte b x := fold_inj l (crcByte_lt ha) (crcByte_lt hb) h
    have hx : x.toNat < 4294967296 := by have := x.toNat_lt; omega
    have h2 : a ^^^ x.toNat = b ^^^ x.toNat := crcSteps_inj 8 (xor_lt ha hx) (xor_lt hb hx) h1
    have := congrArg (· ^^^ x.toNat) h2
    simpa [Nat.xor_assoc] using this

/-- Texts that part in four bytes standing together have two sums. -/
theorem crc_parts {p m m' s : List UInt8} (hl : m.length = m'.length) (h4 : m.length ≤ 4) (h : crc (p ++ m ++ s) = crc (p ++ m' ++ s)) : m = m' := by
  have h1 : crcReg (p ++ m ++ s) = crcReg (p ++ m' ++ s) := by
    have a := crcReg_lt (p ++ m ++ s)
    have b := crcReg_lt (p ++ m' ++ s)
    unfold crc at h
    omega
  have hp := crcReg_lt p
  unfold crcReg at h1
  rw [List.foldl_append, List.foldl_append, List.foldl_append, List.foldl_append] at h1
  have h2 := fold_inj s (fold_lt m hp) (fold_lt m' hp) h1
  rw [fold_word m, fold_word m', hl] at h2
  have hb : ∀ n : List UInt8, n.length ≤ 4 → word n < 4294967296 := fun n hn => by
    have h3 := word_lt n
    have h4 : 256 ^ n.length ≤ 256 ^ 4 := Nat.pow_le_pow_right (by omega) hn
    omega
  have h3 := crcSteps_inj _ (xor_lt hp (hb m h4)) (xor_lt hp (hb m' (by omega))) h2
  have h5 := congrArg (crcReg p ^^^ ·) h3
  simp only [← Nat.xor_assoc, Nat.xor_self, Nat.zero_xor] at h5
  exact word_inj hl h5

/-- Texts that are alike but for the four bytes from one place on. -/
theorem crc_window {a b : List UInt8} {f : Nat} (hl : a.length = b.length) (hs : ∀ i, i < f ∨ f + 4 ≤ i → a[i]? = b[i]?) (hne : a ≠ b) : crc a ≠ crc b := by
  intro h
  have e1 : a.take f = b.take f := by
    apply List.ext_getElem?
    intro i
    by_cases hi : i < f
    · rw [List.getElem?_take_of_lt hi, List.getElem?_take_of_lt hi, hs i (.inl hi)]
    · rw [List.getElem?_eq_none (by simp; omega), List.getElem?_eq_none (by simp; omega)]
  have e2 : a.drop (f + 4) = b.drop (f + 4) := by
    apply List.ext_getElem?
    intro i
    rw [List.getElem?_drop, List.getElem?_drop, hs _ (.inr (by omega))]
  have d : ∀ l : List UInt8, l = l.take f ++ (l.drop f).take 4 ++ l.drop (f + 4) := fun l => by
    rw [List.append_assoc, ← List.drop_drop, List.take_append_drop, List.take_append_drop]
  have e3 : (a.drop f).take 4 = (b.drop f).take 4 := by
    refine crc_parts (p := a.take f) (s := a.drop (f + 4)) (by simp [hl]) (by simp; omega) ?_
    rw [← d a, e1, e2, ← d b]
    exact h
  exact hne (by rw [d a, d b, e1, e2, e3])

/-! ### what is written is read -/

theorem numGo_enc : ∀ (n k x : Nat) (t : List UInt8), x + n * 2 ^ (7 * k) ≤ maxNum → (n ≠ 0 ∨ k = 0) → numGo k x (enc n ++ t) = .ok (x + n * 2 ^ (7 * k), t) := by
  intro n
  induction n using Nat.strongRecOn with
  | ind n ih =>
  intro k x t hm hz
  have hk : k ≤ 5 := by
    rcases hz with hz | hz
    · by_cases hk : k ≤ 5
      · exact hk
      · have h1 : 2 ^ (7 * 6) ≤ 2 ^ (7 * k) := Nat.pow_le_pow_right (by omega) (by omega)
        have h2 : 1 * 2 ^ (7 * k) ≤ n * 2 ^ (7 * k) := Nat.mul_le_mul_right _ (by omega)
        unfold maxNum at hm
        omega
    · omega
  by_cases h : n < 128
  · obtain ⟨d, e, hd⟩ := enc_small_byte h
    rw [e]
    show numGo k x (d :: t) = _
    have hmod : d.toNat % 128 = n := by omega
    rw [numGo_end (by rw [hmod, hd]; exact ⟨hk, hm, hz⟩) (by omega), hmod]
  · obtain ⟨d, e, hd⟩ := enc_big_byte h
    rw [e]
    show numGo k x (d :: (enc (n / 128) ++ t)) = _
    have hmod : d.toNat % 128 = n % 128 := by omega
    have hs : x + n % 128 * 2 ^ (7 * k) + n / 128 * 2 ^ (7 * (k + 1)) = x + n * 2 ^ (7 * k) := by
      have h1 : 2 ^ (7 * (k + 1)) = 128 * 2 ^ (7 * k) := by rw [Nat.mul_add, Nat.pow_add]; omega
      rw [h1, ← Nat.mul_assoc, Nat.add_assoc, ← Nat.add_mul]
      congr 2
      omega
    rw [numGo_more (by rw [hmod]; exact ⟨hk, by omega, .inl (by omega)⟩) (by omega), hmod, ih (n / 128) (by omega) (k + 1) _ t (by omega) (.inl (by omega)), hs]

theorem rdNum_enc {n : Nat} (h : n ≤ maxNum) (t : List UInt8) : rdNum (enc n ++ t) = .ok (n, t) := by
  have := numGo_enc n 0 0 t (by simpa using h) (.inr rfl)
  unfold rdNum
  simpa using this

theorem numGo_cut : ∀ (n k x j : Nat), x + n * 2 ^ (7 * k) ≤ maxNum → (n ≠ 0 ∨ k = 0) → j < (enc n).length → numGo k x ((enc n).take j) = .error 3 := by
  intro n
  induction n using Nat.strongRecOn with
  | ind n ih =>
  intro k x j hm hz hj
  have hk : k ≤ 5 := by
    rcases hz with hz | hz
    · by_cases hk : k ≤ 5
      · exact hk
      · have h1 : 2 ^ (7 * 6) ≤ 2 ^ (7 * k) := Nat.pow_le_pow_right (by omega) (by omega)
        have h2 : 1 * 2 ^ (7 * k) ≤ n * 2 ^ (7 * k) := Nat.mul_le_mul_right _ (by omega)
        unfold maxNum at hm
        omega
    · omega
  by_cases h : n < 128
  · obtain ⟨d, e, hd⟩ := enc_small_byte h
    rw [e] at hj ⊢
    obtain rfl : j = 0 := by simpa using hj
    rfl
  · obtain ⟨d, e, hd⟩ := enc_big_byte h
    rw [e] at hj ⊢
    cases j with
    | zero => rfl
    | succ j =>
      rw [List.take_succ_cons]
      have hmod : d.toNat % 128 = n % 128 := by omega
      have hs : x + n % 128 * 2 ^ (7 * k) + n / 128 * 2 ^ (7 * (k + 1)) = x + n * 2 ^ (7 * k) := by
        have h1 : 2 ^ (7 * (k + 1)) = 128 * 2 ^ (7 * k) := by rw [Nat.mul_add, Nat.pow_add]; omega
        rw [h1, ← Nat.mul_assoc, Nat.add_assoc, ← Nat.add_mul]
        congr 2
        omega
      rw [numGo_more (by rw [hmod]; exact ⟨hk, by omega, .inl (by omega)⟩) (by omega), hmod]
      exact ih (n / 128) (by omega) (k + 1) _ j (by omega) (.inl (by omega)) (by simpa using hj)

theorem rdUpTo_enc {n most : Nat} (h : n ≤ maxNum) (hm : n ≤ most) (t : List UInt8) : rdUpTo most (enc n ++ t) = .ok (n, t) := by
  unfold rdUpTo
  rw [rdNum_enc h]
  exact if_pos hm
theorem rdText_enc {s : List UInt8} {most : Nat} (h : s.length ≤ maxNum) (hm : s.length ≤ most) (t : List UInt8) : rdText most (encText s ++ t) = .ok (s, t) := by
  unfold rdText encText
  rw [List.append_assoc, rdUpTo_enc h hm]
  show rdTake s.length (s ++ t) = _
  unfold rdTake
  rw [if_pos (by simp)]
  simp

/-- A frame, whatever its sum: read by its length. -/
theorem unF_frame {s q t : List UInt8} (hs : s.length ≤ 65536) (hq : q.length = 4) : unF (encText s ++ q ++ t) = if q = le4 (crc s) then (s, t, 0) else ([], [], 2) := by
  have h1 : rdText 65536 (encText s ++ q ++ t) = .ok (s, q ++ t) := by rw [List.append_assoc]; exact rdText_enc (by unfold maxNum; omega) hs _
  have h4 : 4 ≤ (q ++ t).length := by simp; omega
  have hq4 : (q ++ t).take 4 = q := by rw [← hq, List.take_left]
  by_cases he : q = le4 (crc s)
  · rw [if_pos he, unF_yes h1 h4 (by rw [hq4]; exact he), ← hq, List.drop_left]
  · rw [if_neg he, unF_sum h1 h4 (by rw [hq4]; exact he)]

theorem le4_inj {a b : Nat} (ha : a < 4294967296) (hb : b < 4294967296) (h : le4 a = le4 b) : a = b := by
  unfold le4 at h
  simp only [List.cons.injEq, and_true] at h
  obtain ⟨h0, h1, h2, h3⟩ := h
  have e : ∀ x y : Nat, x < 256 → y < 256 → UInt8.ofNat x = UInt8.ofNat y → x = y := fun x y hx hy h => by
    have := congrArg UInt8.toNat h
    rwa [ofNat_toNat hx, ofNat_toNat hy] at this
  have := e _ _ (by omega) (by omega) h0
  have := e _ _ (by omega) (by omega) h1
  have := e _ _ (by omega) (by omega) h2
  have := e _ _ (by omega) (by omega) h3
  omega

theorem unF_whole {s : List UInt8} (hs : s.length ≤ 65536) (t : List UInt8) : unF (encFrame s ++ t) = (s, t, 0) := by
  unfold encFrame
  rw [unF_frame hs rfl, if_pos rfl]
theorem unF_turned {s s' : List UInt8} (hs : s.length ≤ 65536) (hl : s'.length = s.length) (hc : crc s' ≠ crc s) (t : List UInt8) : unF (encText s' ++ le4 (crc s) ++ t) = ([], [], 2) := by
  rw [unF_frame (by omega) rfl, if_neg]
  intro h
  exact hc (le4_inj (crc_lt _) (crc_lt _) h).symm

theorem encFrame_len (s : List UInt8) : (encFrame s).length = (enc s.length).length + s.length + 4 := by
  simp only [encFrame, encText, le4, List.length_append, List.length_cons, List.length_nil]

/-- What is cut off a frame is short. -/
theorem unF_cut {s : List UInt8} (hs : s.length ≤ 65536) {j : Nat} (hj : j < (encFrame s).length) : unF ((encFrame s).take j) = ([], [], 3) := by
  have hm : s.length ≤ maxNum := by unfold maxNum; omega
  rw [encFrame_len] at hj
  by_cases h1 : j < (enc s.length).length
  · refine unF_err ?_
    unfold encFrame encText
    rw [List.append_assoc, List.take_append_of_le_length (by omega)]
    have := numGo_cut s.length 0 0 j (by simpa using hm) (.inr rfl) h1
    unfold rdText rdUpTo rdNum
    rw [this]
  · have e1 : (encFrame s).take j = enc s.length ++ (s ++ le4 (crc s)).take (j - (enc s.length).length) := by
      unfold encFrame encText
      rw [List.append_assoc, List.take_append, List.take_of_length_le (by omega)]
    rw [e1]
    generalize hd : j - (enc s.length).length = d
    by_cases h2 : d < s.length
    · refine unF_err ?_
      unfold rdText
      rw [rdUpTo_enc hm hs]
      show rdTake s.length _ = _
      unfold rdTake
      rw [if_neg (by simp; omega)]
    · have e2 : (s ++ le4 (crc s)).take d = s ++ (le4 (crc s)).take (d - s.length) := by
        rw [List.take_append, List.take_of_length_le (by omega)]
      rw [e2, ← List.append_assoc]
      refine unF_no (body := s) (t := (le4 (crc s)).take (d - s.length)) (rdText_enc hm hs _) ?_
      simp [le4]
      omega

/-! ### the turned bytes -/
theorem turned_step {a b : List UInt8} {i : Nat} {m : UInt8} (hi : i < a.length) (hs : b[i]? = a[i]?) : (b.set i (a[i] ^^^ m) = b ↔ m = 0) := by
  have hib : i < b.length := by
    by_cases h : i < b.length
    · exact h
    · rw [List.getElem?_eq_none (by omega), List.getElem?_eq_getElem hi] at hs; cases hs
  have hv : b[i] = a[i] := by
    rw [List.getElem?_eq_getElem hib, List.getElem?_eq_getElem hi] at hs
    simpa using hs
  constructor
  · intro h
    have h2 : (b.set i (a[i] ^^^ m))[i]? = b[i]? := by rw [h]
    rw [List.getElem?_set_self hib, List.getElem?_eq_getElem hib, hv] at h2
    have h3 : a[i] ^^^ m = a[i] := by simpa using h2
    have h4 := congrArg (a[i] ^^^ ·) h3
    simpa [← UInt8.xor_assoc] using h4
  · rintro rfl
    rw [UInt8.xor_zero, ← hv]
    exact List.set_getElem_self hib

end Go.Proofs.Ytnmkccdcgmajgaa

/-
  Rows of numbers: what is read so many times, by the program (times) and by the document's reader; numbers written one behind the other; two rows held against each other.
-/
namespace Go.Proofs.Ytnmkccdcgmajgaa
open Go.RowKit

/-! ### a row of its own, and what calls leave of it -/
theorem own_kept {X : Nat → Obj → Prop} {w w' : World} {B : Nat} {e : TypeId} {size : Nat} {v : Value} {n : Nat} {xs : List Value} (h : w.ownsRow B e size v n xs) (hk : Kept X w w')
    (hX : ∀ k cs, B ≤ k → ¬ X k (.cells cs e (0, 0))) : w'.ownsRow B e size v n xs := by
  refine ⟨h.1, h.2.imp id ?_⟩
  rintro ⟨g, cap, cur, h1, h2, h3, h4⟩
  exact ⟨g, cap, cur, h1, h2, hk.block _ _ h3 (hX _ _ h2), h4⟩
theorem Kept.grown {X : Nat → Obj → Prop} {a w w' : World} {row : Option Nat} (h : Kept X a w) (hg : w.grownBy w' row) (hrow : ∀ k, row = some k → a.heap.size ≤ k) : Kept X a w' :=
  ⟨hg.os.trans h.os, hg.tape.trans h.tape, hg.output.trans h.output, Nat.le_trans h.size hg.size, fun k o ho hx => by
    have hk := lt_of_block ho
    rw [hg.block k (by have := h.size; omega) (fun e => by have := hrow k e.symm; omega)]
    exact h.block k o ho hx⟩
theorem own_row {w : World} {B : Nat} {e : TypeId} {size : Nat} {v : Value} {n : Nat} {xs : List Value} (h : w.ownsRow B e size v n xs) : ∀ k, v.ownBlock = some k → B ≤ k := fun k hk => (h.lt k hk).1

/-! ### so many of a kind -/
def rdTimes {α : Type} (rd : List UInt8 → Except Int (α × List UInt8)) : Nat → List UInt8 → Except Int (List α × List UInt8)
  | 0, l => .ok ([], l)
  | n + 1, l =>
    match rd l with
    | .error c => .error c
    | .ok (a, t) =>
      match rdTimes rd n t with
      | .error c => .error c
      | .ok (xs, u) => .ok (a :: xs, u)
/-- With these ahead. -/
def preT {α : Type} (xs : List α) : Except Int (List α × List UInt8) → Except Int (List α × List UInt8)
  | .ok (bs, u) => .ok (xs ++ bs, u)
  | .error c => .error c
theorem preT_nil {α : Type} (r : Except Int (List α × List UInt8)) : preT [] r = r := by
  cases r with
  | error c => rfl
  | ok x => rfl
theorem rdTimes_no {α : Type} {rd : List UInt8 → Except Int (α × List UInt8)} {xs : List α} {m : Nat} {t : List UInt8} {c : Int} (h : rd t = .error c) : preT xs (rdTimes rd (m + 1) t) = .error c := by
  simp [rdTimes, h, preT]
theorem rdTimes_more {α : Type} {rd : List UInt8 → Except Int (α × List UInt8)} {xs : List α} {m : Nat} {t u : List UInt8} {a : α} (h : rd t = .ok (a, u)) : preT xs (rdTimes rd (m + 1) t) = preT (xs ++ [a]) (rdTimes rd m u) := by
  simp only [rdTimes, h]
  cases rdTimes rd m u with
  | error c => rfl
  | ok x => simp [preT]
theorem rdTimes_len {α : Type} {rd : List UInt8 → Except Int (α × List UInt8)} : ∀ {n : Nat} {l t : List UInt8} {xs : List α}, rdTimes rd n l = .ok (xs, t) → xs.length = n
  | 0, l, t, xs, h => by
    simp only [rdTimes, Except.ok.injEq, Prod.mk.injEq] at h
    rw [← h.1]; rfl
  | n + 1, l, t, xs, h => by
    unfold rdTimes at h
    split at h
    · cases h
    · split at h
      · cases h
      · rename_i hr
        simp only [Except.ok.injEq, Prod.mk.injEq] at h
        rw [← h.1, List.length_cons, rdTimes_len hr]

/-! ### rows of ints -/
def natCells (ns : List Nat) : List Value := ns.map fun (n : Nat) => Value.int .i64 n
theorem natCells_snoc (ns : List Nat) (n : Nat) : natCells (ns ++ [n]) = natCells ns ++ [.int .i64 n] := by simp [natCells]
def OwnNats (B : Nat) (w : World) (ao : Option Addr) (c : Nat) (ns : List Nat) : Prop := w.ownsRow B 3 1 (.slice ao ns.length c) ns.length (natCells ns)
def NatsV (B : Nat) : List Nat → World → Value → Prop := fun ns w v => ∃ ao c, v = .slice ao ns.length c ∧ OwnNats B w ao c ns

theorem Try.infoInt : (Try.prog.info? 3).map (fun i => (i.zero, i.size, i.bytes)) = some (some (.int .i64 0), 1, 8) := by kernel_rfl

theorem src_int {w : World} (z : Int) : Src Try.prog 1 22 (.slice (some ⟨w.heap.size, 0, none⟩) 1 1) 1 [.int .i64 z] (w.alloc (.cells #[.int .i64 z] 3)) := by
  refine Src.ofSlice _ Try.underlying22 _ 1 1 _ rfl ?_ ?_
  · intro j u hj
    match j, hj with
    | 0, hj =>
      simp at hj
      subst hj
      simp [Addr.add]
  · intro u hu
    simp at hu
    subst hu
    rfl

theorem OwnNats.push {B : Nat} {w' : World} {ao : Option Addr} {c : Nat} {ns : List Nat} {n : Nat} (h : w'.ownsRow B 3 1 (.slice ao (ns.length + 1) c) (ns.length + 1) (natCells ns ++ [.int .i64 n])) : OwnNats B w' ao c (ns ++ [n]) := by
  unfold OwnNats
  rw [natCells_snoc, List.length_append]
  exact h

end Go.Proofs.Ytnmkccdcgmajgaa

/-
  Keys: a row of texts, rising, none too long: by the program (areKeys).
-/
namespace Go.Proofs.Ytnmkccdcgmajgaa
open Go.RowKit

/-- A row of texts that lies below block B. -/
def StrRow (B : Nat) (w : World) (ao : Option Addr) (ks : List (List UInt8)) : Prop := ∀ j, (hj : j < ks.length) → ∃ a, ao = some a ∧ a.block < B ∧ w.cell? (a.add j) = some (.string (bs ks[j])) ∧ ks[j].length ≤ maxLen
theorem StrRow.kept {X : Nat → Obj → Prop} {B : Nat} {w w' : World} {ao : Option Addr} {ks : List (List UInt8)} (h : StrRow B w ao ks) (hk : Kept X w w') (hX : ∀ k o, k < B → ¬ X k o) : StrRow B w' ao ks := by
  intro j hj
  obtain ⟨a, ha, hb, hc, hl⟩ := h j hj
  refine ⟨a, ha, hb, ?_, hl⟩
  have e : (a.add j).block = a.block := by unfold Addr.add; split <;> rfl
  have hlt : a.block < w.heap.size := by
    have : (a.add j).block < w.heap.size := World.block_lt_of_cell? w _ hc
    omega
  rw [World.cell?_of_block (w := w) (by rw [e, hk.block a.block _ (Array.getElem?_eq_getElem hlt) (hX _ _ hb), Array.getElem?_eq_getElem hlt])]
  exact hc
theorem StrRow.nil {B : Nat} {w w' : World} {ao : Option Addr} {ks : List (List UInt8)} (h : StrRow B w ao ks) (hk : Kept Nil w w') : StrRow B w' ao ks := h.kept hk (fun _ _ _ x => x)
theorem StrRow.alloc {B : Nat} {w : World} {ao : Option Addr} {ks : List (List UInt8)} (h : StrRow B w ao ks) (o : Obj) : StrRow B (w.alloc o) ao ks := h.nil ((Kept.refl _ _).alloc o)

/-- Is one text ahead of another? -/
def lessB (x y : List UInt8) : Bool := Op.bytesLess x y
/-- Rising, none longer than 16 (the first one may be anything). -/
def kRise : Option (List UInt8) → List (List UInt8) → Bool
  | _, [] => true
  | p, k :: t => decide (k.length ≤ 16) && (match p with | none => true | some q => lessB q k) && kRise (some k) t
def kpv (ks : List (List UInt8)) (k : Nat) : Option (List UInt8) := if k = 0 then none else ks[k - 1]?
theorem kRise_at {ks : List (List UInt8)} {k : Nat} (h : k < ks.length) : kRise (kpv ks k) (ks.drop k) = (decide (ks[k].length ≤ 16) && (match kpv ks k with | none => true | some q => lessB q ks[k]) && kRise (kpv ks (k + 1)) (ks.drop (k + 1))) := by
  have e : kpv ks (k + 1) = some ks[k] := by simp [kpv, h]
  rw [List.drop_eq_getElem_cons h, e]
  rfl
theorem kRise_end {ks : List (List UInt8)} {k : Nat} (h : ¬ k < ks.length) : kRise (kpv ks k) (ks.drop k) = true := by
  rw [List.drop_of_length_le (by omega)]
  unfold kRise
  cases kpv ks k <;> rfl
def keysOk (ks : List (List UInt8)) : Bool := decide (ks.length ≤ 32) && kRise none ks

set_option maxRecDepth 100000 in
set_option maxHeartbeats 2000000 in
theorem areKeys_any (B cap : Nat) (ao : Option Addr) (ks : List (List UInt8)) (w : World) (h : StrRow B w ao ks) (hl : (ks.length : Int) ≤ 9223372036854775807) :
    Calls Try.prog 159 #[.slice ao ks.length cap] w fun e w' => e = .returned (.bool (keysOk ks)) ∧ Kept Nil w w' := by
  have HR : Hid (StrRow B w ao ks) := h
  have ht := bs_toList
  have hsz := bs_size
  clear h
  by_cases h32 : ks.length ≤ 32
  · have HO : Hid (keysOk ks = kRise none ks) := by show keysOk ks = _; unfold keysOk; rw [decide_eq_true h32]; rfl
    have h32' : (ks.length : Int) ≤ 32 := by omega
    rw [HO.out]
    clear h32 HO
    go_enter Try.func159, Try.ntmps159
    go_wp2
    go_loopw [10] (fun i wr => ∃ k : Nat, k ≤ ks.length ∧ i = .int .i64 k ∧ Hid (kRise none ks = kRise (kpv ks k) (ks.drop k)) ∧ Hid (Kept Nil w wr)) (fun i _ => ks.length - (intOf i).toNat)
    case atStart => exact ⟨0, Nat.zero_le _, rfl, rfl, Kept.refl _ _⟩
    case round =>
      obtain ⟨k, hk, rfl, HI, HK⟩ := hrel
      by_cases hlt : k < ks.length
      · obtain ⟨a, rfl, _, hcell, hmax⟩ := (HR.out.nil HK.out) k hlt
        have HA : Hid (kRise none ks = (decide (ks[k].length ≤ 16) && (match kpv ks k with | none => true | some q => lessB q ks[k]) && kRise (kpv ks (k + 1)) (ks.drop (k + 1)))) := HI.out.trans (kRise_at hlt)
        have hmax' : (ks[k].length : Int) ≤ 9223372036854775807 := by unfold maxLen at hmax; omega
        clear hmax HI
        by_cases h16 : ks[k].length ≤ 16
        · by_cases k0 : k = 0
          · have hk0 : (k : Int) ≤ 0 := by omega
            have hpv : kpv ks k = none := by simp [kpv, k0]
            have HF : Hid (kRise none ks = kRise (kpv ks (k + 1)) (ks.drop (k + 1))) := by show kRise none ks = _; rw [HA.out, hpv, decide_eq_true h16]; rfl
            have h16' : (ks[k].length : Int) ≤ 16 := by omega
            generalize ks[k] = x at *
            clear HA h16 k0 hpv
            go_wp2
            go_roundw
            case rel => exact ⟨k + 1, by omega, by go_num, HF, HK.out⟩
            case measure => simp [intOf]; omega
          · obtain ⟨a', ha', _, hprev, _⟩ := (HR.out.nil HK.out) (k - 1) (by omega)
            simp only [Option.some.injEq] at ha'
            subst ha'
            have hpv : kpv ks k = some ks[k - 1] := by simp [kpv, k0, show k - 1 < ks.length by omega]
            rw [hpv] at HA
            simp only at HA
            have hkp : 0 < k := by omega
            have h16' : (ks[k].length : Int) ≤ 16 := by omega
            cases hls : lessB ks[k - 1] ks[k] with
            | true =>
              have HF : Hid (kRise none ks = kRise (kpv ks (k + 1)) (ks.drop (k + 1))) := by show kRise none ks = _; rw [HA.out, hls, decide_eq_true h16]; rfl
              have hls' : Op.bytesLess ks[k - 1] ks[k] = true := hls
              generalize ks[k] = x at *
              generalize ks[k - 1] = y at *
              clear HA h16 k0 hpv hls
              go_wp2
              go_roundw
              case rel => exact ⟨k + 1, by omega, by go_num, HF, HK.out⟩
              case measure => simp [intOf]; omega
            | false =>
              have HF : Hid (kRise none ks = false) := by show kRise none ks = _; rw [HA.out, hls]; simp
              have hls' : Op.bytesLess ks[k - 1] ks[k] = false := hls
              generalize ks[k] = x at *
              generalize ks[k - 1] = y at *
              clear HA h16 k0 hpv hls
              go_wp2
              go_ret
              rw [HF.out]
              exact ⟨rfl, HK.out⟩
        · have HF : Hid (kRise none ks = false) := by show kRise none ks = _; rw [HA.out, decide_eq_false h16]; rfl
          have h16' : ¬ (ks[k].length : Int) ≤ 16 := by omega
          generalize ks[k] = x at *
          clear HA h16
          go_wp2
          go_ret
          rw [HF.out]
          exact ⟨rfl, HK.out⟩
      · have HF : Hid (kRise none ks = true) := HI.out.trans (kRise_end hlt)
        go_wp2
        go_ret
        rw [HF.out]
        exact ⟨rfl, HK.out⟩
  · have HO : Hid (keysOk ks = false) := by show keysOk ks = _; unfold keysOk; rw [decide_eq_false h32]; rfl
    have h32' : ¬ (ks.length : Int) ≤ 32 := by omega
    rw [HO.out]
    clear h32 HO
    go_enter Try.func159, Try.ntmps159
    go_wp2
    go_ret
    exact ⟨rfl, Kept.refl _ _⟩

end Go.Proofs.Ytnmkccdcgmajgaa

/-
  Pairs: rows of three cells; may they be: by the program.
-/
namespace Go.Proofs.Ytnmkccdcgmajgaa
open Go.RowKit

structure Pr where
  k : List UInt8
  v : List UInt8
  n : Int
/-- A row of pairs that lies below block B. -/
def PairRow (B : Nat) (w : World) (ao : Option Addr) (ps : List Pr) : Prop := ∀ j, (hj : j < ps.length) → ∃ a, ao = some a ∧ a.block < B ∧ w.cell? (a.add (j * 3)) = some (.string (bs ps[j].k)) ∧ w.cell? ⟨(a.add (j * 3)).block, (a.add (j * 3)).off + 1, none⟩ = some (.string (bs ps[j].v)) ∧ w.cell? ⟨(a.add (j * 3)).block, (a.add (j * 3)).off + 2, none⟩ = some (.int .i64 ps[j].n) ∧ ps[j].k.length ≤ maxLen ∧ ps[j].v.length ≤ maxLen
theorem cell_kept {X : Nat → Obj → Prop} {w w' : World} {a : Addr} {v : Value} (hk : Kept X w w') (hX : ∀ o, ¬ X a.block o) (h : w.cell? a = some v) : w'.cell? a = some v := by
  have hlt : a.block < w.heap.size := World.block_lt_of_cell? w _ h
  rw [World.cell?_of_block (w := w) (by rw [hk.block a.block _ (Array.getElem?_eq_getElem hlt) (hX _), Array.getElem?_eq_getElem hlt])]
  exact h
theorem add_block (a : Addr) (n : Nat) : (a.add n).block = a.block := by unfold Addr.add; split <;> rfl
theorem PairRow.kept {X : Nat → Obj → Prop} {B : Nat} {w w' : World} {ao : Option Addr} {ps : List Pr} (h : PairRow B w ao ps) (hk : Kept X w w') (hX : ∀ k o, k < B → ¬ X k o) : PairRow B w' ao ps := by
  intro j hj
  obtain ⟨a, ha, hb, c1, c2, c3, l1, l2⟩ := h j hj
  refine ⟨a, ha, hb, cell_kept hk (fun o => ?_) c1, cell_kept hk (fun o => ?_) c2, cell_kept hk (fun o => ?_) c3, l1, l2⟩ <;> exact hX _ _ (by simpa [add_block] using hb)
theorem PairRow.nil {B : Nat} {w w' : World} {ao : Option Addr} {ps : List Pr} (h : PairRow B w ao ps) (hk : Kept Nil w w') : PairRow B w' ao ps := h.kept hk (fun _ _ _ x => x)
theorem PairRow.alloc {B : Nat} {w : World} {ao : Option Addr} {ps : List Pr} (h : PairRow B w ao ps) (o : Obj) : PairRow B (w.alloc o) ao ps := h.nil ((Kept.refl _ _).alloc o)
theorem pairRow_nil (B : Nat) (w : World) (ao : Option Addr) : PairRow B w ao [] := fun j hj => by simp at hj

def prOk (x : Pr) : Bool := !x.k.isEmpty && decide (x.k.length ≤ 16) && decide (x.v.length ≤ 64) && isCnt x.n
def pRise : Option (List UInt8) → List Pr → Bool
  | _, [] => true
  | p, x :: t => prOk x && (match p with | none => true | some q => lessB q x.k) && pRise (some x.k) t
def ppv (ps : List Pr) (k : Nat) : Option (List UInt8) := if k = 0 then none else (ps[k - 1]?).map Pr.k
theorem pRise_at {ps : List Pr} {k : Nat} (h : k < ps.length) : pRise (ppv ps k) (ps.drop k) = (prOk ps[k] && (match ppv ps k with | none => true | some q => lessB q ps[k].k) && pRise (ppv ps (k + 1)) (ps.drop (k + 1))) := by
  have e : ppv ps (k + 1) = some ps[k].k := by simp [ppv, h]
  rw [List.drop_eq_getElem_cons h, e]
  rfl
theorem pRise_end {ps : List Pr} {k : Nat} (h : ¬ k < ps.length) : pRise (ppv ps k) (ps.drop k) = true := by
  rw [List.drop_of_length_le (by omega)]
  unfold pRise
  cases ppv ps k <;> rfl
def pairsOk (ps : List Pr) : Bool := decide (ps.length ≤ 32) && pRise none ps
theorem ints1k (w : World) (o : Obj) (x : Int) (b : Nat) (hb : b = w.heap.size + 1) : IntsAt ((w.alloc o).alloc (.cells #[.int .i64 x] 3)) b [x] := by
  subst hb
  intro j hj
  have : j = 0 := by simpa using hj
  subst this
  have hsz : (w.alloc o).heap.size = w.heap.size + 1 := by simp
  rw [← hsz]
  exact blk_at (blk_new (w.alloc o) (.cells #[.int .i64 x] 3)) 0 rfl

set_option maxRecDepth 100000 in
set_option maxHeartbeats 4000000 in
theorem isPairs_any (B cap : Nat) (ao : Option Addr) (ps : List Pr) (w : World) (h : PairRow B w ao ps) (hl : (ps.length : Int) ≤ 9223372036854775807) :
    Calls Try.prog 107 #[.slice ao ps.length cap] w fun e w' => e = .returned (.bool (pairsOk ps)) ∧ Kept Nil w w' := by
  have HR : Hid (PairRow B w ao ps) := h
  have ht := bs_toList
  have hsz := bs_size
  clear h
  by_cases h32 : ps.length ≤ 32
  · have HO : Hid (pairsOk ps = pRise none ps) := by show pairsOk ps = _; unfold pairsOk; rw [decide_eq_true h32]; rfl
    have h32' : (ps.length : Int) ≤ 32 := by omega
    rw [HO.out]
    clear h32 HO
    go_enter Try.func107, Try.ntmps107
    go_wp2
    go_loopw [10] (fun i wr => ∃ k : Nat, k ≤ ps.length ∧ i = .int .i64 k ∧ Hid (pRise none ps = pRise (ppv ps k) (ps.drop k)) ∧ Hid (Kept Nil w wr)) (fun i _ => ps.length - (intOf i).toNat)
    case atStart => exact ⟨0, Nat.zero_le _, rfl, rfl, Kept.refl _ _⟩
    case round =>
      obtain ⟨k, hk, rfl, HI, HK⟩ := hrel
      by_cases hlt : k < ps.length
      · obtain ⟨a, rfl, _, hc0, hc1, hc2, hm1, hm2⟩ := (HR.out.nil HK.out) k hlt
        have HA : Hid (pRise none ps = (prOk ps[k] && (match ppv ps k with | none => true | some q => lessB q ps[k].k) && pRise (ppv ps (k + 1)) (ps.drop (k + 1)))) := HI.out.trans (pRise_at hlt)
        have hm1' : (ps[k].k.length : Int) ≤ 9223372036854775807 := by unfold maxLen at hm1; omega
        have hm2' : (ps[k].v.length : Int) ≤ 9223372036854775807 := by unfold maxLen at hm2; omega
        have HN := areCounts_any (wr.heap.size + 1) 1 [ps[k].n] _ (ints1k wr (.cells #[.string (bs ps[k].k), .string (bs ps[k].v), .int .i64 ps[k].n] 61) ps[k].n _ rfl) (by simp)
        have ef : fromTo 1 [ps[k].n] = isCnt ps[k].n := by simp [fromTo, isCnt]
        rw [ef] at HN
        have HKK : Hid (Kept Nil w (wr.alloc (.cells #[.string (bs ps[k].k), .string (bs ps[k].v), .int .i64 ps[k].n] 61))) := HK.out.alloc _
        clear hm1 hm2 HI ef
        by_cases e0 : ps[k].k = []
        · have HF : Hid (pRise none ps = false) := by show pRise none ps = _; rw [HA.out]; unfold prOk; rw [e0]; rfl
          rw [e0] at hc0
          generalize ps[k].v = val at *
          generalize ps[k].n = ver at *
          clear HA HN
          go_wp2
          go_ret
          rw [HF.out]
          exact ⟨rfl, HK.out.alloc _⟩
        · have e1 : ps[k].k.isEmpty = false := by simpa using e0
          by_cases h16 : ps[k].k.length ≤ 16
          · have h16' : (ps[k].k.length : Int) ≤ 16 := by omega
            by_cases h64 : ps[k].v.length ≤ 64
            · have h64' : (ps[k].v.length : Int) ≤ 64 := by omega
              cases hn : isCnt ps[k].n with
              | false =>
                have HF : Hid (pRise none ps = false) := by show pRise none ps = _; rw [HA.out]; unfold prOk; rw [hn]; simp
                rw [hn] at HN
                generalize ps[k].k = key at *
                generalize ps[k].v = val at *
                generalize ps[k].n = ver at *
                clear HA e0 h16 h64 hn
                go_wp2_with fail
                refine HN.mono ?_
                rintro e w1 ⟨rfl, rfl⟩
                go_wp2
                go_ret
                rw [HF.out]
                exact ⟨rfl, HKK.out.alloc _⟩
              | true =>
                have hbox : (((wr.alloc (.cells #[.string (bs ps[k].k), .string (bs ps[k].v), .int .i64 ps[k].n] 61))).alloc (.cells #[.int .i64 ps[k].n] 3)).cell? ⟨wr.heap.size, 0, none⟩ = some (.string (bs ps[k].k)) := blk_at (blk_past (blk_new wr _) _) 0 rfl
                have hok : prOk ps[k] = true := by unfold prOk; rw [e1, hn, decide_eq_true h16, decide_eq_true h64]; rfl
                rw [hn] at HN
                by_cases k0 : k = 0
                · have b3 : decide (0 < k) = false := decide_eq_false (by omega)
                  have hpv : ppv ps k = none := by simp [ppv, k0]
                  have HF : Hid (pRise none ps = pRise (ppv ps (k + 1)) (ps.drop (k + 1))) := by show pRise none ps = _; rw [HA.out, hpv, hok]; rfl
                  generalize ps[k].k = key at *
                  generalize ps[k].v = val at *
                  generalize ps[k].n = ver at *
                  clear HA e0 h16 h64 hn hok k0 hpv
                  go_wp2_with fail
                  refine HN.mono ?_
                  rintro e w1 ⟨rfl, rfl⟩
                  go_wp2
                  go_quiet (fail)
                  go_wp2
                  go_roundw
                  case rel => exact ⟨k + 1, by omega, by go_num, HF, (HKK.out.alloc _).drewN _⟩
                  case measure => simp [intOf]; omega
                · obtain ⟨a', ha', _, hprev, _⟩ := (HR.out.nil (HKK.out.alloc (.cells #[.int .i64 ps[k].n] 3))) (k - 1) (by omega)
                  simp only [Option.some.injEq] at ha'
                  subst ha'
                  have hpv : ppv ps k = some ps[k - 1].k := by simp [ppv, k0, show k - 1 < ps.length by omega]
                  rw [hpv] at HA
                  simp only at HA
                  have hkp : (0 : Int) < (k : Int) := by omega
                  have hki : (k : Int) < ps.length := by omega
                  have b3 : decide (0 < k) = true := decide_eq_true (by omega)
                  have hprev2 : (((wr.alloc (.cells #[.string (bs ps[k].k), .string (bs ps[k].v), .int .i64 ps[k].n] 61))).alloc (.cells #[.int .i64 ps[k].n] 3)).cell? (a.add (((k : Int) - 1).toNat * 3)) = some (.string (bs ps[k - 1].k)) := by rw [show ((k : Int) - 1).toNat = k - 1 by omega]; exact hprev
                  cases hls : lessB ps[k - 1].k ps[k].k with
                  | true =>
                    have HF : Hid (pRise none ps = pRise (ppv ps (k + 1)) (ps.drop (k + 1))) := by show pRise none ps = _; rw [HA.out, hls, hok]; rfl
                    have hls' : Op.bytesLess ps[k - 1].k ps[k].k = true := hls
                    generalize ps[k].k = key at *
                    generalize ps[k].v = val at *
                    generalize ps[k].n = ver at *
                    generalize ps[k - 1].k = y at *
                    clear HA e0 h16 h64 hn hok k0 hpv hls
                    go_wp2_with fail
                    refine HN.mono ?_
                    rintro e w1 ⟨rfl, rfl⟩
                    go_wp2
                    go_quiet (fail)
                    go_wp2
                    go_roundw
                    case rel => exact ⟨k + 1, by omega, by go_num, HF, (HKK.out.alloc _).drewN _⟩
                    case measure => simp [intOf]; omega
                  | false =>
                    have HF : Hid (pRise none ps = false) := by show pRise none ps = _; rw [HA.out, hls]; simp
                    have hls' : Op.bytesLess ps[k - 1].k ps[k].k = false := hls
                    generalize ps[k].k = key at *
                    generalize ps[k].v = val at *
                    generalize ps[k].n = ver at *
                    generalize ps[k - 1].k = y at *
                    clear HA e0 h16 h64 hn hok k0 hpv hls
                    go_wp2_with fail
                    refine HN.mono ?_
                    rintro e w1 ⟨rfl, rfl⟩
                    go_wp2
                    go_quiet (fail)
                    go_wp2
                    go_ret
                    rw [HF.out]
                    exact ⟨rfl, (HKK.out.alloc _).drewN _⟩
            · have HF : Hid (pRise none ps = false) := by show pRise none ps = _; rw [HA.out]; unfold prOk; rw [decide_eq_false h64]; simp
              have h64' : ¬ (ps[k].v.length : Int) ≤ 64 := by omega
              generalize ps[k].k = key at *
              generalize ps[k].v = val at *
              generalize ps[k].n = ver at *
              clear HA HN e0 h16 h64
              go_wp2
              go_ret
              rw [HF.out]
              exact ⟨rfl, HK.out.alloc _⟩
          · have HF : Hid (pRise none ps = false) := by show pRise none ps = _; rw [HA.out]; unfold prOk; rw [decide_eq_false h16]; simp
            have h16' : ¬ (ps[k].k.length : Int) ≤ 16 := by omega
            generalize ps[k].k = key at *
            generalize ps[k].v = val at *
            generalize ps[k].n = ver at *
            clear HA HN e0 h16
            go_wp2
            go_ret
            rw [HF.out]
            exact ⟨rfl, HK.out.alloc _⟩
      · have HF : Hid (pRise none ps = true) := HI.out.trans (pRise_end hlt)
        go_wp2
        go_ret
        rw [HF.out]
        exact ⟨rfl, HK.out⟩
  · have HO : Hid (pairsOk ps = false) := by show pairsOk ps = _; unfold pairsOk; rw [decide_eq_false h32]; rfl
    have h32' : ¬ (ps.length : Int) ≤ 32 := by omega
    rw [HO.out]
    clear h32 HO
    go_enter Try.func107, Try.ntmps107
    go_wp2
    go_ret
    exact ⟨rfl, Kept.refl _ _⟩

end Go.Proofs.Ytnmkccdcgmajgaa

/-
  GetNumbers's own function: so many numbers, the count lying in a cell of its own; what it got.
-/
namespace Go.Proofs.Ytnmkccdcgmajgaa
open Go.RowKit

theorem own_mono {w : World} {B B' : Nat} {e : TypeId} {size : Nat} {v : Value} {n : Nat} {xs : List Value} (h : w.ownsRow B e size v n xs) (hb : B' ≤ B) : w.ownsRow B' e size v n xs :=
  ⟨h.1, h.2.imp id fun ⟨g, cap, cur, h1, h2, h3⟩ => ⟨g, cap, cur, h1, Nat.le_trans hb h2, h3⟩⟩

theorem OwnNats.through {w w1 w2 : World} {o1 o2 o3 : Obj} {ao : Option Addr} {c : Nat} {ns : List Nat} (h : OwnNats (((w.alloc o1).alloc o2).alloc o3).heap.size w1 ao c ns)
    (hk : Kept (fun k _ => k = w.heap.size ∨ k = w.heap.size + 1) w1 w2) : OwnNats w.heap.size w2 ao c ns := by
  have hb : (((w.alloc o1).alloc o2).alloc o3).heap.size = w.heap.size + 3 := by simp
  rw [hb] at h
  exact own_mono (own_kept h hk (fun k cs hb hx => by omega)) (by omega)

/-- What a reading of a row of numbers hands out. -/
def GotN (ns : List Nat) (w : World) (e : Ending) (w' : World) : Prop := ∃ ao c, e = .returned (.tuple #[.slice ao ns.length c, .int .i64 0]) ∧ OwnNats w.heap.size w' ao c ns ∧ Kept Nil w w'

end Go.Proofs.Ytnmkccdcgmajgaa

/-
  Rows of entries, as rows that can be read and as rows of one's own; the short functions of logs, the program's and the document's.
-/
namespace Go.Proofs.Ytnmkccdcgmajgaa
open Go.RowKit

/-- A row of entries that can be read. -/
def EntRow (B : Nat) (w : World) (ao : Option Addr) (es : List En) : Prop := ∀ j, (hj : j < es.length) → ∃ a, ao = some a ∧ a.block < B ∧ w.cell? (a.add (j * 4)) = some (.int .i64 es[j].ix) ∧ w.cell? ⟨(a.add (j * 4)).block, (a.add (j * 4)).off + 1, none⟩ = some (.int .i64 es[j].tm) ∧ w.cell? ⟨(a.add (j * 4)).block, (a.add (j * 4)).off + 2, none⟩ = some (.int .i64 es[j].kd) ∧ w.cell? ⟨(a.add (j * 4)).block, (a.add (j * 4)).off + 3, none⟩ = some (.string (bs es[j].dt)) ∧ es[j].dt.length ≤ maxLen
theorem EntRow.kept {X : Nat → Obj → Prop} {B : Nat} {w w' : World} {ao : Option Addr} {es : List En} (h : EntRow B w ao es) (hk : Kept X w w') (hX : ∀ k o, k < B → ¬ X k o) : EntRow B w' ao es := by
  intro j hj
  obtain ⟨a, h0, h1, h2, h3, h4, h5, h6⟩ := h j hj
  have hb : (a.add (j * 4)).block < B := by rw [add_block]; exact h1
  exact ⟨a, h0, h1, cell_kept hk (fun o => hX _ o hb) h2, cell_kept hk (fun o => hX _ o hb) h3, cell_kept hk (fun o => hX _ o hb) h4, cell_kept hk (fun o => hX _ o hb) h5, h6⟩
theorem EntRow.nil {B : Nat} {w w' : World} {ao : Option Addr} {es : List En} (h : EntRow B w ao es) (hk : Kept Nil w w') : EntRow B w' ao es := h.kept hk (fun _ _ _ x => x)
theorem EntRow.alloc {B : Nat} {w : World} {ao : Option Addr} {es : List En} (h : EntRow B w ao es) (o : Obj) : EntRow B (w.alloc o) ao es := h.nil ((Kept.refl _ _).alloc o)
theorem entRow_nil (B : Nat) (w : World) (ao : Option Addr) : EntRow B w ao [] := fun j hj => by simp at hj
theorem EntRow.mono {B B' : Nat} {w : World} {ao : Option Addr} {es : List En} (h : EntRow B w ao es) (hB : B ≤ B') : EntRow B' w ao es := fun j hj => by
  obtain ⟨a, h0, h1, h2⟩ := h j hj
  exact ⟨a, h0, Nat.lt_of_lt_of_le h1 hB, h2⟩
theorem EntRow.full {B : Nat} {w : World} {ao : Option Addr} {es : List En} (h : EntRow B w ao es) : EntRow w.heap.size w ao es := fun j hj => by
  obtain ⟨a, h0, h1, h2, h3⟩ := h j hj
  have hb := cell_lt h2
  rw [add_block] at hb
  exact ⟨a, h0, hb, h2, h3⟩
theorem addr_add2 (a : Addr) (i j : Nat) : (a.add i).add j = a.add (i + j) := by
  unfold Addr.add
  by_cases hi : i = 0
  · subst hi
    by_cases hj : j = 0
    · subst hj; simp
    · simp [hj]
  · by_cases hj : j = 0
    · subst hj; simp [hi]
    · simp [hi, hj, Nat.add_assoc]
theorem EntRow.drop {B : Nat} {w : World} {a : Addr} {es : List En} (h : EntRow B w (some a) es) (k : Nat) : EntRow B w (some (a.add (k * 4))) (es.drop k) := by
  intro j hj
  have hj' : k + j < es.length := by rw [List.length_drop] at hj; omega
  obtain ⟨a', h0, h1, h2⟩ := h (k + j) hj'
  simp only [Option.some.injEq] at h0
  subst h0
  simp only [List.getElem_drop]
  refine ⟨_, rfl, by rw [add_block]; exact h1, ?_⟩
  rw [addr_add2, show k * 4 + j * 4 = (k + j) * 4 by omega]
  exact h2
theorem EntRow.take {B : Nat} {w : World} {ao : Option Addr} {es : List En} (h : EntRow B w ao es) (k : Nat) : EntRow B w ao (es.take k) := by
  intro j hj
  have hj' : j < es.length := by rw [List.length_take] at hj; omega
  simp only [List.getElem_take]
  exact h j hj'

def enCells (es : List En) : List Value := es.flatMap fun e => [Value.int .i64 e.ix, .int .i64 e.tm, .int .i64 e.kd, .string (bs e.dt)]
theorem enCells_append (a b : List En) : enCells (a ++ b) = enCells a ++ enCells b := by simp [enCells]
theorem enCells_len (es : List En) : (enCells es).length = es.length * 4 := by
  induction es with
  | nil => rfl
  | cons e t ih =>
    have : enCells (e :: t) = [Value.int .i64 e.ix, .int .i64 e.tm, .int .i64 e.kd, .string (bs e.dt)] ++ enCells t := by simp [enCells]
    rw [this, List.length_append, ih]
    simp; omega
theorem enCells_at : ∀ (es : List En) (j : Nat) (hj : j < es.length), (enCells es)[j * 4]? = some (.int .i64 es[j].ix) ∧ (enCells es)[j * 4 + 1]? = some (.int .i64 es[j].tm) ∧ (enCells es)[j * 4 + 2]? = some (.int .i64 es[j].kd) ∧ (enCells es)[j * 4 + 3]? = some (.string (bs es[j].dt))
  | [], j, hj => by simp at hj
  | p :: t, 0, hj => by simp [enCells]
  | p :: t, j + 1, hj => by
    have h := enCells_at t j (by simpa using hj)
    have e : enCells (p :: t) = .int .i64 p.ix :: .int .i64 p.tm :: .int .i64 p.kd :: .string (bs p.dt) :: enCells t := by simp [enCells]
    have hx : ∀ i, (enCells (p :: t))[(j + 1) * 4 + i]? = (enCells t)[j * 4 + i]? := fun i => by
      rw [e, show (j + 1) * 4 + i = (j * 4 + i) + 1 + 1 + 1 + 1 by omega]
      simp only [List.getElem?_cons_succ]
    have hx0 := hx 0
    simp only [Nat.add_zero] at hx0
    rw [hx0, hx 1, hx 2, hx 3]
    simpa using h
theorem own_cellE {B n s c : Nat} {e : TypeId} {w : World} {ao : Option Addr} {xs : List Value} (h : w.ownsRow B e s (.slice ao n c) n xs) (hn : 0 < n) : ∃ g, ao = some ⟨g, 0, none⟩ ∧ B ≤ g ∧ g < w.heap.size ∧ ∀ i v, xs[i]? = some v → w.cell? ⟨g, i, none⟩ = some v := by
  rcases h.2 with ⟨_, h0⟩ | ⟨g, cap, cur, hv, hb, hh, h1, h2, h3, h4⟩
  · omega
  · simp only [Value.slice.injEq] at hv
    refine ⟨g, hv.1, hb, lt_of_block hh, fun i v hi => ?_⟩
    rw [blk_cell hh i]
    rw [← h4, List.getElem?_take] at hi
    split at hi
    · simpa using hi
    · cases hi
theorem addr_addE (g j : Nat) : (⟨g, 0, none⟩ : Addr).add j = ⟨g, j, none⟩ := by unfold Addr.add; split <;> simp_all
theorem EntRow.small {B : Nat} {w : World} {ao : Option Addr} {es : List En} (h : EntRow B w ao es) : ∀ e ∈ es, e.dt.length ≤ maxLen := by
  intro e he
  obtain ⟨j, hj, rfl⟩ := List.getElem_of_mem he
  obtain ⟨_, _, _, _, _, _, _, h6⟩ := h j hj
  exact h6

/-! ### the term of a place -/
/-- The term so many places behind the base. -/
def tmAt (bt : Int) (es : List En) (p : Nat) : Int := if p = 0 then bt else (es.getD (p - 1) ⟨0, 0, 0, []⟩).tm
theorem tmAt_zero (bt : Int) (es : List En) : tmAt bt es 0 = bt := rfl
theorem tmAt_pos {bt : Int} {es : List En} {p : Nat} (h : 0 < p) (hp : p - 1 < es.length) : tmAt bt es p = es[p - 1].tm := by
  unfold tmAt
  rw [if_neg (by omega)]
  simp [List.getD_eq_getElem?_getD, hp]
/-- TermAt: the term and the error. -/
def tAt (base bt : Int) (es : List En) (i : Int) : Int × Int := if i < base then (0, 11) else if base + es.length < i then (0, 12) else (tmAt bt es (i - base).toNat, 0)

theorem EntRow.tm {B : Nat} {w : World} {ao : Option Addr} {es : List En} (h : EntRow B w ao es) {j : Nat} (hj : j < es.length) : ∃ a, ao = some a ∧ w.cell? ⟨(a.add (j * 4)).block, (a.add (j * 4)).off + 1, none⟩ = some (.int .i64 es[j].tm) := by
  obtain ⟨a, h0, _, _, h3, _⟩ := h j hj
  exact ⟨a, h0, h3⟩
theorem EntRow.ix {B : Nat} {w : World} {ao : Option Addr} {es : List En} (h : EntRow B w ao es) {j : Nat} (hj : j < es.length) : ∃ a, ao = some a ∧ w.cell? (a.add (j * 4)) = some (.int .i64 es[j].ix) := by
  obtain ⟨a, h0, _, h2, _⟩ := h j hj
  exact ⟨a, h0, h2⟩

end Go.Proofs.Ytnmkccdcgmajgaa

/-
  May a log be? The program's Valid.
-/
namespace Go.Proofs.Ytnmkccdcgmajgaa
open Go.RowKit

/-! ### may a log be? -/
def entsOk : Int → Int → List En → Bool
  | _, _, [] => true
  | ix, tm, e :: t => e.ok && decide (e.ix = ix) && decide (tm ≤ e.tm) && entsOk (ix + 1) e.tm t
def logOk (base bt : Int) (es : List En) : Bool := isNum base && isNum bt && (decide (base = 0) == decide (bt = 0)) && entsOk (base + 1) bt es
theorem entsOk_at {base bt : Int} {es : List En} {k : Nat} (h : k < es.length) : entsOk (base + 1 + k) (tmAt bt es k) (es.drop k) = (es[k].ok && decide (es[k].ix = base + 1 + k) && decide (tmAt bt es k ≤ es[k].tm) && entsOk (base + 1 + (k + 1 : Nat)) (tmAt bt es (k + 1)) (es.drop (k + 1))) := by
  rw [List.drop_eq_getElem_cons h, entsOk, tmAt_pos (show 0 < k + 1 by omega) (show k + 1 - 1 < es.length by omega)]
  simp only [Nat.add_sub_cancel]
  rw [show base + 1 + (k : Int) + 1 = base + 1 + ((k + 1 : Nat) : Int) by omega]
theorem entsOk_end {base bt : Int} {es : List En} {k : Nat} (h : ¬ k < es.length) : entsOk (base + 1 + k) (tmAt bt es k) (es.drop k) = true := by
  rw [List.drop_eq_nil_of_le (by omega)]; rfl
theorem entsOk_start (base bt : Int) (es : List En) : entsOk (base + 1) bt es = entsOk (base + 1 + (0 : Nat)) (tmAt bt es 0) (es.drop 0) := by
  rw [tmAt_zero, List.drop_zero, show base + 1 + ((0 : Nat) : Int) = base + 1 by omega]

end Go.Proofs.Ytnmkccdcgmajgaa

/-
  Extend, plainly: what is skipped, how many are the same, where a leader looks next. No program.
-/
namespace Go.Proofs.Ytnmkccdcgmajgaa
open Go.RowKit

def skip (base : Int) : Int → Int → List En → Int × Int × List En
  | p, t, [] => (p, t, [])
  | p, t, e :: r => if p < base then skip base e.ix e.tm r else (p, t, e :: r)
theorem skip_more {base p t : Int} {e : En} {r : List En} (h : p < base) : skip base p t (e :: r) = skip base e.ix e.tm r := by rw [skip, if_pos h]
theorem skip_end {base p t : Int} {ns : List En} (h : ¬ (p < base ∧ ns ≠ [])) : skip base p t ns = (p, t, ns) := by
  cases ns with
  | nil => rfl
  | cons e r => rw [skip, if_neg (fun hp => h ⟨hp, by simp⟩)]
/-- How many, from the first on, have the same term. -/
def cnt : List En → List En → Nat
  | a :: s, b :: t => if a.tm = b.tm then cnt s t + 1 else 0
  | _, _ => 0
theorem cnt_nil_l (l : List En) : cnt [] l = 0 := by cases l <;> rfl
theorem cnt_nil_r (l : List En) : cnt l [] = 0 := by cases l <;> rfl
theorem cnt_at {hs ns : List En} {k : Nat} (h1 : k < hs.length) (h2 : k < ns.length) : cnt (hs.drop k) (ns.drop k) = if hs[k].tm = ns[k].tm then cnt (hs.drop (k + 1)) (ns.drop (k + 1)) + 1 else 0 := by
  rw [List.drop_eq_getElem_cons h1, List.drop_eq_getElem_cons h2, cnt]
theorem cnt_end {hs ns : List En} {k : Nat} (h : ¬ (k < hs.length ∧ k < ns.length)) : cnt (hs.drop k) (ns.drop k) = 0 := by
  by_cases h1 : k < hs.length
  · rw [show ns.drop k = [] from List.drop_eq_nil_of_le (by omega), cnt_nil_r]
  · rw [show hs.drop k = [] from List.drop_eq_nil_of_le (by omega), cnt_nil_l]
theorem cnt_le : ∀ (hs ns : List En), cnt hs ns ≤ hs.length ∧ cnt hs ns ≤ ns.length
  | [], l => by rw [cnt_nil_l]; simp
  | _ :: _, [] => by rw [cnt_nil_r]; simp
  | a :: s, b :: t => by
    have := cnt_le s t
    rw [cnt]
    split
    · simp only [List.length_cons]; omega
    · simp
/-- The first place, side by side, that has the term. -/
def down (bt : Int) (es : List En) (t : Int) : Nat → Nat
  | 0 => 0
  | 1 => 1
  | p + 2 => if tmAt bt es (p + 1) = t then down bt es t (p + 1) else p + 2
theorem down_more {bt t : Int} {es : List En} {p : Nat} (h : 1 < p) (ht : tmAt bt es (p - 1) = t) : down bt es t p = down bt es t (p - 1) := by
  obtain ⟨q, rfl⟩ : ∃ q, p = q + 2 := ⟨p - 2, by omega⟩
  rw [down, if_pos (by simpa using ht)]
  rfl
theorem down_end {bt t : Int} {es : List En} {p : Nat} (h : ¬ (1 < p ∧ tmAt bt es (p - 1) = t)) : down bt es t p = p := by
  match p with
  | 0 => rfl
  | 1 => rfl
  | q + 2 => rw [down, if_neg (fun e => h ⟨by omega, by simpa using e⟩)]
theorem down_le {bt t : Int} {es : List En} : ∀ p, down bt es t p ≤ p
  | 0 => Nat.le_refl _
  | 1 => Nat.le_refl _
  | p + 2 => by
    rw [down]
    split
    · have := down_le (bt := bt) (t := t) (es := es) (p + 1); omega
    · exact Nat.le_refl _
def look (base bt : Int) (es : List En) (prev : Int) : Int := if base + es.length < prev then base + es.length + 1 else base + (down bt es (tmAt bt es (prev - base).toNat) (prev - base).toNat : Nat)
/-- Behind what was skipped. -/
def extAt (base bt : Int) (es : List En) (p t : Int) (ns : List En) : List En × Int × Int × Int :=
  if p < base then (es, p, 0, 0)
  else if tAt base bt es p = (t, 0) then
    (if cnt (es.drop (p - base).toNat) ns < ns.length then (es.take ((p - base).toNat + cnt (es.drop (p - base).toNat) ns) ++ ns.drop (cnt (es.drop (p - base).toNat) ns), p + ns.length, p + (cnt (es.drop (p - base).toNat) ns : Nat) + 1, 0) else (es, p + ns.length, 0, 0))
  else (es, 0, 0, look base bt es p)
def ext (base bt : Int) (es : List En) (p t : Int) (ns : List En) : List En × Int × Int × Int := extAt base bt es (skip base p t ns).1 (skip base p t ns).2.1 (skip base p t ns).2.2

end Go.Proofs.Ytnmkccdcgmajgaa

/-
  'append' onto a row of the call's own, as a step within a region that draws its order. A law on the model, over any program.
-/
namespace Go.Proofs.Ytnmkccdcgmajgaa
open Go.RowKit
variable {P : Program} (w : World)

theorem step_append_src {ops : Array Oper} {o : Oper} {a : Act} {K : Act → World → Prop} {Q : Exit → Act → World → Prop} {E : Prop} (hgd : o.guard = none) (s xo : Operand) (t tx : TypeId)
    (ho : o.op = .call { callee := .builtin .append, args := #[s, xo], argTypes := #[t, tx] })
    (base : Nat) (e : TypeId) (i : TypeInfo) (z : Value) (size bytes : Nat) (ht : P.underlying t = some (.slice e)) (hi : P.info? e = some i) (hz : i.zero = some z)
    (hsize : i.size = size) (hby : i.bytes = bytes) (hzs : z.cells.size = size)
    (v : Value) (n : Nat) (xs : List Value) (hv : a.eval s = v) (hown : w.ownsRow base e size v n xs) (x : Value) (m : Nat) (news : List Value) (hx : a.eval xo = x) (hs : Src P size tx x m news w)
    (h63 : n + m ≤ maxLen) (hbytes : (n + m) * bytes ≤ 140737488355328) (hbase : base ≤ w.heap.size)
    (h : ∀ ao c w', w'.ownsRow base e size (.slice ao (n + m) c) (n + m) (xs ++ news) → w.grownBy w' v.ownBlock → K (a.put o.dst (.slice ao (n + m) c)) w') :
    if Region.wanted o (yielded ops a.tmps) = true then Oper.wp P o a w K Q else E := by
  rw [if_pos (by simp [Region.wanted, hgd])]
  exact wp_append_src w s xo t tx ho base e i z size bytes ht hi hz hsize hby hzs v n xs hv hown x m news hx hs h63 hbytes hbase fun v' w' h2 h3 => by
    obtain ⟨ao, c, rfl⟩ := own_shape h2
    exact h ao c w' h2 h3

end Go.Proofs.Ytnmkccdcgmajgaa

/-
  TermAt and Fresh, and slices.Clone at entries: the program's.
-/
namespace Go.Proofs.Ytnmkccdcgmajgaa
open Go.RowKit

/-- Fresh: is a log that ends so as far? -/
def freshB (base bt : Int) (es : List En) (index term : Int) : Bool := decide (tmAt bt es es.length < term) || (decide (term = tmAt bt es es.length) && decide (base + es.length ≤ index))

/-! ### the library's Clone at entries -/
theorem add_posE (a : Addr) {i : Nat} (h : 0 < i) : a.add i = ⟨a.block, a.off + i, none⟩ := by unfold Addr.add; rw [if_neg (by omega)]
end Go.Proofs.Ytnmkccdcgmajgaa

/-
  The document's end, TermAt, Last and Fresh of a log; may a log be? (the program's Valid, the document's IsLog).
-/
namespace Go.Proofs.Ytnmkccdcgmajgaa
open Go.RowKit

theorem tAt_end (base bt : Int) (es : List En) : tAt base bt es (base + es.length) = (tmAt bt es es.length, 0) := by
  unfold tAt
  rw [if_neg (by omega), if_neg (by omega), show (base + (es.length : Int) - base).toNat = es.length by omega]

end Go.Proofs.Ytnmkccdcgmajgaa

/-
  lookFor and countSame, and the document's first.
-/
namespace Go.Proofs.Ytnmkccdcgmajgaa
open Go.RowKit

end Go.Proofs.Ytnmkccdcgmajgaa

/-
  Compact and Slice: the program's.
-/
namespace Go.Proofs.Ytnmkccdcgmajgaa
open Go.RowKit

/-- Compact: the log and the error. -/
def cmpE (base bt : Int) (es : List En) (i : Int) : Int := (tAt base bt es i).2
def cmpL (base bt : Int) (es : List En) (i : Int) : Int × Int × List En := if (tAt base bt es i).2 = 0 then (i, (tAt base bt es i).1, es.drop (i - base).toNat) else (0, 0, [])
theorem tAt_ok {base bt i : Int} {es : List En} (h : (tAt base bt es i).2 = 0) : base ≤ i ∧ i ≤ base + es.length := by
  unfold tAt at h
  split at h
  · simp at h
  · split at h
    · simp at h
    · omega

theorem EntRow.sub {B : Nat} {w : World} {ao : Option Addr} {es : List En} (h : EntRow B w ao es) (q : Nat) : EntRow B w (ao.map (fun x => x.add (q * 4))) (es.drop q) := by
  cases ao with
  | some a => exact h.drop q
  | none =>
    intro j hj
    obtain ⟨a, e, _⟩ := h (q + j) (by rw [List.length_drop] at hj; omega)
    cases e
end Go.Proofs.Ytnmkccdcgmajgaa

/-
  Slice: the program's.
-/
namespace Go.Proofs.Ytnmkccdcgmajgaa
open Go.RowKit

def slE (base : Int) (n : Nat) (fr most : Int) : Int := if fr ≤ base then 11 else if base + n + 1 < fr ∨ most < 0 then 12 else 0
def slL (base : Int) (es : List En) (fr most : Int) : List En := if slE base es.length fr most = 0 then (es.drop (fr - 1 - base).toNat).take most.toNat else []
end Go.Proofs.Ytnmkccdcgmajgaa

/-
  Extend: the program's.
-/
namespace Go.Proofs.Ytnmkccdcgmajgaa
open Go.RowKit

theorem own_take {w : World} {B s n c : Nat} {e : TypeId} {ao : Option Addr} {xs : List Value} (h : w.ownsRow B e s (.slice ao n c) n xs) {k : Nat} (hk : k ≤ n) : w.ownsRow B e s (.slice ao k c) k (xs.take (k * s)) := by
  have hks : k * s ≤ n * s := Nat.mul_le_mul_right _ hk
  refine ⟨by rw [List.length_take, h.1]; omega, ?_⟩
  rcases h.2 with ⟨h1, h2⟩ | ⟨g, cap, cur, h1, h2, h3, h4, h5, h6, h7⟩
  · left
    simp only [Value.slice.injEq] at h1 ⊢
    exact ⟨⟨h1.1, by omega, h1.2.2⟩, by omega⟩
  · right
    simp only [Value.slice.injEq] at h1
    refine ⟨g, cap, cur, by simp only [Value.slice.injEq]; exact ⟨h1.1, trivial, h1.2.2⟩, h2, h3, by omega, h5, h6, ?_⟩
    rw [← h7, List.take_take, Nat.min_eq_left hks]
theorem enCells_take (es : List En) (k : Nat) : enCells (es.take k) = (enCells es).take (k * 4) := by
  by_cases h : k ≤ es.length
  · have h1 : enCells es = enCells (es.take k) ++ enCells (es.drop k) := by rw [← enCells_append, List.take_append_drop]
    have h2 : (enCells (es.take k)).length = k * 4 := by rw [enCells_len, List.length_take]; omega
    rw [h1, ← h2, List.take_left]
  · rw [List.take_of_length_le (by omega), List.take_of_length_le (by rw [enCells_len]; omega)]
/-- A block ahead of the rows stays where a row grows. -/
theorem grown_oldE {wa w' : World} {B n s : Nat} {e : TypeId} {v : Value} {xs : List Value} {k : Nat} {o : Obj} (hg : wa.drew.grownBy w' v.ownBlock) (ho : wa.ownsRow B e s v n xs) (hk : k < B) (hb : wa.heap[k]? = some o) : w'.heap[k]? = some o := by
  have hlt : k < wa.drew.heap.size := lt_of_block hb
  rw [hg.block k hlt (fun e => by have := own_row ho k e.symm; omega)]
  exact hb
theorem some_no {a : Addr} {P : Prop} : some a = none → P := fun h => by cases h
theorem nil_is {bo : Option Addr} {d : Nat} (h : bo = none → (True ∧ d = 0)) : bo = none → (([] : List En) = [] ∧ d = 0) := fun e => ⟨rfl, (h e).2⟩
end Go.Proofs.Ytnmkccdcgmajgaa

/-
  How many of the voters are among those: isMajority, Joint and Quorum.
-/
namespace Go.Proofs.Ytnmkccdcgmajgaa
open Go.RowKit

def cntIn (vs hs : List Int) : Nat := (vs.filter (hasZ hs)).length
def maj (vs hs : List Int) : Bool := decide ((vs.length : Int) < 2 * (cntIn vs hs : Nat))
def quo (v n hs : List Int) : Bool := maj v hs && (n.isEmpty || maj n hs)
theorem cntIn_le (vs hs : List Int) : cntIn vs hs ≤ vs.length := List.length_filter_le _ _
theorem cntIn_succ {vs : List Int} (hs : List Int) {k : Nat} (h : k < vs.length) : cntIn (vs.take (k + 1)) hs = cntIn (vs.take k) hs + if hasZ hs vs[k] then 1 else 0 := by
  unfold cntIn
  rw [List.take_succ_eq_append_getElem h, List.filter_append, List.length_append]
  congr 1
  by_cases hz : hasZ hs vs[k]
  · simp [hz]
  · simp [hz]

set_option maxRecDepth 100000 in
set_option maxHeartbeats 1000000 in
theorem isMajority_any (B c1 c2 : Nat) (a1 a2 : Option Addr) (vs hs : List Int) (w : World) (h1 : IntRow B w a1 vs) (h2 : IntRow B w a2 hs) (hl1 : (vs.length : Int) ≤ 1000000) (hl2 : (hs.length : Int) ≤ 9223372036854775807) :
    Calls Try.prog 68 #[.slice a1 vs.length c1, .slice a2 hs.length c2] w fun e w' => e = .returned (.bool (maj vs hs)) ∧ w' = w := by
  have HR : Hid (IntRow B w a1 vs ∧ IntRow B w a2 hs) := ⟨h1, h2⟩
  clear h1 h2
  go_enter Try.func68, Try.ntmps68
  go_wp2
  go_loop [5, 10] (fun v i => ∃ k : Nat, k ≤ vs.length ∧ i = .int .i64 k ∧ v = .int .i64 (cntIn (vs.take k) hs : Nat)) (fun _ i => vs.length - (intOf i).toNat)
  case atStart => exact ⟨0, Nat.zero_le _, rfl, rfl⟩
  case round =>
    obtain ⟨k, hk, rfl, rfl⟩ := hrel
    by_cases hlt : k < vs.length
    · obtain ⟨a, rfl, _, hcell⟩ := HR.out.1 k hlt
      have C := contains_any B c2 a2 hs vs[k] w HR.out.2 hl2
      have hst := cntIn_succ hs hlt
      have hcl := cntIn_le (vs.take k) hs
      have hcl2 : (vs.take k).length ≤ vs.length := by rw [List.length_take]; omega
      have hki : (k : Int) < vs.length := by omega
      generalize vs[k] = z at *
      generalize cntIn (vs.take k) hs = n at *
      cases hz : hasZ hs z with
      | true =>
        rw [hz] at C hst
        simp only [if_true] at hst
        have HST : Hid (cntIn (vs.take (k + 1)) hs = n + 1) := hst
        clear hz hst
        go_wp2_with fail
        refine C.mono ?_
        rintro e w1 ⟨rfl, rfl⟩
        go_wp2
        go_round
        case rel => exact ⟨k + 1, by omega, by go_num, by rw [HST.out]; go_num⟩
        case measure => simp [intOf]; omega
      | false =>
        rw [hz] at C hst
        have HST : Hid (cntIn (vs.take (k + 1)) hs = n) := by show _ = _; simpa using hst
        clear hz hst
        go_wp2_with fail
        refine C.mono ?_
        rintro e w1 ⟨rfl, rfl⟩
        go_wp2
        go_round
        case rel => exact ⟨k + 1, by omega, by go_num, by rw [HST.out]⟩
        case measure => simp [intOf]; omega
    · obtain rfl : k = vs.length := by omega
      rw [List.take_length]
      have hcl := cntIn_le vs hs
      have HM : Hid (maj vs hs = decide ((vs.length : Int) < 2 * (cntIn vs hs : Nat))) := rfl
      generalize cntIn vs hs = n at *
      go_wp2
      go_ret
      rw [HM.out]
      exact ⟨rfl, rfl⟩

set_option maxRecDepth 100000 in
set_option maxHeartbeats 1000000 in
theorem joint_any (c1 c2 c3 : Nat) (a1 a2 a3 : Option Addr) (x y z : Nat) (w : World) :
    Calls Try.prog 38 #[.agg #[.slice a1 x c1, .slice a2 y c2, .slice a3 z c3]] w fun e w' => e = .returned (.bool (decide (0 < y))) ∧ Kept Nil w w' := by
  go_enter Try.func38, Try.ntmps38
  go_wp2
  go_ret
  exact ⟨rfl, (Kept.refl _ _).alloc _⟩

set_option maxRecDepth 100000 in
set_option maxHeartbeats 1000000 in
theorem quorum_any (B c1 c2 c3 d : Nat) (a1 a2 a3 ao : Option Addr) (v n l hs : List Int) (w : World) (h : CfRows B w a1 a2 a3 v n l) (hh : IntRow B w ao hs) (h1 : (v.length : Int) ≤ 1000000) (h2 : (n.length : Int) ≤ 1000000) (h3 : (hs.length : Int) ≤ 9223372036854775807) :
    Calls Try.prog 24 #[.agg #[.slice a1 v.length c1, .slice a2 n.length c2, .slice a3 l.length c3], .slice ao hs.length d] w fun e w' => e = .returned (.bool (quo v n hs)) ∧ Kept Nil w w' := by
  have M1 := isMajority_any B c1 d a1 ao v hs _ (h.r1.alloc (.cells #[.slice a1 v.length c1, .slice a2 n.length c2, .slice a3 l.length c3] 24)) (hh.alloc _) h1 h3
  have M2 := fun w' (hk : Kept Nil w w') => isMajority_any B c2 d a2 ao n hs w' (h.r2.nil hk) (hh.nil hk) h2 h3
  have J := fun w' => joint_any c1 c2 c3 a1 a2 a3 v.length n.length l.length w'
  have HB : Hid ((w.alloc (.cells #[.slice a1 v.length c1, .slice a2 n.length c2, .slice a3 l.length c3] 24)).heap[w.heap.size]? = some (.cells #[.slice a1 v.length c1, .slice a2 n.length c2, .slice a3 l.length c3] 24 (0, 0))) := blk_new _ _
  have HV : Hid (quo v n hs = (maj v hs && (n.isEmpty || maj n hs))) := rfl
  generalize maj v hs = b1 at *
  generalize maj n hs = b2 at *
  clear h hh h1 h2 h3
  cases b1 with
  | false =>
    go_enter Try.func24, Try.ntmps24
    go_wp2_with fail
    refine M1.mono ?_
    rintro e w1 ⟨rfl, rfl⟩
    go_wp2
    go_ret
    rw [HV.out]
    exact ⟨rfl, (Kept.refl _ _).alloc _⟩
  | true =>
    by_cases hn : n = []
    · have hj : decide (0 < n.length) = false := by rw [hn]; rfl
      simp only [hj] at J
      have HF : Hid (quo v n hs = true) := by show quo v n hs = true; rw [HV.out, hn]; rfl
      clear hn HV hj
      go_enter Try.func24, Try.ntmps24
      go_wp2_with fail
      refine M1.mono ?_
      rintro e w1 ⟨rfl, hw1⟩
      have HB1 : Hid (w1.heap[w.heap.size]? = some (.cells #[.slice a1 v.length c1, .slice a2 n.length c2, .slice a3 l.length c3] 24 (0, 0))) := by show _ = _; rw [hw1]; exact HB.out
      have HK1 : Hid (Kept Nil w w1) := by show Kept _ _ _; rw [hw1]; exact (Kept.refl _ _).alloc _
      clear hw1 HB
      have q0 := blk_at HB1.out 0 rfl
      have q1 := blk_at HB1.out 1 rfl
      have q2 := blk_at HB1.out 2 rfl
      go_wp2_with fail
      refine (J _).mono ?_
      rintro e w2 ⟨rfl, k2⟩
      have HK2 : Hid (Kept Nil w w2) := HK1.out.trans k2
      go_wp2
      go_ret
      rw [HF.out]
      exact ⟨rfl, HK2.out⟩
    · have hj : decide (0 < n.length) = true := decide_eq_true (List.length_pos_iff.2 hn)
      simp only [hj] at J
      have HF : Hid (quo v n hs = b2) := by
        show quo v n hs = b2
        rw [HV.out]
        cases n with
        | nil => exact absurd rfl hn
        | cons x t => simp
      clear hn HV hj
      go_enter Try.func24, Try.ntmps24
      go_wp2_with fail
      refine M1.mono ?_
      rintro e w1 ⟨rfl, hw1⟩
      have HB1 : Hid (w1.heap[w.heap.size]? = some (.cells #[.slice a1 v.length c1, .slice a2 n.length c2, .slice a3 l.length c3] 24 (0, 0))) := by show _ = _; rw [hw1]; exact HB.out
      have HK1 : Hid (Kept Nil w w1) := by show Kept _ _ _; rw [hw1]; exact (Kept.refl _ _).alloc _
      clear hw1 HB
      have q0 := blk_at HB1.out 0 rfl
      have q1 := blk_at HB1.out 1 rfl
      have q2 := blk_at HB1.out 2 rfl
      go_wp2_with fail
      refine (J _).mono ?_
      rintro e w2 ⟨rfl, k2⟩
      have HK2 : Hid (Kept Nil w w2) := HK1.out.trans k2
      have HB2 : Hid (_) := k2.block _ _ HB1.out (fun x => x.elim)
      have r1 := blk_at HB2.out 1 rfl
      clear k2 q0 q1 q2
      go_wp2_with fail
      refine (M2 _ HK2.out).mono ?_
      rintro e w3 ⟨rfl, rfl⟩
      go_wp2
      go_ret
      rw [HF.out]
      exact ⟨rfl, HK2.out⟩

end Go.Proofs.Ytnmkccdcgmajgaa

/-
  Frames one behind the other, cut anywhere; a frame of which bytes are turned; one of n by any number (pick).
-/
namespace Go.Proofs.Ytnmkccdcgmajgaa
open Go.RowKit

theorem pick_val (c n : Int) (hn : 0 < n) : c % n = if c.tmod n < 0 then c.tmod n + n else c.tmod n := by
  have h1 := Int.emod_nonneg c (show n ≠ 0 by omega)
  have h2 := Int.emod_lt_of_pos c hn
  have h3 := Int.tmod_eq_emod (a := c) (b := n)
  have h4 : (n.natAbs : Int) = n := by omega
  split at h3 <;> split <;> omega

set_option maxRecDepth 100000 in
theorem pick_any (c n : Int) (w : World) (hn : 0 < n) (hn2 : n ≤ 9223372036854775807) :
    Calls Try.prog 35 #[.int .i64 c, .int .i64 n] w fun e w' => e = .returned (.int .i64 (c % n)) ∧ w' = w := by
  have hv := pick_val c n hn
  have h1 := Int.emod_nonneg c (show n ≠ 0 by omega)
  have h2 := Int.emod_lt_of_pos c hn
  have hne : (n == 0) = false := by simp; omega
  by_cases hneg : c.tmod n < 0
  · rw [if_pos hneg] at hv
    have HV : Hid (c % n = c.tmod n + n) := hv
    rw [hv] at h1 h2
    clear hv
    go_enter Try.func35, Try.ntmps35
    go_wp2
    go_ret
    rw [HV.out]
    exact ⟨rfl, rfl⟩
  · rw [if_neg hneg] at hv
    have HV : Hid (c % n = c.tmod n) := hv
    rw [hv] at h1 h2
    clear hv
    go_enter Try.func35, Try.ntmps35
    go_wp2
    go_ret
    rw [HV.out]
    exact ⟨rfl, rfl⟩

/-! ### frames one behind the other -/
def frs (bl : List (List UInt8)) (k : Nat) : List UInt8 := (bl.take k).flatMap encFrame
theorem frs_succ {bl : List (List UInt8)} {k : Nat} (h : k < bl.length) : frs bl (k + 1) = frs bl k ++ encFrame bl[k] := by
  unfold frs
  rw [List.take_succ_eq_append_getElem h, List.flatMap_append]
  simp
theorem encFrame_max {s : List UInt8} (h : s.length ≤ 65536) : (encFrame s).length ≤ 65546 := by
  rw [encFrame_len]
  have := enc_len6 (n := s.length) (by omega)
  omega
theorem frs_len {bl : List (List UInt8)} : ∀ {k : Nat}, (∀ b ∈ bl.take k, b.length ≤ 65536) → (frs bl k).length ≤ k * 65546
  | 0, _ => by simp [frs]
  | k + 1, h => by
    by_cases hk : k < bl.length
    · rw [frs_succ hk, List.length_append]
      have h1 := frs_len (bl := bl) (k := k) (fun b hb => h b (by rw [List.take_succ_eq_append_getElem hk]; exact List.mem_append.2 (.inl hb)))
      have h2 := encFrame_max (h bl[k] (by rw [List.take_succ_eq_append_getElem hk]; exact List.mem_append.2 (.inr (List.mem_singleton.2 rfl))))
      omega
    · have e : frs bl (k + 1) = frs bl k := by
        unfold frs
        rw [List.take_of_length_le (by omega), List.take_of_length_le (by omega)]
      rw [e]
      have h1 := frs_len (bl := bl) (k := k) (fun b hb => h b (by rw [List.take_of_length_le (by omega)] at hb ⊢; exact hb))
      exact Nat.le_trans h1 (Nat.mul_le_mul_right _ (Nat.le_succ _))
def endsOf (bl : List (List UInt8)) (k : Nat) : List Nat := (List.range k).map fun j => (frs bl (j + 1)).length
theorem endsOf_len (bl : List (List UInt8)) (k : Nat) : (endsOf bl k).length = k := by simp [endsOf]
theorem endsOf_succ (bl : List (List UInt8)) (k : Nat) : endsOf bl (k + 1) = endsOf bl k ++ [(frs bl (k + 1)).length] := by
  simp [endsOf, List.range_succ]
theorem endsOf_at {bl : List (List UInt8)} {k j : Nat} (h : j < (endsOf bl k).length) : (endsOf bl k)[j] = (frs bl (j + 1)).length := by simp [endsOf]

def cutRest (bl : List (List UInt8)) (K i : Nat) : List UInt8 := ((frs bl bl.length).take K).drop (frs bl i).length
theorem frs_split (bl : List (List UInt8)) (i : Nat) : frs bl bl.length = frs bl i ++ (bl.drop i).flatMap encFrame := by
  unfold frs
  rw [List.take_of_length_le (Nat.le_refl _), ← List.flatMap_append, List.take_append_drop]
theorem cutRest_eq {bl : List (List UInt8)} {K i : Nat} (h : (frs bl i).length ≤ K) : cutRest bl K i = ((bl.drop i).flatMap encFrame).take (K - (frs bl i).length) := by
  unfold cutRest
  rw [frs_split bl i, List.take_append, List.take_of_length_le h, List.drop_left]
theorem cut_more {bl : List (List UInt8)} {K i : Nat} (hi : i < bl.length) (hs : bl[i].length ≤ 65536) (h : (frs bl (i + 1)).length ≤ K) : unF (cutRest bl K i) = (bl[i], cutRest bl K (i + 1), 0) := by
  have e := frs_succ hi
  have hl : (frs bl (i + 1)).length = (frs bl i).length + (encFrame bl[i]).length := by rw [e, List.length_append]
  rw [cutRest_eq h, cutRest_eq (by omega), List.drop_eq_getElem_cons hi, List.flatMap_cons, List.take_append, List.take_of_length_le (by omega), unF_whole hs]
  congr 3
  omega
theorem cut_end {bl : List (List UInt8)} {K i : Nat} (hi : i < bl.length) (hs : bl[i].length ≤ 65536) (h0 : (frs bl i).length ≤ K) (h : K < (frs bl (i + 1)).length) : unF (cutRest bl K i) = ([], [], 3) := by
  have e := frs_succ hi
  have hl : (frs bl (i + 1)).length = (frs bl i).length + (encFrame bl[i]).length := by rw [e, List.length_append]
  rw [cutRest_eq h0, List.drop_eq_getElem_cons hi, List.flatMap_cons, List.take_append_of_le_length (by omega)]
  exact unF_cut hs (by omega)
theorem cut_nil {bl : List (List UInt8)} {K : Nat} (h0 : (frs bl bl.length).length ≤ K) : unF (cutRest bl K bl.length) = ([], [], 3) := by
  rw [cutRest_eq h0, List.drop_of_length_le (Nat.le_refl _), List.flatMap_nil, List.take_nil]
  exact unF_err rfl
theorem cutRest_zero (bl : List (List UInt8)) (K : Nat) : cutRest bl K 0 = (frs bl bl.length).take K := by simp [cutRest, frs]
theorem cutRest_le (bl : List (List UInt8)) (K i : Nat) : (cutRest bl K i).length ≤ (frs bl bl.length).length := by simp [cutRest]; omega

/-! ### a frame whose bytes are turned -/
structure Turned (body b : List UInt8) (f j : Nat) : Prop where
  len : b.length = body.length
  same : ∀ i, i < f ∨ f + j ≤ i → b[i]? = body[i]?

theorem Turned.start (body : List UInt8) (f : Nat) : Turned body body f 0 := ⟨rfl, fun _ _ => rfl⟩
theorem Turned.step {body b : List UInt8} {f j : Nat} (h : Turned body b f j) (hi : f + j < body.length) (m : UInt8) :
    Turned body (b.set (f + j) (body[f + j] ^^^ m)) f (j + 1) ∧ (b.set (f + j) (body[f + j] ^^^ m) ≠ body ↔ b ≠ body ∨ m ≠ 0) := by
  have hs := h.same (f + j) (.inr (Nat.le_refl _))
  have hst := turned_step (m := m) hi hs
  refine ⟨⟨by simpa using h.len, fun i hi2 => ?_⟩, ?_⟩
  · rw [List.getElem?_set_ne (by omega)]
    exact h.same i (by omega)
  · constructor
    · intro hne
      by_cases hb : b = body
      · right
        intro hm
        exact hne ((hst.2 hm).trans hb)
      · exact .inl hb
    · intro hor e
      by_cases hb : b = body
      · rcases hor with h1 | h1
        · exact h1 hb
        · exact h1 (hst.1 (e.trans hb.symm))
      · apply hb
        apply List.ext_getElem?
        intro i
        by_cases hif : i = f + j
        · rw [hif]; exact hs
        · rw [← e, List.getElem?_set_ne (by omega)]

/-- The bytes of the turned frame. -/
def turnT (body b : List UInt8) : List UInt8 := encText b ++ le4 (crc body)
theorem turnT_eq {body b : List UInt8} (h : b.length = body.length) : turnT body b = enc body.length ++ (b ++ le4 (crc body)) := by
  unfold turnT encText
  rw [h, List.append_assoc]
theorem turnT_self (body : List UInt8) : turnT body body = encFrame body := rfl
theorem turnT_len {body b : List UInt8} (h : b.length = body.length) : (turnT body b).length = (encFrame body).length := by
  simp [turnT, encFrame, encText, h]
theorem turnT_at {body b : List UInt8} {i : Nat} (h : b.length = body.length) (hi : i < body.length) : (turnT body b)[(enc body.length).length + i]? = b[i]? := by
  rw [turnT_eq h, List.getElem?_append_right (by omega), Nat.add_sub_cancel_left, List.getElem?_append_left (by omega)]
theorem turnT_set {body b : List UInt8} {i : Nat} (h : b.length = body.length) (hi : i < body.length) (x : UInt8) : (turnT body b).set ((enc body.length).length + i) x = turnT body (b.set i x) := by
  rw [turnT_eq h, turnT_eq (by simpa using h), List.set_append_right _ _ (by omega), Nat.add_sub_cancel_left, List.set_append_left _ _ (by omega)]
theorem turn_end {body b : List UInt8} {f j : Nat} (h : Turned body b f j) (hj : j ≤ 4 ) (hl : body.length ≤ 65536) : (unF (turnT body b)).2.2 = if b = body then 0 else 2 := by
  by_cases he : b = body
  · rw [if_pos he, he, turnT_self]
    have := unF_whole hl []
    rw [List.append_nil] at this
    rw [this]
  · rw [if_neg he]
    have hc := crc_window (a := b) (b := body) (f := f) h.len (fun i hi => h.same i (by omega)) he
    have := unF_turned hl h.len hc []
    rw [List.append_nil] at this
    unfold turnT
    rw [this]

/-! ### a row of bytes that was made of a string -/
structure ByteRow (w : World) (g : Nat) (T : List UInt8) : Prop where
  cell : ∀ j, (hj : j < T.length) → w.cell? ⟨g, j, none⟩ = some (.int .u8 (T[j].toNat : Nat))
  free : ∀ j, w.frozen? ⟨g, j, none⟩ = false ∨ T.length ≤ j

theorem ByteRow.set {w : World} {g : Nat} {T : List UInt8} (h : ByteRow w g T) (i : Nat) (x : UInt8) (hi : i < T.length) {y : Int} (hy : y = x.toNat) : ByteRow (w.setCell ⟨g, i, none⟩ (.int .u8 y)) g (T.set i x) := by
  subst hy
  refine ⟨fun j hj => ?_, fun j => ?_⟩
  · have hj' : j < T.length := by simpa using hj
    by_cases hij : i = j
    · subst hij
      rw [World.cell?_setCell_same _ _ _ (h.cell i hi)]
      simp
    · rw [World.cell?_setCell_other _ _ _ _ (fun e => hij (by cases e; rfl)), h.cell j hj', List.getElem_set_ne hij]
  · rw [World.frozen?_setCell, List.length_set]
    exact h.free j
theorem ByteRow.kept {w w' : World} {g : Nat} {T : List UInt8} (h : ByteRow w g T) (hk : Kept Nil w w') (hne : T ≠ []) : ByteRow w' g T := by
  have h0 := h.cell 0 (List.length_pos_iff.2 hne)
  have hlt : g < w.heap.size := cell_lt h0
  have hb : w'.heap[g]? = w.heap[g]? := by rw [hk.block g _ (Array.getElem?_eq_getElem hlt) (fun x => x.elim), Array.getElem?_eq_getElem hlt]
  exact ⟨fun j hj => (World.cell?_of_block (w := w) (a := ⟨g, j, none⟩) hb).trans (h.cell j hj), fun j => by rw [World.frozen?_of_block (w := w) (a := ⟨g, j, none⟩) hb]; exact h.free j⟩
theorem ByteRow.new (w : World) (l : List UInt8) (cap : Nat) : ByteRow (w.alloc (.cells (bytesRow (bs l) cap) 5 ((bytesRow (bs l) cap).size, (bytesRow (bs l) cap).size + 1))).drew w.heap.size l := by
  refine ⟨fun j hj => ?_, fun j => ?_⟩
  · rw [sum_cell w l cap j _ hj]
    simp [List.getD_eq_getElem?_getD, hj]
  · by_cases hj : l.length ≤ j
    · exact .inr hj
    · left
      have hb : (w.alloc (.cells (bytesRow (bs l) cap) 5 ((bytesRow (bs l) cap).size, (bytesRow (bs l) cap).size + 1))).drew.heap[w.heap.size]? = some (.cells (bytesRow (bs l) cap) 5 ((bytesRow (bs l) cap).size, (bytesRow (bs l) cap).size + 1)) := blk_new w _
      have hs : l.length ≤ (bytesRow (bs l) cap).size := by simp [bytesRow, bs]
      unfold World.frozen?
      rw [hb]
      simp
      omega
theorem ByteRow.conv {w : World} {g : Nat} {T : List UInt8} (h : ByteRow w g T) (cap : Nat) :
    (convert 81 9 (.slice (some ⟨g, 0, none⟩) T.length cap)).run Try.prog w = .ok (.string (bs T)) w := by
  refine run_convert_bytes_back w 81 9 5 ⟨g, 0, none⟩ cap T Try.underlying81 Try.underlying5 Try.underlying9 ?_
  intro j hj
  have e : (⟨g, 0, none⟩ : Addr).add j = ⟨g, j, none⟩ := by unfold Addr.add; split <;> simp_all
  rw [e]
  exact h.cell j hj
theorem ByteRow.convAs {w : World} {g : Nat} {T : List UInt8} (h : ByteRow w g T) (cap : Nat) {N : Nat} (hN : N = T.length) :
    (convert 81 9 (.slice (some ⟨g, 0, none⟩) N cap)).run Try.prog w = .ok (.string (bs T)) w := by
  subst hN
  exact h.conv cap
theorem xor_byte (x : UInt8) (z : Int) : bits .xor .u8 (x.toNat : Int) (z % 256) = ((x ^^^ UInt8.ofNat (z % 256).toNat).toNat : Nat) := by
  have h1 := x.toNat_lt
  have h2 : (z % 256).toNat < 256 := by omega
  have e : z % 256 = ((z % 256).toNat : Nat) := by omega
  have := u8_xor_nat x.toNat (z % 256).toNat h1 h2
  rw [← e] at this
  rw [this, UInt8.toNat_xor, ofNat_toNat h2]
theorem byte_zero (z : Int) : UInt8.ofNat (z % 256).toNat = 0 ↔ z % 256 = 0 := by
  have h2 : (z % 256).toNat < 256 := by omega
  constructor
  · intro h
    have := congrArg UInt8.toNat h
    rw [ofNat_toNat h2] at this
    have e0 : (0 : UInt8).toNat = 0 := rfl
    omega
  · intro h
    rw [h]
    rfl

end Go.Proofs.Ytnmkccdcgmajgaa

/-
  An entry written: the writer's entry, write, PutEntry; and the document's: the same bytes.
-/
namespace Go.Proofs.Ytnmkccdcgmajgaa
open Go.RowKit

/-- An entry's bytes. -/
def encEnt (ix tm kd : Nat) (dt : List UInt8) : List UInt8 := encAll [ix, tm, kd] ++ encText dt

/-- What PutEntry answers. -/
def putEnt (x : En) : List UInt8 × Int := if x.ok then (encEnt x.ix.toNat x.tm.toNat x.kd.toNat x.dt, 0) else ([], 6)
theorem isCnt_nat {x : Int} (h : isCnt x = true) : (x.toNat : Int) = x ∧ x.toNat ≤ 1099511627775 := by
  simp only [isCnt, Bool.and_eq_true, decide_eq_true_eq] at h
  omega
theorem En.facts {x : En} (h : x.ok = true) : isCnt x.ix = true ∧ isCnt x.tm = true ∧ (0 ≤ x.kd ∧ x.kd ≤ 2) ∧ x.dt.length ≤ 256 := by
  unfold En.ok at h
  simp only [Bool.and_eq_true] at h
  obtain ⟨⟨h1, h2⟩, h3⟩ := h
  split at h3
  · rename_i h0
    rw [List.isEmpty_iff] at h3
    rw [h3]
    exact ⟨h1, h2, by omega, by simp⟩
  · split at h3
    · rename_i h0
      exact ⟨h1, h2, by omega, of_decide_eq_true h3⟩
    · cases h3

/-! ### the document's -/
theorem encEnt_eq (ix tm kd : Nat) (dt : List UInt8) : encEnt ix tm kd dt = enc ix ++ enc tm ++ enc kd ++ encText dt := by simp [encEnt, encAll]

end Go.Proofs.Ytnmkccdcgmajgaa

/-
  The program's read at a row of numbers: caught or not.
-/
namespace Go.Proofs.Ytnmkccdcgmajgaa
open Go.RowKit

theorem blk_drewN {w : World} {b : Nat} {o : Obj} (h : w.heap[b]? = some o) : w.drew.heap[b]? = some o := h
theorem setsN {w : World} {A : Nat} {t : TypeId} {x0 : Value} (hA : w.heap[A]? = some (.cells #[x0] t (0, 0))) (v0 : Value) :
    (w.setCell ⟨A, 0, none⟩ v0).heap[A]? = some (.cells #[v0] t (0, 0)) := by
  have s0 : (w.setCell ⟨A, 0, none⟩ v0).heap[A]? = some (.cells #[v0] t (0, 0)) := blk_set hA 0 v0
  exact s0

end Go.Proofs.Ytnmkccdcgmajgaa

/-
  GetNumbers and PutNumbers; and the document's: the same plain answers. Two rows held against each other.
  PutNumbers, and the document's; what is written of numbers is read again.
-/
namespace Go.Proofs.Ytnmkccdcgmajgaa
open Go.RowKit

def getNums (n : Nat) (l : List UInt8) : List Nat × Int :=
  match rdTimes rdNum n l with
  | .ok (ns, []) => (ns, 0)
  | .ok (_, _ :: _) => ([], 1)
  | .error c => ([], c)
theorem getNums_err {n : Nat} {l : List UInt8} {c : Int} (h : rdTimes rdNum n l = .error c) : getNums n l = ([], c) := by simp [getNums, h]
theorem getNums_ok {n : Nat} {l : List UInt8} {ns : List Nat} (h : rdTimes rdNum n l = .ok (ns, [])) : getNums n l = (ns, 0) := by simp [getNums, h]
theorem getNums_left {n : Nat} {l : List UInt8} {ns : List Nat} {y : UInt8} {t : List UInt8} (h : rdTimes rdNum n l = .ok (ns, y :: t)) : getNums n l = ([], 1) := by simp [getNums, h]

/-- What is handed out: a row of its own, and the error. -/
def NumsPost (g : List Nat × Int) (w : World) (e : Ending) (w' : World) : Prop := ∃ ao c, e = .returned (.tuple #[.slice ao g.1.length c, .int .i64 g.2]) ∧ OwnNats w.heap.size w' ao c g.1 ∧ Kept Nil w w'

/-! ### the document's -/
/-! ### rows, read -/
theorem OwnNats.shape {B : Nat} {w : World} {ao : Option Addr} {c : Nat} {ns : List Nat} (h : OwnNats B w ao c ns) (hn : ns ≠ []) :
    ∃ g, B ≤ g ∧ ao = some ⟨g, 0, none⟩ ∧ (∃ cs, w.heap[g]? = some (.cells cs 3 (0, 0))) ∧ ∀ j, (hj : j < ns.length) → w.cell? ⟨g, j, none⟩ = some (.int .i64 (ns[j] : Nat)) := by
  have h' := h
  rcases h.2 with ⟨_, h0⟩ | ⟨g, cap, cur, hv, hB, hg, _⟩
  · exact absurd (List.eq_nil_of_length_eq_zero h0) hn
  · simp only [Value.slice.injEq, true_and] at hv
    obtain ⟨rfl, rfl⟩ := hv
    refine ⟨g, hB, rfl, ⟨cur, hg⟩, fun j hj => ?_⟩
    rw [World.ownsRow.cellAt h' j (by omega)]
    simp [natCells, hj]
theorem OwnNats.empty {B : Nat} {w : World} {ao : Option Addr} {c : Nat} (_ : OwnNats B w ao c []) : True := trivial

end Go.Proofs.Ytnmkccdcgmajgaa

namespace Go.Proofs.Ytnmkccdcgmajgaa
open Go.RowKit

theorem rdTimes_enc : ∀ (ns : List Nat) (t : List UInt8), (∀ n ∈ ns, n ≤ maxNum) → rdTimes rdNum ns.length (encAll ns ++ t) = .ok (ns, t)
  | [], t, _ => rfl
  | n :: ns, t, h => by
    have e : encAll (n :: ns) ++ t = enc n ++ (encAll ns ++ t) := by simp [encAll]
    rw [e, List.length_cons]
    unfold rdTimes
    rw [rdNum_enc (h n (by simp))]
    simp only
    rw [rdTimes_enc ns t (fun m hm => h m (by simp [hm]))]

theorem own_ints {B : Nat} {w : World} {ao : Option Addr} {c : Nat} {ns : List Nat} (h : OwnNats B w ao c ns) (hn : ns ≠ []) :
    ∃ g cs, B ≤ g ∧ ao = some ⟨g, 0, none⟩ ∧ w.heap[g]? = some (.cells cs 3 (0, 0)) ∧ IntsAt w g (intsOf ns) := by
  obtain ⟨g, hB, rfl, ⟨cs, hg⟩, hc⟩ := h.shape hn
  refine ⟨g, cs, hB, rfl, hg, fun j hj => ?_⟩
  have hj' : j < ns.length := by simpa [intsOf] using hj
  rw [hc j hj']
  simp [intsOf, List.getD_eq_getElem?_getD, hj']

theorem wNumbers_nil (p : Addr) (ao : Option Addr) (c : Nat) (w : World) :
    Calls Try.prog 157 #[.pointer (some p), .slice ao 0 c] w fun e w' => e = .returned (.tuple #[]) ∧ w' = w := by
  go_enter Try.func157, Try.ntmps157
  go_wp2
  refine wp_loop_rounds 1 ?_
  rw [rounds_succ]
  go_wp2
  go_end0
  exact ⟨rfl, rfl⟩

/-- Numbers written out of a row, whatever it is. -/
theorem wNumbers_own (b B c : Nat) (ao : Option Addr) (ns : List Nat) (l : List UInt8) (w : World) (h : WInv b w l) (ho : OwnNats B w ao c ns) (hb : ∀ g, ao = some ⟨g, 0, none⟩ → g ≠ b)
    (hn : ∀ n ∈ ns, n ≤ 1099511627775) (hnl : ns.length ≤ 10000000) (hl : l.length ≤ 100000000000) :
    Calls Try.prog 157 #[.pointer (some ⟨b, 0, none⟩), .slice ao ns.length c] w fun e w' => e = .returned (.tuple #[]) ∧ WInv b w' (l ++ encAll ns) ∧ Kept (Wr b) w w' := by
  by_cases hnil : ns = []
  · subst hnil
    refine (wNumbers_nil _ ao c w).mono ?_
    rintro e w' ⟨rfl, rfl⟩
    exact ⟨rfl, by simpa [encAll] using h, .refl _ _⟩
  · obtain ⟨g, cs, _, rfl, hg, hi⟩ := own_ints ho hnil
    exact wNumbers_any b g c cs _ ns l w h hg (hb g rfl) hi hn hnl hl

theorem own_ne {B c : Nat} {w : World} {ao : Option Addr} {ns : List Nat} {b : Nat} (ho : OwnNats B w ao c ns) (hb : w.heap.size ≤ b) : ∀ g, ao = some ⟨g, 0, none⟩ → g ≠ b := by
  intro g hg
  have := (ho.lt g (by rw [hg]; rfl)).2
  omega

theorem encAll_snoc (ns : List Nat) (n : Nat) : encAll (ns ++ [n]) = encAll ns ++ enc n := by simp [encAll]

theorem src_own {B c : Nat} {w : World} {ao : Option Addr} {ns : List Nat} (h : OwnNats B w ao c ns) : Src Try.prog 1 22 (.slice ao ns.length c) ns.length (natCells ns) w := by
  by_cases hn : ns = []
  · subst hn
    rcases h.2 with ⟨hv, _⟩ | ⟨g, cap, cur, hv, _⟩
    · simp only [List.length_nil, Value.slice.injEq, true_and] at hv
      obtain ⟨rfl, rfl⟩ := hv
      exact Src.ofNil w Try.underlying22 0
    · simp only [Value.slice.injEq, true_and] at hv
      obtain ⟨rfl, rfl⟩ := hv
      exact Src.ofSlice w Try.underlying22 _ 0 c [] rfl (fun j u hj => by simp at hj) (fun u hu => by cases hu)
  · obtain ⟨g, _, rfl, _, hc⟩ := h.shape hn
    refine Src.ofSlice w Try.underlying22 _ ns.length c (natCells ns) (by simp [natCells]) ?_ ?_
    · intro j u hj
      have hj' : j < ns.length := by
        have := (List.getElem?_eq_some_iff.1 hj).1
        simpa [natCells] using this
      have e : (⟨g, 0, none⟩ : Addr).add j = ⟨g, j, none⟩ := by unfold Addr.add; split <;> simp_all
      rw [e, hc j hj']
      simpa [natCells, hj'] using hj
    · intro u hu
      obtain ⟨_, _, rfl⟩ := List.mem_map.1 hu
      rfl

/-- What the law makes of any number. -/
def small (z : Int) : Nat := (z.tmod 1099511627776).natAbs
theorem small_le (z : Int) : small z ≤ 1099511627775 := by
  unfold small
  rw [Int.natAbs_tmod]
  have : z.natAbs % (1099511627776 : Int).natAbs < (1099511627776 : Int).natAbs := Nat.mod_lt _ (by decide)
  have e : (1099511627776 : Int).natAbs = 1099511627776 := by decide
  omega
theorem small_pos {z : Int} (h : ¬ z.tmod 1099511627776 < 0) : z.tmod 1099511627776 = (small z : Nat) := by unfold small; omega
theorem small_neg {z : Int} (h : z.tmod 1099511627776 < 0) : -z.tmod 1099511627776 = (small z : Nat) := by unfold small; omega

theorem known_nums : getNums 2 [172, 2, 0] = ([300, 0], 0) := by
  refine getNums_ok ?_
  have e : encAll [300, 0] ++ [] = [172, 2, 0] := by
    simp only [encAll, List.flatMap_cons, List.flatMap_nil, List.append_nil]
    rw [enc_big (by decide), enc_small (n := 300 / 128) (by decide), enc_small (n := 0) (by decide)]
    rfl
  rw [← e]
  exact rdTimes_enc [300, 0] [] (by decide)

end Go.Proofs.Ytnmkccdcgmajgaa

/-
  A configuration written: the writer's list and config, PutConfig; and the document's: the same bytes.
-/
namespace Go.Proofs.Ytnmkccdcgmajgaa
open Go.RowKit

theorem not_below {b B k : Nat} {o : Obj} (hB : B ≤ b) (hk : k < B) : ¬ Wr b k o := by
  rintro (e | ⟨h, _⟩) <;> omega

def encNums (ns : List Nat) : List UInt8 := enc ns.length ++ encAll ns

/-- A configuration's bytes. -/
def encCfg (v n l : List Nat) : List UInt8 := encNums v ++ encNums n ++ encNums l
/-- Numbers that are small, and few. -/
structure Few (ns : List Nat) : Prop where
  le : ∀ n ∈ ns, n ≤ 1099511627775
  len : ns.length ≤ 1000
theorem Few.enc {ns : List Nat} (h : Few ns) : (encNums ns).length ≤ 6006 := by
  have h1 := encAll_len ns h.le
  have h2 := enc_len6 (n := ns.length) (by have := h.len; omega)
  have h3 := h.len
  simp only [encNums, List.length_append]
  omega

theorem Kept.belowWr {w w' : World} {o1 o2 : Obj} (h : Kept (Wr (w.heap.size + 1)) ((w.alloc o1).alloc o2) w') : Kept Nil w w' :=
  Kept.ofNew (((Kept.refl _ _).alloc _).alloc _) h (by rintro k o (rfl | ⟨hk, _⟩) <;> omega)

/-! ### a configuration that may be has few nodes -/
theorem rise_facts : ∀ (zs : List Int) (p : Int), 0 ≤ p → rise p zs = true → (∀ z ∈ zs, 1 ≤ z ∧ z ≤ 9 ∧ p < z) ∧ (p ≤ 9 → (zs.length : Int) ≤ 9 - p)
  | [], p, _, _ => ⟨fun z hz => by simp at hz, fun h => by simp; omega⟩
  | y :: t, p, hp, h => by
    simp only [rise, Bool.and_eq_true, decide_eq_true_eq, isNd] at h
    obtain ⟨⟨⟨h1, h2⟩, h3⟩, h4⟩ := h
    have ih := rise_facts t y (by omega) h4
    refine ⟨fun z hz => ?_, fun _ => ?_⟩
    · rcases List.mem_cons.1 hz with rfl | hz
      · exact ⟨h1, h2, h3⟩
      · have := ih.1 z hz
        exact ⟨this.1, this.2.1, by omega⟩
    · have := ih.2 h2
      simp only [List.length_cons]
      omega
def natsOf (zs : List Int) : List Nat := zs.map Int.toNat
theorem ints_nats {zs : List Int} (h : ∀ z ∈ zs, 0 ≤ z) : intsOf (natsOf zs) = zs := by
  unfold intsOf natsOf
  rw [List.map_map]
  refine (List.map_congr_left (g := id) fun z hz => ?_).trans (List.map_id _)
  have := h z hz
  show ((z.toNat : Nat) : Int) = z
  omega
theorem rise_few {zs : List Int} (h : rise 0 zs = true) : intsOf (natsOf zs) = zs ∧ Few (natsOf zs) ∧ zs.length ≤ 9 := by
  have hf := rise_facts zs 0 (by omega) h
  have h9 := hf.2 (by omega)
  refine ⟨ints_nats fun z hz => by have := hf.1 z hz; omega, ⟨fun n hn => ?_, by simp [natsOf]; omega⟩, by omega⟩
  obtain ⟨z, hz, rfl⟩ := List.mem_map.1 hn
  have := hf.1 z hz
  omega
theorem isCfg_facts {v n l : List Int} (h : isCfg v n l = true) : rise 0 v = true ∧ rise 0 n = true ∧ rise 0 l = true := by
  simp only [isCfg, Bool.and_eq_true] at h
  exact ⟨h.1.1.1.2, h.1.1.2, h.1.2⟩
def putCfg (v n l : List Int) : List UInt8 × Int := if isCfg v n l then (encCfg (natsOf v) (natsOf n) (natsOf l), 0) else ([], 8)
theorem natsOf_len (zs : List Int) : (natsOf zs).length = zs.length := by simp [natsOf]

/-! ### the document's -/
end Go.Proofs.Ytnmkccdcgmajgaa

/-
  The document's reader over a whole record: it goes on behind an error; what it leaves, and what it answers where all was read.
-/
namespace Go.Proofs.Ytnmkccdcgmajgaa
open Go.RowKit

/-- The state behind a reading. -/
def stAfter {α : Type} (rd : List UInt8 → Except Int (α × List UInt8)) (st : Except Int (List UInt8)) : Except Int (List UInt8) :=
  match st with
  | .error c => .error c
  | .ok l =>
    match rd l with
    | .ok (_, t) => .ok t
    | .error c => .error c
/-- What is answered, where all was read. -/
def GoodV {α : Type} (rd : List UInt8 → Except Int (α × List UInt8)) (st : Except Int (List UInt8)) (y : α) : Prop := ∀ l, st = .ok l → ∀ z t, rd l = .ok (z, t) → y = z
theorem stAfter_run {α : Type} (rd : List UInt8 → Except Int (α × List UInt8)) (d : α) (st : Except Int (List UInt8)) : (stRun rd d st).2 = stAfter rd st := by
  cases st with
  | error c => rfl
  | ok l =>
    unfold stRun stAfter
    simp only
    cases rd l with
    | error c => rfl
    | ok x => rfl
theorem stAfter_then {α β : Type} (rd : List UInt8 → Except Int (α × List UInt8)) (f : α → List UInt8 → Except Int (β × List UInt8)) (d : α) (st : Except Int (List UInt8)) :
    stAfter (fun l => rdThen (rd l) f) st = stAfter (f (stRun rd d st).1) (stRun rd d st).2 := by
  cases st with
  | error c => rfl
  | ok l =>
    cases hr : rd l with
    | error c =>
      rw [stRun_no hr]
      simp only [stAfter, rdThen_no hr]
    | ok x =>
      obtain ⟨a, t⟩ := x
      rw [stRun_ok hr]
      simp only [stAfter, rdThen_ok hr]
theorem GoodV_then {α β : Type} (rd : List UInt8 → Except Int (α × List UInt8)) (f : α → List UInt8 → Except Int (β × List UInt8)) (d : α) (st : Except Int (List UInt8)) (y : β)
    (h : GoodV (f (stRun rd d st).1) (stRun rd d st).2 y) : GoodV (fun l => rdThen (rd l) f) st y := by
  intro l hl z t hz
  subst hl
  simp only at hz
  cases hr : rd l with
  | error c => rw [rdThen_no hr] at hz; cases hz
  | ok x =>
    obtain ⟨a, u⟩ := x
    rw [rdThen_ok hr] at hz
    rw [stRun_ok hr] at h
    exact h u rfl z t hz
theorem stAfter_end {α : Type} (ok : Bool) (x : α) (c : Int) (st : Except Int (List UInt8)) :
    stAfter (fun l => if ok then .ok (x, l) else .error c) st = if ok then st else stBad c st := by
  cases st with
  | error d => cases ok <;> rfl
  | ok l => cases ok <;> rfl
theorem GoodV_end {α : Type} (ok : Bool) (x : α) (c : Int) (st : Except Int (List UInt8)) : GoodV (fun l => if ok then .ok (x, l) else .error c) st x := by
  intro l _ z t hz
  cases ok with
  | true => simp only [if_true, Except.ok.injEq, Prod.mk.injEq] at hz; exact hz.1
  | false => simp at hz
theorem stAfter_all {α : Type} (x : α) (st : Except Int (List UInt8)) : stAfter (fun l => .ok (x, l)) st = st := by
  cases st <;> rfl
theorem GoodV_all {α : Type} (x : α) (st : Except Int (List UInt8)) : GoodV (fun l => .ok (x, l)) st x := by
  intro l _ z t hz
  simp only [Except.ok.injEq, Prod.mk.injEq] at hz
  exact hz.1
theorem GoodV_run {α : Type} (rd : List UInt8 → Except Int (α × List UInt8)) (d : α) (st : Except Int (List UInt8)) : GoodV rd st (stRun rd d st).1 := by
  intro l hl z t hz
  rw [hl, stRun_ok hz]
/-- A value that is good is as good as the one that was run to. -/
theorem GoodV.run {α : Type} {rd : List UInt8 → Except Int (α × List UInt8)} {st : Except Int (List UInt8)} {y : α} (h : GoodV rd st y) : stRun rd y st = (y, stAfter rd st) := by
  cases st with
  | error c => rfl
  | ok l =>
    cases hr : rd l with
    | error c => rw [stRun_no hr]; simp only [stAfter, hr]
    | ok x =>
      obtain ⟨a, t⟩ := x
      have := h l rfl a t hr
      subst this
      rw [stRun_ok hr]; simp only [stAfter, hr]

/-- Of all the bytes, as the document's faces have it: the value and the error. -/
def refAll {α : Type} (z : α) (x : α) (st : Except Int (List UInt8)) : α × Int := if stEnd st = 0 then (x, 0) else (z, stEnd st)
/-- Of all the bytes, as the program's faces have it. -/
def getAll {α : Type} (z : α) (r : Except Int (α × List UInt8)) : α × Int :=
  match r with
  | .ok (x, []) => (x, 0)
  | .ok (_, _ :: _) => (z, 1)
  | .error c => (z, c)
theorem getAll_err {α : Type} {z : α} {r : Except Int (α × List UInt8)} {c : Int} (h : r = .error c) : getAll z r = (z, c) := by rw [h]; rfl
theorem getAll_ok {α : Type} {z x : α} {r : Except Int (α × List UInt8)} (h : r = .ok (x, [])) : getAll z r = (x, 0) := by rw [h]; rfl
theorem getAll_left {α : Type} {z x : α} {r : Except Int (α × List UInt8)} {y : UInt8} {t : List UInt8} (h : r = .ok (x, y :: t)) : getAll z r = (z, 1) := by rw [h]; rfl
theorem refAll_eq {α : Type} (z x : α) (rd : List UInt8 → Except Int (α × List UInt8)) (l : List UInt8) (hg : GoodV rd (.ok l) x) (he : ∀ c, rd l = .error c → c ≠ 0) : refAll z x (stAfter rd (.ok l)) = getAll z (rd l) := by
  cases hr : rd l with
  | error c =>
    have e : stAfter rd (.ok l) = .error c := by simp only [stAfter, hr]
    rw [e]
    exact if_neg (he c hr)
  | ok y =>
    obtain ⟨a, t⟩ := y
    have e : stAfter rd (.ok l) = .ok t := by simp only [stAfter, hr]
    have := hg l rfl a t hr
    subst this
    rw [e]
    cases t with
    | nil => rfl
    | cons y t => rfl
/-- An error is never 0. -/
def NoZero {α : Type} (rd : List UInt8 → Except Int (α × List UInt8)) : Prop := ∀ l c, rd l = .error c → c ≠ 0
theorem NoZero.then {α β : Type} {rd : List UInt8 → Except Int (α × List UInt8)} {f : α → List UInt8 → Except Int (β × List UInt8)} (h : NoZero rd) (hf : ∀ a, NoZero (f a)) : NoZero (fun l => rdThen (rd l) f) := by
  intro l c hc
  simp only at hc
  cases hr : rd l with
  | error d => rw [rdThen_no hr] at hc; cases hc; exact h l c hr
  | ok x => obtain ⟨a, t⟩ := x; rw [rdThen_ok hr] at hc; exact hf a t c hc
theorem NoZero.end {α : Type} (ok : Bool) (x : α) (c : Int) (hc : c ≠ 0) : NoZero (fun l => if ok then .ok (x, l) else .error c) := by
  intro l d hd
  cases ok with
  | true => simp at hd
  | false => simp at hd; rw [← hd]; exact hc
theorem NoZero.all {α : Type} (x : α) : NoZero (fun l => .ok (x, l)) := by
  intro l d hd
  cases hd
theorem noZero_num : NoZero rdNum := fun _ _ h => rdNum_err h
theorem noZero_text (most : Nat) : NoZero (rdText most) := fun _ _ h => rdText_err h

/-- What a face hands out: the value and the error. -/
def GotPost {α : Type} (V : α → World → Value → Prop) (g : α × Int) (w : World) (e : Ending) (w' : World) : Prop := ∃ v, e = .returned (.tuple #[v, .int .i64 g.2]) ∧ V g.1 w' v ∧ Kept Nil w w'

end Go.Proofs.Ytnmkccdcgmajgaa

/-
  An entry read by the program's reader.
-/
namespace Go.Proofs.Ytnmkccdcgmajgaa
open Go.RowKit

def rdEntEnd (x : En) (l : List UInt8) : Except Int (En × List UInt8) := if x.ok then .ok (x, l) else .error 6
def rdEnt (l : List UInt8) : Except Int (En × List UInt8) :=
  rdThen (rdNum l) fun ix l => rdThen (rdNum l) fun tm l => rdThen (rdNum l) fun kd l => rdThen (rdText 256 l) fun dt l => rdEntEnd ⟨ix, tm, kd, dt⟩ l
def EnV : En → World → Value → Prop := fun x _ v => v = .agg #[.int .i64 x.ix, .int .i64 x.tm, .int .i64 x.kd, .string (bs x.dt)]

end Go.Proofs.Ytnmkccdcgmajgaa

/-
  An entry read by the document's reader.
-/
namespace Go.Proofs.Ytnmkccdcgmajgaa
open Go.RowKit

theorem stText_le (most : Nat) (st : Except Int (List UInt8)) : (stRun (rdText most) [] st).1.length ≤ most := by
  cases st with
  | error c => exact Nat.zero_le _
  | ok l =>
    cases hr : rdText most l with
    | error c => rw [stRun_no hr]; exact Nat.zero_le _
    | ok x => obtain ⟨a, t⟩ := x; rw [stRun_ok hr]; exact rdText_le hr
end Go.Proofs.Ytnmkccdcgmajgaa

/-
  Rows of nodes read: the program's nodes (a count, and so many numbers), and the document's numbers.
-/
namespace Go.Proofs.Ytnmkccdcgmajgaa
open Go.RowKit

theorem intsOf_len (ns : List Nat) : (intsOf ns).length = ns.length := by simp [intsOf]
theorem nats_row {B c : Nat} {w : World} {ao : Option Addr} {ns : List Nat} (h : OwnNats B w ao c ns) : IntRow w.heap.size w ao (intsOf ns) := by
  intro j hj
  have hj' : j < ns.length := by rwa [intsOf_len] at hj
  obtain ⟨g, _, rfl, ⟨cs, hg⟩, hc⟩ := h.shape (fun e => by subst e; simp at hj')
  refine ⟨⟨g, 0, none⟩, rfl, lt_of_block hg, ?_⟩
  have e : (⟨g, 0, none⟩ : Addr).add j = ⟨g, j, none⟩ := by unfold Addr.add; split <;> simp_all
  rw [e, hc j hj']
  simp [intsOf]

/-- A count, and so many numbers. -/
def rdNums (most : Nat) (l : List UInt8) : Except Int (List Nat × List UInt8) := rdThen (rdUpTo most l) fun n l => rdTimes rdNum n l

theorem natsV_mono {B B' : Nat} {ns : List Nat} {w : World} {v : Value} (h : NatsV B ns w v) (hb : B' ≤ B) : NatsV B' ns w v := by
  obtain ⟨ao, c, rfl, ho⟩ := h
  exact ⟨ao, c, rfl, own_mono ho hb⟩

/-! ### the document's -/
theorem rdUpTo_err {most : Nat} {l : List UInt8} {c : Int} (h : rdUpTo most l = .error c) : c ≠ 0 := by
  unfold rdUpTo at h
  cases hn : rdNum l with
  | error d => rw [hn] at h; simp only [Except.error.injEq] at h; subst h; exact rdNum_err hn
  | ok x =>
    obtain ⟨n, t⟩ := x
    rw [hn] at h
    simp only at h
    by_cases h1 : n ≤ most
    · rw [if_pos h1] at h; cases h
    · rw [if_neg h1] at h; cases h; decide
theorem rdTimes_err {α : Type} {rd : List UInt8 → Except Int (α × List UInt8)} (hz : NoZero rd) : ∀ n, NoZero (rdTimes rd n)
  | 0 => fun l c h => by cases h
  | n + 1 => fun l c h => by
    unfold rdTimes at h
    cases hr : rd l with
    | error d => rw [hr] at h; cases h; exact hz l c hr
    | ok x =>
      obtain ⟨a, t⟩ := x
      rw [hr] at h
      simp only at h
      cases h2 : rdTimes rd n t with
      | error d => rw [h2] at h; cases h; exact rdTimes_err hz n t c h2
      | ok y => obtain ⟨xs, u⟩ := y; rw [h2] at h; cases h
theorem noZero_nums (most : Nat) : NoZero (rdNums most) := NoZero.then (rd := rdUpTo most) (fun _ _ h => rdUpTo_err h) (fun n => rdTimes_err noZero_num n)

theorem stUpTo_le (most : Nat) (st : Except Int (List UInt8)) : (stRun (rdUpTo most) 0 st).1 ≤ most := by
  cases st with
  | error c => exact Nat.zero_le _
  | ok l =>
    cases hr : rdUpTo most l with
    | error c => rw [stRun_no hr]; exact Nat.zero_le _
    | ok x => obtain ⟨a, t⟩ := x; rw [stRun_ok hr]; exact (rdUpTo_ok hr).1
/-- The first error, as the reader holds it. -/
def stErr (st : Except Int (List UInt8)) : Int := match st with | .ok _ => 0 | .error c => c
theorem stRun_zero (most : Nat) (st : Except Int (List UInt8)) {c : Int} (h : (stRun (rdUpTo most) 0 st).2 = .error c) : (stRun (rdUpTo most) 0 st).1 = 0 := by
  cases st with
  | error d => rfl
  | ok l =>
    cases hr : rdUpTo most l with
    | error d => rw [stRun_no hr]
    | ok x => obtain ⟨a, t⟩ := x; rw [stRun_ok hr] at h; cases h

/-- How far a reading of so many has come. -/
def Come {α : Type} (rd : List UInt8 → Except Int (α × List UInt8)) (n k : Nat) (s0 : Except Int (List UInt8)) (xs : List α) (st : Except Int (List UInt8)) : Prop :=
  ∀ t, s0 = .ok t → match st with | .ok u => rdTimes rd n t = preT xs (rdTimes rd (n - k) u) | .error e => rdTimes rd n t = .error e
theorem Come.step {α : Type} {rd : List UInt8 → Except Int (α × List UInt8)} {n k : Nat} {s0 : Except Int (List UInt8)} {xs : List α} {u : List UInt8} {a : α} {s2 : Except Int (List UInt8)} (h : Come rd n k s0 xs (.ok u)) (hk : k < n) (hg : GoodV rd (.ok u) a) (hs : s2 = stAfter rd (.ok u)) :
    Come rd n (k + 1) s0 (xs ++ [a]) s2 := by
  subst hs
  intro t ht
  have h1 := h t ht
  simp only at h1
  rw [show n - k = (n - (k + 1)) + 1 by omega] at h1
  cases hr : rd u with
  | error e =>
    have e1 : stAfter rd (.ok u) = .error e := by simp only [stAfter, hr]
    rw [e1]
    exact h1.trans (rdTimes_no hr)
  | ok x =>
    obtain ⟨y, v⟩ := x
    have e1 : stAfter rd (.ok u) = .ok v := by simp only [stAfter, hr]
    rw [e1]
    have := hg u rfl y v hr
    subst this
    exact h1.trans (rdTimes_more hr)
theorem Come.done {α : Type} {rd : List UInt8 → Except Int (α × List UInt8)} {most n k : Nat} {st s0 s1 : Except Int (List UInt8)} {xs : List α} (h : Come rd n k s0 xs s1) (hr : stRun (rdUpTo most) 0 st = (n, s0)) (hs : ∀ c, s0 = .error c → s1 = .error c) (hk : ∀ u, s1 = .ok u → k = n) :
    stAfter (fun l => rdThen (rdUpTo most l) fun n l => rdTimes rd n l) st = s1 ∧ GoodV (fun l => rdThen (rdUpTo most l) fun n l => rdTimes rd n l) st xs := by
  have e1 : stAfter (rdTimes rd n) s0 = s1 := by
    cases s0 with
    | error c => rw [hs c rfl]; rfl
    | ok t =>
      have h1 := h t rfl
      cases s1 with
      | error e => simp only at h1; simp only [stAfter, h1]
      | ok u =>
        simp only [hk u rfl, Nat.sub_self, rdTimes, preT, List.append_nil] at h1
        simp only [stAfter, h1]
  have e2 : GoodV (rdTimes rd n) s0 xs := by
    intro t ht z u hz
    have h1 := h t ht
    cases s1 with
    | error e => simp only at h1; rw [h1] at hz; cases hz
    | ok v =>
      simp only [hk v rfl, Nat.sub_self, rdTimes, preT, List.append_nil] at h1
      rw [h1] at hz
      simp only [Except.ok.injEq, Prod.mk.injEq] at hz
      exact hz.1
  constructor
  · refine (stAfter_then (rdUpTo most) _ 0 st).trans ?_
    rw [hr]
    exact e1
  · refine GoodV_then (rdUpTo most) _ 0 st _ ?_
    rw [hr]
    exact e2

end Go.Proofs.Ytnmkccdcgmajgaa

/-
  A configuration read by the program's reader.
-/
namespace Go.Proofs.Ytnmkccdcgmajgaa
open Go.RowKit

/-- A configuration, plainly: its three rows. -/
structure Cf where
  v : List Nat
  n : List Nat
  l : List Nat
def Cf.ok (c : Cf) : Bool := isCfg (intsOf c.v) (intsOf c.n) (intsOf c.l)
def rdCfgEnd (c : Cf) (l : List UInt8) : Except Int (Cf × List UInt8) := if c.ok then .ok (c, l) else .error 8
def rdCfg (l : List UInt8) : Except Int (Cf × List UInt8) := rdThen (rdNums 9 l) fun v l => rdThen (rdNums 9 l) fun n l => rdThen (rdNums 9 l) fun ls l => rdCfgEnd ⟨v, n, ls⟩ l
/-- A configuration whose rows are its own, behind block B. -/
def CfV (B : Nat) : Cf → World → Value → Prop := fun c w v => ∃ a1 a2 a3 c1 c2 c3, v = .agg #[.slice a1 c.v.length c1, .slice a2 c.n.length c2, .slice a3 c.l.length c3] ∧ OwnNats B w a1 c1 c.v ∧ OwnNats B w a2 c2 c.n ∧ OwnNats B w a3 c3 c.l

theorem rdNums_len {most : Nat} {l t : List UInt8} {ns : List Nat} (h : rdNums most l = .ok (ns, t)) : ns.length ≤ most := by
  unfold rdNums at h
  cases r1 : rdUpTo most l with
  | error c => rw [rdThen_no r1] at h; cases h
  | ok x =>
    obtain ⟨n, l1⟩ := x
    rw [rdThen_ok r1] at h
    rw [rdTimes_len h]
    exact (rdUpTo_ok r1).1
theorem validN_any (c1 c2 c3 : Nat) (a1 a2 a3 : Option Addr) (v n l : List Nat) (w : World) (h : CfRows w.heap.size w a1 a2 a3 (intsOf v) (intsOf n) (intsOf l)) (h1 : v.length ≤ 9223372036854775807) (h2 : n.length ≤ 9223372036854775807) (h3 : l.length ≤ 9223372036854775807) :
    Calls Try.prog 22 #[.agg #[.slice a1 v.length c1, .slice a2 n.length c2, .slice a3 l.length c3]] w fun e w' => e = .returned (.bool (Cf.ok ⟨v, n, l⟩)) ∧ Kept Nil w w' := by
  have H := valid_any w.heap.size c1 c2 c3 a1 a2 a3 (intsOf v) (intsOf n) (intsOf l) w h (by rw [intsOf_len]; omega) (by rw [intsOf_len]; omega) (by rw [intsOf_len]; omega)
  rw [intsOf_len, intsOf_len, intsOf_len] at H
  exact H
theorem refIsConfigN_any (c1 c2 c3 : Nat) (a1 a2 a3 : Option Addr) (v n l : List Nat) (w : World) (h : CfRows w.heap.size w a1 a2 a3 (intsOf v) (intsOf n) (intsOf l)) (h1 : v.length ≤ 9223372036854775807) (h2 : n.length ≤ 9223372036854775807) (h3 : l.length ≤ 9223372036854775807) :
    Calls Try.prog 23 #[.agg #[.slice a1 v.length c1, .slice a2 n.length c2, .slice a3 l.length c3]] w fun e w' => e = .returned (.bool (Cf.ok ⟨v, n, l⟩)) ∧ Kept Nil w w' := by
  have H := refIsConfig_any w.heap.size c1 c2 c3 a1 a2 a3 (intsOf v) (intsOf n) (intsOf l) w h (by rw [intsOf_len]; omega) (by rw [intsOf_len]; omega) (by rw [intsOf_len]; omega)
  rw [intsOf_len, intsOf_len, intsOf_len] at H
  exact H
theorem own_len {B c : Nat} {w : World} {ao : Option Addr} {ns : List Nat} (h : OwnNats B w ao c ns) : ns.length ≤ 9223372036854775807 := by
  rcases h.2 with ⟨_, h0⟩ | ⟨g, cap, cur, _, _, _, h1, h2, _⟩
  · omega
  · unfold maxLen at h2; omega
theorem cf_rows {B c1 c2 c3 : Nat} {w : World} {a1 a2 a3 : Option Addr} {v n l : List Nat} (h1 : OwnNats B w a1 c1 v) (h2 : OwnNats B w a2 c2 n) (h3 : OwnNats B w a3 c3 l) : CfRows w.heap.size w a1 a2 a3 (intsOf v) (intsOf n) (intsOf l) := ⟨nats_row h1, nats_row h2, nats_row h3⟩

end Go.Proofs.Ytnmkccdcgmajgaa

/-
  What the law makes of bits: nodes, and a configuration of them: rising lists of nodes, the learners none of the voters.
-/
namespace Go.Proofs.Ytnmkccdcgmajgaa
open Go.RowKit

/-- Nodes, rising. -/
structure Nodes (ns : List Nat) : Prop where
  up : ns.Pairwise (· < ·)
  le : ∀ n ∈ ns, 1 ≤ n ∧ n ≤ 9
theorem rise_of {ns : List Nat} : ∀ (p : Int), ns.Pairwise (· < ·) → (∀ n ∈ ns, 1 ≤ n ∧ n ≤ 9 ∧ p < n) → rise p (intsOf ns) = true := by
  induction ns with
  | nil => intro p _ _; rfl
  | cons n ns ih =>
    intro p hp hn
    have h1 := hn n (by simp)
    have h2 := List.pairwise_cons.1 hp
    show (isNd (n : Int) && decide (p < (n : Int)) && rise (n : Int) (intsOf ns)) = true
    have h3 := ih (n : Int) h2.2 (fun m hm => by
      have a := h2.1 m hm
      have b := hn m (by simp [hm])
      exact ⟨b.1, b.2.1, by omega⟩)
    rw [h3, Bool.and_true, Bool.and_eq_true]
    refine ⟨?_, decide_eq_true h1.2.2⟩
    unfold isNd
    rw [decide_eq_true (by omega), decide_eq_true (by omega)]
    rfl
theorem Nodes.rise {ns : List Nat} (h : Nodes ns) : rise 0 (intsOf ns) = true := rise_of 0 h.up (fun n hn => by have := h.le n hn; omega)
theorem Nodes.snoc {ns : List Nat} {k : Nat} (h : Nodes ns) (hk : ∀ n ∈ ns, n < k) (h1 : 1 ≤ k) (h9 : k ≤ 9) : Nodes (ns ++ [k]) := by
  refine ⟨List.pairwise_append.2 ⟨h.up, List.pairwise_singleton _ _, fun a ha b hb => ?_⟩, fun n hn => ?_⟩
  · rw [List.mem_singleton.1 hb]; exact hk a ha
  · rcases List.mem_append.1 hn with hn | hn
    · exact h.le n hn
    · rw [List.mem_singleton.1 hn]; omega
theorem Nodes.nil : Nodes [] := ⟨List.Pairwise.nil, fun n hn => by simp at hn⟩
theorem Nodes.few {ns : List Nat} (h : Nodes ns) : ns.length ≤ 9 := by
  have := rise_few h.rise
  simpa [intsOf_len] using this.2.2

/-- What is handed out: nodes in a row of their own. -/
def NodesPost (w : World) (e : Ending) (w' : World) : Prop := ∃ ns ao c, e = .returned (.slice ao ns.length c) ∧ OwnNats w.heap.size w' ao c ns ∧ Nodes ns ∧ Kept Nil w w'

set_option maxRecDepth 100000 in
set_option maxHeartbeats 2000000 in
theorem nodes_any (z : Int) (w : World) : Calls Try.prog 36 #[.int .i64 z] w (NodesPost w) := by
  obtain ⟨i0, hi, hz0, hz1, hz2⟩ := info_parts Try.infoInt
  go_enter Try.func36, Try.ntmps36
  go_wp2
  go_loopw [3, 4] (fun v i wr => ∃ k : Nat, ∃ ns : List Nat, ∃ ao c, 1 ≤ k ∧ k ≤ 10 ∧ i = .int .i64 k ∧ v = .slice ao ns.length c ∧ Hid (OwnNats w.heap.size wr ao c ns) ∧ Hid (Nodes ns ∧ ∀ n ∈ ns, n < k) ∧ Hid (Kept Nil w wr)) (fun _ i _ => 10 - (intOf i).toNat)
  case atStart => exact ⟨1, [], none, 0, by omega, by omega, rfl, rfl, World.ownsRow_nil _ _ _ _, ⟨Nodes.nil, fun n hn => by simp at hn⟩, Kept.refl _ _⟩
  case round =>
    obtain ⟨k, ns, ao, c, hk1, hk10, rfl, rfl, HO, HN, HK⟩ := hrel
    by_cases h9 : k ≤ 9
    · have HLL : Hid (ns.length + 1 ≤ maxLen ∧ (ns.length + 1) * 8 ≤ 140737488355328) := by
        have := HN.out.1.few
        constructor
        · unfold maxLen; omega
        · omega
      have ho : wr.ownsRow w.heap.size 3 1 (.slice ao ns.length c) ns.length (natCells ns) := HO.out
      have HM : Hid (∀ n ∈ ns, n < k + 1) := fun n hn => by have := HN.out.2 n hn; omega
      have HS : Hid (Nodes (ns ++ [k])) := HN.out.1.snoc HN.out.2 hk1 h9
      go_wp2_with fail
      refine (pick_any _ 2 _ (by decide) (by decide)).mono ?_
      rintro e w1 ⟨rfl, rfl⟩
      go_wp2_with (first | (at_builtin; go_must (refine wpList_append_src _ rfl _ _ 22 22 rfl w.heap.size 3 i0 (.int .i64 0) 1 8 Try.underlying22 hi hz0 hz1 hz2 rfl _ _ _ rfl (ho.alloc _) (.slice (some ⟨w1.heap.size, 0, none⟩) 1 1) 1 [.int .i64 k] rfl (src_int _) HLL.out.1 HLL.out.2 (le_alloc HK.out.size _) ?_); intro ao' c' w2 ho' hg'; have HK2 : Hid (Kept Nil w w2) := (HK.out.alloc _).grown hg' (own_row ho); clear hg'))
      · go_roundw
        case rel => exact ⟨k + 1, ns ++ [k], ao', c', by omega, by omega, by go_num, by rw [List.length_append]; rfl, OwnNats.push ho', ⟨HS.out, fun n hn => by rcases List.mem_append.1 hn with hn | hn; exact HM.out n hn; rw [List.mem_singleton.1 hn]; omega⟩, HK2.out⟩
        case measure => simp [intOf]; omega
      · go_roundw
        case rel => exact ⟨k + 1, ns, ao, c, by omega, by omega, by go_num, rfl, HO.out, ⟨HN.out.1, HM.out⟩, HK.out⟩
        case measure => simp [intOf]; omega
    · go_wp2
      go_ret
      exact ⟨ns, ao, c, rfl, HO.out, HN.out.1, HK.out⟩

set_option maxRecDepth 100000 in
set_option maxHeartbeats 1000000 in
theorem keepHas_any (B cap : Nat) (ao : Option Addr) (zs : List Int) (z : Int) (w : World) (h : IntRow B w ao zs) (hl : (zs.length : Int) ≤ 9223372036854775807) :
    Calls Try.prog 39 #[.slice ao zs.length cap, .int .i64 z] w fun e w' => e = .returned (.bool (hasZ zs z)) ∧ w' = w := by
  have HR : Hid (IntRow B w ao zs) := h
  have HP : Hid (decide (0 ≤ pos z 0 zs) = hasZ zs z) := rfl
  clear h
  go_enter Try.func39, Try.ntmps39
  go_wp2
  go_loop [5] (fun i => ∃ k : Nat, k ≤ zs.length ∧ i = .int .i64 k ∧ Hid (pos z 0 zs = pos z k (zs.drop k))) (fun i => zs.length - (intOf i).toNat)
  case atStart => exact ⟨0, Nat.zero_le _, rfl, rfl⟩
  case round =>
    obtain ⟨k, hk, rfl, HI⟩ := hrel
    by_cases hlt : k < zs.length
    · obtain ⟨a, rfl, _, hcell⟩ := HR.out k hlt
      by_cases hz : zs[k] = z
      · have HF : Hid (hasZ zs z = true) := by show hasZ zs z = true; rw [← HP.out, HI.out, (pos_at hlt).trans (if_pos hz)]; simp
        rw [hz] at hcell
        clear hz HI HP
        go_wp2
        go_ret
        rw [HF.out]
        exact ⟨rfl, rfl⟩
      · have HF : Hid (pos z 0 zs = pos z (k + 1) (zs.drop (k + 1))) := HI.out.trans ((pos_at hlt).trans (if_neg hz))
        have hz2 : (zs[k] == z) = false := by simp; exact hz
        generalize zs[k] = y at *
        clear hz HI
        go_wp2
        go_round
        case rel => exact ⟨k + 1, by omega, by go_num, HF⟩
        case measure => simp [intOf]; omega
    · have HF : Hid (hasZ zs z = false) := by show hasZ zs z = false; rw [← HP.out, HI.out, List.drop_of_length_le (by omega)]; rfl
      go_wp2
      go_ret
      rw [HF.out]
      exact ⟨rfl, rfl⟩

end Go.Proofs.Ytnmkccdcgmajgaa

/-
  The law's configuration of bits: one that may be.
-/
namespace Go.Proofs.Ytnmkccdcgmajgaa
open Go.RowKit

theorem own_set {B : Nat} {w : World} {ao : Option Addr} {c : Nat} {ns : List Nat} (h : OwnNats B w ao c ns) {a : Addr} (ha : a.block < B) (u : Value) : OwnNats B (w.setCell a u) ao c ns := ownsRow_setCell_below h ha u
def offOf (v : List Nat) (k : Nat) (ls : List Nat) : List Nat := (ls.take k).filter fun z => !hasZ (intsOf v) (z : Int)
theorem offOf_more {v ls : List Nat} {k : Nat} (h : k < ls.length) (hz : hasZ (intsOf v) (ls[k] : Nat) = false) : offOf v (k + 1) ls = offOf v k ls ++ [ls[k]] := by
  unfold offOf
  rw [List.take_succ_eq_append_getElem h, List.filter_append]
  simp [hz]
theorem offOf_same {v ls : List Nat} {k : Nat} (h : k < ls.length) (hz : hasZ (intsOf v) (ls[k] : Nat) = true) : offOf v (k + 1) ls = offOf v k ls := by
  unfold offOf
  rw [List.take_succ_eq_append_getElem h, List.filter_append]
  simp [hz]
theorem offOf_len (v : List Nat) (k : Nat) (ls : List Nat) : (offOf v k ls).length ≤ ls.length := by
  unfold offOf
  exact Nat.le_trans (List.length_filter_le _ _) (by simp; omega)
theorem off_cfg {v ls : List Nat} (hv : Nodes v) (hne : v ≠ []) (hl : Nodes ls) : Cf.ok ⟨v, [], offOf v ls.length ls⟩ = true := by
  have e : offOf v ls.length ls = ls.filter (fun (z : Nat) => !hasZ (intsOf v) (z : Int)) := by unfold offOf; rw [List.take_of_length_le (Nat.le_refl _)]
  have hn : Nodes (offOf v ls.length ls) := by
    rw [e]
    exact ⟨hl.up.filter _, fun n hn => hl.le n (List.mem_filter.1 hn).1⟩
  show isCfg (intsOf v) (intsOf []) (intsOf (offOf v ls.length ls)) = true
  rw [isCfg_eq, hv.rise, hn.rise]
  have h1 : (intsOf v).isEmpty = false := by
    cases v with
    | nil => exact absurd rfl hne
    | cons a t => rfl
  have h2 : anyV (intsOf v) (intsOf []) (intsOf (offOf v ls.length ls)) = false := by
    unfold anyV
    rw [List.any_eq_false]
    intro z hz
    obtain ⟨n, hn2, rfl⟩ := List.mem_map.1 hz
    rw [e] at hn2
    have := (List.mem_filter.1 hn2).2
    simp only [vot, Bool.not_eq_true', Bool.or_eq_true] at this ⊢
    rw [this]
    intro h
    rcases h with h | h
    · cases h
    · simp [hasZ, pos, intsOf] at h
  rw [h1, h2]
  rfl

/-- What is handed out: a configuration that may be, its rows its own. -/
def CfgPost (w : World) (e : Ending) (w' : World) : Prop := ∃ c : Cf, ∃ v, e = .returned v ∧ CfV w.heap.size c w' v ∧ c.ok = true ∧ Nodes c.v ∧ c.n = [] ∧ Nodes c.l ∧ Kept Nil w w'

set_option maxRecDepth 100000 in
set_option maxHeartbeats 4000000 in
theorem configOf_any (z1 z2 : Int) (w : World) : Calls Try.prog 34 #[.int .i64 z1, .int .i64 z2] w (CfgPost w) := by
  obtain ⟨i0, hi, hz0, hz1, hz2⟩ := info_parts Try.infoInt
  have HR0 : Hid (_) := blk_new w (.cells #[.slice none 0 0, .slice none 0 0, .slice none 0 0] 24)
  go_enter Try.func34, Try.ntmps34
  go_wp2_with fail
  refine (nodes_any z1 _).mono ?_
  rintro e w1 ⟨vs, a1, c1, rfl, o1, n1, k1⟩
  have HR1 : Hid (w1.heap[w.heap.size]? = some (.cells #[.slice none 0 0, .slice none 0 0, .slice none 0 0] 24 (0, 0))) := k1.block _ _ HR0.out (fun x => x.elim)
  have HK1 : Hid (Kept Nil w w1) := ((Kept.refl _ _).alloc _).trans k1
  have HB1 : Hid (w.heap.size < w1.heap.size) := lt_of_block HR1.out
  by_cases hne : vs = []
  · subst hne
    have HNV : Hid (Nodes [1]) := ⟨List.pairwise_singleton _ _, by simp⟩
    have es : (w1.alloc (.cells #[.slice (some ⟨w1.heap.size + 1, 0, none⟩) 1 1, .slice none 0 0, .slice none 0 0] 24)).heap.size = w1.heap.size + 1 := by simp
    have HCB : Hid (((w1.alloc (.cells #[.slice (some ⟨w1.heap.size + 1, 0, none⟩) 1 1, .slice none 0 0, .slice none 0 0] 24)).alloc (.cells #[.int .i64 1] 3)).heap[w1.heap.size]? = some (.cells #[.slice (some ⟨w1.heap.size + 1, 0, none⟩) 1 1, .slice none 0 0, .slice none 0 0] 24 (0, 0))) := blk_past (blk_new w1 _) _
    have HRB : Hid (_) := blk_past (blk_past HR1.out (.cells #[.slice (some ⟨w1.heap.size + 1, 0, none⟩) 1 1, .slice none 0 0, .slice none 0 0] 24)) (.cells #[.int .i64 1] 3)
    have HOB : Hid (OwnNats (w.heap.size + 1) ((w1.alloc (.cells #[.slice (some ⟨w1.heap.size + 1, 0, none⟩) 1 1, .slice none 0 0, .slice none 0 0] 24)).alloc (.cells #[.int .i64 1] 3)) (some ⟨w1.heap.size + 1, 0, none⟩) 1 [1]) := by
      have := World.ownsRow_lit (base := w.heap.size + 1) (e := 3) (size := 1) (w1.alloc (.cells #[.slice (some ⟨w1.heap.size + 1, 0, none⟩) 1 1, .slice none 0 0, .slice none 0 0] 24)) #[.int .i64 1] 1 (by have := HB1.out; rw [es]; omega) (by decide) rfl
      rw [es] at this
      exact this
    have HKB : Hid (Kept Nil w ((w1.alloc (.cells #[.slice (some ⟨w1.heap.size + 1, 0, none⟩) 1 1, .slice none 0 0, .slice none 0 0] 24)).alloc (.cells #[.int .i64 1] 3))) := (HK1.out.alloc _).alloc _
    have HVN : Hid (∀ g, (Value.slice (some ⟨w1.heap.size + 1, 0, none⟩) 1 1).ownBlock = some g → g ≠ w1.heap.size) := fun g hg => by simp [Value.ownBlock] at hg; omega
    clear o1 n1 es
    go_wp2_with fail
    refine (nodes_any z2 _).mono ?_
    rintro e w2 ⟨ls, a3, c3, rfl, o3, n3, k2⟩
    have HC2 : Hid (w2.heap[w1.heap.size]? = some (.cells #[.slice (some ⟨w1.heap.size + 1, 0, none⟩) 1 1, .slice none 0 0, .slice none 0 0] 24 (0, 0))) := k2.block _ _ HCB.out (fun x => x.elim)
    have HR2 : Hid (w2.heap[w.heap.size]? = some (.cells #[.slice none 0 0, .slice none 0 0, .slice none 0 0] 24 (0, 0))) := k2.block _ _ HRB.out (fun x => x.elim)
    have HO2 : Hid (OwnNats (w.heap.size + 1) w2 ((some ⟨w1.heap.size + 1, 0, none⟩)) 1 [1]) := own_kept HOB.out k2 (fun _ _ _ x => x.elim)
    have HL2 : Hid (OwnNats (w1.heap.size + 1) w2 a3 c3 ls) := own_mono o3 (by simp)
    have HK2 : Hid (Kept Nil w w2) := HKB.out.trans k2
    have HB2 : Hid (w1.heap.size < w2.heap.size) := lt_of_block HC2.out
    have HVB : Hid (∀ g, (Value.slice ((some ⟨w1.heap.size + 1, 0, none⟩)) ([1]).length 1).ownBlock = some g → g < w2.heap.size ∧ g ≠ w1.heap.size) := fun g hg => ⟨(HO2.out.lt g hg).2, HVN.out g hg⟩
    have HLB : Hid (∀ g, (Value.slice a3 ls.length c3).ownBlock = some g → g < w2.heap.size ∧ g ≠ w1.heap.size) := fun g hg => ⟨(HL2.out.lt g hg).2, by have := (HL2.out.lt g hg).1; omega⟩
    have HNL : Hid (Nodes ls) := n3
    have hl9 : (ls.length : Int) ≤ 9 := by have := n3.few; omega
    clear k2 o3 n3
    go_wp2
    go_loopw [7] (fun i wr => ∃ k : Nat, ∃ aL cL, k ≤ ls.length ∧ i = .int .i64 k ∧ Hid (wr.heap[w1.heap.size]? = some (.cells #[.slice (some ⟨w1.heap.size + 1, 0, none⟩) 1 1, .slice none 0 0, .slice aL (offOf [1] k ls).length cL] 24 (0, 0))) ∧ Hid (wr.heap[w.heap.size]? = some (.cells #[.slice none 0 0, .slice none 0 0, .slice none 0 0] 24 (0, 0))) ∧ Hid (OwnNats w2.heap.size wr aL cL (offOf [1] k ls)) ∧ Hid (OwnNats (w.heap.size + 1) wr ((some ⟨w1.heap.size + 1, 0, none⟩)) 1 [1]) ∧ Hid (OwnNats (w1.heap.size + 1) wr a3 c3 ls) ∧ Hid (Kept Nil w wr) ∧ w2.heap.size ≤ wr.heap.size) (fun i _ => ls.length - (intOf i).toNat)
    case atStart => exact ⟨0, none, 0, Nat.zero_le _, rfl, HC2.out, HR2.out, World.ownsRow_nil _ _ _ _, HO2.out, HL2.out, HK2.out, Nat.le_refl _⟩
    case round =>
      obtain ⟨k, aL, cL, hk, rfl, HC, HR, HOL, HO, HL, HK, hsz⟩ := hrel
      clear HC2 HR2 HO2 HL2 HK2
      by_cases hlt : k < ls.length
      · obtain ⟨g3, _, rfl, _, hc3⟩ := HL.out.shape (fun e => by subst e; simp at hlt)
        have hcell := hc3 k hlt
        have q0 : wr.cell? ⟨w1.heap.size, 0, none⟩ = some (.slice (some ⟨w1.heap.size + 1, 0, none⟩) 1 1) := blk_cell HC.out 0
        have Q := fun m => keepHas_any _ 1 ((some ⟨w1.heap.size + 1, 0, none⟩)) (intsOf ([1])) (ls[k] : Nat) (wr.drewN m) ((nats_row HO.out).nil ((Kept.refl _ _).drewN _)) (by rw [intsOf_len]; have := HNV.out.few; omega)
        simp only [intsOf_len] at Q
        have hki : (k : Int) < ls.length := by omega
        have hmore := @offOf_more ([1]) ls k hlt
        have hsame := @offOf_same ([1]) ls k hlt
        clear hc3
        generalize ls[k] = y at *
        generalize hasZ (intsOf ([1])) (y : Int) = d at Q hmore hsame
        have HMORE : Hid (d = false → offOf ([1]) (k + 1) ls = offOf ([1]) k ls ++ [y]) := hmore
        have HSAME : Hid (d = true → offOf ([1]) (k + 1) ls = offOf ([1]) k ls) := hsame
        clear hmore hsame
        go_wp2
        go_quiet (first | (go_at_call 39; exact Calls.quiet_of_same (Q _)))
        generalize hwd : wr.drewN _ = wd
        have HKd : Hid (Kept Nil wr wd) := by rw [← hwd]; exact (Kept.refl _ _).drewN _
        have hcd : wd.cell? ⟨g3, k, none⟩ = some (.int .i64 y) := by rw [← hwd]; exact hcell
        clear hwd Q q0 hcell
        cases d with
        | true =>
          have HT : Hid (offOf ([1]) (k + 1) ls = offOf ([1]) k ls) := HSAME.out rfl
          clear HSAME HMORE
          go_wp2
          go_roundw
          case rel => exact ⟨k + 1, aL, cL, by omega, by go_num, by show wd.heap[w1.heap.size]? = _; rw [HT.out]; exact HKd.out.block _ _ HC.out (fun x => x.elim), HKd.out.block _ _ HR.out (fun x => x.elim), by show OwnNats _ _ _ _ _; rw [HT.out]; exact own_kept HOL.out HKd.out (fun _ _ _ x => x.elim), own_kept HO.out HKd.out (fun _ _ _ x => x.elim), own_kept HL.out HKd.out (fun _ _ _ x => x.elim), HK.out.trans HKd.out, Nat.le_trans hsz HKd.out.size⟩
          case measure => simp [intOf]; omega
        | false =>
          have HT : Hid (offOf ([1]) (k + 1) ls = offOf ([1]) k ls ++ [y]) := HMORE.out rfl
          clear HSAME HMORE
          have HCd := HKd.out.block _ _ HC.out (fun x => x.elim)
          have q2 : wd.cell? ⟨w1.heap.size, 2, none⟩ = some (.slice aL (offOf ([1]) k ls).length cL) := blk_cell HCd 2
          have f2 : wd.frozen? ⟨w1.heap.size, 2, none⟩ = false := blk_free HCd 2
          have hltd : w1.heap.size < wd.heap.size := lt_of_block HCd
          have hlg : g3 < wd.heap.size := cell_lt hcd
          have ho : wd.ownsRow w2.heap.size 3 1 (.slice aL (offOf ([1]) k ls).length cL) (offOf ([1]) k ls).length (natCells (offOf ([1]) k ls)) := own_kept HOL.out HKd.out (fun _ _ _ x => x.elim)
          have HLL : Hid ((offOf ([1]) k ls).length + 1 ≤ maxLen ∧ ((offOf ([1]) k ls).length + 1) * 8 ≤ 140737488355328) := by
            have := offOf_len ([1]) k ls
            constructor
            · unfold maxLen; omega
            · omega
          have hszd : w2.heap.size ≤ wd.heap.size := Nat.le_trans hsz HKd.out.size
          go_wp2
          go_region_law (refine step_append_src _ rfl (.tmp 36) (.tmp 41) 22 22 rfl w2.heap.size 3 i0 (.int .i64 0) 1 8 Try.underlying22 hi hz0 hz1 hz2 rfl (.slice aL (offOf ([1]) k ls).length cL) (offOf ([1]) k ls).length (natCells (offOf ([1]) k ls)) (by simp [Act.eval]) (World.ownsRow.alloc (w := wd.drew) ho _) (.slice (some ⟨wd.heap.size, 0, none⟩) 1 1) 1 [.int .i64 y] (by simp [Act.eval]) (src_int (w := wd.drew) y) HLL.out.1 HLL.out.2 (le_alloc (w := wd.drew) hszd _) ?_; intro ao' c' w4 ho' hg'; have HO4 : Hid _ := ho'; have hb4 := hg'.block w1.heap.size (by simp; omega) (fun e => by have := (ho.lt _ e.symm).1; have := HB2.out; omega); have HC4 : Hid (w4.heap[w1.heap.size]? = some (.cells #[.slice (some ⟨w1.heap.size + 1, 0, none⟩) 1 1, .slice none 0 0, .slice aL (offOf ([1]) k ls).length cL] 24 (0, 0))) := hb4.trans (blk_past (w := wd.drew) HCd _); have q4 : w4.cell? ⟨w1.heap.size, 2, none⟩ = some (.slice aL (offOf ([1]) k ls).length cL) := blk_cell HC4.out 2; have f4 : w4.frozen? ⟨w1.heap.size, 2, none⟩ = false := blk_free HC4.out 2; have HG4 : Hid _ := hg'; clear ho' hg' hb4)
          all_goals go_wp2
          all_goals
            have e4 : (Value.slice aL (offOf ([1]) k ls).length cL).ownBlock = none ∨ ∃ g, (Value.slice aL (offOf ([1]) k ls).length cL).ownBlock = some g ∧ w2.heap.size ≤ g := by
              cases hq : (Value.slice aL (offOf ([1]) k ls).length cL).ownBlock with
              | none => exact .inl rfl
              | some g => exact .inr ⟨g, rfl, (ho.lt g hq).1⟩
            have hrow : ∀ g, (Value.slice aL (offOf ([1]) k ls).length cL).ownBlock = some g → w2.heap.size ≤ g := fun g hq => (ho.lt g hq).1
            have HRd : Hid (w4.heap[w.heap.size]? = some (.cells #[.slice none 0 0, .slice none 0 0, .slice none 0 0] 24 (0, 0))) := (HG4.out.block w.heap.size (by have := HB1.out; simp; omega) (fun e => by have := hrow _ e.symm; have := HB1.out; have := HB2.out; omega)).trans (blk_past (w := wd.drew) (HKd.out.block _ _ HR.out (fun x => x.elim)) _)
            have HOd : Hid (OwnNats (w.heap.size + 1) w4 ((some ⟨w1.heap.size + 1, 0, none⟩)) 1 ([1])) := World.ownsRow.kept (World.ownsRow.alloc (w := wd.drew) (own_kept HO.out HKd.out.drew (fun _ _ _ x => x.elim)) _) HG4.out (by
              cases hq : (Value.slice ((some ⟨w1.heap.size + 1, 0, none⟩)) ([1]).length 1).ownBlock with
              | none => exact .inl rfl
              | some g => exact .inr (fun e => by have := hrow g e.symm; have := (HVB.out g hq).1; omega))
            have HLd : Hid (OwnNats (w1.heap.size + 1) w4 (some ⟨g3, 0, none⟩) c3 ls) := World.ownsRow.kept (World.ownsRow.alloc (w := wd.drew) (own_kept HL.out HKd.out.drew (fun _ _ _ x => x.elim)) _) HG4.out (.inr (fun e => by have := hrow g3 e.symm; have := (HLB.out g3 rfl).1; omega))
            have HKw : Hid (Kept Nil w w4) := (((HK.out.trans HKd.out).drew).alloc _).grown HG4.out (fun g hq => by have := hrow g hq; have := HB1.out; have := HB2.out; omega)
            have hsz4 : w2.heap.size ≤ w4.heap.size := by have := HG4.out.size; simp at this; omega
          all_goals go_roundw
          all_goals first | (simp [intOf]; omega) | exact ⟨k + 1, ao', c', by omega, by go_num, by show _ = _; rw [HT.out, List.length_append]; exact blk_set HC4.out 2 _, blk_other HRd.out (show w.heap.size ≠ w1.heap.size by have := HB1.out; omega) _, by show OwnNats _ _ _ _ _; rw [HT.out]; exact own_set (OwnNats.push HO4.out) (show w1.heap.size < w2.heap.size from HB2.out) _, ownsRow_setCell_other HOd.out (fun e => (HVB.out _ e).2 rfl) _, own_set HLd.out (show w1.heap.size < w1.heap.size + 1 by omega) _, HKw.out.setNew (show w.heap.size ≤ w1.heap.size by have := HB1.out; omega) _, by simp [World.setCell]; exact hsz4⟩
      · obtain rfl : k = ls.length := by omega
        have HOK : Hid (Cf.ok ⟨[1], [], offOf ([1]) ls.length ls⟩ = true) := off_cfg HNV.out (by simp) HNL.out
        have HNO : Hid (Nodes (offOf ([1]) ls.length ls)) := ⟨(HNL.out.up.sublist (List.take_sublist _ _)).filter _, fun n hn => HNL.out.le n (List.mem_of_mem_take (List.mem_filter.1 hn).1)⟩
        have p0 : wr.cell? ⟨w1.heap.size, 0, none⟩ = some (.slice (some ⟨w1.heap.size + 1, 0, none⟩) 1 1) := blk_cell HC.out 0
        have p1 : wr.cell? ⟨w1.heap.size, 1, none⟩ = some (.slice none 0 0) := blk_cell HC.out 1
        have p2 : wr.cell? ⟨w1.heap.size, 2, none⟩ = some (.slice aL (offOf ([1]) ls.length ls).length cL) := blk_cell HC.out 2
        have r0 : wr.cell? ⟨w.heap.size, 0, none⟩ = some (.slice none 0 0) := blk_cell HR.out 0
        have r1 : wr.cell? ⟨w.heap.size, 1, none⟩ = some (.slice none 0 0) := blk_cell HR.out 1
        have r2 : wr.cell? ⟨w.heap.size, 2, none⟩ = some (.slice none 0 0) := blk_cell HR.out 2
        have f0 := blk_free HR.out 0
        have f1 := blk_free HR.out 1
        have f2 := blk_free HR.out 2
        have hB0 : w.heap.size < w.heap.size + 1 := by omega
        have hB2 : w.heap.size < w2.heap.size := by have := HB1.out; have := HB2.out; omega
        go_wp2
        refine bodyPost_ret (v := .agg #[.slice (some ⟨w1.heap.size + 1, 0, none⟩) 1 1, .slice none 0 0, .slice aL (offOf ([1]) ls.length ls).length cL]) (by simp [results, Try.results34, go_sem, r0, r1, r2]) rfl ?_
        exact ⟨⟨[1], [], offOf ([1]) ls.length ls⟩, _, rfl, ⟨(some ⟨w1.heap.size + 1, 0, none⟩), none, aL, 1, 0, cL, rfl, own_mono (own_set (own_set (own_set HO.out hB0 _) hB0 _) hB0 _) (Nat.le_succ _), World.ownsRow_nil _ _ _ _, own_mono (own_set (own_set (own_set HOL.out hB2 _) hB2 _) hB2 _) (Nat.le_of_lt hB2)⟩, HOK.out, HNV.out, rfl, HNO.out, ((HK.out.setNew (Nat.le_refl _) _).setNew (Nat.le_refl _) _).setNew (Nat.le_refl _) _⟩
  · have hne2 : ((vs.length : Int) == 0) = false := by simpa using hne
    have HNV : Hid (Nodes vs) := n1
    have HCB : Hid (_) := blk_new w1 (.cells #[.slice a1 vs.length c1, .slice none 0 0, .slice none 0 0] 24)
    have HRB : Hid (_) := blk_past HR1.out (.cells #[.slice a1 vs.length c1, .slice none 0 0, .slice none 0 0] 24)
    have HOB : Hid (OwnNats (w.heap.size + 1) (w1.alloc (.cells #[.slice a1 vs.length c1, .slice none 0 0, .slice none 0 0] 24)) a1 c1 vs) := World.ownsRow.alloc (own_mono o1 (by simp)) _
    have HKB : Hid (Kept Nil w (w1.alloc (.cells #[.slice a1 vs.length c1, .slice none 0 0, .slice none 0 0] 24))) := HK1.out.alloc _
    have HVN : Hid (∀ g, (Value.slice a1 vs.length c1).ownBlock = some g → g ≠ w1.heap.size) := fun g hg => by have := (o1.lt g hg).2; omega
    clear o1 n1
    go_wp2_with fail
    refine (nodes_any z2 _).mono ?_
    rintro e w2 ⟨ls, a3, c3, rfl, o3, n3, k2⟩
    have HC2 : Hid (w2.heap[w1.heap.size]? = some (.cells #[.slice a1 vs.length c1, .slice none 0 0, .slice none 0 0] 24 (0, 0))) := k2.block _ _ HCB.out (fun x => x.elim)
    have HR2 : Hid (w2.heap[w.heap.size]? = some (.cells #[.slice none 0 0, .slice none 0 0, .slice none 0 0] 24 (0, 0))) := k2.block _ _ HRB.out (fun x => x.elim)
    have HO2 : Hid (OwnNats (w.heap.size + 1) w2 (a1) c1 vs) := own_kept HOB.out k2 (fun _ _ _ x => x.elim)
    have HL2 : Hid (OwnNats (w1.heap.size + 1) w2 a3 c3 ls) := own_mono o3 (by simp)
    have HK2 : Hid (Kept Nil w w2) := HKB.out.trans k2
    have HB2 : Hid (w1.heap.size < w2.heap.size) := lt_of_block HC2.out
    have HVB : Hid (∀ g, (Value.slice (a1) (vs).length c1).ownBlock = some g → g < w2.heap.size ∧ g ≠ w1.heap.size) := fun g hg => ⟨(HO2.out.lt g hg).2, HVN.out g hg⟩
    have HLB : Hid (∀ g, (Value.slice a3 ls.length c3).ownBlock = some g → g < w2.heap.size ∧ g ≠ w1.heap.size) := fun g hg => ⟨(HL2.out.lt g hg).2, by have := (HL2.out.lt g hg).1; omega⟩
    have HNL : Hid (Nodes ls) := n3
    have hl9 : (ls.length : Int) ≤ 9 := by have := n3.few; omega
    clear k2 o3 n3
    go_wp2
    go_loopw [7] (fun i wr => ∃ k : Nat, ∃ aL cL, k ≤ ls.length ∧ i = .int .i64 k ∧ Hid (wr.heap[w1.heap.size]? = some (.cells #[.slice a1 vs.length c1, .slice none 0 0, .slice aL (offOf vs k ls).length cL] 24 (0, 0))) ∧ Hid (wr.heap[w.heap.size]? = some (.cells #[.slice none 0 0, .slice none 0 0, .slice none 0 0] 24 (0, 0))) ∧ Hid (OwnNats w2.heap.size wr aL cL (offOf vs k ls)) ∧ Hid (OwnNats (w.heap.size + 1) wr (a1) c1 vs) ∧ Hid (OwnNats (w1.heap.size + 1) wr a3 c3 ls) ∧ Hid (Kept Nil w wr) ∧ w2.heap.size ≤ wr.heap.size) (fun i _ => ls.length - (intOf i).toNat)
    case atStart => exact ⟨0, none, 0, Nat.zero_le _, rfl, HC2.out, HR2.out, World.ownsRow_nil _ _ _ _, HO2.out, HL2.out, HK2.out, Nat.le_refl _⟩
    case round =>
      obtain ⟨k, aL, cL, hk, rfl, HC, HR, HOL, HO, HL, HK, hsz⟩ := hrel
      clear HC2 HR2 HO2 HL2 HK2
      by_cases hlt : k < ls.length
      · obtain ⟨g3, _, rfl, _, hc3⟩ := HL.out.shape (fun e => by subst e; simp at hlt)
        have hcell := hc3 k hlt
        have q0 : wr.cell? ⟨w1.heap.size, 0, none⟩ = some (.slice a1 vs.length c1) := blk_cell HC.out 0
        have Q := fun m => keepHas_any _ c1 (a1) (intsOf (vs)) (ls[k] : Nat) (wr.drewN m) ((nats_row HO.out).nil ((Kept.refl _ _).drewN _)) (by rw [intsOf_len]; have := HNV.out.few; omega)
        simp only [intsOf_len] at Q
        have hki : (k : Int) < ls.length := by omega
        have hmore := @offOf_more (vs) ls k hlt
        have hsame := @offOf_same (vs) ls k hlt
        clear hc3
        generalize ls[k] = y at *
        generalize hasZ (intsOf (vs)) (y : Int) = d at Q hmore hsame
        have HMORE : Hid (d = false → offOf (vs) (k + 1) ls = offOf (vs) k ls ++ [y]) := hmore
        have HSAME : Hid (d = true → offOf (vs) (k + 1) ls = offOf (vs) k ls) := hsame
        clear hmore hsame
        go_wp2
        go_quiet (first | (go_at_call 39; exact Calls.quiet_of_same (Q _)))
        generalize hwd : wr.drewN _ = wd
        have HKd : Hid (Kept Nil wr wd) := by rw [← hwd]; exact (Kept.refl _ _).drewN _
        have hcd : wd.cell? ⟨g3, k, none⟩ = some (.int .i64 y) := by rw [← hwd]; exact hcell
        clear hwd Q q0 hcell
        cases d with
        | true =>
          have HT : Hid (offOf (vs) (k + 1) ls = offOf (vs) k ls) := HSAME.out rfl
          clear HSAME HMORE
          go_wp2
          go_roundw
          case rel => exact ⟨k + 1, aL, cL, by omega, by go_num, by show wd.heap[w1.heap.size]? = _; rw [HT.out]; exact HKd.out.block _ _ HC.out (fun x => x.elim), HKd.out.block _ _ HR.out (fun x => x.elim), by show OwnNats _ _ _ _ _; rw [HT.out]; exact own_kept HOL.out HKd.out (fun _ _ _ x => x.elim), own_kept HO.out HKd.out (fun _ _ _ x => x.elim), own_kept HL.out HKd.out (fun _ _ _ x => x.elim), HK.out.trans HKd.out, Nat.le_trans hsz HKd.out.size⟩
          case measure => simp [intOf]; omega
        | false =>
          have HT : Hid (offOf (vs) (k + 1) ls = offOf (vs) k ls ++ [y]) := HMORE.out rfl
          clear HSAME HMORE
          have HCd := HKd.out.block _ _ HC.out (fun x => x.elim)
          have q2 : wd.cell? ⟨w1.heap.size, 2, none⟩ = some (.slice aL (offOf (vs) k ls).length cL) := blk_cell HCd 2
          have f2 : wd.frozen? ⟨w1.heap.size, 2, none⟩ = false := blk_free HCd 2
          have hltd : w1.heap.size < wd.heap.size := lt_of_block HCd
          have hlg : g3 < wd.heap.size := cell_lt hcd
          have ho : wd.ownsRow w2.heap.size 3 1 (.slice aL (offOf (vs) k ls).length cL) (offOf (vs) k ls).length (natCells (offOf (vs) k ls)) := own_kept HOL.out HKd.out (fun _ _ _ x => x.elim)
          have HLL : Hid ((offOf (vs) k ls).length + 1 ≤ maxLen ∧ ((offOf (vs) k ls).length + 1) * 8 ≤ 140737488355328) := by
            have := offOf_len (vs) k ls
            constructor
            · unfold maxLen; omega
            · omega
          have hszd : w2.heap.size ≤ wd.heap.size := Nat.le_trans hsz HKd.out.size
          go_wp2
          go_region_law (refine step_append_src _ rfl (.tmp 36) (.tmp 41) 22 22 rfl w2.heap.size 3 i0 (.int .i64 0) 1 8 Try.underlying22 hi hz0 hz1 hz2 rfl (.slice aL (offOf (vs) k ls).length cL) (offOf (vs) k ls).length (natCells (offOf (vs) k ls)) (by simp [Act.eval]) (World.ownsRow.alloc (w := wd.drew) ho _) (.slice (some ⟨wd.heap.size, 0, none⟩) 1 1) 1 [.int .i64 y] (by simp [Act.eval]) (src_int (w := wd.drew) y) HLL.out.1 HLL.out.2 (le_alloc (w := wd.drew) hszd _) ?_; intro ao' c' w4 ho' hg'; have HO4 : Hid _ := ho'; have hb4 := hg'.block w1.heap.size (by simp; omega) (fun e => by have := (ho.lt _ e.symm).1; have := HB2.out; omega); have HC4 : Hid (w4.heap[w1.heap.size]? = some (.cells #[.slice a1 vs.length c1, .slice none 0 0, .slice aL (offOf (vs) k ls).length cL] 24 (0, 0))) := hb4.trans (blk_past (w := wd.drew) HCd _); have q4 : w4.cell? ⟨w1.heap.size, 2, none⟩ = some (.slice aL (offOf (vs) k ls).length cL) := blk_cell HC4.out 2; have f4 : w4.frozen? ⟨w1.heap.size, 2, none⟩ = false := blk_free HC4.out 2; have HG4 : Hid _ := hg'; clear ho' hg' hb4)
          all_goals go_wp2
          all_goals
            have e4 : (Value.slice aL (offOf (vs) k ls).length cL).ownBlock = none ∨ ∃ g, (Value.slice aL (offOf (vs) k ls).length cL).ownBlock = some g ∧ w2.heap.size ≤ g := by
              cases hq : (Value.slice aL (offOf (vs) k ls).length cL).ownBlock with
              | none => exact .inl rfl
              | some g => exact .inr ⟨g, rfl, (ho.lt g hq).1⟩
            have hrow : ∀ g, (Value.slice aL (offOf (vs) k ls).length cL).ownBlock = some g → w2.heap.size ≤ g := fun g hq => (ho.lt g hq).1
            have HRd : Hid (w4.heap[w.heap.size]? = some (.cells #[.slice none 0 0, .slice none 0 0, .slice none 0 0] 24 (0, 0))) := (HG4.out.block w.heap.size (by have := HB1.out; simp; omega) (fun e => by have := hrow _ e.symm; have := HB1.out; have := HB2.out; omega)).trans (blk_past (w := wd.drew) (HKd.out.block _ _ HR.out (fun x => x.elim)) _)
            have HOd : Hid (OwnNats (w.heap.size + 1) w4 (a1) c1 (vs)) := World.ownsRow.kept (World.ownsRow.alloc (w := wd.drew) (own_kept HO.out HKd.out.drew (fun _ _ _ x => x.elim)) _) HG4.out (by
              cases hq : (Value.slice (a1) (vs).length c1).ownBlock with
              | none => exact .inl rfl
              | some g => exact .inr (fun e => by have := hrow g e.symm; have := (HVB.out g hq).1; omega))
            have HLd : Hid (OwnNats (w1.heap.size + 1) w4 (some ⟨g3, 0, none⟩) c3 ls) := World.ownsRow.kept (World.ownsRow.alloc (w := wd.drew) (own_kept HL.out HKd.out.drew (fun _ _ _ x => x.elim)) _) HG4.out (.inr (fun e => by have := hrow g3 e.symm; have := (HLB.out g3 rfl).1; omega))
            have HKw : Hid (Kept Nil w w4) := (((HK.out.trans HKd.out).drew).alloc _).grown HG4.out (fun g hq => by have := hrow g hq; have := HB1.out; have := HB2.out; omega)
            have hsz4 : w2.heap.size ≤ w4.heap.size := by have := HG4.out.size; simp at this; omega
          all_goals go_roundw
          all_goals first | (simp [intOf]; omega) | exact ⟨k + 1, ao', c', by omega, by go_num, by show _ = _; rw [HT.out, List.length_append]; exact blk_set HC4.out 2 _, blk_other HRd.out (show w.heap.size ≠ w1.heap.size by have := HB1.out; omega) _, by show OwnNats _ _ _ _ _; rw [HT.out]; exact own_set (OwnNats.push HO4.out) (show w1.heap.size < w2.heap.size from HB2.out) _, ownsRow_setCell_other HOd.out (fun e => (HVB.out _ e).2 rfl) _, own_set HLd.out (show w1.heap.size < w1.heap.size + 1 by omega) _, HKw.out.setNew (show w.heap.size ≤ w1.heap.size by have := HB1.out; omega) _, by simp [World.setCell]; exact hsz4⟩
      · obtain rfl : k = ls.length := by omega
        have HOK : Hid (Cf.ok ⟨vs, [], offOf (vs) ls.length ls⟩ = true) := off_cfg HNV.out hne HNL.out
        have HNO : Hid (Nodes (offOf (vs) ls.length ls)) := ⟨(HNL.out.up.sublist (List.take_sublist _ _)).filter _, fun n hn => HNL.out.le n (List.mem_of_mem_take (List.mem_filter.1 hn).1)⟩
        have p0 : wr.cell? ⟨w1.heap.size, 0, none⟩ = some (.slice a1 vs.length c1) := blk_cell HC.out 0
        have p1 : wr.cell? ⟨w1.heap.size, 1, none⟩ = some (.slice none 0 0) := blk_cell HC.out 1
        have p2 : wr.cell? ⟨w1.heap.size, 2, none⟩ = some (.slice aL (offOf (vs) ls.length ls).length cL) := blk_cell HC.out 2
        have r0 : wr.cell? ⟨w.heap.size, 0, none⟩ = some (.slice none 0 0) := blk_cell HR.out 0
        have r1 : wr.cell? ⟨w.heap.size, 1, none⟩ = some (.slice none 0 0) := blk_cell HR.out 1
        have r2 : wr.cell? ⟨w.heap.size, 2, none⟩ = some (.slice none 0 0) := blk_cell HR.out 2
        have f0 := blk_free HR.out 0
        have f1 := blk_free HR.out 1
        have f2 := blk_free HR.out 2
        have hB0 : w.heap.size < w.heap.size + 1 := by omega
        have hB2 : w.heap.size < w2.heap.size := by have := HB1.out; have := HB2.out; omega
        go_wp2
        refine bodyPost_ret (v := .agg #[.slice a1 vs.length c1, .slice none 0 0, .slice aL (offOf (vs) ls.length ls).length cL]) (by simp [results, Try.results34, go_sem, r0, r1, r2]) rfl ?_
        exact ⟨⟨vs, [], offOf (vs) ls.length ls⟩, _, rfl, ⟨a1, none, aL, c1, 0, cL, rfl, own_mono (own_set (own_set (own_set HO.out hB0 _) hB0 _) hB0 _) (Nat.le_succ _), World.ownsRow_nil _ _ _ _, own_mono (own_set (own_set (own_set HOL.out hB2 _) hB2 _) hB2 _) (Nat.le_of_lt hB2)⟩, HOK.out, HNV.out, rfl, HNO.out, ((HK.out.setNew (Nat.le_refl _) _).setNew (Nat.le_refl _) _).setNew (Nat.le_refl _) _⟩

end Go.Proofs.Ytnmkccdcgmajgaa

/-
  The document's Slice and Compact of a log that may be.
-/
namespace Go.Proofs.Ytnmkccdcgmajgaa
open Go.RowKit

theorem grown_oldB {wa w' : World} {B n s : Nat} {e : TypeId} {v : Value} {xs : List Value} {k : Nat} {o : Obj} (hg : wa.grownBy w' v.ownBlock) (ho : wa.ownsRow B e s v n xs) (hk : k < B) (hb : wa.heap[k]? = some o) : w'.heap[k]? = some o := by
  rw [hg.block k (lt_of_block hb) (fun e => by have := own_row ho k e.symm; omega)]
  exact hb
theorem takeDrop_more {es : List En} {q k : Nat} (h : k < es.length) (hq : q ≤ k) : (es.take (k + 1)).drop q = (es.take k).drop q ++ [⟨es[k].ix, es[k].tm, es[k].kd, es[k].dt⟩] := by
  rw [List.take_succ_eq_append_getElem h, List.drop_append_of_le_length (by rw [List.length_take]; omega)]
theorem takeDrop_same {es : List En} {q k : Nat} (hq : k < q) : (es.take (k + 1)).drop q = (es.take k).drop q := by
  rw [List.drop_eq_nil_of_le (by rw [List.length_take]; omega), List.drop_eq_nil_of_le (by rw [List.length_take]; omega)]

end Go.Proofs.Ytnmkccdcgmajgaa
