/-
  Joined: WBase, WEnc, WApp, WWrite, WCrc, WSum, WRef, WFrame1, WNum, WRead, WFrame2, WCatch, WFrame3, WGen.
-/
import Derived.WalkKit
import Derived.WalkLawsBesides
import Derived.WalkSpells
import Derived.Below
import Derived.OneCell
import Derived.Test.YtijklginabipgaaProg
import Derived.Outline
import Derived.Laws.BitsAllLaws
import Derived.Laws.BytesArg
import Derived.Deep.AppendSrc
import Derived.Laws.CopyRow
import Derived.OwnWalk
import Derived.Deep.DeepMust
import Derived.Laws.IdiomStrings
import Derived.Recover
import Derived.Defers
import Derived.BigQuiet
/-
  The plain mathematics of the wire format, in which the two readers and the two writers are told alike: bytes as lists, a number read byte by byte, a text, and what a call leaves of the memory that was there.
-/
namespace Go.Proofs.Ytijklginabipgaa
open Go.RowKit

theorem ret_int {k : IntKind} {a b : Int} (h : a = b) : Ending.returned (.int k a) = .returned (.int k b) := by rw [h]

/-! ### bytes as a list -/

def bs (l : List UInt8) : ByteArray := ⟨l.toArray⟩
theorem bs_size (l : List UInt8) : (bs l).size = l.length := by simp [bs, ByteArray.size]
theorem bs_take (l : List UInt8) (n : Nat) : (bs l).extract 0 n = bs (l.take n) := by
  apply ByteArray.ext; simp [bs]
theorem bs_drop (l : List UInt8) (n : Nat) : (bs l).extract n (bs l).size = bs (l.drop n) := by
  apply ByteArray.ext; simp [bs, ByteArray.size]; exact List.take_of_length_le (by simp)
theorem bs_append (a b : List UInt8) : bs a ++ bs b = bs (a ++ b) := by
  apply ByteArray.ext; simp [bs]
theorem bs_self (s : ByteArray) : bs s.data.toList = s := by
  apply ByteArray.ext; simp [bs]
theorem bs_at (l : List UInt8) (i : Nat) (h : i < (bs l).size) : (bs l)[i]'h = l[i]'(by rw [← bs_size]; exact h) := by
  simp [bs, ByteArray.getElem_eq_getElem_data]
theorem bs_data (l : List UInt8) : (bs l).data.toList = l := by simp [bs]
theorem bs_toList (l : List UInt8) : (bs l).toList = l := by rw [Go.ByteArray.toList_eq, bs_data]
theorem bs_inj {a b : List UInt8} (h : bs a = bs b) : a = b := by
  have := congrArg (fun s => s.data.toList) h
  simpa [bs] using this

/-! ### a number -/

def maxNum : Nat := 1099511627775

/-- A number's bytes from the k-th on, x what the bytes ahead of it say: the number and what is left; or the error. -/
def numGo : Nat → Nat → List UInt8 → Except Int (Nat × List UInt8)
  | _, _, [] => .error 3
  | k, x, c :: t =>
    if k ≤ 5 ∧ x + c.toNat % 128 * 2 ^ (7 * k) ≤ maxNum ∧ (c.toNat ≠ 0 ∨ k = 0) then
      if c.toNat < 128 then .ok (x + c.toNat % 128 * 2 ^ (7 * k), t) else numGo (k + 1) (x + c.toNat % 128 * 2 ^ (7 * k)) t
    else .error 1

def rdNum (l : List UInt8) : Except Int (Nat × List UInt8) := numGo 0 0 l

theorem numGo_nil (k x : Nat) : numGo k x [] = .error 3 := rfl
theorem numGo_bad {k x : Nat} {c : UInt8} {t : List UInt8} (h : ¬ (k ≤ 5 ∧ x + c.toNat % 128 * 2 ^ (7 * k) ≤ maxNum ∧ (c.toNat ≠ 0 ∨ k = 0))) : numGo k x (c :: t) = .error 1 := by
  rw [numGo, if_neg h]
theorem numGo_end {k x : Nat} {c : UInt8} {t : List UInt8} (h : k ≤ 5 ∧ x + c.toNat % 128 * 2 ^ (7 * k) ≤ maxNum ∧ (c.toNat ≠ 0 ∨ k = 0)) (h2 : c.toNat < 128) : numGo k x (c :: t) = .ok (x + c.toNat % 128 * 2 ^ (7 * k), t) := by
  rw [numGo, if_pos h, if_pos h2]
theorem numGo_more {k x : Nat} {c : UInt8} {t : List UInt8} (h : k ≤ 5 ∧ x + c.toNat % 128 * 2 ^ (7 * k) ≤ maxNum ∧ (c.toNat ≠ 0 ∨ k = 0)) (h2 : ¬ c.toNat < 128) : numGo k x (c :: t) = numGo (k + 1) (x + c.toNat % 128 * 2 ^ (7 * k)) t := by
  rw [numGo, if_pos h, if_neg h2]

theorem numGo_ok {l : List UInt8} : ∀ {k x n : Nat} {t : List UInt8}, numGo k x l = .ok (n, t) → n ≤ maxNum ∧ t.length < l.length := by
  induction l with
  | nil => intro k x n t h; simp [numGo] at h
  | cons c l ih =>
    intro k x n t h
    by_cases h1 : k ≤ 5 ∧ x + c.toNat % 128 * 2 ^ (7 * k) ≤ maxNum ∧ (c.toNat ≠ 0 ∨ k = 0)
    · by_cases h2 : c.toNat < 128
      · rw [numGo_end h1 h2] at h
        simp only [Except.ok.injEq, Prod.mk.injEq] at h
        obtain ⟨rfl, rfl⟩ := h
        exact ⟨h1.2.1, by simp⟩
      · rw [numGo_more h1 h2] at h
        have := ih h
        exact ⟨this.1, by simp; omega⟩
    · rw [numGo_bad h1] at h; simp at h

theorem rdNum_ok {l t : List UInt8} {n : Nat} (h : rdNum l = .ok (n, t)) : n ≤ maxNum ∧ t.length < l.length := numGo_ok h

/-- A number that is a length or a count. -/
def rdUpTo (most : Nat) (l : List UInt8) : Except Int (Nat × List UInt8) :=
  match rdNum l with
  | .ok (n, t) => if n ≤ most then .ok (n, t) else .error 4
  | .error c => .error c
def rdTake (n : Nat) (l : List UInt8) : Except Int (List UInt8 × List UInt8) :=
  if n ≤ l.length then .ok (l.take n, l.drop n) else .error 3
/-- A text of at most so many bytes. -/
def rdText (most : Nat) (l : List UInt8) : Except Int (List UInt8 × List UInt8) :=
  match rdUpTo most l with
  | .ok (n, t) => rdTake n t
  | .error c => .error c

theorem rdUpTo_ok {most n : Nat} {l t : List UInt8} (h : rdUpTo most l = .ok (n, t)) : n ≤ most ∧ n ≤ maxNum ∧ t.length < l.length := by
  unfold rdUpTo at h
  split at h
  · rename_i m u hr
    have := rdNum_ok hr
    split at h
    · simp only [Except.ok.injEq, Prod.mk.injEq] at h
      obtain ⟨rfl, rfl⟩ := h
      exact ⟨by assumption, this⟩
    · cases h
  · cases h

theorem pow7 (k : Nat) (h : k ≤ 6) : 2 ^ (7 * k) ≤ 4398046511104 := by
  have h1 : 2 ^ (7 * k) ≤ 2 ^ 42 := Nat.pow_le_pow_right (by omega) (by omega)
  have h2 : 2 ^ 42 = 4398046511104 := by decide
  omega

/-- The step of both readers: the next seven bits. -/
theorem step_lt {k x y : Nat} (hx : x < 2 ^ (7 * k)) (hy : y < 128) : x + y * 2 ^ (7 * k) < 2 ^ (7 * (k + 1)) := by
  have : 2 ^ (7 * (k + 1)) = 128 * 2 ^ (7 * k) := by rw [Nat.mul_add, Nat.pow_add]; omega
  rw [this]
  have : (y + 1) * 2 ^ (7 * k) ≤ 128 * 2 ^ (7 * k) := Nat.mul_le_mul_right _ (by omega)
  rw [Nat.add_mul] at this
  omega

theorem or_add {k x y : Nat} (hx : x < 2 ^ (7 * k)) : x ||| y * 2 ^ (7 * k) = x + y * 2 ^ (7 * k) := by
  rw [Nat.or_comm, ← Nat.shiftLeft_eq, ← Nat.shiftLeft_add_eq_or_of_lt hx, Nat.add_comm]

/-! ### what a call leaves of memory -/

/-- Of the blocks that were there those that 'X' doesn't name are as they were. -/
structure Kept (X : Nat → Obj → Prop) (w w' : World) : Prop where
  os : w'.os = w.os
  tape : w'.tape = w.tape
  output : w'.output = w.output
  size : w.heap.size ≤ w'.heap.size
  block : ∀ k o, w.heap[k]? = some o → ¬ X k o → w'.heap[k]? = some o

theorem Kept.refl (X : Nat → Obj → Prop) (w : World) : Kept X w w := ⟨rfl, rfl, rfl, Nat.le_refl _, fun _ _ h _ => h⟩
theorem Kept.trans {X : Nat → Obj → Prop} {a b c : World} (h : Kept X a b) (k : Kept X b c) : Kept X a c :=
  ⟨k.os.trans h.os, k.tape.trans h.tape, k.output.trans h.output, Nat.le_trans h.size k.size, fun i o ho hx => k.block i o (h.block i o ho hx) hx⟩
theorem Kept.mono {X Y : Nat → Obj → Prop} {a b : World} (h : Kept X a b) (hXY : ∀ k o, X k o → Y k o) : Kept Y a b :=
  ⟨h.os, h.tape, h.output, h.size, fun i o ho hx => h.block i o ho (fun x => hx (hXY _ _ x))⟩
theorem Kept.drew {X : Nat → Obj → Prop} {a w : World} (h : Kept X a w) : Kept X a w.drew := ⟨h.os, h.tape, h.output, h.size, h.block⟩
theorem Kept.alloc {X : Nat → Obj → Prop} {a w : World} (h : Kept X a w) (o : Obj) : Kept X a (w.alloc o) :=
  h.trans ⟨rfl, rfl, rfl, by simp, fun k p hp _ => by
    have hk : k < w.heap.size := by
      by_cases hk : k < w.heap.size
      · exact hk
      · rw [Array.getElem?_eq_none (by omega)] at hp; cases hp
    rw [Below.heap_alloc _ _ _ hk]; exact hp⟩
theorem Kept.setCell {X : Nat → Obj → Prop} {a w : World} (h : Kept X a w) {p : Addr} (hp : ∀ o, X p.block o) (u : Value) : Kept X a (w.setCell p u) :=
  h.trans ⟨rfl, rfl, rfl, by simp [World.setCell], fun k o ho hx => by
    rw [Below.heap_setCell _ _ _ _ (fun e => hx (by rw [e]; exact hp o))]; exact ho⟩
/-- A store into a block that was not there at first. -/
theorem Kept.setNew {X : Nat → Obj → Prop} {a w : World} (h : Kept X a w) {p : Addr} (hp : a.heap.size ≤ p.block) (u : Value) : Kept X a (w.setCell p u) :=
  ⟨h.os, h.tape, h.output, by simpa [World.setCell] using h.size, fun k o ho hx => by
    have hk : k < a.heap.size := by
      by_cases hk : k < a.heap.size
      · exact hk
      · rw [Array.getElem?_eq_none (by omega)] at ho; cases ho
    rw [Below.heap_setCell _ _ _ _ (by omega)]; exact h.block k o ho hx⟩
theorem Kept.below {X : Nat → Obj → Prop} {B : Nat} {w w' : World} (h : Kept X w w') (hX : ∀ k o, X k o → B ≤ k) (hB : B ≤ w.heap.size) : Below B w w' :=
  ⟨h.os, h.tape, h.output, h.size, fun k hk => by
    have : w.heap[k]? = some (w.heap[k]'(by omega)) := Array.getElem?_eq_getElem (by omega)
    rw [h.block k _ this (fun x => by have := hX _ _ x; omega), this]⟩
theorem Kept.ofBelow {w w' : World} (h : Below w.heap.size w w') (X : Nat → Obj → Prop) : Kept X w w' :=
  ⟨h.os, h.tape, h.output, h.size, fun k o ho _ => by
    have hk : k < w.heap.size := by
      by_cases hk : k < w.heap.size
      · exact hk
      · rw [Array.getElem?_eq_none (by omega)] at ho; cases ho
    rw [h.block k hk]; exact ho⟩
theorem Kept.cell {X : Nat → Obj → Prop} {w w' : World} (h : Kept X w w') {b : Nat} {o : Obj} (hb : w.heap[b]? = some o) (hx : ¬ X b o) (i : Nat) : w'.cell? ⟨b, i, none⟩ = w.cell? ⟨b, i, none⟩ :=
  World.cell?_of_block (w := w) (a := ⟨b, i, none⟩) (by rw [h.block b o hb hx, hb])
/-! ### a block of cells -/
theorem blk_cell {w : World} {b : Nat} {cs : Array Value} {t : TypeId} (h : w.heap[b]? = some (.cells cs t (0, 0))) (i : Nat) : w.cell? ⟨b, i, none⟩ = cs[i]? := by simp [World.cell?, h]
theorem blk_free {w : World} {b : Nat} {cs : Array Value} {t : TypeId} (h : w.heap[b]? = some (.cells cs t (0, 0))) (i : Nat) : w.frozen? ⟨b, i, none⟩ = false := by simp [World.frozen?, h]
theorem blk_set {w : World} {b : Nat} {cs : Array Value} {t : TypeId} (h : w.heap[b]? = some (.cells cs t (0, 0))) (i : Nat) (u : Value) : (w.setCell ⟨b, i, none⟩ u).heap[b]? = some (.cells (cs.setIfInBounds i u) t (0, 0)) := by
  have hlt := lt_of_block h
  have h' : w.heap[b] = .cells cs t (0, 0) := by simpa [Array.getElem?_eq_getElem hlt] using h
  show (w.heap.modify b _)[b]? = _
  rw [Array.getElem?_eq_getElem (by simpa using hlt), Array.getElem_modify_self, h']
  rfl
theorem blk_new (w : World) (o : Obj) : (w.alloc o).heap[w.heap.size]? = some o := by
  show (w.heap.push o)[w.heap.size]? = _
  rw [Array.getElem?_push, if_pos rfl]
theorem blk_past {w : World} {b : Nat} {o : Obj} (h : w.heap[b]? = some o) (o' : Obj) : (w.alloc o').heap[b]? = some o := by
  rw [Below.heap_alloc _ _ _ (lt_of_block h)]; exact h
theorem blk_other {w : World} {b : Nat} {o : Obj} (h : w.heap[b]? = some o) {a : Addr} (ha : b ≠ a.block) (u : Value) : (w.setCell a u).heap[b]? = some o := by
  rw [Below.heap_setCell _ _ _ _ ha]; exact h

/-! ### the document's reader: it goes on behind an error -/
/-- What a reading makes of a state: behind an error nothing is read. -/
def stRun {α : Type} (r : List UInt8 → Except Int (α × List UInt8)) (d : α) (st : Except Int (List UInt8)) : α × Except Int (List UInt8) :=
  match st with
  | .error c => (d, .error c)
  | .ok l =>
    match r l with
    | .ok (a, t) => (a, .ok t)
    | .error c => (d, .error c)
theorem stRun_err {α : Type} (r : List UInt8 → Except Int (α × List UInt8)) (d : α) (c : Int) : stRun r d (.error c) = (d, .error c) := rfl
theorem stRun_ok {α : Type} {r : List UInt8 → Except Int (α × List UInt8)} {d a : α} {l t : List UInt8} (h : r l = .ok (a, t)) : stRun r d (.ok l) = (a, .ok t) := by simp only [stRun, h]
theorem stRun_no {α : Type} {r : List UInt8 → Except Int (α × List UInt8)} {d : α} {l : List UInt8} {c : Int} (h : r l = .error c) : stRun r d (.ok l) = (d, .error c) := by simp only [stRun, h]

/-- Nothing that was there has turned. -/
def Nil : Nat → Obj → Prop := fun _ _ => False
/-- Block b alone. -/
def One (b : Nat) : Nat → Obj → Prop := fun k _ => k = b

end Go.Proofs.Ytijklginabipgaa

/-
  The document's writers of a number and of a text, in plain bytes.
-/
namespace Go.Proofs.Ytijklginabipgaa
open Go.RowKit

/-- A number's bytes. -/
def encF : Nat → Nat → List UInt8
  | 0, n => [UInt8.ofNat n]
  | f + 1, n => if n < 128 then [UInt8.ofNat n] else UInt8.ofNat (128 + n % 128) :: encF f (n / 128)
def enc (n : Nat) : List UInt8 := encF n n
theorem encF_small {n : Nat} (h : n < 128) : ∀ f, encF f n = [UInt8.ofNat n]
  | 0 => rfl
  | f + 1 => by rw [encF, if_pos h]
theorem encF_same : ∀ (f g n : Nat), n ≤ f → n ≤ g → encF f n = encF g n
  | 0, g, n, hf, _ => by rw [encF_small (by omega) 0, encF_small (by omega) g]
  | f + 1, 0, n, _, hg => by rw [encF_small (by omega) 0, encF_small (by omega) (f + 1)]
  | f + 1, g + 1, n, hf, hg => by
    by_cases h : n < 128
    · rw [encF_small h, encF_small h]
    · rw [encF, encF, if_neg h, if_neg h, encF_same f g (n / 128) (by omega) (by omega)]
theorem enc_small {n : Nat} (h : n < 128) : enc n = [UInt8.ofNat n] := encF_small h n
theorem enc_big {n : Nat} (h : ¬ n < 128) : enc n = UInt8.ofNat (128 + n % 128) :: enc (n / 128) := by
  unfold enc
  obtain ⟨m, rfl⟩ : ∃ m, n = m + 1 := ⟨n - 1, by omega⟩
  rw [encF, if_neg h, encF_same m ((m + 1) / 128) ((m + 1) / 128) (by omega) (by omega)]
theorem ofNat_toNat {n : Nat} (h : n < 256) : (UInt8.ofNat n).toNat = n := by rw [UInt8.toNat_ofNat']; omega
theorem enc_small_byte {n : Nat} (h : n < 128) : ∃ d : UInt8, enc n = [d] ∧ d.toNat = n := ⟨_, enc_small h, ofNat_toNat (by omega)⟩
theorem enc_big_byte {n : Nat} (h : ¬ n < 128) : ∃ d : UInt8, enc n = d :: enc (n / 128) ∧ d.toNat = 128 + n % 128 := ⟨_, enc_big h, ofNat_toNat (by omega)⟩
theorem or_high : ∀ x, x < 256 → x ||| 128 = 128 + x % 128 := by decide +kernel
theorem or128 (r : Nat) : bits .or .u8 ((r : Int) % 256) 128 = ((128 + r % 128 : Nat) : Int) := by
  have e : ((r : Int) % 256) = ((r % 256 : Nat) : Int) := by omega
  have := u8_or_nat (r % 256) 128 (by omega) (by omega)
  rw [e]
  refine this.trans ?_
  rw [or_high _ (by omega)]
  omega
def encText (l : List UInt8) : List UInt8 := enc l.length ++ l
theorem enc_length (n : Nat) : ∀ k, n < 128 ^ (k + 1) → (enc n).length ≤ k + 1 := by
  intro k
  induction k generalizing n with
  | zero => intro h; rw [enc_small (by omega)]; simp
  | succ k ih =>
    intro h
    by_cases hn : n < 128
    · rw [enc_small hn]; simp
    · rw [enc_big hn]
      have : n / 128 < 128 ^ (k + 1) := by
        rw [Nat.div_lt_iff_lt_mul (by omega)]
        rw [Nat.pow_succ] at h
        exact h
      have := ih _ this
      simp; omega

/-- A literal's bytes as a string. -/
theorem conv1 (w : World) (x : Int) :
    (convert 180 9 (.slice (some ⟨w.heap.size, 0, none⟩) 1 1)).run Try.prog (w.alloc (.cells #[.int .u8 x] 5)) = .ok (.string (bs [UInt8.ofNat x.toNat])) (w.alloc (.cells #[.int .u8 x] 5)) := by
  refine (run_convert_bytes_arg _ 180 5 Try.underlying180 Try.underlying5 w.heap.size 0 1 1 [x] rfl ?_ 9 Try.underlying9).trans ?_
  · intro i hi
    obtain rfl : i = 0 := by omega
    exact blk_cell (blk_new w _) 0
  · rfl

set_option maxRecDepth 100000 in
set_option maxHeartbeats 1000000 in
theorem refNum_any : ∀ (n : Nat), n ≤ 1099511627775 → ∀ (w : World),
    Calls Try.prog 99 #[.int .i64 n] w fun e w' => e = .returned (.string (bs (enc n))) ∧ Kept Nil w w' := by
  intro n
  induction n using Nat.strongRecOn with
  | ind n ih =>
  intro hn w
  by_cases h : n < 128
  · rw [enc_small h]
    clear ih hn
    have hcv := conv1
    go_enter Try.func99, Try.ntmps99
    go_wp2
    go_ret
    exact ⟨rfl, (Kept.refl _ _).alloc _⟩
  · rw [enc_big h]
    have H := ih (n / 128) (by omega) (by omega)
    have e1 : Hid (((n / 128 : Nat) : Int) = (n : Int) / 128) := by show ((n / 128 : Nat) : Int) = (n : Int) / 128; omega
    have hn' : (n : Int) ≤ 1099511627775 := by omega
    have hz1 : ∀ c, (bs [c]).size = 1 := fun c => bs_size [c]
    have hz2 : (bs (enc (n / 128))).size ≤ 6 := by rw [bs_size]; exact enc_length _ 5 (by omega)
    clear ih hn
    have hcv := conv1
    go_enter Try.func99, Try.ntmps99
    go_wp2_with (go_at_call 99; rw [← e1.out]; refine (H _).mono ?_; rintro e w' ⟨rfl, hk⟩)
    go_ret
    refine ⟨?_, hk.alloc _⟩
    show Ending.returned (Value.string (bs [128 + UInt8.ofNat (n % 128)] ++ bs (enc (n / 128)))) = _
    rw [bs_append, UInt8.ofNat_add]; rfl

theorem enc_len6 {n : Nat} (h : n ≤ 1099511627775) : (enc n).length ≤ 6 := enc_length _ 5 (by omega)

theorem refTextOf_any (l : List UInt8) (w : World) (hl : l.length ≤ 1099511627775) :
    Calls Try.prog 100 #[.string (bs l)] w fun e w' => e = .returned (.string (bs (encText l))) ∧ Kept Nil w w' := by
  have hz1 : (bs (enc l.length)).size ≤ 6 := by rw [bs_size]; exact enc_len6 hl
  have hz2 := bs_size l
  have hl' : (l.length : Int) ≤ 1099511627775 := by omega
  have H := refNum_any l.length hl
  clear hl
  go_enter Try.func100, Try.ntmps100
  go_wp2_with (go_at_call 99; refine (H _).mono ?_; rintro e w' ⟨rfl, hk⟩)
  go_ret
  refine ⟨?_, hk⟩
  show Ending.returned (Value.string (bs (enc l.length) ++ bs l)) = _
  rw [bs_append]; rfl

end Go.Proofs.Ytijklginabipgaa

/-
  'append' onto a row of the call's own, of whatever is appended (a slice's elements, a string's bytes): what is owned behind it. A law on the model, over any program.
-/
namespace Go.Proofs.Ytijklginabipgaa
open Go.RowKit
variable {P : Program} (w : World)

theorem room_src (t tx ty e : TypeId) (i : TypeInfo) (ht : P.underlying t = some (.slice e)) (hi : P.info? e = some i)
    (g sLen sCap : Nat) (cur : Array Value) (hg : w.heap[g]? = some (.cells cur e (0, 0))) (x : Value) (m : Nat) (news : List Value) (hs : Src P i.size tx x m news w)
    (hroom : sLen + m ≤ sCap) (hfit : sLen * i.size + news.length ≤ cur.size) :
    (Builtin.append_ #[t, tx] ty #[.slice (some ⟨g, 0, none⟩) sLen sCap, x]).run P w =
      .ok (.slice (some ⟨g, 0, none⟩) (sLen + m) sCap) (w.setRow g (cur.toList.take (sLen * i.size) ++ news ++ cur.toList.drop (sLen * i.size + news.length)).toArray) := by
  have hst := run_storeCells_at P g (sLen * i.size) e news 0 cur w hg (by simpa using hfit) hs.one
  simp only [Nat.add_zero] at hst
  rcases hs.kind with ⟨e', hk⟩ | hk <;> simp [Builtin.append_, run_underlying ht, run_underlying hk, sizeOf, typeInfo, hi, hs.len, hroom, hs.cells, Addr.add_lit, hst]

theorem run_append_src (base : Nat) (t tx ty e : TypeId) (i : TypeInfo) (z : Value) (size bytes : Nat) (ht : P.underlying t = some (.slice e)) (hi : P.info? e = some i) (hz : i.zero = some z)
    (hsize : i.size = size) (hby : i.bytes = bytes) (hzs : z.cells.size = size)
    (v : Value) (n : Nat) (xs : List Value) (hown : w.ownsRow base e size v n xs) (x : Value) (m : Nat) (news : List Value) (hs : Src P size tx x m news w)
    (h63 : n + m ≤ maxLen) (hbytes : (n + m) * bytes ≤ 140737488355328) (hbase : base ≤ w.heap.size) :
    ∃ v' w', (Builtin.append_ #[t, tx] ty #[v, x]).run P w = .ok v' w' ∧ w'.ownsRow base e size v' (n + m) (xs ++ news) ∧ w.grownBy w' v.ownBlock := by
  subst hsize
  subst hby
  have hsmall : n + m ≤ 9223372036854775807 := by simp only [maxLen] at h63; omega
  have hl := hs.newsLen
  have hlen : (xs ++ news).length = (n + m) * i.size := by rw [List.length_append, hown.1, hl, Nat.add_mul]
  have grown : ∀ (old : Nat), ∀ (row : Option Nat),
      (w.drew.alloc (.cells ((xs ++ news).toArray ++ Builtin.zeroCells z.cells (grownCap w (n + m) old e - (n + m))) e)).ownsRow base e i.size
        (.slice (some ⟨w.heap.size, 0, none⟩) (n + m) (grownCap w (n + m) old e)) (n + m) (xs ++ news) ∧
      w.grownBy (w.drew.alloc (.cells ((xs ++ news).toArray ++ Builtin.zeroCells z.cells (grownCap w (n + m) old e - (n + m))) e)) row := by
    intro old row
    have hge := grownCap_ge w (n + m) old e
    have hcm : grownCap w (n + m) old e ≤ maxLen := grownCap_le_maxLen w (n + m) old e h63
    refine ⟨⟨hlen, .inr ⟨w.heap.size, _, _, rfl, hbase, heap_alloc_new w.drew _, hge, hcm, ?_, ?_⟩⟩, ⟨rfl, rfl, rfl, by simp, fun k hk _ => Below.heap_alloc w.drew _ k hk⟩⟩
    · simp only [Array.size_append, List.size_toArray, size_zeroCells, hzs, hlen, ← Nat.add_mul]
      congr 1
      omega
    · simp only [Array.toList_append]
      rw [← hlen]
      exact List.take_left
  rcases hown.2 with ⟨rfl, rfl⟩ | ⟨g, cap, cur, rfl, hbg, hg, hnc, hcm, hcs, htake⟩
  · have hx : xs = [] := List.eq_nil_of_length_eq_zero (by simpa using hown.1)
    subst hx
    by_cases hm : m = 0
    · subst hm
      have hn : news = [] := List.eq_nil_of_length_eq_zero (by simpa using hl)
      subst hn
      refine ⟨.slice none 0 0, w, ?_, World.ownsRow_nil w base e i.size, ⟨rfl, rfl, rfl, Nat.le_refl _, fun _ _ _ => rfl⟩⟩
      rcases hs.kind with ⟨e', hk⟩ | hk <;> simp [Builtin.append_, run_underlying ht, run_underlying hk, sizeOf, typeInfo, hi, hs.len, hs.cells]
    · have hr := run_append_grow_src (P := P) w t tx ty e i z ht hi hz none 0 0 [] (run_firstCells_none w.drew i.size 0 0 0) x m news hs (by omega) (by omega) (growslice_fits (by omega) hbytes)
      have hgr := grown 0 (Value.ownBlock (.slice none 0 0))
      exact ⟨_, _, hr, hgr.1, hgr.2⟩
  · by_cases hroom : n + m ≤ cap
    · have hfit : n * i.size + news.length ≤ cur.size := by rw [hl, hcs, ← Nat.add_mul]; exact Nat.mul_le_mul_right _ hroom
      have hr := room_src (P := P) w t tx ty e i ht hi g n cap cur hg x m news hs hroom hfit
      refine ⟨_, _, hr, ⟨hlen, .inr ⟨g, cap, _, rfl, hbg, setRow_heap w g cur _ e _ hg, hroom, hcm, ?_, ?_⟩⟩, ⟨rfl, rfl, rfl, by simp, fun k _ hk => setRow_other w g k _ (fun e => hk (by simp [Value.ownBlock, e]))⟩⟩
      · simp only [List.size_toArray, List.length_append, List.length_take, List.length_drop, Array.length_toList]
        omega
      · rw [htake, ← hlen]
        exact List.take_left
    · have holds : ∀ j u, xs[j]? = some u → w.cell? ((⟨g, 0, none⟩ : Addr).add j) = some u := hown.cells (g := g) rfl
      have hr := run_append_grow_src (P := P) w t tx ty e i z ht hi hz (some ⟨g, 0, none⟩) n cap xs (run_firstCells_some w.drew i.size n ⟨g, 0, none⟩ n cap xs hown.1 holds) x m news hs (by omega) (by omega) (growslice_fits (by omega) hbytes)
      have hgr := grown cap (Value.ownBlock (.slice (some ⟨g, 0, none⟩) n cap))
      exact ⟨_, _, hr, hgr.1, hgr.2⟩

theorem wp_append_src {o : Oper} {a : Act} {K : Act → World → Prop} {Q : Exit → Act → World → Prop} (s xo : Operand) (t tx : TypeId)
    (ho : o.op = .call { callee := .builtin .append, args := #[s, xo], argTypes := #[t, tx] })
    (base : Nat) (e : TypeId) (i : TypeInfo) (z : Value) (size bytes : Nat) (ht : P.underlying t = some (.slice e)) (hi : P.info? e = some i) (hz : i.zero = some z)
    (hsize : i.size = size) (hby : i.bytes = bytes) (hzs : z.cells.size = size)
    (v : Value) (n : Nat) (xs : List Value) (hv : a.eval s = v) (hown : w.ownsRow base e size v n xs) (x : Value) (m : Nat) (news : List Value) (hx : a.eval xo = x) (hs : Src P size tx x m news w)
    (h63 : n + m ≤ maxLen) (hbytes : (n + m) * bytes ≤ 140737488355328) (hbase : base ≤ w.heap.size)
    (h : ∀ v' w', w'.ownsRow base e size v' (n + m) (xs ++ news) → w.grownBy w' v.ownBlock → K (a.put o.dst v') w') : o.wp P a w K Q := by
  obtain ⟨v', w', hr, h2, h3⟩ := run_append_src (P := P) w base t tx o.type e i z size bytes ht hi hz hsize hby hzs v n xs hown x m news hs h63 hbytes hbase
  unfold Oper.wp execOp
  simp only [ho, resolve, invoke, builtin, Sem.run_bind, Sem.run_pure, Result.andThen_ok, List.map_toArray, List.map_cons, List.map_nil, hv, hx, hr]
  exact h v' w' h2 h3

theorem own_shape {w : World} {base : Nat} {e : TypeId} {size : Nat} {v : Value} {n : Nat} {xs : List Value} (h : w.ownsRow base e size v n xs) : ∃ ao c, v = .slice ao n c := by
  rcases h.2 with ⟨rfl, rfl⟩ | ⟨g, cap, cur, rfl, _⟩
  · exact ⟨_, _, rfl⟩
  · exact ⟨_, _, rfl⟩

theorem wpList_append_src {ops : Array Oper} {rest : List Oper} {o : Oper} {a : Act} {Q : Exit → Act → World → Prop} (hgd : o.guard = none) (s xo : Operand) (t tx : TypeId)
    (ho : o.op = .call { callee := .builtin .append, args := #[s, xo], argTypes := #[t, tx] })
    (base : Nat) (e : TypeId) (i : TypeInfo) (z : Value) (size bytes : Nat) (ht : P.underlying t = some (.slice e)) (hi : P.info? e = some i) (hz : i.zero = some z)
    (hsize : i.size = size) (hby : i.bytes = bytes) (hzs : z.cells.size = size)
    (v : Value) (n : Nat) (xs : List Value) (hv : a.eval s = v) (hown : w.ownsRow base e size v n xs) (x : Value) (m : Nat) (news : List Value) (hx : a.eval xo = x) (hs : Src P size tx x m news w)
    (h63 : n + m ≤ maxLen) (hbytes : (n + m) * bytes ≤ 140737488355328) (hbase : base ≤ w.heap.size)
    (h : ∀ ao c w', w'.ownsRow base e size (.slice ao (n + m) c) (n + m) (xs ++ news) → w.grownBy w' v.ownBlock → wpList P ops Q rest (a.put o.dst (.slice ao (n + m) c)) w') : wpList P ops Q (o :: rest) a w :=
  wpList_plain hgd fun _ hK => wp_append_src w s xo t tx ho base e i z size bytes ht hi hz hsize hby hzs v n xs hv hown x m news hx hs h63 hbytes hbase fun v' w' h2 h3 => by
    obtain ⟨ao, c, rfl⟩ := own_shape h2
    exact hK _ _ (h ao c w' h2 h3)

end Go.Proofs.Ytijklginabipgaa

/-
  What the program's writer does, method by method: its bytes behind each call, and what it leaves of memory.
-/
namespace Go.Proofs.Ytijklginabipgaa
open Go.RowKit

def cellsOf (l : List UInt8) : List Value := l.map fun c => Value.int .u8 c.toNat
theorem cellsOf_append (a b : List UInt8) : cellsOf (a ++ b) = cellsOf a ++ cellsOf b := by simp [cellsOf]

/-- The writer in block b has these bytes. -/
def WInv (b : Nat) (w : World) (l : List UInt8) : Prop :=
  ∃ ao c, w.heap[b]? = some (.cells #[.slice ao l.length c] 182 (0, 0)) ∧ w.ownsRow (b + 1) 5 1 (.slice ao l.length c) l.length (cellsOf l)
/-- What a writer's method may turn: its own block, and rows of bytes behind it. -/
def Wr (b : Nat) : Nat → Obj → Prop := fun k o => k = b ∨ (b < k ∧ ∃ cs m, o = .cells cs 5 m)

theorem Try.infoByte : (Try.prog.info? 5).map (fun i => (i.zero, i.size, i.bytes)) = some (some (.int .u8 0), 1, 1) := by kernel_rfl

theorem Kept.grownOwn {b : Nat} {w w' : World} {v : Value} {n : Nat} {xs : List Value} (hg : w.grownBy w' v.ownBlock) (ho : w.ownsRow (b + 1) 5 1 v n xs) : Kept (Wr b) w w' := by
  refine ⟨hg.os, hg.tape, hg.output, hg.size, fun k o hk hx => ?_⟩
  have hlt := lt_of_block hk
  rw [hg.block k hlt ?_, hk]
  intro e
  rcases ho.2 with ⟨rfl, _⟩ | ⟨g, cap, cur, rfl, hb, hh, _⟩
  · simp [Value.ownBlock] at e
  · simp [Value.ownBlock] at e
    subst e
    rw [hh] at hk
    exact hx (.inr ⟨by omega, cur, (0, 0), by simpa using hk.symm⟩)

/-- Behind an append and the store of its slice. -/
theorem WInv.put {b : Nat} {w w1 : World} {l news : List UInt8} {ao ao' : Option Addr} {c c' m : Nat} (hb : w.heap[b]? = some (.cells #[.slice ao l.length c] 182 (0, 0)))
    (ho : w.ownsRow (b + 1) 5 1 (.slice ao l.length c) l.length (cellsOf l)) (hm : m = news.length)
    (hn : w1.ownsRow (b + 1) 5 1 (.slice ao' (l.length + m) c') (l.length + m) (cellsOf l ++ cellsOf news)) (hg : w.grownBy w1 (Value.slice ao l.length c).ownBlock) :
    WInv b (w1.setCell ⟨b, 0, none⟩ (.slice ao' (l.length + m) c')) (l ++ news) ∧ Kept (Wr b) w (w1.setCell ⟨b, 0, none⟩ (.slice ao' (l.length + m) c')) := by
  subst hm
  have hk := Kept.grownOwn hg ho
  have hb1 : w1.heap[b]? = some (.cells #[.slice ao l.length c] 182 (0, 0)) := by
    rw [hg.block b (lt_of_block hb) ?_, hb]
    intro e
    have := (ho.lt b e.symm).1
    omega
  refine ⟨⟨ao', c', ?_, ?_⟩, hk.setCell (fun _ => .inl rfl) _⟩
  · have := blk_set hb1 0 (.slice ao' (l.length + news.length) c')
    simpa using this
  · rw [cellsOf_append]
    have := ownsRow_setCell_below hn (a := ⟨b, 0, none⟩) (by simp) (.slice ao' (l.length + news.length) c')
    simpa using this

theorem after_grow {b : Nat} {w w1 : World} {v : Value} {n : Nat} {xs : List Value} {o : Obj} (hb : w.heap[b]? = some o) (ho : w.ownsRow (b + 1) 5 1 v n xs) (hg : w.grownBy w1 v.ownBlock) : w1.heap[b]? = some o := by
  rw [hg.block b (lt_of_block hb) ?_, hb]
  intro e
  have := (ho.lt b e.symm).1
  omega
theorem le_alloc {w : World} {n : Nat} (h : n ≤ w.heap.size) (o : Obj) : n ≤ (w.alloc o).heap.size := by simp; omega

/-- One byte, laid in a block of its own, as what is appended. -/
theorem src_one {w : World} (d : UInt8) {y : Int} (hy : y = d.toNat) : Src Try.prog 1 180 (.slice (some ⟨w.heap.size, 0, none⟩) 1 1) 1 (cellsOf [d]) (w.alloc (.cells #[.int .u8 y] 5)) := by
  subst hy
  refine Src.ofSlice _ Try.underlying180 _ 1 1 _ rfl ?_ ?_
  · intro j u hj
    match j, hj with
    | 0, hj =>
      simp [cellsOf] at hj
      subst hj
      simp [Addr.add]
  · intro u hu
    simp [cellsOf] at hu
    subst hu
    rfl

set_option maxRecDepth 100000 in
set_option maxHeartbeats 1000000 in
theorem wNumber_any (b n : Nat) (l : List UInt8) (w : World) (h : WInv b w l) (hn : n ≤ 1099511627775) (hl : l.length ≤ 1099511627775) :
    Calls Try.prog 149 #[.pointer (some ⟨b, 0, none⟩), .int .i64 n] w fun e w' => e = .returned (.tuple #[]) ∧ WInv b w' (l ++ enc n) ∧ Kept (Wr b) w w' := by
  obtain ⟨i0, hi, hz0, hz1, hz2⟩ := info_parts Try.infoByte
  have hn' : (n : Int) ≤ 1099511627775 := by omega
  have HN : Hid ((enc n).length ≤ 6) := enc_len6 hn
  have HL : Hid (l.length ≤ 1099511627775) := hl
  clear hn hl
  go_enter Try.func149, Try.ntmps149
  go_wp2
  go_loopw [4] (fun t wr => ∃ r : Nat, ∃ l' : List UInt8, (r : Int) ≤ 1099511627775 ∧ t = .int .u64 r ∧ WInv b wr l' ∧ Hid (l' ++ enc r = l ++ enc n) ∧ Kept (Wr b) w wr) (fun t _ => (intOf t).toNat)
  case atStart => exact ⟨n, l, hn', by go_num, h, rfl, .refl _ _⟩
  case round =>
    obtain ⟨r, l', hr, rfl, ⟨ao, c, hb, ho⟩, HE, hk⟩ := hrel
    have h0 : wr.cell? ⟨b, 0, none⟩ = some (.slice ao l'.length c) := blk_cell hb 0
    have f0 := blk_free hb 0
    have HLL : Hid (l'.length + 1 ≤ maxLen ∧ (l'.length + 1) * 1 ≤ 140737488355328) := by
      have h1 := congrArg List.length HE.out
      have h2 := HN.out
      have h3 := HL.out
      simp at h1
      constructor
      · unfold maxLen; omega
      · omega
    have HB : Hid (b + 1 ≤ wr.heap.size) := lt_of_block hb
    by_cases h128 : r < 128
    · obtain ⟨d, hE, hd⟩ := enc_small_byte h128
      have HD : Hid (enc r = [d]) := hE
      have DD : Hid ((r : Int) = d.toNat) := by show (r : Int) = _; omega
      clear hE hd
      go_wp2_with (first | (at_builtin; go_must (refine wpList_append_src _ rfl _ _ 180 180 rfl (b + 1) 5 i0 (.int .u8 0) 1 1 Try.underlying180 hi hz0 hz1 hz2 rfl _ _ _ rfl (ho.alloc _) (.slice (some ⟨wr.heap.size, 0, none⟩) 1 1) 1 (cellsOf [d]) rfl (src_one d DD.out) HLL.out.1 HLL.out.2 (le_alloc HB.out _) ?_); intro ao' c' w1 ho' hg'; have hb1 := after_grow (blk_past hb _) (ho.alloc _) hg'; have h1 : w1.cell? ⟨b, 0, none⟩ = some (.slice ao l'.length c) := blk_cell hb1 0; have f1 := blk_free hb1 0; have HP : Hid _ := WInv.put (m := 1) (news := [d]) (blk_past hb _) (ho.alloc _) rfl ho' hg'; clear ho' hg' hb1))
      go_end0
      refine ⟨rfl, ?_, hk.trans (((Kept.refl _ _).alloc _).trans HP.out.2)⟩
      rw [← HE.out, HD.out]
      exact HP.out.1
    · obtain ⟨d, hE, hd⟩ := enc_big_byte h128
      have HD : Hid (enc r = d :: enc (r / 128)) := hE
      have hbit := or128 r
      rw [← hd] at hbit
      clear hE hd
      go_wp2_with (first | (at_builtin; go_must (refine wpList_append_src _ rfl _ _ 180 180 rfl (b + 1) 5 i0 (.int .u8 0) 1 1 Try.underlying180 hi hz0 hz1 hz2 rfl _ _ _ rfl (ho.alloc _) (.slice (some ⟨wr.heap.size, 0, none⟩) 1 1) 1 (cellsOf [d]) rfl (src_one d rfl) HLL.out.1 HLL.out.2 (le_alloc HB.out _) ?_); intro ao' c' w1 ho' hg'; have hb1 := after_grow (blk_past hb _) (ho.alloc _) hg'; have h1 : w1.cell? ⟨b, 0, none⟩ = some (.slice ao l'.length c) := blk_cell hb1 0; have f1 := blk_free hb1 0; have HP : Hid _ := WInv.put (m := 1) (news := [d]) (blk_past hb _) (ho.alloc _) rfl ho' hg'; clear ho' hg' hb1))
      go_roundw
      case rel => exact ⟨r / 128, l' ++ [d], by omega, by go_num, HP.out.1, by show (l' ++ [d]) ++ enc (r / 128) = _; rw [← HE.out, HD.out]; simp, hk.trans (((Kept.refl _ _).alloc _).trans HP.out.2)⟩
      case measure => simp [intOf]; omega

end Go.Proofs.Ytijklginabipgaa

/-
  The sum of bytes, plainly: bit by bit, as the program reckons it and as the document's answer does; the two are one.
-/
namespace Go.Proofs.Ytijklginabipgaa

def crcStep (c : Nat) : Nat := if c % 2 = 1 then c / 2 ^^^ 2197175160 else c / 2
def crcSteps : Nat → Nat → Nat
  | 0, c => c
  | k + 1, c => crcSteps k (crcStep c)
def crcByte (c : Nat) (b : UInt8) : Nat := crcSteps 8 (c ^^^ b.toNat)
/-- The register behind these bytes. -/
def crcReg (l : List UInt8) : Nat := l.foldl crcByte 4294967295
def crc (l : List UInt8) : Nat := 4294967295 - crcReg l

theorem crcStep_lt {c : Nat} (h : c < 4294967296) : crcStep c < 4294967296 := by
  unfold crcStep
  split
  · have : c / 2 ^^^ 2197175160 < 2 ^ 32 := Nat.xor_lt_two_pow (by omega) (by omega)
    omega
  · omega
theorem crcSteps_lt : ∀ (k : Nat) {c : Nat}, c < 4294967296 → crcSteps k c < 4294967296
  | 0, _, h => h
  | k + 1, _, h => crcSteps_lt k (crcStep_lt h)
theorem crcSteps_snoc : ∀ (k c : Nat), crcSteps (k + 1) c = crcStep (crcSteps k c)
  | 0, _ => rfl
  | k + 1, c => by
    show crcSteps (k + 1) (crcStep c) = _
    rw [crcSteps_snoc k]; rfl
theorem xor_lt {c b : Nat} (h : c < 4294967296) (hb : b < 4294967296) : c ^^^ b < 4294967296 := by
  have : c ^^^ b < 2 ^ 32 := Nat.xor_lt_two_pow (by omega) (by omega)
  omega
theorem crcByte_lt {c : Nat} {b : UInt8} (h : c < 4294967296) : crcByte c b < 4294967296 :=
  crcSteps_lt 8 (xor_lt h (by have := b.toNat_lt; omega))
theorem fold_lt : ∀ (l : List UInt8) {c : Nat}, c < 4294967296 → l.foldl crcByte c < 4294967296
  | [], _, h => h
  | _ :: l, _, h => fold_lt l (crcByte_lt h)
theorem crcReg_lt (l : List UInt8) : crcReg l < 4294967296 := fold_lt l (by omega)
theorem crc_lt (l : List UInt8) : crc l < 4294967296 := by unfold crc; omega
theorem crcReg_snoc (l : List UInt8) (b : UInt8) : crcReg (l ++ [b]) = crcByte (crcReg l) b := by
  simp [crcReg, List.foldl_append]

/-! The document's answer takes the byte in bit by bit. -/
def refStep (c b k : Nat) : Nat := if (c ^^^ b / 2 ^ k) % 2 = 1 then c / 2 ^^^ 2197175160 else c / 2
def refSteps (b : Nat) : Nat → Nat → Nat
  | 0, c => c
  | k + 1, c => refStep (refSteps b k c) b k
theorem xor_half (a b : Nat) : (a ^^^ b) / 2 = a / 2 ^^^ b / 2 := by
  have := Nat.shiftRight_xor_distrib (a := a) (b := b) (i := 1)
  simpa [Nat.shiftRight_eq_div_pow] using this
theorem steps_same (b c : Nat) : ∀ k, crcSteps k (c ^^^ b) = refSteps b k c ^^^ b / 2 ^ k
  | 0 => by simp [crcSteps, refSteps]
  | k + 1 => by
    rw [crcSteps_snoc, steps_same b c k]
    have hd : b / 2 ^ (k + 1) = b / 2 ^ k / 2 := by rw [Nat.pow_succ, Nat.div_div_eq_div_mul]
    simp only [refSteps, refStep, crcStep, xor_half, hd]
    split
    · rw [Nat.xor_assoc, Nat.xor_comm (b / 2 ^ k / 2), ← Nat.xor_assoc]
    · rfl
theorem byte_same (c : Nat) (b : UInt8) : refSteps b.toNat 8 c = crcByte c b := by
  have h := steps_same b.toNat c 8
  have : b.toNat / 2 ^ 8 = 0 := by have := b.toNat_lt; omega
  rw [this, Nat.xor_zero] at h
  exact h.symm
theorem refSteps_lt (b : Nat) (hb : b < 256) (c : Nat) (h : c < 4294967296) : ∀ k, refSteps b k c < 4294967296
  | 0 => h
  | k + 1 => by
    have ih := refSteps_lt b hb c h k
    show refStep _ b k < _
    unfold refStep
    split
    · exact xor_lt (by omega) (by omega)
    · omega

end Go.Proofs.Ytijklginabipgaa

/-
  The program's Sum and the document's: each answers the plain sum of WCrc.
-/
namespace Go.Proofs.Ytijklginabipgaa
open Go.RowKit

theorem u32_facts (x : Nat) (hx : x < 4294967296) : bits .and .u32 (x : Int) 1 = ((x % 2 : Nat) : Int) ∧ bits .xor .u32 ((x / 2 : Nat) : Int) 2197175160 = ((x / 2 ^^^ 2197175160 : Nat) : Int) := by
  constructor
  · have := u32_and_nat x 1 hx (by omega)
    rw [nat_mask1] at this
    exact this
  · exact u32_xor_nat (x / 2) 2197175160 (by omega) (by omega)

theorem xor_max (x : Nat) (hx : x < 4294967296) : bits BinOp.xor IntKind.u32 IntKind.u32.max (x : Int) = ((4294967295 - x : Nat) : Int) := by
  have e : IntKind.u32.max = ((4294967295 : Nat) : Int) := by decide
  rw [e, u32_xor_nat _ _ (by omega) hx]
  congr 1
  have h : (4294967295 : Nat) = 2 ^ 32 - 1 := by decide
  rw [h]
  apply Nat.eq_of_testBit_eq
  intro i
  rw [Nat.testBit_xor, Nat.testBit_two_pow_sub_one]
  have := Nat.testBit_two_pow_sub_succ (x := x) (n := 32) (by omega) i
  have e2 : 2 ^ 32 - 1 - x = 2 ^ 32 - (x + 1) := by omega
  rw [e2, this]
  by_cases hi : i < 32
  · simp [hi]
  · have : x.testBit i = false := Nat.testBit_lt_two_pow (Nat.lt_of_lt_of_le (by omega : x < 2 ^ 32) (Nat.pow_le_pow_right (by omega) (by omega)))
    simp [hi, this]

set_option maxHeartbeats 1000000 in
theorem sum_any (l : List UInt8) (w : World) (hl : l.length ≤ maxLen) :
    Calls Try.prog 183 #[.string (bs l)] w fun e w' => e = .returned (.int .u32 (crc l)) ∧ w' = w := by
  unfold maxLen at hl
  have hsz := bs_size l
  go_enter Try.func183, Try.ntmps183
  go_wp2
  go_loop [3, 8] (fun c i => ∃ k : Nat, ∃ x : Nat, k ≤ l.length ∧ i = .int .i64 k ∧ Hid (x = crcReg (l.take k)) ∧ x < 4294967296 ∧ c = .int .u32 x) (fun _ i => l.length - (intOf i).toNat)
  case atStart => exact ⟨0, 4294967295, Nat.zero_le _, rfl, rfl, by omega, rfl⟩
  case round =>
    obtain ⟨k, x, hk, rfl, HX, hr, rfl⟩ := hrel
    by_cases hlt : k < l.length
    · obtain ⟨c, hcl⟩ : ∃ c, l[k] = c := ⟨_, rfl⟩
      have hat : ∀ h, (bs l)[k]'h = c := fun h => (bs_at l k h).trans hcl
      have hc := c.toNat_lt
      have hmod : (c.toNat : Int) % 4294967296 = c.toNat := by omega
      have hx := u32_xor_nat x (c.toNat) hr (by omega)
      have hy := xor_lt hr (b := c.toNat) (by omega)
      obtain ⟨y, hY⟩ : ∃ y, y = x ^^^ c.toNat := ⟨_, rfl⟩
      rw [← hY] at hx hy
      have HY : Hid (crcSteps 8 y = crcReg (l.take (k + 1))) := by
        rw [List.take_succ_eq_append_getElem hlt, crcReg_snoc, ← HX.out, hcl, hY]; rfl
      clear hY hc hcl
      go_wp2
      go_loop [3, 17] (fun c i => ∃ j : Nat, ∃ z : Nat, j ≤ 8 ∧ i = .int .i64 j ∧ Hid (crcSteps (8 - j) z = crcReg (l.take (k + 1))) ∧ z < 4294967296 ∧ c = .int .u32 z) (fun _ i => 8 - (intOf i).toNat)
      case atStart => exact ⟨0, y, Nat.zero_le _, rfl, HY, hy, rfl⟩
      case round =>
        obtain ⟨j, z, hj, rfl, HZ, hz, rfl⟩ := hrel
        by_cases hj8 : j < 8
        · have hf := u32_facts z hz
          obtain ⟨hf1, hf2⟩ := hf
          have HS : Hid (crcSteps (8 - (j + 1)) (crcStep z) = crcReg (l.take (k + 1))) := by
            have := HZ.out
            rw [show 8 - j = (8 - (j + 1)) + 1 by omega] at this
            exact this
          have hst := crcStep_lt hz
          by_cases hodd : z % 2 = 1
          · have HE : Hid (crcStep z = z / 2 ^^^ 2197175160) := by unfold crcStep; exact if_pos hodd
            have hf1' : bits .and .u32 (z : Int) 1 = 1 := by rw [hf1, hodd]; rfl
            clear hf1 hodd
            go_wp2
            go_round
            case rel => exact ⟨j + 1, crcStep z, by omega, by go_num, HS, hst, by rw [HE.out, ← hf2]; rfl⟩
            case measure => simp [intOf]; omega
          · have HE : Hid (crcStep z = z / 2) := by unfold crcStep; exact if_neg hodd
            have hf1' : bits .and .u32 (z : Int) 1 = 0 := by rw [hf1, show z % 2 = 0 by omega]; rfl
            clear hf1 hodd
            go_wp2
            go_round
            case rel => exact ⟨j + 1, crcStep z, by omega, by go_num, HS, hst, by rw [HE.out]; rfl⟩
            case measure => simp [intOf]; omega
        · have HE : Hid (z = crcReg (l.take (k + 1))) := by
            have := HZ.out
            rw [show 8 - j = 0 by omega] at this
            exact this
          go_wp2
          go_round
          case rel => exact ⟨k + 1, z, by omega, by go_num, HE, hz, rfl⟩
          case measure => simp [intOf]; omega
    · have hm := xor_max x hr
      have HE : Hid (x = crcReg l) := by
        have := HX.out
        rw [List.take_of_length_le (by omega)] at this
        exact this
      go_wp2
      go_ret
      exact ⟨ret_int (by rw [HE.out]; rfl), rfl⟩
end Go.Proofs.Ytijklginabipgaa

/-
  What the document's reader does, method by method, in the plain readings of WBase; and its Sum.
-/
namespace Go.Proofs.Ytijklginabipgaa
open Go.RowKit

/-- The document's reader in memory. -/
def RSt (b : Nat) (w : World) (st : Except Int (List UInt8)) : Prop :=
  match st with
  | .ok l => l.length ≤ maxLen ∧ w.heap[b]? = some (.cells #[.string (bs l), .int .i64 0] 115 (0, 0))
  | .error c => c ≠ 0 ∧ w.heap[b]? = some (.cells #[.string (bs []), .int .i64 c] 115 (0, 0))

theorem bad_any (b : Nat) (l : List UInt8) (c : Int) (w : World) (h : w.heap[b]? = some (.cells #[.string (bs l), .int .i64 0] 115 (0, 0))) (hc : c ≠ 0) :
    Calls Try.prog 115 #[.pointer (some ⟨b, 0, none⟩), .int .i64 c] w fun e w' => e = .returned (.tuple #[]) ∧ RSt b w' (.error c) ∧ Kept (One b) w w' := by
  have h0 : w.cell? ⟨b, 0, none⟩ = some (.string (bs l)) := blk_cell h 0
  have h1 : w.cell? ⟨b, 1, none⟩ = some (.int .i64 0) := blk_cell h 1
  have f0 := blk_free h 0
  have f1 := blk_free h 1
  have H : Hid (RSt b ((w.setCell ⟨b, 1, none⟩ (.int .i64 c)).setCell ⟨b, 0, none⟩ (.string (bs []))) (.error c)) := ⟨hc, blk_set (blk_set h 1 _) 0 _⟩
  clear h
  go_enter Try.func115, Try.ntmps115
  go_wp2
  go_end0
  exact ⟨rfl, H.out, ((Kept.refl _ _).setCell (fun _ => rfl) _).setCell (fun _ => rfl) _⟩

theorem refTake_any (b n : Nat) (st : Except Int (List UInt8)) (w : World) (h : RSt b w st) :
    Calls Try.prog 170 #[.pointer (some ⟨b, 0, none⟩), .int .i64 n] w fun e w' => e = .returned (.string (bs (stRun (rdTake n) [] st).1)) ∧ RSt b w' (stRun (rdTake n) [] st).2 ∧ Kept (One b) w w' := by
  cases st with
  | error c =>
    obtain ⟨hc, hb⟩ := h
    have h1 : w.cell? ⟨b, 1, none⟩ = some (.int .i64 c) := blk_cell hb 1
    have hc' : (c != 0) = true := by simpa using hc
    go_enter Try.func170, Try.ntmps170
    go_wp2
    go_ret
    exact ⟨rfl, ⟨hc, hb⟩, .refl _ _⟩
  | ok l =>
    obtain ⟨hl, hb⟩ := h
    have h0 : w.cell? ⟨b, 0, none⟩ = some (.string (bs l)) := blk_cell hb 0
    have h1 : w.cell? ⟨b, 1, none⟩ = some (.int .i64 0) := blk_cell hb 1
    have f0 := blk_free hb 0
    by_cases hn : n ≤ l.length
    · have hr : rdTake n l = .ok (l.take n, l.drop n) := if_pos hn
      rw [stRun_ok hr]
      simp only
      have hn' : n ≤ (bs l).size := by rw [bs_size]; exact hn
      have H : Hid (RSt b (w.setCell ⟨b, 0, none⟩ (.string ((bs l).extract n (bs l).size))) (.ok (l.drop n))) := ⟨by simp; omega, by rw [bs_drop]; exact blk_set hb 0 _⟩
      rw [← bs_take]
      clear hn hr hb hl
      go_enter Try.func170, Try.ntmps170
      go_wp2
      go_ret
      exact ⟨rfl, H.out, (Kept.refl _ _).setCell (fun _ => rfl) _⟩
    · have hr : rdTake n l = .error 3 := if_neg hn
      rw [stRun_no hr]
      simp only
      have hn' : ¬ n ≤ (bs l).size := by rw [bs_size]; exact hn
      clear hn hr
      go_enter Try.func170, Try.ntmps170
      go_wp2_with (go_at_call 115; refine (bad_any b l 3 _ hb (by decide)).mono ?_; rintro e w' ⟨rfl, h2, h3⟩)
      go_ret
      exact ⟨rfl, by assumption, by assumption⟩

theorem i64_xor_nat (a b : Nat) (ha : a < 9223372036854775808) (hb : b < 9223372036854775808) : bits .xor .i64 (a : Int) (b : Int) = ((a ^^^ b : Nat) : Int) := by
  show IntKind.i64.wrap ((BitVec.ofInt 64 (a : Int) ^^^ BitVec.ofInt 64 (b : Int)).toNat : Int) = _
  rw [BitVec.toNat_xor, ofInt_u64 a (by omega), ofInt_u64 b (by omega)]
  have : a ^^^ b < 2 ^ 63 := Nat.xor_lt_two_pow (by omega) (by omega)
  rw [IntKind.wrap_i64]; omega

theorem tmod_nat (n m : Nat) : (n : Int).tmod (m : Int) = ((n % m : Nat) : Int) := by
  rw [Int.tmod_eq_emod_of_nonneg (by omega)]; rfl

theorem refTake_one (b : Nat) (c : UInt8) (t : List UInt8) (w : World) (h : RSt b w (.ok (c :: t))) :
    Calls Try.prog 170 #[.pointer (some ⟨b, 0, none⟩), .int .i64 1] w fun e w' => e = .returned (.string (bs [c])) ∧ w'.cell? ⟨b, 1, none⟩ = some (.int .i64 0) ∧ RSt b w' (.ok t) ∧ Kept (One b) w w' := by
  refine (refTake_any b 1 _ w h).mono ?_
  rintro e w' ⟨rfl, h2, h3⟩
  have hr : rdTake 1 (c :: t) = .ok ([c], t) := by unfold rdTake; rw [if_pos (by simp)]; rfl
  rw [stRun_ok hr] at h2 ⊢
  exact ⟨rfl, blk_cell h2.2 1, h2, h3⟩

set_option maxRecDepth 100000 in
set_option maxHeartbeats 2000000 in
theorem refNumber_any (b : Nat) (st : Except Int (List UInt8)) (w : World) (h : RSt b w st) :
    Calls Try.prog 112 #[.pointer (some ⟨b, 0, none⟩)] w fun e w' => e = .returned (.int .i64 (stRun rdNum 0 st).1) ∧ RSt b w' (stRun rdNum 0 st).2 ∧ Kept (One b) w w' := by
  cases st with
  | error c =>
    rw [stRun_err]
    simp only
    obtain ⟨hc, hb⟩ := id h
    have hc' : (c != 0) = true := by simpa using hc
    go_enter Try.func112, Try.ntmps112
    go_wp2
    refine wp_loop_rounds 1 ?_
    rw [rounds_succ]
    go_wp2_with (go_at_call 170; refine (refTake_any b 1 (.error c) _ h).mono ?_; rintro e w' ⟨rfl, hs, h3⟩; have h4 := blk_cell hs.2 1)
    go_ret
    exact ⟨rfl, by assumption, by assumption⟩
  | ok l =>
    go_enter Try.func112, Try.ntmps112
    go_wp2
    go_loopw [3, 4] (fun n s wr => ∃ k : Nat, ∃ x : Nat, ∃ t : List UInt8, k ≤ 6 ∧ Hid (rdNum l = numGo k x t) ∧ x < 2 ^ (7 * k) ∧ n = .int .i64 x ∧ s = .int .i64 k ∧ RSt b wr (.ok t) ∧ Kept (One b) w wr) (fun _ s _ => 50 - (intOf s).toNat)
    case atStart => exact ⟨0, 0, l, by omega, rfl, by omega, rfl, rfl, h, .refl _ _⟩
    case round =>
      obtain ⟨k, x, t, hk, ht, hx, rfl, rfl, hs, hw⟩ := hrel
      clear h
      cases t with
      | nil =>
        have HR : Hid (stRun rdNum 0 (.ok l) = (0, .error 3)) := stRun_no (ht.out.trans (numGo_nil _ _))
        go_wp2_with (go_at_call 170; refine (refTake_any b 1 (.ok []) _ hs).mono ?_; rintro e w' ⟨rfl, hs', h3⟩; have h4 : w'.cell? ⟨b, 1, none⟩ = some (.int .i64 3) := blk_cell hs'.2 1)
        go_ret
        rw [HR.out]
        exact ⟨rfl, by assumption, hw.trans (by assumption)⟩
      | cons c t =>
        have h1 : (bs [c]).size = 1 := by rw [bs_size]; rfl
        have h2 : ∀ h, ((bs [c])[0]'h) = c := fun h => by rw [bs_at]; rfl
        have hc := c.toNat_lt
        have hp := pow7 k hk
        have hlt := step_lt hx (show c.toNat % 128 < 128 by omega)
        have hm0 : c.toNat % 128 * 2 ^ (7 * k) ≤ 127 * 4398046511104 := Nat.mul_le_mul (by omega) hp
        obtain ⟨y, hy⟩ : ∃ y, y = c.toNat % 128 * 2 ^ (7 * k) := ⟨_, rfl⟩
        have hy2 : wrap64 ((c.toNat : Int) % 128 * 2 ^ (7 * k)) = (y : Int) := by
          have : ((c.toNat : Int) % 128 * 2 ^ (7 * k)) = (y : Int) := by rw [hy]; push_cast; rfl
          rw [this, wrap64]; omega
        rw [← hy] at hm0 hlt
        have HY : Hid (y = c.toNat % 128 * 2 ^ (7 * k)) := hy
        by_cases hb : k ≤ 5 ∧ x + c.toNat % 128 * 2 ^ (7 * k) ≤ maxNum ∧ (c.toNat ≠ 0 ∨ k = 0)
        · have hm : (x : Int) + y ≤ 1099511627775 := by rw [← hy] at hb; unfold maxNum at hb; omega
          by_cases h128 : c.toNat < 128
          · have HR : Hid (stRun rdNum 0 (.ok l) = (x + y, .ok t)) := by rw [hy]; exact stRun_ok (ht.out.trans (numGo_end hb h128))
            obtain ⟨hb1, hb2, hb3⟩ := hb
            clear hb2 hy
            by_cases hcz : c.toNat = 0
            · have hkz : ¬ 0 < k := by omega
              clear hb3 hcz
              go_wp2_with (first | (go_at_call 170; refine (refTake_one b c t _ hs).mono ?_; rintro e w' ⟨rfl, h4, hs', h3⟩))
              all_goals
                go_ret
                rw [HR.out]
                exact ⟨ret_int (by show _ = ((x + y : Nat) : Int); omega), by assumption, hw.trans (by assumption)⟩
            · have hcz2 : ((c.toNat : Int) == 0) = false := by simpa using hcz
              clear hb3
              go_wp2_with (first | (go_at_call 170; refine (refTake_one b c t _ hs).mono ?_; rintro e w' ⟨rfl, h4, hs', h3⟩))
              all_goals
                go_ret
                rw [HR.out]
                exact ⟨ret_int (by show _ = ((x + y : Nat) : Int); omega), by assumption, hw.trans (by assumption)⟩
          · have HR : Hid (rdNum l = numGo (k + 1) (x + y) t) := by rw [hy]; exact ht.out.trans (numGo_more hb h128)
            obtain ⟨hb1, hb2, hb3⟩ := hb
            have hcz : ¬ c.toNat = 0 := by omega
            have hcz2 : ((c.toNat : Int) == 0) = false := by simpa using hcz
            clear hb2 hy hb3
            go_wp2_with (first | (go_at_call 170; refine (refTake_one b c t _ hs).mono ?_; rintro e w' ⟨rfl, h4, hs', h3⟩))
            all_goals
              go_roundw
              case rel => exact ⟨k + 1, x + y, t, by omega, HR, hlt, by go_num, by go_num, by assumption, hw.trans (by assumption)⟩
              case measure => simp [intOf]; omega
        · have HR : Hid (stRun rdNum 0 (.ok l) = (0, .error 1)) := stRun_no (ht.out.trans (numGo_bad hb))
          by_cases hk5 : k ≤ 5
          · by_cases hm : (x : Int) + y ≤ 1099511627775
            · have hcz : c.toNat = 0 := by rw [← hy] at hb; unfold maxNum at hb; omega
              have hkz : 0 < k := by rw [← hy] at hb; unfold maxNum at hb; omega
              have hcz2 : ((c.toNat : Int) == 0) = true := by simp [hcz]
              clear hcz hb hy
              go_wp2_with (first | (go_at_call 170; refine (refTake_one b c t _ hs).mono ?_; rintro e w' ⟨rfl, h4, hs', h3⟩) | (go_at_call 115; refine (bad_any b t 1 _ (by assumption : RSt b _ (.ok t)).2 (by decide)).mono ?_; rintro e w2 ⟨rfl, hs2, h5⟩))
              all_goals
                go_ret
                rw [HR.out]
                exact ⟨rfl, hs2, hw.trans (h3.trans h5)⟩
            · clear hb hy
              go_wp2_with (first | (go_at_call 170; refine (refTake_one b c t _ hs).mono ?_; rintro e w' ⟨rfl, h4, hs', h3⟩) | (go_at_call 115; refine (bad_any b t 1 _ (by assumption : RSt b _ (.ok t)).2 (by decide)).mono ?_; rintro e w2 ⟨rfl, hs2, h5⟩))
              all_goals
                go_ret
                rw [HR.out]
                exact ⟨rfl, hs2, hw.trans (h3.trans h5)⟩
          · clear hb hy
            go_wp2_with (first | (go_at_call 170; refine (refTake_one b c t _ hs).mono ?_; rintro e w' ⟨rfl, h4, hs', h3⟩) | (go_at_call 115; refine (bad_any b t 1 _ (by assumption : RSt b _ (.ok t)).2 (by decide)).mono ?_; rintro e w2 ⟨rfl, hs2, h5⟩))
            all_goals
              go_ret
              rw [HR.out]
              exact ⟨rfl, hs2, hw.trans (h3.trans h5)⟩

set_option maxHeartbeats 1000000 in
theorem refUpTo_any (b most : Nat) (st : Except Int (List UInt8)) (w : World) (h : RSt b w st) :
    Calls Try.prog 113 #[.pointer (some ⟨b, 0, none⟩), .int .i64 most] w fun e w' => e = .returned (.int .i64 (stRun (rdUpTo most) 0 st).1) ∧ RSt b w' (stRun (rdUpTo most) 0 st).2 ∧ Kept (One b) w w' := by
  by_cases hg : ∃ l n t, st = .ok l ∧ rdNum l = .ok (n, t) ∧ ¬ n ≤ most
  · obtain ⟨l, n, t, rfl, hr, hn⟩ := hg
    have HR : Hid (stRun (rdUpTo most) 0 (.ok l) = (0, .error 4)) := stRun_no (by unfold rdUpTo; rw [hr]; exact if_neg hn)
    have hn' : (stRun rdNum 0 (.ok l)).1 = n := by rw [stRun_ok hr]
    have hst : (stRun rdNum 0 (.ok l)).2 = .ok t := by rw [stRun_ok hr]
    have H := refNumber_any b _ w h
    rw [hn', hst] at H
    clear hn' hst hr h
    go_enter Try.func113, Try.ntmps113
    go_wp2_with (first | (go_at_call 112; refine H.mono ?_; rintro e w' ⟨rfl, hs, hk⟩) | (go_at_call 115; refine (bad_any b t 4 _ hs.2 (by decide)).mono ?_; rintro e w2 ⟨rfl, hs2, hk2⟩))
    go_ret
    rw [HR.out]
    exact ⟨rfl, hs2, hk.trans hk2⟩
  · have H := refNumber_any b _ w h
    have HR : Hid (stRun (rdUpTo most) 0 st = stRun rdNum 0 st ∧ (stRun rdNum 0 st).1 ≤ most) := by
      cases st with
      | error c => exact ⟨rfl, Nat.zero_le _⟩
      | ok l =>
        cases hr : rdNum l with
        | error c => rw [stRun_no hr, stRun_no (c := c) (by unfold rdUpTo; rw [hr])]; exact ⟨rfl, Nat.zero_le _⟩
        | ok r =>
          obtain ⟨n, t⟩ := r
          have hn : n ≤ most := Decidable.byContradiction fun hn => hg ⟨l, n, t, rfl, hr, hn⟩
          rw [stRun_ok hr, stRun_ok (a := n) (t := t) (by unfold rdUpTo; rw [hr]; exact if_pos hn)]
          exact ⟨rfl, hn⟩
    rw [HR.out.1]
    have hn := HR.out.2
    obtain ⟨n, hN⟩ : ∃ n, n = (stRun rdNum 0 st).1 := ⟨_, rfl⟩
    obtain ⟨s2, hS⟩ : ∃ s2, s2 = (stRun rdNum 0 st).2 := ⟨_, rfl⟩
    rw [← hN] at hn
    rw [← hN, ← hS] at H ⊢
    clear hN hS HR hg h
    go_enter Try.func113, Try.ntmps113
    go_wp2_with (first | (go_at_call 112; refine H.mono ?_; rintro e w' ⟨rfl, hs, hk⟩))
    go_ret
    exact ⟨rfl, hs, hk⟩

theorem stText (most : Nat) (st : Except Int (List UInt8)) : stRun (rdText most) [] st = stRun (rdTake (stRun (rdUpTo most) 0 st).1) [] (stRun (rdUpTo most) 0 st).2 := by
  cases st with
  | error c => rfl
  | ok l =>
    cases hr : rdUpTo most l with
    | error c => rw [stRun_no hr, stRun_no (c := c) (by unfold rdText; rw [hr]), stRun_err]
    | ok r =>
      obtain ⟨n, t⟩ := r
      rw [stRun_ok hr]
      have e : rdText most l = rdTake n t := by unfold rdText; rw [hr]
      cases h2 : rdTake n t with
      | error c => rw [stRun_no (h2 ▸ e), stRun_no h2]
      | ok r2 => obtain ⟨a, u⟩ := r2; rw [stRun_ok (h2 ▸ e), stRun_ok h2]

theorem refText_any (b most : Nat) (st : Except Int (List UInt8)) (w : World) (h : RSt b w st) :
    Calls Try.prog 114 #[.pointer (some ⟨b, 0, none⟩), .int .i64 most] w fun e w' => e = .returned (.string (bs (stRun (rdText most) [] st).1)) ∧ RSt b w' (stRun (rdText most) [] st).2 ∧ Kept (One b) w w' := by
  rw [stText]
  have H := refUpTo_any b most st w h
  obtain ⟨n, hN⟩ : ∃ n, n = (stRun (rdUpTo most) 0 st).1 := ⟨_, rfl⟩
  obtain ⟨s2, hS⟩ : ∃ s2, s2 = (stRun (rdUpTo most) 0 st).2 := ⟨_, rfl⟩
  rw [← hN, ← hS] at H ⊢
  clear hN hS h
  go_enter Try.func114, Try.ntmps114
  go_wp2_with (first | (go_at_call 113; refine H.mono ?_; rintro e w' ⟨rfl, hs, hk⟩) | (go_at_call 170; refine (refTake_any b n s2 _ hs).mono ?_; rintro e w2 ⟨rfl, hs2, hk2⟩))
  go_ret
  exact ⟨rfl, hs2, hk.trans hk2⟩

/-- The error that the document's reader ends with: bytes that are left are one, too. -/
def stEnd (st : Except Int (List UInt8)) : Int :=
  match st with
  | .ok [] => 0
  | .ok _ => 1
  | .error c => c

theorem refEnd_any (b : Nat) (st : Except Int (List UInt8)) (w : World) (h : RSt b w st) :
    Calls Try.prog 89 #[.pointer (some ⟨b, 0, none⟩)] w fun e w' => e = .returned (.int .i64 (stEnd st)) ∧ Kept (One b) w w' := by
  match st, h with
  | .error c, ⟨hc, hb⟩ =>
    have h1 : w.cell? ⟨b, 1, none⟩ = some (.int .i64 c) := blk_cell hb 1
    have hc' : (c == 0) = false := by simpa using hc
    clear hc
    go_enter Try.func89, Try.ntmps89
    go_wp2
    go_ret
    exact ⟨rfl, .refl _ _⟩
  | .ok [], ⟨hl, hb⟩ =>
    have h0 : w.cell? ⟨b, 0, none⟩ = some (.string (bs [])) := blk_cell hb 0
    have h1 : w.cell? ⟨b, 1, none⟩ = some (.int .i64 0) := blk_cell hb 1
    have hq := bs_toList []
    go_enter Try.func89, Try.ntmps89
    go_wp2
    go_ret
    exact ⟨rfl, .refl _ _⟩
  | .ok (c :: t), ⟨hl, hb⟩ =>
    have h0 : w.cell? ⟨b, 0, none⟩ = some (.string (bs (c :: t))) := blk_cell hb 0
    have h1 : w.cell? ⟨b, 1, none⟩ = some (.int .i64 0) := blk_cell hb 1
    have f1 := blk_free hb 1
    have hq := bs_toList (c :: t)
    go_enter Try.func89, Try.ntmps89
    go_wp2
    go_ret
    exact ⟨rfl, (Kept.refl _ _).setCell (fun _ => rfl) _⟩

end Go.Proofs.Ytijklginabipgaa

/-
  The program's writer of a text and of a frame; Frame, and the document's Frame: the same plain bytes.
-/
namespace Go.Proofs.Ytijklginabipgaa
open Go.RowKit

/-- Four bytes, the lowest first. -/
def le4 (c : Nat) : List UInt8 := [UInt8.ofNat (c % 256), UInt8.ofNat (c / 256 % 256), UInt8.ofNat (c / 65536 % 256), UInt8.ofNat (c / 16777216 % 256)]
def encFrame (l : List UInt8) : List UInt8 := encText l ++ le4 (crc l)

theorem byteCells_bs (l : List UInt8) : byteCells (bs l) = cellsOf l := by simp [byteCells, bs_data, cellsOf]
theorem src_str (l : List UInt8) (w : World) : Src Try.prog 1 9 (.string (bs l)) l.length (cellsOf l) w := by
  have := Src.ofString w (P := Try.prog) Try.underlying9 (bs l)
  rwa [bs_size, byteCells_bs] at this

set_option maxRecDepth 100000 in
theorem wText_any (b : Nat) (s l : List UInt8) (w : World) (h : WInv b w l) (hs : s.length ≤ 1099511627775) (hl : l.length ≤ 1099511627775) :
    Calls Try.prog 142 #[.pointer (some ⟨b, 0, none⟩), .string (bs s)] w fun e w' => e = .returned (.tuple #[]) ∧ WInv b w' (l ++ encText s) ∧ Kept (Wr b) w w' := by
  obtain ⟨i0, hi, hz0, hz1, hz2⟩ := info_parts Try.infoByte
  have H := wNumber_any b s.length l w h hs hl
  have hsz := bs_size s
  have hs' : (s.length : Int) ≤ 1099511627775 := by omega
  have HLL : Hid ((l ++ enc s.length).length + s.length ≤ maxLen ∧ ((l ++ enc s.length).length + s.length) * 1 ≤ 140737488355328) := by
    have h1 := enc_len6 hs
    simp only [List.length_append]
    constructor
    · unfold maxLen; omega
    · omega
  clear hs hl h
  obtain ⟨l2, hl2⟩ : ∃ l2, l2 = l ++ enc s.length := ⟨_, rfl⟩
  rw [← hl2] at H HLL
  have HE : Hid (l2 ++ s = l ++ encText s) := by rw [hl2]; show _ = l ++ (enc s.length ++ s); simp
  clear hl2
  go_enter Try.func142, Try.ntmps142
  go_wp2_with (first | (go_at_call 149; refine H.mono ?_; rintro e w1 ⟨rfl, ⟨ao, c, hb, ho⟩, hk⟩; have h0 : w1.cell? ⟨b, 0, none⟩ = some (.slice ao l2.length c) := blk_cell hb 0; have f0 := blk_free hb 0) | (at_builtin; go_must (refine wpList_append_src _ rfl (.tmp 12) (.tmp 13) 180 9 rfl (b + 1) 5 i0 (.int .u8 0) 1 1 Try.underlying180 hi hz0 hz1 hz2 rfl _ _ _ rfl ho (.string (bs s)) s.length (cellsOf s) rfl (src_str s _) HLL.out.1 HLL.out.2 (lt_of_block hb) ?_); intro ao' c' w2 ho' hg'; have hb1 := after_grow hb ho hg'; have h1 : w2.cell? ⟨b, 0, none⟩ = some (.slice ao l2.length c) := blk_cell hb1 0; have f1 := blk_free hb1 0; have HP : Hid _ := WInv.put (m := s.length) (news := s) hb ho rfl ho' hg'; clear ho' hg' hb1))
  go_end0
  refine ⟨rfl, ?_, hk.trans HP.out.2⟩
  rw [← HE.out]
  exact HP.out.1

def leN : Nat → Nat → List UInt8
  | 0, _ => []
  | k + 1, c => UInt8.ofNat (c % 256) :: leN k (c / 256)
theorem le4_eq (c : Nat) : leN 4 c = le4 c := by
  simp only [leN, le4]
  rw [Nat.div_div_eq_div_mul, Nat.div_div_eq_div_mul]

set_option maxRecDepth 100000 in
set_option maxHeartbeats 1000000 in
theorem wFrame_any (b : Nat) (s l : List UInt8) (w : World) (h : WInv b w l) (hs : s.length ≤ 1099511627775) (hl : l.length ≤ 1099511627775) :
    Calls Try.prog 129 #[.pointer (some ⟨b, 0, none⟩), .string (bs s)] w fun e w' => e = .returned (.tuple #[]) ∧ WInv b w' (l ++ encFrame s) ∧ Kept (Wr b) w w' := by
  obtain ⟨i0, hi, hz0, hz1, hz2⟩ := info_parts Try.infoByte
  have H := wText_any b s l w h hs hl
  have HS : ∀ w, _ := fun w => sum_any s w (by unfold maxLen; omega)
  have hcl := crc_lt s
  have HLL : Hid (∀ l' : List UInt8, ∀ k x, l' ++ leN k x = l ++ encFrame s → l'.length + 1 ≤ maxLen ∧ (l'.length + 1) * 1 ≤ 140737488355328) := by
    intro l' k x he
    have h1 := enc_len6 hs
    have h2 := congrArg List.length he
    simp only [List.length_append, encFrame, encText, le4, List.length_cons, List.length_nil] at h2
    constructor
    · unfold maxLen; omega
    · omega
  have HE0 : Hid ((l ++ encText s) ++ leN 4 (crc s) = l ++ encFrame s) := by show _ = l ++ (encText s ++ le4 (crc s)); rw [le4_eq]; simp
  clear hs hl h
  go_enter Try.func129, Try.ntmps129
  go_wp2_with (first | (go_at_call 142; refine H.mono ?_; rintro e w1 ⟨rfl, hinv, hk⟩) | (go_at_call 183; refine (HS _).mono ?_; rintro e w2 ⟨rfl, rfl⟩))
  go_loopw [4, 10] (fun t i wr => ∃ k : Nat, ∃ x : Nat, ∃ l' : List UInt8, k ≤ 4 ∧ i = .int .i64 k ∧ x < 4294967296 ∧ t = .int .u32 x ∧ WInv b wr l' ∧ Hid (l' ++ leN (4 - k) x = l ++ encFrame s) ∧ Kept (Wr b) w wr) (fun _ i _ => 4 - (intOf i).toNat)
  case atStart => exact ⟨0, crc s, _, by omega, rfl, hcl, rfl, hinv, HE0, hk⟩
  case round =>
    obtain ⟨k, x, l', hk4, rfl, hx, rfl, ⟨ao, c, hb, ho⟩, HE, hkk⟩ := hrel
    have h0 : wr.cell? ⟨b, 0, none⟩ = some (.slice ao l'.length c) := blk_cell hb 0
    have f0 := blk_free hb 0
    have HL : Hid (l'.length + 1 ≤ maxLen ∧ (l'.length + 1) * 1 ≤ 140737488355328) := HLL.out _ _ _ HE.out
    have HB : Hid (b + 1 ≤ wr.heap.size) := lt_of_block hb
    by_cases hk3 : k < 4
    · obtain ⟨d, hd⟩ : ∃ d : UInt8, d = UInt8.ofNat (x % 256) := ⟨_, rfl⟩
      have DD : Hid ((x : Int) % 256 = d.toNat) := by
        show (x : Int) % 256 = _
        rw [hd, ofNat_toNat (by omega)]; omega
      have HE2 : Hid ((l' ++ [d]) ++ leN (4 - (k + 1)) (x / 256) = l ++ encFrame s) := by
        show _ = _
        rw [← HE.out, show 4 - k = (4 - (k + 1)) + 1 by omega, leN, hd]; simp
      clear hd
      go_wp2_with (first | (at_builtin; go_must (refine wpList_append_src _ rfl _ _ 180 180 rfl (b + 1) 5 i0 (.int .u8 0) 1 1 Try.underlying180 hi hz0 hz1 hz2 rfl _ _ _ rfl (ho.alloc _) (.slice (some ⟨wr.heap.size, 0, none⟩) 1 1) 1 (cellsOf [d]) rfl (src_one d DD.out) HL.out.1 HL.out.2 (le_alloc HB.out _) ?_); intro ao' c' w1 ho' hg'; have hb1 := after_grow (blk_past hb _) (ho.alloc _) hg'; have h1 : w1.cell? ⟨b, 0, none⟩ = some (.slice ao l'.length c) := blk_cell hb1 0; have f1 := blk_free hb1 0; have HP : Hid _ := WInv.put (m := 1) (news := [d]) (blk_past hb _) (ho.alloc _) rfl ho' hg'; clear ho' hg' hb1))
      go_roundw
      case rel => exact ⟨k + 1, x / 256, l' ++ [d], by omega, by go_num, by omega, by go_num, HP.out.1, HE2, hkk.trans (((Kept.refl _ _).alloc _).trans HP.out.2)⟩
      case measure => simp [intOf]; omega
    · go_wp2
      go_end0
      refine ⟨rfl, ?_, hkk⟩
      rw [← HE.out, show 4 - k = 0 by omega, leN, List.append_nil]
      exact ⟨ao, c, hb, ho⟩

/-- The writer's bytes as a string. -/
theorem conv_own {b : Nat} {w : World} {l : List UInt8} {ao : Option Addr} {c : Nat} (ho : w.ownsRow (b + 1) 5 1 (.slice ao l.length c) l.length (cellsOf l)) :
    (convert 180 9 (.slice ao l.length c)).run Try.prog w = .ok (.string (bs l)) w := by
  rcases ho.2 with ⟨hv, hn⟩ | ⟨g, cap, cur, hv, hg⟩
  · obtain rfl : l = [] := List.eq_nil_of_length_eq_zero hn
    cases hv
    exact run_convert_bytes_nil w 180 5 Try.underlying180 Try.underlying5 0 0 9 Try.underlying9
  · cases hv
    refine run_convert_bytes_back w 180 9 5 ⟨g, 0, none⟩ c l Try.underlying180 Try.underlying5 Try.underlying9 ?_
    intro j hj
    refine ho.cells (g := g) rfl j _ ?_
    simp [cellsOf, hj]

theorem winv_new (w : World) : WInv w.heap.size (w.alloc (.cells #[.slice none 0 0] 182)) [] := ⟨none, 0, blk_new w _, World.ownsRow_nil _ _ _ _⟩
/-- What a new writer has turned is nothing that was there. -/
theorem Kept.newWr {w w' : World} {o : Obj} (h : Kept (Wr w.heap.size) (w.alloc o) w') : Kept Nil w w' := by
  have h2 := (h.mono (Y := fun k _ => w.heap.size ≤ k) (by
    rintro k o (rfl | ⟨hk, _⟩)
    · exact Nat.le_refl _
    · exact Nat.le_of_lt hk)).below (B := w.heap.size) (fun k o hk => hk) (by simp)
  exact Kept.ofBelow (((Below.refl _ _).alloc (Nat.le_refl _) o).trans h2) _

set_option maxRecDepth 100000 in
set_option maxHeartbeats 1000000 in
theorem frame_ok (s : List UInt8) (w : World) (hs : s.length ≤ 65536) :
    Calls Try.prog 61 #[.string (bs s)] w fun e w' => e = .returned (.tuple #[.string (bs (encFrame s)), .int .i64 0]) ∧ Kept Nil w w' := by
  have hsz := bs_size s
  have hs' : (s.length : Int) ≤ 65536 := by omega
  have H := fun b w h => wFrame_any b s [] w h (by omega) (by simp)
  simp only [List.nil_append] at H
  clear hs
  go_enter Try.func61, Try.ntmps61
  go_wp2_with (first | (go_at_call 129; refine (H _ _ (winv_new w)).mono ?_; rintro e w1 ⟨rfl, ⟨ao, c, hb, ho⟩, hk⟩; have h0 : w1.cell? ⟨w.heap.size, 0, none⟩ = some (.slice ao (encFrame s).length c) := blk_cell hb 0; have hcv := conv_own ho) | (go_at_call 128; go_in))
  go_ret2
  exact ⟨rfl, hk.newWr⟩

theorem frame_no (s : List UInt8) (w : World) (hs : ¬ s.length ≤ 65536) (hl : s.length ≤ maxLen) :
    Calls Try.prog 61 #[.string (bs s)] w fun e w' => e = .returned (.tuple #[.string (bs []), .int .i64 4]) ∧ w' = w := by
  unfold maxLen at hl
  have hsz := bs_size s
  have hs' : ¬ (s.length : Int) ≤ 65536 := by omega
  clear hs
  go_enter Try.func61, Try.ntmps61
  go_wp2_with (first | (go_at_call 128; go_in))
  go_ret2
  exact ⟨rfl, rfl⟩

/-- Four bytes of a literal as a string. -/
theorem conv4 (w : World) (a b c d : Int) :
    (convert 180 9 (.slice (some ⟨w.heap.size, 0, none⟩) 4 4)).run Try.prog (w.alloc (.cells #[.int .u8 a, .int .u8 b, .int .u8 c, .int .u8 d] 5)) =
      .ok (.string (bs [UInt8.ofNat a.toNat, UInt8.ofNat b.toNat, UInt8.ofNat c.toNat, UInt8.ofNat d.toNat])) (w.alloc (.cells #[.int .u8 a, .int .u8 b, .int .u8 c, .int .u8 d] 5)) := by
  refine (run_convert_bytes_arg _ 180 5 Try.underlying180 Try.underlying5 w.heap.size 0 4 4 [a, b, c, d] rfl ?_ 9 Try.underlying9).trans ?_
  · intro i hi
    have hb := blk_new w (.cells #[.int .u8 a, .int .u8 b, .int .u8 c, .int .u8 d] 5)
    rcases (show i = 0 ∨ i = 1 ∨ i = 2 ∨ i = 3 by omega) with rfl | rfl | rfl | rfl
    · exact blk_cell hb 0
    · exact blk_cell hb 1
    · exact blk_cell hb 2
    · exact blk_cell hb 3
  · rfl

/-! ### both at once -/
/-- What a frame is made of, or that it can't be: the bytes and the error. -/
def putFrame (s : List UInt8) : List UInt8 × Int := if s.length ≤ 65536 then (encFrame s, 0) else ([], 4)

theorem frame_any (s : List UInt8) (w : World) (hl : s.length ≤ maxLen) :
    Calls Try.prog 61 #[.string (bs s)] w fun e w' => e = .returned (.tuple #[.string (bs (putFrame s).1), .int .i64 (putFrame s).2]) ∧ Kept Nil w w' := by
  unfold putFrame
  split
  · exact frame_ok s w (by assumption)
  · refine (frame_no s w (by assumption) hl).mono ?_
    rintro e w' ⟨rfl, rfl⟩
    exact ⟨rfl, .refl _ _⟩
end Go.Proofs.Ytijklginabipgaa

/-
  Which numbers may be, and numbers written one behind the other: the program's areFrom, AreNumbers, AreCounts, and its writer's numbers.
-/
namespace Go.Proofs.Ytijklginabipgaa
open Go.RowKit

theorem blk_at {w : World} {b : Nat} {cs : Array Value} {t : TypeId} {v : Value} (h : w.heap[b]? = some (.cells cs t (0, 0))) (i : Nat) (hv : cs[i]? = some v) : w.cell? ⟨b, i, none⟩ = some v := (blk_cell h i).trans hv

/-- A row of ints in a block of its own. -/
def IntsAt (w : World) (b : Nat) (zs : List Int) : Prop := ∀ j, j < zs.length → w.cell? ⟨b, j, none⟩ = some (.int .i64 (zs.getD j 0))

def fromTo (least : Int) (zs : List Int) : Bool := zs.all fun z => decide (least ≤ z) && decide (z ≤ 1099511627775)

set_option maxRecDepth 100000 in
set_option maxHeartbeats 1000000 in
theorem areFrom_any (least : Int) (b cap : Nat) (zs : List Int) (w : World) (hc : IntsAt w b zs) (hl : zs.length ≤ 1099511627775) :
    Calls Try.prog 201 #[.int .i64 least, .slice (some ⟨b, 0, none⟩) zs.length cap] w fun e w' => e = .returned (.bool (fromTo least zs)) ∧ w' = w := by
  have hl' : (zs.length : Int) ≤ 1099511627775 := by omega
  have HC : Hid (IntsAt w b zs) := hc
  clear hc hl
  go_enter Try.func201, Try.ntmps201
  go_wp2
  go_loop [9] (fun i => ∃ k : Nat, k ≤ zs.length ∧ i = .int .i64 k ∧ Hid (fromTo least (zs.take k) = true)) (fun i => zs.length - (intOf i).toNat)
  case atStart => exact ⟨0, Nat.zero_le _, rfl, rfl⟩
  case round =>
    obtain ⟨k, hk, rfl, HT⟩ := hrel
    by_cases hlt : k < zs.length
    · have hcell := HC.out k hlt
      obtain ⟨z, hz⟩ : ∃ z, z = zs.getD k 0 := ⟨_, rfl⟩
      have HZ : Hid (zs.take (k + 1) = zs.take k ++ [z]) := by
        show zs.take (k + 1) = _
        rw [List.take_succ_eq_append_getElem hlt, hz]
        simp [List.getD_eq_getElem?_getD, hlt]
      have HG : Hid (zs = zs.take k ++ z :: zs.drop (k + 1)) := by
        show zs = _
        rw [hz]
        simp [List.getD_eq_getElem?_getD, hlt]
      rw [← hz] at hcell
      clear hz
      by_cases hin : least ≤ z ∧ z ≤ 1099511627775
      · obtain ⟨hin1, hin2⟩ := hin
        have HT2 : Hid (fromTo least (zs.take (k + 1)) = true) := by
          show fromTo least _ = true
          rw [HZ.out]
          have := HT.out
          simp only [fromTo, List.all_append, List.all_cons, List.all_nil, Bool.and_true] at this ⊢
          rw [this]; simp [hin1, hin2]
        go_wp2
        go_round
        case rel => exact ⟨k + 1, by omega, by go_num, HT2⟩
        case measure => simp [intOf]; omega
      · have HF : Hid (fromTo least zs = false) := by
          show fromTo least zs = false
          rw [HG.out]
          simp only [fromTo, List.all_append, List.all_cons]
          have : (decide (least ≤ z) && decide (z ≤ 1099511627775)) = false := by simp; omega
          rw [this]; simp
        by_cases h1 : z < least
        · clear hin
          go_wp2
          go_ret
          rw [HF.out]
          exact ⟨rfl, rfl⟩
        · have h2 : 1099511627775 < z := by omega
          clear hin
          go_wp2
          go_ret
          rw [HF.out]
          exact ⟨rfl, rfl⟩
    · have HF : Hid (fromTo least zs = true) := by
        have := HT.out
        rw [List.take_of_length_le (by omega)] at this
        exact this
      go_wp2
      go_ret
      rw [HF.out]
      exact ⟨rfl, rfl⟩

theorem areNumbers_any (b cap : Nat) (zs : List Int) (w : World) (hc : IntsAt w b zs) (hl : zs.length ≤ 1099511627775) :
    Calls Try.prog 158 #[.slice (some ⟨b, 0, none⟩) zs.length cap] w fun e w' => e = .returned (.bool (fromTo 0 zs)) ∧ w' = w := by
  have H := areFrom_any 0 b cap zs w hc hl
  clear hc hl
  go_enter Try.func158, Try.ntmps158
  go_wp2_with (go_at_call 201; go_must (refine H.mono ?_); rintro e w' ⟨rfl, rfl⟩)
  go_ret
  exact ⟨rfl, rfl⟩

theorem areCounts_any (b cap : Nat) (zs : List Int) (w : World) (hc : IntsAt w b zs) (hl : zs.length ≤ 1099511627775) :
    Calls Try.prog 140 #[.slice (some ⟨b, 0, none⟩) zs.length cap] w fun e w' => e = .returned (.bool (fromTo 1 zs)) ∧ w' = w := by
  have H := areFrom_any 1 b cap zs w hc hl
  clear hc hl
  go_enter Try.func140, Try.ntmps140
  go_wp2_with (go_at_call 201; go_must (refine H.mono ?_); rintro e w' ⟨rfl, rfl⟩)
  go_ret
  exact ⟨rfl, rfl⟩

/-- Numbers written one behind the other. -/
def encAll (ns : List Nat) : List UInt8 := ns.flatMap enc
def intsOf (ns : List Nat) : List Int := ns.map fun (n : Nat) => (n : Int)

theorem encAll_len (ns : List Nat) (h : ∀ n ∈ ns, n ≤ 1099511627775) : (encAll ns).length ≤ 6 * ns.length := by
  induction ns with
  | nil => simp [encAll]
  | cons n ns ih =>
    have h1 := enc_len6 (h n (by simp))
    have h2 := ih (fun m hm => h m (by simp [hm]))
    simp only [encAll, List.flatMap_cons, List.length_append, List.length_cons] at h2 ⊢
    omega

set_option maxRecDepth 100000 in
set_option maxHeartbeats 1000000 in
theorem wNumbers_any (b g cap : Nat) (cs : Array Value) (m : Nat × Nat) (ns : List Nat) (l : List UInt8) (w : World) (h : WInv b w l) (hg : w.heap[g]? = some (.cells cs 3 m)) (hgb : g ≠ b)
    (hc : IntsAt w g (intsOf ns)) (hn : ∀ n ∈ ns, n ≤ 1099511627775) (hnl : ns.length ≤ 10000000) (hl : l.length ≤ 100000000000) :
    Calls Try.prog 141 #[.pointer (some ⟨b, 0, none⟩), .slice (some ⟨g, 0, none⟩) ns.length cap] w fun e w' => e = .returned (.tuple #[]) ∧ WInv b w' (l ++ encAll ns) ∧ Kept (Wr b) w w' := by
  have hx : ¬ Wr b g (.cells cs 3 m) := by
    rintro (e | ⟨_, cs', m', e⟩)
    · exact hgb e
    · simp at e
  have HX : Hid (w.heap[g]? = some (.cells cs 3 m) ∧ ¬ Wr b g (.cells cs 3 m)) := ⟨hg, hx⟩
  have HC : Hid (IntsAt w g (intsOf ns)) := hc
  have HN : Hid (∀ n ∈ ns, n ≤ 1099511627775) := hn
  have HL : Hid (l.length ≤ 100000000000) := hl
  have hnl' : (ns.length : Int) ≤ 10000000 := by omega
  clear hg hx hc hn hl hgb
  go_enter Try.func141, Try.ntmps141
  go_wp2
  go_loopw [8] (fun i wr => ∃ k : Nat, k ≤ ns.length ∧ i = .int .i64 k ∧ WInv b wr (l ++ encAll (ns.take k)) ∧ Kept (Wr b) w wr) (fun i _ => ns.length - (intOf i).toNat)
  case atStart => exact ⟨0, Nat.zero_le _, rfl, by simpa [encAll] using h, .refl _ _⟩
  case round =>
    obtain ⟨k, hk, rfl, hinv, hkk⟩ := hrel
    by_cases hlt : k < ns.length
    · have hcell : wr.cell? ⟨g, k, none⟩ = some (.int .i64 (ns[k] : Nat)) := by
        rw [hkk.cell HX.out.1 HX.out.2 k, HC.out k (by simpa [intsOf] using hlt)]
        simp [intsOf, List.getD_eq_getElem?_getD, hlt]
      have hle := HN.out ns[k] (List.getElem_mem hlt)
      have HE : Hid ((l ++ encAll (ns.take k)) ++ enc ns[k] = l ++ encAll (ns.take (k + 1))) := by
        show _ = _
        rw [List.take_succ_eq_append_getElem hlt]
        simp only [encAll, List.flatMap_append, List.flatMap_cons, List.flatMap_nil, List.append_nil, List.append_assoc]
      have H := wNumber_any b ns[k] (l ++ encAll (ns.take k)) wr hinv hle (by
        have h1 := encAll_len (ns.take k) (fun n hn => HN.out n (List.mem_of_mem_take hn))
        have h2 := HL.out
        simp only [List.length_append, List.length_take] at h1 ⊢
        omega)
      rw [HE.out] at H
      obtain ⟨z, hz⟩ : ∃ z, z = ns[k] := ⟨_, rfl⟩
      rw [← hz] at hcell H
      have hle' : (z : Int) ≤ 1099511627775 := by omega
      clear hz hle hinv HE
      go_wp2_with (go_at_call 149; go_must (refine H.mono ?_); rintro e w' ⟨rfl, hinv', hk'⟩)
      go_roundw
      case rel => exact ⟨k + 1, by omega, by go_num, hinv', hkk.trans hk'⟩
      case measure => simp [intOf]; omega
    · go_wp2
      go_end0
      rw [List.take_of_length_le (by omega)] at hinv
      exact ⟨rfl, hinv, hkk⟩

end Go.Proofs.Ytijklginabipgaa

/-
  What the program's reader does, method by method: must, take, number, upTo, text: each answers by the plain reading of WBase, or gives up by its panic, and turns the reader's one cell alone.
-/
namespace Go.Proofs.Ytijklginabipgaa
open Go.RowKit

def up (c : Int) : List PanicEntry := [{ v := .iface 187 (.agg #[.int .i64 c]), recovered := false }]

theorem must_ok (c : Int) (w : World) : Calls Try.prog 145 #[.bool true, .int .i64 c] w fun e w' => e = .returned (.tuple #[]) ∧ w' = w := by
  go_enter Try.func145, Try.ntmps145
  go_wp2
  go_end0
  exact ⟨rfl, rfl⟩

theorem must_no (c : Int) (w : World) : Calls Try.prog 145 #[.bool false, .int .i64 c] w fun e w' => e = .panicked (up c) ∧ w' = w := by
  go_enter Try.func145, Try.ntmps145
  go_wp2
  exact ⟨rfl, rfl, rfl⟩

theorem take_ok (p : Addr) (l : List UInt8) (n : Nat) (w : World) (hc : w.cell? p = some (.string (bs l))) (hz : w.frozen? p = false) (hn : n ≤ l.length) :
    Calls Try.prog 186 #[.pointer (some p), .int .i64 n] w fun e w' => e = .returned (.string (bs (l.take n))) ∧ w' = w.setCell p (.string (bs (l.drop n))) := by
  have hn' : n ≤ (bs l).size := by rw [bs_size]; exact hn
  rw [← bs_take, ← bs_drop]
  clear hn
  go_enter Try.func186, Try.ntmps186
  go_wp2_with (go_at_call 145; refine (must_ok _ _).mono ?_; rintro e w' ⟨rfl, rfl⟩)
  go_ret
  exact ⟨rfl, rfl⟩

theorem take_no (p : Addr) (l : List UInt8) (n : Nat) (w : World) (hc : w.cell? p = some (.string (bs l))) (hz : w.frozen? p = false) (hn : l.length < n)  :
    Calls Try.prog 186 #[.pointer (some p), .int .i64 n] w fun e w' => e = .panicked (up 3) ∧ w' = w := by
  have hn' : ¬ n ≤ (bs l).size := by rw [bs_size]; omega
  clear hn
  go_enter Try.func186, Try.ntmps186
  go_wp2_with (go_at_call 145; refine (must_no _ _).mono ?_; rintro e w' ⟨rfl, rfl⟩)
  exact ⟨rfl, rfl, rfl⟩

/-- The reader's cell, told by the bytes that are left. -/
structure Left (p : Addr) (w : World) (l : List UInt8) : Prop where
  cell : w.cell? p = some (.string (bs l))
  free : w.frozen? p = false

theorem Left.set {p : Addr} {w : World} {l : List UInt8} (h : Left p w l) (t : List UInt8) : Left p (w.setCell p (.string (bs t))) t :=
  ⟨World.cell?_setCell_same _ _ _ (by rw [h.cell]), by rw [World.frozen?_setCell]; exact h.free⟩

/-- What a reader's method leaves: by its reading, the value and what is left; or its panic. -/
def RdPost {α : Type} (p : Addr) (w : World) (r : Except Int (α × List UInt8)) (V : α → World → Value → Prop) (e : Ending) (w' : World) : Prop :=
  match r with
  | .ok (a, t) => (∃ v, e = .returned v ∧ V a w' v) ∧ Left p w' t ∧ Kept (One p.block) w w'
  | .error c => e = .panicked (up c) ∧ Kept (One p.block) w w'

theorem RdPost.ok {α : Type} {p : Addr} {w : World} {r : Except Int (α × List UInt8)} {V : α → World → Value → Prop} {f : Nat} {args : Array Value} {a : α} {t : List UInt8}
    (h : Calls Try.prog f args w (RdPost p w r V)) (hr : r = .ok (a, t)) :
    Calls Try.prog f args w fun e w' => ∃ v, e = .returned v ∧ V a w' v ∧ w'.cell? p = some (.string (bs t)) ∧ w'.frozen? p = false ∧ Kept (One p.block) w w' := by
  refine h.mono ?_
  intro e w' h
  subst hr
  obtain ⟨⟨v, h1, h2⟩, h3, h4⟩ := h
  exact ⟨v, h1, h2, h3.cell, h3.free, h4⟩

theorem RdPost.no {α : Type} {p : Addr} {w : World} {r : Except Int (α × List UInt8)} {V : α → World → Value → Prop} {f : Nat} {args : Array Value} {c : Int}
    (h : Calls Try.prog f args w (RdPost p w r V)) (hr : r = .error c) :
    Calls Try.prog f args w fun e w' => e = .panicked (up c) ∧ Kept (One p.block) w w' := by
  refine h.mono ?_
  intro e w' h
  subst hr
  exact h

theorem i64_or_nat (a b : Nat) (ha : a < 9223372036854775808) (hb : b < 9223372036854775808) : bits .or .i64 (a : Int) (b : Int) = ((a ||| b : Nat) : Int) := by
  show IntKind.i64.wrap ((BitVec.ofInt 64 (a : Int) ||| BitVec.ofInt 64 (b : Int)).toNat : Int) = _
  rw [BitVec.toNat_or, ofInt_u64 a (by omega), ofInt_u64 b (by omega)]
  have : a ||| b < 2 ^ 63 := Nat.or_lt_two_pow (by omega) (by omega)
  rw [IntKind.wrap_i64]; omega

theorem or_fact (k x : Nat) (c : UInt8) (hk : k ≤ 6) (hx : x < 2 ^ (7 * k)) :
    bits BinOp.or IntKind.i64 (x : Int) (wrap64 (wrap64 (bits BinOp.and IntKind.u8 (c.toNat : Int) 127) * 2 ^ (7 * k))) = ((x + c.toNat % 128 * 2 ^ (7 * k) : Nat) : Int) := by
  have hc : c.toNat < 256 := c.toNat_lt
  have hp := pow7 k hk
  have e1 : bits BinOp.and IntKind.u8 (c.toNat : Int) 127 = ((c.toNat % 128 : Nat) : Int) := by
    have := u8_and_nat c.toNat 127 hc (by omega)
    rw [nat_mask7] at this
    exact this
  have hm : c.toNat % 128 * 2 ^ (7 * k) ≤ 127 * 4398046511104 := Nat.mul_le_mul (by omega) hp
  have e2 : wrap64 ((c.toNat % 128 : Nat) : Int) = ((c.toNat % 128 : Nat) : Int) := by unfold wrap64; omega
  have e3 : wrap64 (((c.toNat % 128 : Nat) : Int) * 2 ^ (7 * k)) = ((c.toNat % 128 * 2 ^ (7 * k) : Nat) : Int) := by
    have : (((c.toNat % 128 : Nat) : Int) * 2 ^ (7 * k)) = ((c.toNat % 128 * 2 ^ (7 * k) : Nat) : Int) := by push_cast; rfl
    rw [this]; unfold wrap64; omega
  rw [e1, e2, e3, i64_or_nat _ _ (by omega) (by omega), or_add hx]

def NumV : Nat → World → Value → Prop := fun n _ v => v = .int .i64 n

set_option maxRecDepth 100000 in
set_option maxHeartbeats 1000000 in
theorem number_any (p : Addr) (l : List UInt8) (w : World) (hl : Left p w l) :
    Calls Try.prog 146 #[.pointer (some p)] w (RdPost p w (rdNum l) NumV) := by
  obtain ⟨hc, hz⟩ := hl
  go_enter Try.func146, Try.ntmps146
  go_wp2
  go_loopw [3, 4] (fun n s wr => ∃ k : Nat, ∃ x : Nat, ∃ t : List UInt8, k ≤ 6 ∧ Hid (rdNum l = numGo k x t) ∧ x < 2 ^ (7 * k) ∧ n = .int .i64 x ∧ s = .int .i64 (7 * k : Nat) ∧ Left p wr t ∧ Kept (One p.block) w wr) (fun _ s _ => 50 - (intOf s).toNat)
  case atStart => exact ⟨0, 0, l, by omega, rfl, by omega, rfl, rfl, ⟨hc, hz⟩, .refl _ _⟩
  case round =>
    obtain ⟨k, x, t, hk, ht, hx, rfl, rfl, ⟨hcc, hzz⟩, hw⟩ := hrel
    clear hc hz
    cases t with
    | nil =>
      go_wp2_with (go_at_call 186; refine (take_no p [] 1 _ hcc hzz (by simp)).mono ?_; rintro e w' ⟨rfl, rfl⟩)
      rw [ht.out, numGo_nil]
      exact ⟨rfl, rfl, hw⟩
    | cons c t =>
      have h1 : (bs [c]).size = 1 := by rw [bs_size]; rfl
      have h2 : ∀ h, ((bs [c])[0]'h) = c := fun h => by rw [bs_at]; rfl
      have h3 := or_fact k x c hk hx
      have hlt := step_lt hx (show c.toNat % 128 < 128 by omega)
      have hw2 : Kept (One p.block) w (wr.setCell p (.string (bs t))) := hw.setCell (fun _ => rfl) _
      have hl2 : Left p (wr.setCell p (.string (bs t))) t := Left.set ⟨hcc, hzz⟩ t
      have HP : Hid (Kept (One p.block) w (wr.setCell p (.string (bs t))) ∧ Left p (wr.setCell p (.string (bs t))) t) := ⟨hw2, hl2⟩
      clear hw2 hl2
      obtain ⟨z, hz⟩ : ∃ z, z = x + c.toNat % 128 * 2 ^ (7 * k) := ⟨_, rfl⟩
      rw [← hz] at h3 hlt
      have HD : Hid (z = x + c.toNat % 128 * 2 ^ (7 * k)) := hz
      by_cases hb : k ≤ 5 ∧ x + c.toNat % 128 * 2 ^ (7 * k) ≤ maxNum ∧ (c.toNat ≠ 0 ∨ k = 0)
      · have hm : (z : Int) ≤ 1099511627775 := by rw [hz]; unfold maxNum at hb; omega
        by_cases h128 : c.toNat < 128
        · have HR : Hid (rdNum l = .ok (z, t)) := by rw [hz]; exact ht.out.trans (numGo_end hb h128)
          obtain ⟨hb1, hb2, hb3⟩ := hb
          clear hb2 hz
          by_cases hcz : c.toNat = 0
          · have hkz : (7 * (k : Int) == 0) = true := by simp; omega
            clear hb3
            have hcz2 : ((c.toNat : Int) != 0) = false := by simp [hcz]
            clear hcz
            go_wp2_with (first | (go_at_call 186; refine (take_ok p (c :: t) 1 _ hcc hzz (by simp)).mono ?_; rintro e w' ⟨rfl, rfl⟩) | (go_at_call 145; refine (must_ok _ _).mono ?_; rintro e w' ⟨rfl, rfl⟩))
            go_ret
            unfold RdPost
            rw [HR.out]
            exact ⟨⟨_, rfl, rfl⟩, HP.out.2, HP.out.1⟩
          · clear hb3
            go_wp2_with (first | (go_at_call 186; refine (take_ok p (c :: t) 1 _ hcc hzz (by simp)).mono ?_; rintro e w' ⟨rfl, rfl⟩) | (go_at_call 145; refine (must_ok _ _).mono ?_; rintro e w' ⟨rfl, rfl⟩))
            go_ret
            unfold RdPost
            rw [HR.out]
            exact ⟨⟨_, rfl, rfl⟩, HP.out.2, HP.out.1⟩
        · have HR : Hid (rdNum l = numGo (k + 1) z t) := by rw [hz]; exact ht.out.trans (numGo_more hb h128)
          obtain ⟨hb1, hb2, hb3⟩ := hb
          have hcz : ¬ c.toNat = 0 := by omega
          clear hb2 hz hb3
          go_wp2_with (first | (go_at_call 186; refine (take_ok p (c :: t) 1 _ hcc hzz (by simp)).mono ?_; rintro e w' ⟨rfl, rfl⟩) | (go_at_call 145; refine (must_ok _ _).mono ?_; rintro e w' ⟨rfl, rfl⟩))
          go_roundw
          case rel => exact ⟨k + 1, z, t, by omega, HR, hlt, rfl, by go_num, HP.out.2, HP.out.1⟩
          case measure => simp [intOf]; omega
      · have HR : Hid (rdNum l = .error 1) := ht.out.trans (numGo_bad hb)
        by_cases hk5 : k ≤ 5
        · by_cases hm : (z : Int) ≤ 1099511627775
          · have hcz : c.toNat = 0 := by unfold maxNum at hb; omega
            have hkz : (7 * (k : Int) == 0) = false := by simp; unfold maxNum at hb; omega
            have hcz2 : ((c.toNat : Int) != 0) = false := by simp [hcz]
            clear hcz hb hz
            go_wp2_with (first | (go_at_call 186; refine (take_ok p (c :: t) 1 _ hcc hzz (by simp)).mono ?_; rintro e w' ⟨rfl, rfl⟩) | (go_at_call 145; refine (must_no _ _).mono ?_; rintro e w' ⟨rfl, rfl⟩))
            unfold bodyPost RdPost
            rw [HR.out]
            exact ⟨rfl, rfl, HP.out.1⟩
          · clear hb hz
            go_wp2_with (first | (go_at_call 186; refine (take_ok p (c :: t) 1 _ hcc hzz (by simp)).mono ?_; rintro e w' ⟨rfl, rfl⟩) | (go_at_call 145; refine (must_no _ _).mono ?_; rintro e w' ⟨rfl, rfl⟩))
            unfold bodyPost RdPost
            rw [HR.out]
            exact ⟨rfl, rfl, HP.out.1⟩
        · clear hb hz
          go_wp2_with (first | (go_at_call 186; refine (take_ok p (c :: t) 1 _ hcc hzz (by simp)).mono ?_; rintro e w' ⟨rfl, rfl⟩) | (go_at_call 145; refine (must_no _ _).mono ?_; rintro e w' ⟨rfl, rfl⟩))
          unfold bodyPost RdPost
          rw [HR.out]
          exact ⟨rfl, rfl, HP.out.1⟩

theorem number_ok {p : Addr} {l t : List UInt8} {n : Nat} {w : World} (hl : Left p w l) (hr : rdNum l = .ok (n, t)) :
    Calls Try.prog 146 #[.pointer (some p)] w fun e w' => e = .returned (.int .i64 n) ∧ w'.cell? p = some (.string (bs t)) ∧ w'.frozen? p = false ∧ Kept (One p.block) w w' := by
  refine (RdPost.ok (number_any p l w hl) hr).mono ?_
  rintro e w' ⟨v, rfl, rfl, h⟩
  exact ⟨rfl, h⟩

theorem number_no {p : Addr} {l : List UInt8} {c : Int} {w : World} (hl : Left p w l) (hr : rdNum l = .error c) :
    Calls Try.prog 146 #[.pointer (some p)] w fun e w' => e = .panicked (up c) ∧ Kept (One p.block) w w' := RdPost.no (number_any p l w hl) hr

theorem upTo_any (p : Addr) (most : Nat) (l : List UInt8) (w : World) (hl : Left p w l) :
    Calls Try.prog 202 #[.pointer (some p), .int .i64 most] w (RdPost p w (rdUpTo most l) NumV) := by
  cases hr : rdNum l with
  | error c =>
    have HR : Hid (rdUpTo most l = .error c) := by unfold rdUpTo; rw [hr]; rfl
    go_enter Try.func202, Try.ntmps202
    go_wp2_with (go_at_call 146; refine (number_no hl hr).mono ?_; rintro e w' ⟨rfl, hk⟩)
    unfold bodyPost RdPost
    rw [HR.out]
    exact ⟨rfl, rfl, hk⟩
  | ok r =>
    obtain ⟨n, t⟩ := r
    by_cases hn : n ≤ most
    · have HR : Hid (rdUpTo most l = .ok (n, t)) := by unfold rdUpTo; rw [hr]; exact if_pos hn
      go_enter Try.func202, Try.ntmps202
      go_wp2_with (first | (go_at_call 146; refine (number_ok hl hr).mono ?_; rintro e w' ⟨rfl, hc', hz', hk⟩) | (go_at_call 145; refine (must_ok _ _).mono ?_; rintro e w' ⟨rfl, rfl⟩))
      go_ret
      unfold RdPost
      rw [HR.out]
      exact ⟨⟨_, rfl, rfl⟩, ⟨by assumption, by assumption⟩, by assumption⟩
    · have HR : Hid (rdUpTo most l = .error 4) := by unfold rdUpTo; rw [hr]; exact if_neg hn
      go_enter Try.func202, Try.ntmps202
      go_wp2_with (first | (go_at_call 146; refine (number_ok hl hr).mono ?_; rintro e w' ⟨rfl, hc', hz', hk⟩) | (go_at_call 145; refine (must_no _ _).mono ?_; rintro e w' ⟨rfl, rfl⟩))
      unfold bodyPost RdPost
      rw [HR.out]
      exact ⟨rfl, rfl, by assumption⟩

theorem upTo_ok {p : Addr} {l t : List UInt8} {most n : Nat} {w : World} (hl : Left p w l) (hr : rdUpTo most l = .ok (n, t)) :
    Calls Try.prog 202 #[.pointer (some p), .int .i64 most] w fun e w' => e = .returned (.int .i64 n) ∧ w'.cell? p = some (.string (bs t)) ∧ w'.frozen? p = false ∧ Kept (One p.block) w w' := by
  refine (RdPost.ok (upTo_any p most l w hl) hr).mono ?_
  rintro e w' ⟨v, rfl, rfl, h⟩
  exact ⟨rfl, h⟩

theorem upTo_no {p : Addr} {l : List UInt8} {most : Nat} {c : Int} {w : World} (hl : Left p w l) (hr : rdUpTo most l = .error c) :
    Calls Try.prog 202 #[.pointer (some p), .int .i64 most] w fun e w' => e = .panicked (up c) ∧ Kept (One p.block) w w' := RdPost.no (upTo_any p most l w hl) hr

def StrV : List UInt8 → World → Value → Prop := fun s _ v => v = .string (bs s)

theorem text_any (p : Addr) (most : Nat) (l : List UInt8) (w : World) (hl : Left p w l) :
    Calls Try.prog 147 #[.pointer (some p), .int .i64 most] w (RdPost p w (rdText most l) StrV) := by
  cases hr : rdUpTo most l with
  | error c =>
    have HR : Hid (rdText most l = .error c) := by unfold rdText; rw [hr]; rfl
    go_enter Try.func147, Try.ntmps147
    go_wp2_with (go_at_call 202; refine (upTo_no hl hr).mono ?_; rintro e w' ⟨rfl, hk⟩)
    unfold bodyPost RdPost
    rw [HR.out]
    exact ⟨rfl, rfl, hk⟩
  | ok r =>
    obtain ⟨n, t⟩ := r
    by_cases hn : n ≤ t.length
    · have HR : Hid (rdText most l = .ok (t.take n, t.drop n)) := by unfold rdText; rw [hr]; exact if_pos hn
      go_enter Try.func147, Try.ntmps147
      go_wp2_with (first | (go_at_call 202; refine (upTo_ok hl hr).mono ?_; rintro e w' ⟨rfl, hc', hz', hk⟩) | (go_at_call 186; refine (take_ok p t n _ hc' hz' hn).mono ?_; rintro e w2 ⟨rfl, rfl⟩))
      go_ret
      unfold RdPost
      rw [HR.out]
      exact ⟨⟨_, rfl, rfl⟩, Left.set (l := t) ⟨by assumption, by assumption⟩ _, Kept.setCell (by assumption) (fun _ => rfl) _⟩
    · have HR : Hid (rdText most l = .error 3) := by unfold rdText; rw [hr]; exact if_neg hn
      go_enter Try.func147, Try.ntmps147
      go_wp2_with (first | (go_at_call 202; refine (upTo_ok hl hr).mono ?_; rintro e w' ⟨rfl, hc', hz', hk⟩) | (go_at_call 186; refine (take_no p t n _ hc' hz' (by omega)).mono ?_; rintro e w2 ⟨rfl, rfl⟩))
      unfold bodyPost RdPost
      rw [HR.out]
      exact ⟨rfl, rfl, by assumption⟩

theorem text_ok {p : Addr} {l s t : List UInt8} {most : Nat} {w : World} (hl : Left p w l) (hr : rdText most l = .ok (s, t)) :
    Calls Try.prog 147 #[.pointer (some p), .int .i64 most] w fun e w' => e = .returned (.string (bs s)) ∧ w'.cell? p = some (.string (bs t)) ∧ w'.frozen? p = false ∧ Kept (One p.block) w w' := by
  refine (RdPost.ok (text_any p most l w hl) hr).mono ?_
  rintro e w' ⟨v, rfl, rfl, h⟩
  exact ⟨rfl, h⟩

theorem text_no {p : Addr} {l : List UInt8} {most : Nat} {c : Int} {w : World} (hl : Left p w l) (hr : rdText most l = .error c) :
    Calls Try.prog 147 #[.pointer (some p), .int .i64 most] w fun e w' => e = .panicked (up c) ∧ Kept (One p.block) w w' := RdPost.no (text_any p most l w hl) hr

end Go.Proofs.Ytijklginabipgaa

/-
  The program's reader of a frame, Unframe; and the document's: the same plain reading.
-/
namespace Go.Proofs.Ytijklginabipgaa
open Go.RowKit

/-- What so many bytes say, the lowest first. -/
def valN : Nat → List UInt8 → Nat
  | 0, _ => 0
  | k + 1, l => valN k l + (l.getD k 0).toNat * 2 ^ (8 * k)
theorem valN_lt (l : List UInt8) : ∀ k, valN k l < 2 ^ (8 * k)
  | 0 => by simp [valN]
  | k + 1 => by
    have ih := valN_lt l k
    have hb := (l.getD k 0).toNat_lt
    have e : 2 ^ (8 * (k + 1)) = 256 * 2 ^ (8 * k) := by rw [Nat.mul_add, Nat.pow_add]; omega
    have : ((l.getD k 0).toNat + 1) * 2 ^ (8 * k) ≤ 256 * 2 ^ (8 * k) := Nat.mul_le_mul_right _ (by omega)
    rw [Nat.add_mul] at this
    show valN k l + _ < _
    omega

theorem cell_lt {w : World} {a : Addr} {v : Value} (h : w.cell? a = some v) : a.block < w.heap.size := by
  cases hb : w.heap[a.block]? with
  | none => simp [World.cell?, hb] at h
  | some o => exact lt_of_block hb
theorem Left.alloc {p : Addr} {w : World} {l : List UInt8} (h : Left p w l) (o : Obj) : Left p (w.alloc o) l :=
  have e := Below.heap_alloc w o p.block (cell_lt h.cell)
  ⟨(World.cell?_of_block e).trans h.cell, (World.frozen?_of_block e).trans h.free⟩
theorem Left.other {p : Addr} {w : World} {l : List UInt8} (h : Left p w l) {a : Addr} (ha : p.block ≠ a.block) (u : Value) : Left p (w.setCell a u) l :=
  have e := Below.heap_setCell w a u p.block ha
  ⟨(World.cell?_of_block e).trans h.cell, (World.frozen?_of_block e).trans h.free⟩
theorem Left.drew {p : Addr} {w : World} {l : List UInt8} (h : Left p w l) : Left p w.drew l := ⟨h.cell, h.free⟩

theorem or8 (k x : Nat) (d : UInt8) (hk : k < 4) (hx : x < 2 ^ (8 * k)) : bits BinOp.or IntKind.u32 (x : Int) ((d.toNat : Int) * 2 ^ (8 * k) % 4294967296) = ((x + d.toNat * 2 ^ (8 * k) : Nat) : Int) := by
  have hd := d.toNat_lt
  have hp : 2 ^ (8 * k) ≤ 2 ^ 24 := Nat.pow_le_pow_right (by omega) (by omega)
  have hm : d.toNat * 2 ^ (8 * k) ≤ 255 * 2 ^ 24 := Nat.mul_le_mul (by omega) hp
  have e : ((d.toNat : Int) * 2 ^ (8 * k) % 4294967296) = ((d.toNat * 2 ^ (8 * k) : Nat) : Int) := by
    have : ((d.toNat : Int) * 2 ^ (8 * k)) = ((d.toNat * 2 ^ (8 * k) : Nat) : Int) := by push_cast; rfl
    rw [this]; omega
  rw [e, u32_or_nat _ _ (by omega) (by omega), Nat.or_comm, ← Nat.shiftLeft_eq, ← Nat.shiftLeft_add_eq_or_of_lt hx, Nat.add_comm]

def rdSum (l : List UInt8) : Except Int (Nat × List UInt8) := if 4 ≤ l.length then .ok (valN 4 (l.take 4), l.drop 4) else .error 3
def U32V : Nat → World → Value → Prop := fun n _ v => v = .int .u32 n

theorem sum_cell (w : World) (l : List UInt8) (cap k : Nat) (m : Nat × Nat) (hk : k < l.length) :
    (w.alloc (.cells (bytesRow (bs l) cap) 5 m)).drew.cell? ⟨w.heap.size, k, none⟩ = some (.int .u8 (l.getD k 0).toNat) := by
  have hb : (w.alloc (.cells (bytesRow (bs l) cap) 5 m)).drew.heap[w.heap.size]? = some (.cells (bytesRow (bs l) cap) 5 m) := blk_new w _
  simp only [World.cell?, hb]
  simp [bytesRow, bs, hk, Array.getElem?_append, List.getD_eq_getElem?_getD]

set_option maxRecDepth 100000 in
set_option maxHeartbeats 1000000 in
theorem rdSum_any (p : Addr) (l : List UInt8) (w : World) (hl : Left p w l) :
    Calls Try.prog 185 #[.pointer (some p)] w (RdPost p w (rdSum l) U32V) := by
  by_cases h4 : 4 ≤ l.length
  · have hcv := fun w s => run_bytes_of_string (P := Try.prog) w 9 180 5 s Try.underlying9 Try.underlying180 Try.underlying5
    have hsz : (bs (l.take 4)).size = 4 := by rw [bs_size]; simp; omega
    go_enter Try.func185, Try.ntmps185
    go_wp2_with (first | (go_at_call 186; refine (take_ok p l 4 _ hl.1 hl.2 h4).mono ?_; rintro e w1 ⟨rfl, rfl⟩))
    go_loopw [3, 10] (fun t i wr => ∃ k : Nat, ∃ x : Nat, k ≤ 4 ∧ i = .int .i64 k ∧ Hid (x = valN k (l.take 4)) ∧ t = .int .u32 x ∧ Hid (∀ j, j < 4 → wr.cell? ⟨w.heap.size, j, none⟩ = some (.int .u8 ((l.take 4).getD j 0).toNat)) ∧ Hid (Left p wr (l.drop 4) ∧ Kept (One p.block) w wr)) (fun _ i _ => 4 - (intOf i).toNat)
    case atStart =>
      have e : (w.setCell p (.string (bs (l.drop 4)))).heap.size = w.heap.size := by simp [World.setCell]
      refine ⟨0, 0, by omega, rfl, rfl, rfl, ?_, ?_⟩
      · intro j hj
        rw [← e]
        exact sum_cell _ _ _ _ _ (by simp; omega)
      · exact ⟨((hl.set _).alloc _).drew, (((Kept.refl _ _).setCell (fun _ => rfl) _).alloc _).drew⟩
    case round =>
      obtain ⟨k, x, hk, rfl, HX, rfl, HC, HK⟩ := hrel
      have hx := valN_lt (l.take 4) k
      rw [← HX.out] at hx
      by_cases hk4 : k < 4
      · have hc := HC.out k hk4
        obtain ⟨d, hd⟩ : ∃ d, d = (l.take 4).getD k 0 := ⟨_, rfl⟩
        rw [← hd] at hc
        have HN : Hid (valN (k + 1) (l.take 4) = x + d.toNat * 2 ^ (8 * k)) := by rw [HX.out, hd]; rfl
        clear hd
        have ho := or8 k x d hk4 hx
        have hd := d.toNat_lt
        go_wp2
        go_roundw
        case rel => exact ⟨k + 1, x + d.toNat * 2 ^ (8 * k), by omega, by go_num, HN.out.symm, by push_cast; rfl, HC, HK⟩
        case measure => simp [intOf]; omega
      · have HR : Hid (rdSum l = .ok (x, l.drop 4)) := by
          obtain rfl : k = 4 := by omega
          rw [HX.out]; exact if_pos h4
        go_wp2
        go_ret
        unfold RdPost
        rw [HR.out]
        exact ⟨⟨_, rfl, rfl⟩, HK.out.1, HK.out.2⟩
  · have HR : Hid (rdSum l = .error 3) := if_neg h4
    go_enter Try.func185, Try.ntmps185
    go_wp2_with (first | (go_at_call 186; refine (take_no p l 4 _ hl.1 hl.2 (by omega)).mono ?_; rintro e w1 ⟨rfl, rfl⟩))
    unfold bodyPost RdPost
    rw [HR.out]
    exact ⟨rfl, rfl, .refl _ _⟩

/-- A frame: its body and what stands behind it; all is taken. -/
def rdFrame (l : List UInt8) : Except Int ((List UInt8 × List UInt8) × List UInt8) :=
  match rdText 65536 l with
  | .error c => .error c
  | .ok (body, t) =>
    match rdSum t with
    | .error c => .error c
    | .ok (n, u) => if n = crc body then .ok ((body, u), []) else .error 2
def FrV : List UInt8 × List UInt8 → World → Value → Prop := fun x _ v => v = .agg #[.string (bs x.1), .string (bs x.2)]

theorem rdText_len {most : Nat} {l s t : List UInt8} (h : rdText most l = .ok (s, t)) : s.length ≤ most ∧ s.length + t.length < l.length := by
  unfold rdText at h
  split at h
  · rename_i n u hr
    have := rdUpTo_ok hr
    unfold rdTake at h
    split at h
    · simp only [Except.ok.injEq, Prod.mk.injEq] at h
      obtain ⟨rfl, rfl⟩ := h
      simp
      omega
    · cases h
  · cases h

theorem rdSum_ok {p : Addr} {l t : List UInt8} {n : Nat} {w : World} (hl : Left p w l) (hr : rdSum l = .ok (n, t)) :
    Calls Try.prog 185 #[.pointer (some p)] w fun e w' => e = .returned (.int .u32 n) ∧ w'.cell? p = some (.string (bs t)) ∧ w'.frozen? p = false ∧ Kept (One p.block) w w' := by
  refine (RdPost.ok (rdSum_any p l w hl) hr).mono ?_
  rintro e w' ⟨v, rfl, rfl, h⟩
  exact ⟨rfl, h⟩
theorem rdSum_no {p : Addr} {l : List UInt8} {c : Int} {w : World} (hl : Left p w l) (hr : rdSum l = .error c) :
    Calls Try.prog 185 #[.pointer (some p)] w fun e w' => e = .panicked (up c) ∧ Kept (One p.block) w w' := RdPost.no (rdSum_any p l w hl) hr

set_option maxRecDepth 100000 in
set_option maxHeartbeats 1000000 in
theorem rFrame_any (p : Addr) (l : List UInt8) (w : World) (hl : Left p w l) (hlen : l.length ≤ maxLen) :
    Calls Try.prog 131 #[.pointer (some p)] w (RdPost p w (rdFrame l) FrV) := by
  have hla := hl.alloc (.cells #[.string (bs []), .string (bs [])] 168)
  cases hr : rdText 65536 l with
  | error c =>
    have HR : Hid (rdFrame l = .error c) := by unfold rdFrame; rw [hr]; rfl
    go_enter Try.func131, Try.ntmps131
    go_wp2_with (first | (go_at_call 147; go_must (refine (text_no hla hr).mono ?_); rintro e w1 ⟨rfl, hk⟩))
    unfold bodyPost RdPost
    rw [HR.out]
    exact ⟨rfl, rfl, ((Kept.refl _ _).alloc _).trans hk⟩
  | ok r =>
    obtain ⟨body, t⟩ := r
    have hbl := rdText_len hr
    have HB : Hid (p.block < w.heap.size) := cell_lt hl.cell
    have HN : Hid ((w.alloc (.cells #[.string (bs []), .string (bs [])] 168)).heap[w.heap.size]? = some (.cells #[.string (bs []), .string (bs [])] 168 (0, 0))) := blk_new w _
    have HX : Hid (¬ One p.block w.heap.size (.cells #[.string (bs []), .string (bs [])] 168 (0, 0))) := fun (e : w.heap.size = p.block) => by have := HB.out; omega
    have HS := fun w => sum_any body w (by omega)
    cases hs : rdSum t with
    | error c =>
      have HR : Hid (rdFrame l = .error c) := by show rdFrame l = _; unfold rdFrame; rw [hr]; simp only [hs]
      clear hbl hlen
      go_enter Try.func131, Try.ntmps131
      go_wp2_with (first | (go_at_call 147; go_must (refine (text_ok hla hr).mono ?_); rintro e w1 ⟨rfl, hc1, hz1, hk⟩) | (go_at_call 185; go_must (refine (rdSum_no ⟨hc1, hz1⟩ hs).mono ?_); rintro e w2 ⟨rfl, hk2⟩))
      unfold bodyPost RdPost
      rw [HR.out]
      exact ⟨rfl, rfl, (((Kept.refl _ _).alloc _).trans hk).trans hk2⟩
    | ok r2 =>
      obtain ⟨n, u⟩ := r2
      have hul : u.length ≤ maxLen := by
        unfold rdSum at hs
        split at hs
        · simp only [Except.ok.injEq, Prod.mk.injEq] at hs
          obtain ⟨_, rfl⟩ := hs
          simp; omega
        · cases hs
      unfold maxLen at hul
      have hsz := bs_size u
      clear hlen
      by_cases hn : n = crc body
      · have HR : Hid (rdFrame l = .ok ((body, u), [])) := by unfold rdFrame; rw [hr]; simp only [hs]; exact if_pos hn
        subst hn
        clear hbl
        go_enter Try.func131, Try.ntmps131
        go_wp2_with (first | (go_at_call 147; go_must (refine (text_ok hla hr).mono ?_); rintro e w1 ⟨rfl, hc1, hz1, hk⟩) | (go_at_call 185; go_must (refine (rdSum_ok ⟨hc1, hz1⟩ hs).mono ?_); rintro e w2 ⟨rfl, hc2, hz2, hk2⟩) | (go_at_call 183; refine (HS _).mono ?_; rintro e w3 ⟨rfl, rfl⟩) | (go_at_call 145; go_must (refine (must_ok _ _).mono ?_); rintro e w4 ⟨rfl, rfl⟩) | (go_at_call 186; go_must (refine (take_ok p u u.length _ hc2 hz2 (Nat.le_refl _)).mono ?_); rintro e w5 ⟨rfl, hw5⟩; have hbr : w5.heap[w.heap.size]? = _ := hw5 ▸ blk_other (hk2.block _ _ (hk.block _ _ HN.out HX.out) HX.out) (Nat.ne_of_gt HB.out) _; have hl5 : Left p w5 (u.drop u.length) := hw5 ▸ Left.set ⟨hc2, hz2⟩ _; have hk5 : Kept (One p.block) w4 w5 := hw5 ▸ (Kept.refl _ _).setCell (fun _ => rfl) _; clear hw5; have g0 := blk_cell hbr 0; have g1 := blk_cell hbr 1; have f0 := blk_free hbr 0; have f1 := blk_free hbr 1; simp only [List.getElem?_toArray, List.getElem?_cons_zero, List.getElem?_cons_succ] at g0 g1))
        refine bodyPost_ret (v := .agg #[.string (bs body), .string (bs u)]) (by simp [results, Try.results131, go_sem, g0, g1]) rfl ?_
        unfold RdPost
        rw [HR.out]
        rw [List.drop_length] at hl5
        exact ⟨⟨_, rfl, rfl⟩, (hl5.other (Nat.ne_of_lt HB.out) _).other (Nat.ne_of_lt HB.out) _, ((((((Kept.refl _ _).alloc _).trans hk).trans hk2).trans hk5).setNew (Nat.le_refl _) _).setNew (Nat.le_refl _) _⟩
      · have HR : Hid (rdFrame l = .error 2) := by unfold rdFrame; rw [hr]; simp only [hs]; exact if_neg hn
        have hn' : ((n : Int) == (crc body : Int)) = false := by simp; omega
        clear hbl hn
        go_enter Try.func131, Try.ntmps131
        go_wp2_with (first | (go_at_call 147; go_must (refine (text_ok hla hr).mono ?_); rintro e w1 ⟨rfl, hc1, hz1, hk⟩) | (go_at_call 185; go_must (refine (rdSum_ok ⟨hc1, hz1⟩ hs).mono ?_); rintro e w2 ⟨rfl, hc2, hz2, hk2⟩) | (go_at_call 183; refine (HS _).mono ?_; rintro e w3 ⟨rfl, rfl⟩) | (go_at_call 145; go_must (refine (must_no _ _).mono ?_); rintro e w4 ⟨rfl, rfl⟩))
        unfold bodyPost RdPost
        rw [HR.out]
        exact ⟨rfl, rfl, (((Kept.refl _ _).alloc _).trans hk).trans hk2⟩

end Go.Proofs.Ytijklginabipgaa

/-
  The program's read: a reader that gives up is caught, and the error stands in the answer.
-/
namespace Go.Proofs.Ytijklginabipgaa
open Go.RowKit

theorem catch_slots (a b t : Value) : #[a, b] ++ ((Array.replicate 18 undef).setIfInBounds 4 t).setIfInBounds 0 t = #[a, b, t, undef, undef, undef, t, undef, undef, undef, undef, undef, undef, undef, undef, undef, undef, undef, undef, undef] := by
  apply Array.ext'
  simp [List.replicate]

theorem assert_up (c : Int) (w : World) : (Instr.typeAssert (.iface 187 (.agg #[.int .i64 c])) 20 187 true).run Try.prog w = .ok (.tuple #[.agg #[.int .i64 c], .bool true]) w := by
  simp [Instr.typeAssert, run_underlying Try.underlying187]

set_option maxRecDepth 100000 in
set_option maxHeartbeats 600000 in
/-- What the two named results hold behind a caught panic: the zero value and the reason. -/
theorem catchF_panic (A E : Nat) (c : Int) (x0 x1 z : Value) (w : World) (hA : w.heap[A]? = some (.cells #[x0, x1] 168 (0, 0))) (hE : w.heap[E]? = some (.cells #[z] 28 (0, 0))) (hne : A ≠ E) :
    CallsD Try.prog 184 #[.pointer (some ⟨A, 0, none⟩), .pointer (some ⟨E, 0, none⟩)] (.panicking (up c)) w fun e u' w' =>
      e = .returned (.tuple #[]) ∧ u' = .panicking [{ v := .iface 187 (.agg #[.int .i64 c]), recovered := true }] ∧
      w'.heap[A]? = some (.cells #[.string (bs []), .string (bs [])] 168 (0, 0)) ∧ w'.heap[E]? = some (.cells #[.int .i64 c] 28 (0, 0)) ∧ Kept (fun k _ => k = A ∨ k = E) w w' := by
  have a0 := blk_cell hA 0
  have a1 := blk_cell hA 1
  have e0 := blk_cell hE 0
  have fa0 := blk_free hA 0
  have fa1 := blk_free hA 1
  have fe0 := blk_free hE 0
  simp only [List.getElem?_toArray, List.getElem?_cons_zero, List.getElem?_cons_succ] at a0 a1 e0
  refine callsD_of_wpS Try.func184 rfl fun c₀ cs hu => ?_
  unfold up at hu
  apply wpS_seq
  apply wpS_region
  simp [wpOpsS, go_sem, recoverD, hu, Try.ntmps184, Exit.thenS]
  refine wpS_of_wp ?_
  rw [catch_slots]
  clear hu
  have hta := assert_up
  have hAl := lt_of_block hA
  have hEl := lt_of_block hE
  go_wp2
  go_region
  refine ⟨rfl, _, rfl, .tuple #[], by simp [results, Try.results184], rfl, rfl, ?_⟩
  exact ⟨blk_past (blk_past (blk_other (blk_set (blk_set hA 0 _) 1 _) hne _) _) _, blk_past (blk_past (blk_set (blk_other (blk_other hE hne.symm _) hne.symm _) 0 _) _) _,
    (((((Kept.refl _ _).setCell (fun _ => .inl rfl) _).setCell (fun _ => .inl rfl) _).setCell (fun _ => .inr rfl) _).alloc _).alloc _ |>.drew⟩

set_option maxRecDepth 100000 in
set_option maxHeartbeats 600000 in
theorem catchF_idle (A E : Addr) (w : World) :
    CallsD Try.prog 184 #[.pointer (some A), .pointer (some E)] .returning w fun e u' w' => e = .returned (.tuple #[]) ∧ u' = .returning ∧ w' = w := by
  refine callsD_of_wpS Try.func184 rfl fun c₀ cs hu => ?_
  apply wpS_seq
  apply wpS_region
  simp [wpOpsS, go_sem, recoverD, hu, Try.ntmps184, Exit.thenS]
  refine wpS_of_wp ?_
  rw [catch_slots]
  go_wp2
  refine ⟨rfl, .returning, ?_, .tuple #[], by simp [results, Try.results184], rfl, rfl, rfl⟩
  cases c₀
  simp_all

/-- A whole text, read: nothing may be left. -/
def rdAll {α : Type} (r : Except Int (α × List UInt8)) : Except Int α :=
  match r with
  | .ok (a, []) => .ok a
  | .ok (_, _ :: _) => .error 1
  | .error c => .error c

theorem three (w : World) (o1 o2 o3 : Obj) : (((w.alloc o1).alloc o2).alloc o3).heap[w.heap.size]? = some o1 ∧ (((w.alloc o1).alloc o2).alloc o3).heap[w.heap.size + 1]? = some o2 ∧ (((w.alloc o1).alloc o2).alloc o3).heap[w.heap.size + 2]? = some o3 := by
  have e1 : (w.alloc o1).heap.size = w.heap.size + 1 := by simp
  have e2 : ((w.alloc o1).alloc o2).heap.size = w.heap.size + 2 := by simp
  refine ⟨blk_past (blk_past (blk_new w o1) _) _, ?_, ?_⟩
  · have := blk_past (blk_new (w.alloc o1) o2) o3
    rwa [e1] at this
  · have := blk_new ((w.alloc o1).alloc o2) o3
    rwa [e2] at this
theorem Left.ofBlk {b : Nat} {w : World} {l : List UInt8} {t : TypeId} (h : w.heap[b]? = some (.cells #[.string (bs l)] t (0, 0))) : Left ⟨b, 0, none⟩ w l := ⟨blk_cell h 0, blk_free h 0⟩
/-- What is new behind a world may turn. -/
theorem Kept.ofNew {w w1 w' : World} {X : Nat → Obj → Prop} (h1 : Kept Nil w w1) (h : Kept X w1 w') (hX : ∀ k o, X k o → w.heap.size ≤ k) : Kept Nil w w' :=
  Kept.ofBelow ((h1.below (B := w.heap.size) (fun _ _ x => x.elim) (Nat.le_refl _)).trans (h.below hX h1.size)) _

set_option maxRecDepth 100000 in
set_option maxHeartbeats 600000 in
theorem readF_err (l : List UInt8) (c : Int) (w : World) (hlen : l.length ≤ maxLen) (hr : rdFrame l = .error c) :
    Calls Try.prog 130 #[.string (bs l), .func (.func 131) #[] #[]] w fun e w' => e = .returned (.tuple #[.agg #[.string (bs []), .string (bs [])], .int .i64 c]) ∧ Kept Nil w w' := by
  have hmf : ∀ (fn : Fn) (first cap : Array Value) (w : World), (Instr.makeFunc fn first cap).run Try.prog w = .ok (.func fn first cap) w := fun _ _ _ _ => rfl
  obtain ⟨hA, hE, hR⟩ := three w (.cells #[.string (bs []), .string (bs [])] 168) (.cells #[.int .i64 0] 28) (.cells #[.string (bs l)] 190)
  have H := RdPost.no (rFrame_any _ l _ (Left.ofBlk hR) hlen) hr
  have HA : Hid _ := hA
  have HE : Hid _ := hE
  clear hA hE hR hr hlen
  go_enter_defers Try.func130, Try.ntmps130
  go_wp2_with (first | (go_at_call 131; go_must (refine H.mono ?_); rintro e w1 ⟨rfl, hk⟩))
  have hA1 := hk.block _ _ HA.out (show ¬ w.heap.size = w.heap.size + 2 by omega)
  have hE1 := hk.block _ _ HE.out (show ¬ w.heap.size + 1 = w.heap.size + 2 by omega)
  refine leaves_cons (f := 184) (args := #[.pointer (some ⟨w.heap.size, 0, none⟩), .pointer (some ⟨w.heap.size + 1, 0, none⟩)]) (by simp) (by simp [go_sem]) ?_
  refine (catchF_panic w.heap.size (w.heap.size + 1) c _ _ _ w1 hA1 hE1 (by omega)).mono ?_
  rintro e u' w2 ⟨rfl, rfl, hA2, hE2, hk2⟩
  have a0 := blk_cell hA2 0
  have a1 := blk_cell hA2 1
  have e0 := blk_cell hE2 0
  simp only [List.getElem?_toArray, List.getElem?_cons_zero, List.getElem?_cons_succ] at a0 a1 e0
  simp [Leaves, settle, results, Try.results130, go_sem, a0, a1, e0]
  exact Kept.ofNew (Kept.ofNew ((((Kept.refl _ _).alloc _).alloc _).alloc _) hk (fun k _ h => by have : k = w.heap.size + 2 := h; omega)) hk2 (fun k _ h => by rcases h with rfl | rfl <;> omega)

set_option maxRecDepth 100000 in
set_option maxHeartbeats 600000 in
theorem readF_ok (l : List UInt8) (x : List UInt8 × List UInt8) (w : World) (hlen : l.length ≤ maxLen) (hr : rdFrame l = .ok (x, [])) :
    Calls Try.prog 130 #[.string (bs l), .func (.func 131) #[] #[]] w fun e w' => e = .returned (.tuple #[.agg #[.string (bs x.1), .string (bs x.2)], .int .i64 0]) ∧ Kept Nil w w' := by
  have hmf : ∀ (fn : Fn) (first cap : Array Value) (w : World), (Instr.makeFunc fn first cap).run Try.prog w = .ok (.func fn first cap) w := fun _ _ _ _ => rfl
  obtain ⟨hA, hE, hR⟩ := three w (.cells #[.string (bs []), .string (bs [])] 168) (.cells #[.int .i64 0] 28) (.cells #[.string (bs l)] 190)
  have H := RdPost.ok (rFrame_any _ l _ (Left.ofBlk hR) hlen) hr
  have HA : Hid _ := hA
  have HE : Hid _ := hE
  have hq := bs_toList []
  obtain ⟨y, z⟩ := x
  clear hA hE hR hr hlen
  go_enter_defers Try.func130, Try.ntmps130
  go_wp2_with (first | (go_at_call 131; go_must (refine H.mono ?_); rintro e w1 ⟨v, rfl, hv, hc, hz, hk⟩; unfold FrV at hv; subst hv; have hA1 := hk.block _ _ HA.out (show ¬ w.heap.size = w.heap.size + 2 by omega); have hE1 := hk.block _ _ HE.out (show ¬ w.heap.size + 1 = w.heap.size + 2 by omega); have a0 := blk_cell hA1 0; have a1 := blk_cell hA1 1; have e0 := blk_cell hE1 0; have fa0 := blk_free hA1 0; have fa1 := blk_free hA1 1; have fe0 := blk_free hE1 0; simp only [List.getElem?_toArray, List.getElem?_cons_zero, List.getElem?_cons_succ] at a0 a1 e0) | (go_at_call 145; go_must (refine (must_ok _ _).mono ?_); rintro e w4 ⟨rfl, rfl⟩))
  refine leaves_cons (f := 184) (args := #[.pointer (some ⟨w.heap.size, 0, none⟩), .pointer (some ⟨w.heap.size + 1, 0, none⟩)]) (by simp) (by simp [go_sem]) ?_
  refine (catchF_idle ⟨w.heap.size, 0, none⟩ ⟨w.heap.size + 1, 0, none⟩ _).mono ?_
  rintro e u' w2 ⟨rfl, rfl, hw2⟩
  have hne : w.heap.size ≠ w.heap.size + 1 := by omega
  have hA3 : w2.heap[w.heap.size]? = some (.cells #[.string (bs y), .string (bs z)] 168 (0, 0)) := by rw [hw2]; exact blk_other (blk_set (blk_set (blk_set (blk_set hA1 0 _) 1 _) 0 _) 1 _) hne _
  have hE3 : w2.heap[w.heap.size + 1]? = some (.cells #[.int .i64 0] 28 (0, 0)) := by rw [hw2]; exact blk_set (blk_other (blk_other (blk_other (blk_other hE1 hne.symm _) hne.symm _) hne.symm _) hne.symm _) 0 _
  have hk3 : Kept (fun k _ => w.heap.size ≤ k) w1 w2 := by rw [hw2]; exact ((((((Kept.refl _ _).setCell (fun _ => Nat.le_refl _) _).setCell (fun _ => Nat.le_refl _) _).setCell (fun _ => Nat.le_refl _) _).setCell (fun _ => Nat.le_refl _) _).setCell (fun _ => Nat.le_succ _) _)
  clear hw2
  have b0 := blk_cell hA3 0
  have b1 := blk_cell hA3 1
  have c0 := blk_cell hE3 0
  simp only [List.getElem?_toArray, List.getElem?_cons_zero, List.getElem?_cons_succ] at b0 b1 c0
  simp [Leaves, settle, results, Try.results130, go_sem, b0, b1, c0]
  exact Kept.ofNew (Kept.ofNew ((((Kept.refl _ _).alloc _).alloc _).alloc _) hk (fun k _ h => by have : k = w.heap.size + 2 := h; omega)) hk3 (fun k _ h => h)

end Go.Proofs.Ytijklginabipgaa

/-
  Unframe, and the document's Unframe: the same plain answer.
-/
namespace Go.Proofs.Ytijklginabipgaa
open Go.RowKit

/-- A frame's body, what stands behind it, the error. -/
def unF (l : List UInt8) : List UInt8 × List UInt8 × Int :=
  match rdFrame l with
  | .ok (x, _) => (x.1, x.2, 0)
  | .error c => ([], [], c)

theorem rdFrame_nil {l : List UInt8} {x : List UInt8 × List UInt8} {t : List UInt8} (h : rdFrame l = .ok (x, t)) : t = [] := by
  unfold rdFrame at h
  split at h
  · cases h
  · split at h
    · cases h
    · split at h
      · simp only [Except.ok.injEq, Prod.mk.injEq] at h; exact h.2.symm
      · cases h

theorem readF_any (l : List UInt8) (w : World) (hlen : l.length ≤ maxLen) :
    Calls Try.prog 130 #[.string (bs l), .func (.func 131) #[] #[]] w fun e w' => e = .returned (.tuple #[.agg #[.string (bs (unF l).1), .string (bs (unF l).2.1)], .int .i64 (unF l).2.2]) ∧ Kept Nil w w' := by
  unfold unF
  cases hr : rdFrame l with
  | error c => exact readF_err l c w hlen hr
  | ok r =>
    obtain ⟨x, t⟩ := r
    obtain rfl := rdFrame_nil hr
    exact readF_ok l x w hlen hr

set_option maxRecDepth 100000 in
set_option maxHeartbeats 600000 in
theorem unframe_any (l : List UInt8) (w : World) (hlen : l.length ≤ maxLen) :
    Calls Try.prog 62 #[.string (bs l)] w fun e w' => e = .returned (.tuple #[.string (bs (unF l).1), .string (bs (unF l).2.1), .int .i64 (unF l).2.2]) ∧ Kept Nil w w' := by
  have H := readF_any l w hlen
  generalize unF l = u at H ⊢
  obtain ⟨a, b, c⟩ := u
  simp only at H ⊢
  clear hlen
  go_enter Try.func62, Try.ntmps62
  go_wp2_with (first | (go_at_call 130; go_must (refine H.mono ?_); rintro e w1 ⟨rfl, hk⟩))
  go_region
  all_goals (try go_wp2)
  all_goals go_ret3
  all_goals exact ⟨rfl, (hk.alloc _).drew⟩

theorem val4 (x a b c d : Nat) (ha : a < 256) (hb : b < 256) (hc : c < 256) :
    a + b * 256 + c * 65536 + d * 16777216 = x ↔ (a = x % 256 ∧ b = x / 256 % 256 ∧ c = x / 65536 % 256 ∧ d = x / 16777216) := by
  omega

theorem ofNat_eq {d : UInt8} {n : Nat} (h : n < 256) : d = UInt8.ofNat n ↔ d.toNat = n := by
  rw [← UInt8.toNat_inj, ofNat_toNat h]

theorem len4 {l : List UInt8} (h : l.length = 4) : ∃ a b c d, l = [a, b, c, d] := by
  match l, h with
  | [a, b, c, d], _ => exact ⟨a, b, c, d, rfl⟩

theorem val_le4 {l : List UInt8} {x : Nat} (h : l.length = 4) (hx : x < 4294967296) : valN 4 l = x ↔ l = le4 x := by
  obtain ⟨a, b, c, d, rfl⟩ := len4 h
  have ha := a.toNat_lt
  have hb := b.toNat_lt
  have hc := c.toNat_lt
  have := val4 x a.toNat b.toNat c.toNat d.toNat ha hb hc
  simp only [valN, List.getD_cons_zero, List.getD_cons_succ]
  simp only [le4, List.cons.injEq, and_true]
  rw [ofNat_eq (by omega), ofNat_eq (by omega), ofNat_eq (by omega), ofNat_eq (by omega), Nat.mod_eq_of_lt (show x / 16777216 < 256 by omega)]
  rw [← this]
  simp

theorem unF_err {l : List UInt8} {c : Int} (h : rdText 65536 l = .error c) : unF l = ([], [], c) := by
  unfold unF rdFrame
  rw [h]
theorem unF_no {l body t : List UInt8} (h : rdText 65536 l = .ok (body, t)) (h4 : ¬ 4 ≤ t.length) : unF l = ([], [], 3) := by
  unfold unF rdFrame
  rw [h]
  simp only [show rdSum t = .error 3 from if_neg h4]
theorem rdFrame_if {l body t : List UInt8} (h : rdText 65536 l = .ok (body, t)) (h4 : 4 ≤ t.length) : rdFrame l = if valN 4 (t.take 4) = crc body then .ok ((body, t.drop 4), []) else .error 2 := by
  unfold rdFrame
  rw [h]
  simp only [show rdSum t = .ok (valN 4 (t.take 4), t.drop 4) from if_pos h4]
theorem val_sum (t body : List UInt8) (h4 : 4 ≤ t.length) : valN 4 (t.take 4) = crc body ↔ t.take 4 = le4 (crc body) := val_le4 (by simp; omega) (crc_lt body)
theorem unF_yes {l body t : List UInt8} (h : rdText 65536 l = .ok (body, t)) (h4 : 4 ≤ t.length) (hs : t.take 4 = le4 (crc body)) : unF l = (body, t.drop 4, 0) := by
  unfold unF
  rw [rdFrame_if h h4, if_pos ((val_sum t body h4).2 hs)]
theorem unF_sum {l body t : List UInt8} (h : rdText 65536 l = .ok (body, t)) (h4 : 4 ≤ t.length) (hs : ¬ t.take 4 = le4 (crc body)) : unF l = ([], [], 2) := by
  unfold unF
  rw [rdFrame_if h h4, if_neg (fun e => hs ((val_sum t body h4).1 e))]

theorem rst_new (w : World) (l : List UInt8) (hl : l.length ≤ maxLen) : RSt w.heap.size (w.alloc (.cells #[.string (bs l), .int .i64 0] 115)) (.ok l) := ⟨hl, blk_new w _⟩
theorem Kept.newOne {w w' : World} {o : Obj} (h : Kept (One w.heap.size) (w.alloc o) w') : Kept Nil w w' :=
  Kept.ofNew ((Kept.refl _ _).alloc o) h (fun k _ e => by have : k = w.heap.size := e; omega)

end Go.Proofs.Ytijklginabipgaa

/-
  What the texts on single records share: readings one behind another, the document's reader behind a fault, blocks that are none of the writer's.
-/
namespace Go.Proofs.Ytijklginabipgaa
open Go.RowKit

theorem ret_bool {a b : Bool} (h : a = b) : Ending.returned (.bool a) = .returned (.bool b) := by rw [h]
def isNum (x : Int) : Bool := decide (0 ≤ x) && decide (x ≤ 1099511627775)
theorem ints3 (w : World) (o : Obj) (x y z : Int) : IntsAt ((w.alloc o).alloc (.cells #[.int .i64 x, .int .i64 y, .int .i64 z] 3)) (w.heap.size + 1) [x, y, z] := by
  have hb := blk_new (w.alloc o) (.cells #[.int .i64 x, .int .i64 y, .int .i64 z] 3)
  rw [show (w.alloc o).heap.size = w.heap.size + 1 by simp] at hb
  intro j hj
  simp at hj
  rcases (show j = 0 ∨ j = 1 ∨ j = 2 by omega) with rfl | rfl | rfl
  · exact blk_cell hb 0
  · exact blk_cell hb 1
  · exact blk_cell hb 2
theorem WInv.alloc {b : Nat} {w : World} {l : List UInt8} (h : WInv b w l) (o : Obj) : WInv b (w.alloc o) l := by
  obtain ⟨ao, c, hb, ho⟩ := h
  exact ⟨ao, c, blk_past hb o, ho.alloc o⟩
theorem WInv.lt {b : Nat} {w : World} {l : List UInt8} (h : WInv b w l) : b < w.heap.size := by
  obtain ⟨ao, c, hb, ho⟩ := h
  exact lt_of_block hb
/-- A block of another type that lies behind the writer is none of the writer's. -/
theorem not_wr {b g : Nat} {cs : Array Value} {t : TypeId} {m : Nat × Nat} (hg : g ≠ b) (ht : t ≠ 5) : ¬ Wr b g (.cells cs t m) := by
  rintro (e | ⟨_, cs', m', e⟩)
  · exact hg e
  · simp at e; exact ht e.2.1
theorem encText_len {l : List UInt8} (h : l.length ≤ 1099511627775) : (encText l).length ≤ l.length + 6 := by
  have := enc_len6 h
  simp only [encText, List.length_append]; omega
theorem isNum_nat {x : Int} (h : isNum x = true) : (x.toNat : Int) = x ∧ x.toNat ≤ 1099511627775 := by
  simp only [isNum, Bool.and_eq_true, decide_eq_true_eq] at h
  omega
/-- One reading behind another. -/
def rdThen {α β : Type} (r : Except Int (α × List UInt8)) (f : α → List UInt8 → Except Int (β × List UInt8)) : Except Int (β × List UInt8) :=
  match r with
  | .ok (a, t) => f a t
  | .error c => .error c
theorem rdThen_ok {α β : Type} {r : Except Int (α × List UInt8)} {f : α → List UInt8 → Except Int (β × List UInt8)} {a : α} {t : List UInt8} (h : r = .ok (a, t)) : rdThen r f = f a t := by rw [h]; rfl
theorem rdThen_no {α β : Type} {r : Except Int (α × List UInt8)} {f : α → List UInt8 → Except Int (β × List UInt8)} {c : Int} (h : r = .error c) : rdThen r f = .error c := by rw [h]; rfl
theorem key_any (p : Addr) (l : List UInt8) (w : World) (hl : Left p w l) :
    Calls Try.prog 207 #[.pointer (some p)] w (RdPost p w (rdText 16 l) StrV) := by
  have H := text_any p 16 l w hl
  cases hr : rdText 16 l with
  | error c =>
    have H2 := RdPost.no H hr
    clear H
    go_enter Try.func207, Try.ntmps207
    go_wp2_with (go_at_call 147; go_must (refine H2.mono ?_); rintro e w1 ⟨rfl, hk⟩)
    exact ⟨rfl, rfl, hk⟩
  | ok r =>
    obtain ⟨s, t⟩ := r
    have H2 := RdPost.ok H hr
    clear H
    go_enter Try.func207, Try.ntmps207
    go_wp2_with (go_at_call 147; go_must (refine H2.mono ?_); rintro e w1 ⟨v, rfl, rfl, hc, hz, hk⟩)
    go_ret
    exact ⟨⟨_, rfl, rfl⟩, ⟨hc, hz⟩, hk⟩
theorem rdText_le {most : Nat} {l s t : List UInt8} (h : rdText most l = .ok (s, t)) : s.length ≤ most := (rdText_len h).1
theorem Left.kept {p : Addr} {w w' : World} {l : List UInt8} (h : Left p w l) (k : Kept Nil w w') : Left p w' l := by
  have hlt := cell_lt h.cell
  have e : w'.heap[p.block]? = w.heap[p.block]? := by
    rw [k.block p.block _ (Array.getElem?_eq_getElem hlt) (fun x => x.elim), Array.getElem?_eq_getElem hlt]
  exact ⟨(World.cell?_of_block e).trans h.cell, (World.frozen?_of_block e).trans h.free⟩
theorem numGo_err : ∀ {l : List UInt8} {k x : Nat} {c : Int}, numGo k x l = .error c → c ≠ 0 := by
  intro l
  induction l with
  | nil => intro k x c h; simp [numGo] at h; omega
  | cons d l ih =>
    intro k x c h
    by_cases h1 : k ≤ 5 ∧ x + d.toNat % 128 * 2 ^ (7 * k) ≤ maxNum ∧ (d.toNat ≠ 0 ∨ k = 0)
    · by_cases h2 : d.toNat < 128
      · rw [numGo_end h1 h2] at h; cases h
      · rw [numGo_more h1 h2] at h; exact ih h
    · rw [numGo_bad h1] at h; cases h; decide
theorem rdNum_err {l : List UInt8} {c : Int} (h : rdNum l = .error c) : c ≠ 0 := numGo_err h
theorem rdText_err {most : Nat} {l : List UInt8} {c : Int} (h : rdText most l = .error c) : c ≠ 0 := by
  unfold rdText rdUpTo at h
  cases hn : rdNum l with
  | error d => rw [hn] at h; simp only [Except.error.injEq] at h; subst h; exact rdNum_err hn
  | ok x =>
    obtain ⟨n, t⟩ := x
    rw [hn] at h
    simp only at h
    by_cases h1 : n ≤ most
    · rw [if_pos h1] at h
      simp only [rdTake] at h
      split at h
      · cases h
      · cases h; decide
    · rw [if_neg h1] at h
      cases h; decide
/-- A state behind a fault that is told. -/
def stBad (c : Int) (st : Except Int (List UInt8)) : Except Int (List UInt8) :=
  match st with
  | .ok _ => .error c
  | .error d => .error d
theorem badSt_any (b : Nat) (st : Except Int (List UInt8)) (c : Int) (w : World) (h : RSt b w st) (hc : c ≠ 0) :
    Calls Try.prog 115 #[.pointer (some ⟨b, 0, none⟩), .int .i64 c] w fun e w' => e = .returned (.tuple #[]) ∧ RSt b w' (stBad c st) ∧ Kept (One b) w w' := by
  cases st with
  | ok l => exact bad_any b l c w h.2 hc
  | error d =>
    obtain ⟨hd, hb⟩ := h
    have h0 := blk_at hb 0 rfl
    have h1 := blk_at hb 1 rfl
    have f0 := blk_free hb 0
    have hd' : (d == 0) = false := by simpa using hd
    have H : Hid (RSt b (w.setCell ⟨b, 0, none⟩ (.string (bs []))) (stBad c (.error d))) := ⟨hd, blk_set hb 0 _⟩
    clear hd
    go_enter Try.func115, Try.ntmps115
    go_wp2
    go_end0
    exact ⟨rfl, H.out, (Kept.refl _ _).setCell (fun _ => rfl) _⟩
theorem isNum_of {n : Nat} (h : n ≤ maxNum) : isNum (n : Int) = true := by
  unfold maxNum at h
  simp [isNum]; omega
theorem RSt.other {b : Nat} {w : World} {st : Except Int (List UInt8)} (h : RSt b w st) {a : Addr} (ha : b ≠ a.block) (u : Value) : RSt b (w.setCell a u) st := by
  cases st with
  | ok l => exact ⟨h.1, blk_other h.2 ha u⟩
  | error c => exact ⟨h.1, blk_other h.2 ha u⟩
theorem RSt.past {b : Nat} {w : World} {st : Except Int (List UInt8)} (h : RSt b w st) (o : Obj) : RSt b (w.alloc o) st := by
  cases st with
  | ok l => exact ⟨h.1, blk_past h.2 o⟩
  | error c => exact ⟨h.1, blk_past h.2 o⟩
theorem RSt.keptN {b : Nat} {w w' : World} {st : Except Int (List UInt8)} (h : RSt b w st) (k : Kept Nil w w') : RSt b w' st := by
  cases st with
  | ok l => exact ⟨h.1, k.block _ _ h.2 (fun x => x.elim)⟩
  | error c => exact ⟨h.1, k.block _ _ h.2 (fun x => x.elim)⟩

end Go.Proofs.Ytijklginabipgaa
