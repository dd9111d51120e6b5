/-
  Joined: WBase, WEnc, WApp, WWrite, WCrc, WSum, WRef, WFrame1, WNum, WRead, WFrame2, WCatch, WFrame3, WGen.
-/
import Derived.WalkKit
import Derived.WalkLawsBesides
import Derived.WalkSpells
import Derived.Below
import Derived.OneCell
import Derived.Test.YtijklginabipgaaGreatProg
import Derived.Outline
import Derived.Laws.BitsAllLaws
import Derived.Laws.BytesArg
import Derived.Deep.AppendSrc
import Derived.Laws.CopyRow
import Derived.OwnWalk
import Derived.Deep.DeepMust
import Derived.Laws.IdiomStrings
import Derived.Recover
import Derived.Defers
import Derived.BigQuiet
/-
  The plain mathematics of the wire format, in which the two readers and the two writers are told alike: bytes as lists, a number read byte by byte, a text, and what a call leaves of the memory that was there.
-/
namespace Go.Proofs.YtijklginabipgaaGreat
open Go.RowKit

theorem ret_int {k : IntKind} {a b : Int} (h : a = b) : Ending.returned (.int k a) = .returned (.int k b) := by rw [h]

/-! ### bytes as a list -/

def bs (l : List UInt8) : ByteArray := ⟨l.toArray⟩
theorem bs_size (l : List UInt8) : (bs l).size = l.length := by simp [bs, ByteArray.size]
theorem bs_take (l : List UInt8) (n : Nat) : (bs l).extract 0 n = bs (l.take n) := by
  apply ByteArray.ext; simp [bs]
theorem bs_drop (l : List UInt8) (n : Nat) : (bs l).extract n (bs l).size = bs (l.drop n) := by
  apply ByteArray.ext; simp [bs, ByteArray.size]; exact List.take_of_length_le (by simp)
theorem bs_append (a b : List UInt8) : bs a ++ bs b = bs (a ++ b) := by
  apply ByteArray.ext; simp [bs]
theorem bs_self (s : ByteArray) : bs s.data.toList = s := by
  apply ByteArray.ext; simp [bs]
theorem bs_at (l : List UInt8) (i : Nat) (h : i < (bs l).size) : (bs l)[i]'h = l[i]'(by rw [← bs_size]; exact h) := by
  simp [bs, ByteArray.getElem_eq_getElem_data]
theorem bs_data (l : List UInt8) : (bs l).data.toList = l := by simp [bs]
theorem bs_toList (l : List UInt8) : (bs l).toList = l := by rw [Go.ByteArray.toList_eq, bs_data]
theorem bs_inj {a b : List UInt8} (h : bs a = bs b) : a = b := by
  have := congrArg (fun s => s.data.toList) h
  simpa [bs] using this

/-! ### a number -/

def maxNum : Nat := 1099511627775

/-- A number's bytes from the k-th on, x what the bytes ahead of it say: the number and what is left; or the error. -/
def numGo : Nat → Nat → List UInt8 → Except Int (Nat × List UInt8)
  | _, _, [] => .error 3
  | k, x, c :: t =>
    if k ≤ 5 ∧ x + c.toNat % 128 * 2 ^ (7 * k) ≤ maxNum ∧ (c.toNat ≠ 0 ∨ k = 0) then
      if c.toNat < 128 then .ok (x + c.toNat % 128 * 2 ^ (7 * k), t) else numGo (k + 1) (x + c.toNat % 128 * 2 ^ (7 * k)) t
    else .error 1

def rdNum (l : List UInt8) : Except Int (Nat × List UInt8) := numGo 0 0 l

theorem numGo_nil (k x : Nat) : numGo k x [] = .error 3 := rfl
theorem numGo_bad {k x : Nat} {c : UInt8} {t : List UInt8} (h : ¬ (k ≤ 5 ∧ x + c.toNat % 128 * 2 ^ (7 * k) ≤ maxNum ∧ (c.toNat ≠ 0 ∨ k = 0))) : numGo k x (c :: t) = .error 1 := by
  rw [numGo, if_neg h]
theorem numGo_end {k x : Nat} {c : UInt8} {t : List UInt8} (h : k ≤ 5 ∧ x + c.toNat % 128 * 2 ^ (7 * k) ≤ maxNum ∧ (c.toNat ≠ 0 ∨ k = 0)) (h2 : c.toNat < 128) : numGo k x (c :: t) = .ok (x + c.toNat % 128 * 2 ^ (7 * k), t) := by
  rw [numGo, if_pos h, if_pos h2]
theorem numGo_more {k x : Nat} {c : UInt8} {t : List UInt8} (h : k ≤ 5 ∧ x + c.toNat % 128 * 2 ^ (7 * k) ≤ maxNum ∧ (c.toNat ≠ 0 ∨ k = 0)) (h2 : ¬ c.toNat < 128) : numGo k x (c :: t) = numGo (k + 1) (x + c.toNat % 128 * 2 ^ (7 * k)) t := by
  rw [numGo, if_pos h, if_neg h2]

theorem numGo_ok {l : List UInt8} : ∀ {k x n : Nat} {t : List UInt8}, numGo k x l = .ok (n, t) → n ≤ maxNum ∧ t.length < l.length := by
  induction l with
  | nil => intro k x n t h; simp [numGo] at h
  | cons c l ih =>
    intro k x n t h
    by_cases h1 : k ≤ 5 ∧ x + c.toNat % 128 * 2 ^ (7 * k) ≤ maxNum ∧ (c.toNat ≠ 0 ∨ k = 0)
    · by_cases h2 : c.toNat < 128
      · rw [numGo_end h1 h2] at h
        simp only [Except.ok.injEq, Prod.mk.injEq] at h
        obtain ⟨rfl, rfl⟩ := h
        exact ⟨h1.2.1, by simp⟩
      · rw [numGo_more h1 h2] at h
        have := ih h
        exact ⟨this.1, by simp; omega⟩
    · rw [numGo_bad h1] at h; simp at h

theorem rdNum_ok {l t : List UInt8} {n : Nat} (h : rdNum l = .ok (n, t)) : n ≤ maxNum ∧ t.length < l.length := numGo_ok h

/-- A number that is a length or a count. -/
def rdUpTo (most : Nat) (l : List UInt8) : Except Int (Nat × List UInt8) :=
  match rdNum l with
  | .ok (n, t) => if n ≤ most then .ok (n, t) else .error 4
  | .error c => .error c
def rdTake (n : Nat) (l : List UInt8) : Except Int (List UInt8 × List UInt8) :=
  if n ≤ l.length then .ok (l.take n, l.drop n) else .error 3
/-- A text of at most so many bytes. -/
def rdText (most : Nat) (l : List UInt8) : Except Int (List UInt8 × List UInt8) :=
  match rdUpTo most l with
  | .ok (n, t) => rdTake n t
  | .error c => .error c

theorem rdUpTo_ok {most n : Nat} {l t : List UInt8} (h : rdUpTo most l = .ok (n, t)) : n ≤ most ∧ n ≤ maxNum ∧ t.length < l.length := by
  unfold rdUpTo at h
  split at h
  · rename_i m u hr
    have := rdNum_ok hr
    split at h
    · simp only [Except.ok.injEq, Prod.mk.injEq] at h
      obtain ⟨rfl, rfl⟩ := h
      exact ⟨by assumption, this⟩
    · cases h
  · cases h

theorem pow7 (k : Nat) (h : k ≤ 6) : 2 ^ (7 * k) ≤ 4398046511104 := by
  have h1 : 2 ^ (7 * k) ≤ 2 ^ 42 := Nat.pow_le_pow_right (by omega) (by omega)
  have h2 : 2 ^ 42 = 4398046511104 := by decide
  omega

/-- The step of both readers: the next seven bits. -/
theorem step_lt {k x y : Nat} (hx : x < 2 ^ (7 * k)) (hy : y < 128) : x + y * 2 ^ (7 * k) < 2 ^ (7 * (k + 1)) := by
  have : 2 ^ (7 * (k + 1)) = 128 * 2 ^ (7 * k) := by rw [Nat.mul_add, Nat.pow_add]; omega
  rw [this]
  have : (y + 1) * 2 ^ (7 * k) ≤ 128 * 2 ^ (7 * k) := Nat.mul_le_mul_right _ (by omega)
  rw [Nat.add_mul] at this
  omega

theorem or_add {k x y : Nat} (hx : x < 2 ^ (7 * k)) : x ||| y * 2 ^ (7 * k) = x + y * 2 ^ (7 * k) := by
  rw [Nat.or_comm, ← Nat.shiftLeft_eq, ← Nat.shiftLeft_add_eq_or_of_lt hx, Nat.add_comm]

/-! ### what a call leaves of memory -/

/-- Of the blocks that were there those that 'X' doesn't name are as they were. -/
structure Kept (X : Nat → Obj → Prop) (w w' : World) : Prop where
  os : w'.os = w.os
  tape : w'.tape = w.tape
  output : w'.output = w.output
  size : w.heap.size ≤ w'.heap.size
  block : ∀ k o, w.heap[k]? = some o → ¬ X k o → w'.heap[k]? = some o

theorem Kept.refl (X : Nat → Obj → Prop) (w : World) : Kept X w w := ⟨rfl, rfl, rfl, Nat.le_refl _, fun _ _ h _ => h⟩
theorem Kept.trans {X : Nat → Obj → Prop} {a b c : World} (h : Kept X a b) (k : Kept X b c) : Kept X a c :=
  ⟨k.os.trans h.os, k.tape.trans h.tape, k.output.trans h.output, Nat.le_trans h.size k.size, fun i o ho hx => k.block i o (h.block i o ho hx) hx⟩
theorem Kept.mono {X Y : Nat → Obj → Prop} {a b : World} (h : Kept X a b) (hXY : ∀ k o, X k o → Y k o) : Kept Y a b :=
  ⟨h.os, h.tape, h.output, h.size, fun i o ho hx => h.block i o ho (fun x => hx (hXY _ _ x))⟩
theorem Kept.drew {X : Nat → Obj → Prop} {a w : World} (h : Kept X a w) : Kept X a w.drew := ⟨h.os, h.tape, h.output, h.size, h.block⟩
theorem Kept.alloc {X : Nat → Obj → Prop} {a w : World} (h : Kept X a w) (o : Obj) : Kept X a (w.alloc o) :=
  h.trans ⟨rfl, rfl, rfl, by simp, fun k p hp _ => by
    have hk : k < w.heap.size := by
      by_cases hk : k < w.heap.size
      · exact hk
      · rw [Array.getElem?_eq_none (by omega)] at hp; cases hp
    rw [Below.heap_alloc _ _ _ hk]; exact hp⟩
theorem Kept.setCell {X : Nat → Obj → Prop} {a w : World} (h : Kept X a w) {p : Addr} (hp : ∀ o, X p.block o) (u : Value) : Kept X a (w.setCell p u) :=
  h.trans ⟨rfl, rfl, rfl, by simp [World.setCell], fun k o ho hx => by
    rw [Below.heap_setCell _ _ _ _ (fun e => hx (by rw [e]; exact hp o))]; exact ho⟩
/-- A store into a block that was not there at first. -/
theorem Kept.setNew {X : Nat → Obj → Prop} {a w : World} (h : Kept X a w) {p : Addr} (hp : a.heap.size ≤ p.block) (u : Value) : Kept X a (w.setCell p u) :=
  ⟨h.os, h.tape, h.output, by simpa [World.setCell] using h.size, fun k o ho hx => by
    have hk : k < a.heap.size := by
      by_cases hk : k < a.heap.size
      · exact hk
      · rw [Array.getElem?_eq_none (by omega)] at ho; cases ho
    rw [Below.heap_setCell _ _ _ _ (by omega)]; exact h.block k o ho hx⟩
theorem Kept.below {X : Nat → Obj → Prop} {B : Nat} {w w' : World} (h : Kept X w w') (hX : ∀ k o, X k o → B ≤ k) (hB : B ≤ w.heap.size) : Below B w w' :=
  ⟨h.os, h.tape, h.output, h.size, fun k hk => by
    have : w.heap[k]? = some (w.heap[k]'(by omega)) := Array.getElem?_eq_getElem (by omega)
    rw [h.block k _ this (fun x => by have := hX _ _ x; omega), this]⟩
theorem Kept.ofBelow {w w' : World} (h : Below w.heap.size w w') (X : Nat → Obj → Prop) : Kept X w w' :=
  ⟨h.os, h.tape, h.output, h.size, fun k o ho _ => by
    have hk : k < w.heap.size := by
      by_cases hk : k < w.heap.size
      · exact hk
      · rw [Array.getElem?_eq_none (by omega)] at ho; cases ho
    rw [h.block k hk]; exact ho⟩
theorem Kept.cell {X : Nat → Obj → Prop} {w w' : World} (h : Kept X w w') {b : Nat} {o : Obj} (hb : w.heap[b]? = some o) (hx : ¬ X b o) (i : Nat) : w'.cell? ⟨b, i, none⟩ = w.cell? ⟨b, i, none⟩ :=
  World.cell?_of_block (w := w) (a := ⟨b, i, none⟩) (by rw [h.block b o hb hx, hb])
/-! ### a block of cells -/
theorem blk_cell {w : World} {b : Nat} {cs : Array Value} {t : TypeId} (h : w.heap[b]? = some (.cells cs t (0, 0))) (i : Nat) : w.cell? ⟨b, i, none⟩ = cs[i]? := by simp [World.cell?, h]
theorem blk_free {w : World} {b : Nat} {cs : Array Value} {t : TypeId} (h : w.heap[b]? = some (.cells cs t (0, 0))) (i : Nat) : w.frozen? ⟨b, i, none⟩ = false := by simp [World.frozen?, h]
theorem blk_set {w : World} {b : Nat} {cs : Array Value} {t : TypeId} (h : w.heap[b]? = some (.cells cs t (0, 0))) (i : Nat) (u : Value) : (w.setCell ⟨b, i, none⟩ u).heap[b]? = some (.cells (cs.setIfInBounds i u) t (0, 0)) := by
  have hlt := lt_of_block h
  have h' : w.heap[b] = .cells cs t (0, 0) := by simpa [Array.getElem?_eq_getElem hlt] using h
  show (w.heap.modify b _)[b]? = _
  rw [Array.getElem?_eq_getElem (by simpa using hlt), Array.getElem_modify_self, h']
  rfl
theorem blk_new (w : World) (o : Obj) : (w.alloc o).heap[w.heap.size]? = some o := by
  show (w.heap.push o)[w.heap.size]? = _
  rw [Array.getElem?_push, if_pos rfl]
theorem blk_past {w : World} {b : Nat} {o : Obj} (h : w.heap[b]? = some o) (o' : Obj) : (w.alloc o').heap[b]? = some o := by
  rw [Below.heap_alloc _ _ _ (lt_of_block h)]; exact h
theorem blk_other {w : World} {b : Nat} {o : Obj} (h : w.heap[b]? = some o) {a : Addr} (ha : b ≠ a.block) (u : Value) : (w.setCell a u).heap[b]? = some o := by
  rw [Below.heap_setCell _ _ _ _ ha]; exact h

/-! ### the document's reader: it goes on behind an error -/
/-- What a reading makes of a state: behind an error nothing is read. -/
def stRun {α : Type} (r : List UInt8 → Except Int (α × List UInt8)) (d : α) (st : Except Int (List UInt8)) : α × Except Int (List UInt8) :=
  match st with
  | .error c => (d, .error c)
  | .ok l =>
    match r l with
    | .ok (a, t) => (a, .ok t)
    | .error c => (d, .error c)
theorem stRun_err {α : Type} (r : List UInt8 → Except Int (α × List UInt8)) (d : α) (c : Int) : stRun r d (.error c) = (d, .error c) := rfl
theorem stRun_ok {α : Type} {r : List UInt8 → Except Int (α × List UInt8)} {d a : α} {l t : List UInt8} (h : r l = .ok (a, t)) : stRun r d (.ok l) = (a, .ok t) := by simp only [stRun, h]
theorem stRun_no {α : Type} {r : List UInt8 → Except Int (α × List UInt8)} {d : α} {l : List UInt8} {c : Int} (h : r l = .error c) : stRun r d (.ok l) = (d, .error c) := by simp only [stRun, h]

/-- Nothing that was there has turned. -/
def Nil : Nat → Obj → Prop := fun _ _ => False
/-- Block b alone. -/
def One (b : Nat) : Nat → Obj → Prop := fun k _ => k = b

end Go.Proofs.YtijklginabipgaaGreat

/-
  The document's writers of a number and of a text, in plain bytes.
-/
namespace Go.Proofs.YtijklginabipgaaGreat
open Go.RowKit

/-- A number's bytes. -/
def encF : Nat → Nat → List UInt8
  | 0, n => [UInt8.ofNat n]
  | f + 1, n => if n < 128 then [UInt8.ofNat n] else UInt8.ofNat (128 + n % 128) :: encF f (n / 128)
def enc (n : Nat) : List UInt8 := encF n n
theorem encF_small {n : Nat} (h : n < 128) : ∀ f, encF f n = [UInt8.ofNat n]
  | 0 => rfl
  | f + 1 => by rw [encF, if_pos h]
theorem encF_same : ∀ (f g n : Nat), n ≤ f → n ≤ g → encF f n = encF g n
  | 0, g, n, hf, _ => by rw [encF_small (by omega) 0, encF_small (by omega) g]
  | f + 1, 0, n, _, hg => by rw [encF_small (by omega) 0, encF_small (by omega) (f + 1)]
  | f + 1, g + 1, n, hf, hg => by
    by_cases h : n < 128
    · rw [encF_small h, encF_small h]
    · rw [encF, encF, if_neg h, if_neg h, encF_same f g (n / 128) (by omega) (by omega)]
theorem enc_small {n : Nat} (h : n < 128) : enc n = [UInt8.ofNat n] := encF_small h n
theorem enc_big {n : Nat} (h : ¬ n < 128) : enc n = UInt8.ofNat (128 + n % 128) :: enc (n / 128) := by
  unfold enc
  obtain ⟨m, rfl⟩ : ∃ m, n = m + 1 := ⟨n - 1, by omega⟩
  rw [encF, if_neg h, encF_same m ((m + 1) / 128) ((m + 1) / 128) (by omega) (by omega)]
theorem ofNat_toNat {n : Nat} (h : n < 256) : (UInt8.ofNat n).toNat = n := by rw [UInt8.toNat_ofNat']; omega
theorem enc_small_byte {n : Nat} (h : n < 128) : ∃ d : UInt8, enc n = [d] ∧ d.toNat = n := ⟨_, enc_small h, ofNat_toNat (by omega)⟩
theorem enc_big_byte {n : Nat} (h : ¬ n < 128) : ∃ d : UInt8, enc n = d :: enc (n / 128) ∧ d.toNat = 128 + n % 128 := ⟨_, enc_big h, ofNat_toNat (by omega)⟩
theorem or_high : ∀ x, x < 256 → x ||| 128 = 128 + x % 128 := by decide +kernel
theorem or128 (r : Nat) : bits .or .u8 ((r : Int) % 256) 128 = ((128 + r % 128 : Nat) : Int) := by
  have e : ((r : Int) % 256) = ((r % 256 : Nat) : Int) := by omega
  have := u8_or_nat (r % 256) 128 (by omega) (by omega)
  rw [e]
  refine this.trans ?_
  rw [or_high _ (by omega)]
  omega
def encText (l : List UInt8) : List UInt8 := enc l.length ++ l
theorem enc_length (n : Nat) : ∀ k, n < 128 ^ (k + 1) → (enc n).length ≤ k + 1 := by
  intro k
  induction k generalizing n with
  | zero => intro h; rw [enc_small (by omega)]; simp
  | succ k ih =>
    intro h
    by_cases hn : n < 128
    · rw [enc_small hn]; simp
    · rw [enc_big hn]
      have : n / 128 < 128 ^ (k + 1) := by
        rw [Nat.div_lt_iff_lt_mul (by omega)]
        rw [Nat.pow_succ] at h
        exact h
      have := ih _ this
      simp; omega

/-- A literal's bytes as a string. -/
theorem conv1 (w : World) (x : Int) :
    (convert 113 9 (.slice (some ⟨w.heap.size, 0, none⟩) 1 1)).run Tryz.prog (w.alloc (.cells #[.int .u8 x] 5)) = .ok (.string (bs [UInt8.ofNat x.toNat])) (w.alloc (.cells #[.int .u8 x] 5)) := by
  refine (run_convert_bytes_arg _ 113 5 Tryz.underlying113 Tryz.underlying5 w.heap.size 0 1 1 [x] rfl ?_ 9 Tryz.underlying9).trans ?_
  · intro i hi
    obtain rfl : i = 0 := by omega
    exact blk_cell (blk_new w _) 0
  · rfl

theorem enc_len6 {n : Nat} (h : n ≤ 1099511627775) : (enc n).length ≤ 6 := enc_length _ 5 (by omega)

end Go.Proofs.YtijklginabipgaaGreat

/-
  'append' onto a row of the call's own, of whatever is appended (a slice's elements, a string's bytes): what is owned behind it. A law on the model, over any program.
-/
namespace Go.Proofs.YtijklginabipgaaGreat
open Go.RowKit
variable {P : Program} (w : World)

theorem room_src (t tx ty e : TypeId) (i : TypeInfo) (ht : P.underlying t = some (.slice e)) (hi : P.info? e = some i)
    (g sLen sCap : Nat) (cur : Array Value) (hg : w.heap[g]? = some (.cells cur e (0, 0))) (x : Value) (m : Nat) (news : List Value) (hs : Src P i.size tx x m news w)
    (hroom : sLen + m ≤ sCap) (hfit : sLen * i.size + news.length ≤ cur.size) :
    (Builtin.append_ #[t, tx] ty #[.slice (some ⟨g, 0, none⟩) sLen sCap, x]).run P w =
      .ok (.slice (some ⟨g, 0, none⟩) (sLen + m) sCap) (w.setRow g (cur.toList.take (sLen * i.size) ++ news ++ cur.toList.drop (sLen * i.size + news.length)).toArray) := by
  have hst := run_storeCells_at P g (sLen * i.size) e news 0 cur w hg (by simpa using hfit) hs.one
  simp only [Nat.add_zero] at hst
  rcases hs.kind with ⟨e', hk⟩ | hk <;> simp [Builtin.append_, run_underlying ht, run_underlying hk, sizeOf, typeInfo, hi, hs.len, hroom, hs.cells, Addr.add_lit, hst]

theorem run_append_src (base : Nat) (t tx ty e : TypeId) (i : TypeInfo) (z : Value) (size bytes : Nat) (ht : P.underlying t = some (.slice e)) (hi : P.info? e = some i) (hz : i.zero = some z)
    (hsize : i.size = size) (hby : i.bytes = bytes) (hzs : z.cells.size = size)
    (v : Value) (n : Nat) (xs : List Value) (hown : w.ownsRow base e size v n xs) (x : Value) (m : Nat) (news : List Value) (hs : Src P size tx x m news w)
    (h63 : n + m ≤ maxLen) (hbytes : (n + m) * bytes ≤ 140737488355328) (hbase : base ≤ w.heap.size) :
    ∃ v' w', (Builtin.append_ #[t, tx] ty #[v, x]).run P w = .ok v' w' ∧ w'.ownsRow base e size v' (n + m) (xs ++ news) ∧ w.grownBy w' v.ownBlock := by
  subst hsize
  subst hby
  have hsmall : n + m ≤ 9223372036854775807 := by simp only [maxLen] at h63; omega
  have hl := hs.newsLen
  have hlen : (xs ++ news).length = (n + m) * i.size := by rw [List.length_append, hown.1, hl, Nat.add_mul]
  have grown : ∀ (old : Nat), ∀ (row : Option Nat),
      (w.drew.alloc (.cells ((xs ++ news).toArray ++ Builtin.zeroCells z.cells (grownCap w (n + m) old e - (n + m))) e)).ownsRow base e i.size
        (.slice (some ⟨w.heap.size, 0, none⟩) (n + m) (grownCap w (n + m) old e)) (n + m) (xs ++ news) ∧
      w.grownBy (w.drew.alloc (.cells ((xs ++ news).toArray ++ Builtin.zeroCells z.cells (grownCap w (n + m) old e - (n + m))) e)) row := by
    intro old row
    have hge := grownCap_ge w (n + m) old e
    have hcm : grownCap w (n + m) old e ≤ maxLen := grownCap_le_maxLen w (n + m) old e h63
    refine ⟨⟨hlen, .inr ⟨w.heap.size, _, _, rfl, hbase, heap_alloc_new w.drew _, hge, hcm, ?_, ?_⟩⟩, ⟨rfl, rfl, rfl, by simp, fun k hk _ => Below.heap_alloc w.drew _ k hk⟩⟩
    · simp only [Array.size_append, List.size_toArray, size_zeroCells, hzs, hlen, ← Nat.add_mul]
      congr 1
      omega
    · simp only [Array.toList_append]
      rw [← hlen]
      exact List.take_left
  rcases hown.2 with ⟨rfl, rfl⟩ | ⟨g, cap, cur, rfl, hbg, hg, hnc, hcm, hcs, htake⟩
  · have hx : xs = [] := List.eq_nil_of_length_eq_zero (by simpa using hown.1)
    subst hx
    by_cases hm : m = 0
    · subst hm
      have hn : news = [] := List.eq_nil_of_length_eq_zero (by simpa using hl)
      subst hn
      refine ⟨.slice none 0 0, w, ?_, World.ownsRow_nil w base e i.size, ⟨rfl, rfl, rfl, Nat.le_refl _, fun _ _ _ => rfl⟩⟩
      rcases hs.kind with ⟨e', hk⟩ | hk <;> simp [Builtin.append_, run_underlying ht, run_underlying hk, sizeOf, typeInfo, hi, hs.len, hs.cells]
    · have hr := run_append_grow_src (P := P) w t tx ty e i z ht hi hz none 0 0 [] (run_firstCells_none w.drew i.size 0 0 0) x m news hs (by omega) (by omega) (growslice_fits (by omega) hbytes)
      have hgr := grown 0 (Value.ownBlock (.slice none 0 0))
      exact ⟨_, _, hr, hgr.1, hgr.2⟩
  · by_cases hroom : n + m ≤ cap
    · have hfit : n * i.size + news.length ≤ cur.size := by rw [hl, hcs, ← Nat.add_mul]; exact Nat.mul_le_mul_right _ hroom
      have hr := room_src (P := P) w t tx ty e i ht hi g n cap cur hg x m news hs hroom hfit
      refine ⟨_, _, hr, ⟨hlen, .inr ⟨g, cap, _, rfl, hbg, setRow_heap w g cur _ e _ hg, hroom, hcm, ?_, ?_⟩⟩, ⟨rfl, rfl, rfl, by simp, fun k _ hk => setRow_other w g k _ (fun e => hk (by simp [Value.ownBlock, e]))⟩⟩
      · simp only [List.size_toArray, List.length_append, List.length_take, List.length_drop, Array.length_toList]
        omega
      · rw [htake, ← hlen]
        exact List.take_left
    · have holds : ∀ j u, xs[j]? = some u → w.cell? ((⟨g, 0, none⟩ : Addr).add j) = some u := hown.cells (g := g) rfl
      have hr := run_append_grow_src (P := P) w t tx ty e i z ht hi hz (some ⟨g, 0, none⟩) n cap xs (run_firstCells_some w.drew i.size n ⟨g, 0, none⟩ n cap xs hown.1 holds) x m news hs (by omega) (by omega) (growslice_fits (by omega) hbytes)
      have hgr := grown cap (Value.ownBlock (.slice (some ⟨g, 0, none⟩) n cap))
      exact ⟨_, _, hr, hgr.1, hgr.2⟩

theorem wp_append_src {o : Oper} {a : Act} {K : Act → World → Prop} {Q : Exit → Act → World → Prop} (s xo : Operand) (t tx : TypeId)
    (ho : o.op = .call { callee := .builtin .append, args := #[s, xo], argTypes := #[t, tx] })
    (base : Nat) (e : TypeId) (i : TypeInfo) (z : Value) (size bytes : Nat) (ht : P.underlying t = some (.slice e)) (hi : P.info? e = some i) (hz : i.zero = some z)
    (hsize : i.size = size) (hby : i.bytes = bytes) (hzs : z.cells.size = size)
    (v : Value) (n : Nat) (xs : List Value) (hv : a.eval s = v) (hown : w.ownsRow base e size v n xs) (x : Value) (m : Nat) (news : List Value) (hx : a.eval xo = x) (hs : Src P size tx x m news w)
    (h63 : n + m ≤ maxLen) (hbytes : (n + m) * bytes ≤ 140737488355328) (hbase : base ≤ w.heap.size)
    (h : ∀ v' w', w'.ownsRow base e size v' (n + m) (xs ++ news) → w.grownBy w' v.ownBlock → K (a.put o.dst v') w') : o.wp P a w K Q := by
  obtain ⟨v', w', hr, h2, h3⟩ := run_append_src (P := P) w base t tx o.type e i z size bytes ht hi hz hsize hby hzs v n xs hown x m news hs h63 hbytes hbase
  unfold Oper.wp execOp
  simp only [ho, resolve, invoke, builtin, Sem.run_bind, Sem.run_pure, Result.andThen_ok, List.map_toArray, List.map_cons, List.map_nil, hv, hx, hr]
  exact h v' w' h2 h3

theorem own_shape {w : World} {base : Nat} {e : TypeId} {size : Nat} {v : Value} {n : Nat} {xs : List Value} (h : w.ownsRow base e size v n xs) : ∃ ao c, v = .slice ao n c := by
  rcases h.2 with ⟨rfl, rfl⟩ | ⟨g, cap, cur, rfl, _⟩
  · exact ⟨_, _, rfl⟩
  · exact ⟨_, _, rfl⟩

theorem wpList_append_src {ops : Array Oper} {rest : List Oper} {o : Oper} {a : Act} {Q : Exit → Act → World → Prop} (hgd : o.guard = none) (s xo : Operand) (t tx : TypeId)
    (ho : o.op = .call { callee := .builtin .append, args := #[s, xo], argTypes := #[t, tx] })
    (base : Nat) (e : TypeId) (i : TypeInfo) (z : Value) (size bytes : Nat) (ht : P.underlying t = some (.slice e)) (hi : P.info? e = some i) (hz : i.zero = some z)
    (hsize : i.size = size) (hby : i.bytes = bytes) (hzs : z.cells.size = size)
    (v : Value) (n : Nat) (xs : List Value) (hv : a.eval s = v) (hown : w.ownsRow base e size v n xs) (x : Value) (m : Nat) (news : List Value) (hx : a.eval xo = x) (hs : Src P size tx x m news w)
    (h63 : n + m ≤ maxLen) (hbytes : (n + m) * bytes ≤ 140737488355328) (hbase : base ≤ w.heap.size)
    (h : ∀ ao c w', w'.ownsRow base e size (.slice ao (n + m) c) (n + m) (xs ++ news) → w.grownBy w' v.ownBlock → wpList P ops Q rest (a.put o.dst (.slice ao (n + m) c)) w') : wpList P ops Q (o :: rest) a w :=
  wpList_plain hgd fun _ hK => wp_append_src w s xo t tx ho base e i z size bytes ht hi hz hsize hby hzs v n xs hv hown x m news hx hs h63 hbytes hbase fun v' w' h2 h3 => by
    obtain ⟨ao, c, rfl⟩ := own_shape h2
    exact hK _ _ (h ao c w' h2 h3)

end Go.Proofs.YtijklginabipgaaGreat

/-
  What the program's writer does, method by method: its bytes behind each call, and what it leaves of memory.
-/
namespace Go.Proofs.YtijklginabipgaaGreat
open Go.RowKit

def cellsOf (l : List UInt8) : List Value := l.map fun c => Value.int .u8 c.toNat
theorem cellsOf_append (a b : List UInt8) : cellsOf (a ++ b) = cellsOf a ++ cellsOf b := by simp [cellsOf]

/-- The writer in block b has these bytes. -/
def WInv (b : Nat) (w : World) (l : List UInt8) : Prop :=
  ∃ ao c, w.heap[b]? = some (.cells #[.slice ao l.length c] 115 (0, 0)) ∧ w.ownsRow (b + 1) 5 1 (.slice ao l.length c) l.length (cellsOf l)
/-- What a writer's method may turn: its own block, and rows of bytes behind it. -/
def Wr (b : Nat) : Nat → Obj → Prop := fun k o => k = b ∨ (b < k ∧ ∃ cs m, o = .cells cs 5 m)

theorem Tryz.infoByte : (Tryz.prog.info? 5).map (fun i => (i.zero, i.size, i.bytes)) = some (some (.int .u8 0), 1, 1) := by kernel_rfl

theorem Kept.grownOwn {b : Nat} {w w' : World} {v : Value} {n : Nat} {xs : List Value} (hg : w.grownBy w' v.ownBlock) (ho : w.ownsRow (b + 1) 5 1 v n xs) : Kept (Wr b) w w' := by
  refine ⟨hg.os, hg.tape, hg.output, hg.size, fun k o hk hx => ?_⟩
  have hlt := lt_of_block hk
  rw [hg.block k hlt ?_, hk]
  intro e
  rcases ho.2 with ⟨rfl, _⟩ | ⟨g, cap, cur, rfl, hb, hh, _⟩
  · simp [Value.ownBlock] at e
  · simp [Value.ownBlock] at e
    subst e
    rw [hh] at hk
    exact hx (.inr ⟨by omega, cur, (0, 0), by simpa using hk.symm⟩)

/-- Behind an append and the store of its slice. -/
theorem WInv.put {b : Nat} {w w1 : World} {l news : List UInt8} {ao ao' : Option Addr} {c c' m : Nat} (hb : w.heap[b]? = some (.cells #[.slice ao l.length c] 115 (0, 0)))
    (ho : w.ownsRow (b + 1) 5 1 (.slice ao l.length c) l.length (cellsOf l)) (hm : m = news.length)
    (hn : w1.ownsRow (b + 1) 5 1 (.slice ao' (l.length + m) c') (l.length + m) (cellsOf l ++ cellsOf news)) (hg : w.grownBy w1 (Value.slice ao l.length c).ownBlock) :
    WInv b (w1.setCell ⟨b, 0, none⟩ (.slice ao' (l.length + m) c')) (l ++ news) ∧ Kept (Wr b) w (w1.setCell ⟨b, 0, none⟩ (.slice ao' (l.length + m) c')) := by
  subst hm
  have hk := Kept.grownOwn hg ho
  have hb1 : w1.heap[b]? = some (.cells #[.slice ao l.length c] 115 (0, 0)) := by
    rw [hg.block b (lt_of_block hb) ?_, hb]
    intro e
    have := (ho.lt b e.symm).1
    omega
  refine ⟨⟨ao', c', ?_, ?_⟩, hk.setCell (fun _ => .inl rfl) _⟩
  · have := blk_set hb1 0 (.slice ao' (l.length + news.length) c')
    simpa using this
  · rw [cellsOf_append]
    have := ownsRow_setCell_below hn (a := ⟨b, 0, none⟩) (by simp) (.slice ao' (l.length + news.length) c')
    simpa using this

theorem after_grow {b : Nat} {w w1 : World} {v : Value} {n : Nat} {xs : List Value} {o : Obj} (hb : w.heap[b]? = some o) (ho : w.ownsRow (b + 1) 5 1 v n xs) (hg : w.grownBy w1 v.ownBlock) : w1.heap[b]? = some o := by
  rw [hg.block b (lt_of_block hb) ?_, hb]
  intro e
  have := (ho.lt b e.symm).1
  omega
theorem le_alloc {w : World} {n : Nat} (h : n ≤ w.heap.size) (o : Obj) : n ≤ (w.alloc o).heap.size := by simp; omega

/-- One byte, laid in a block of its own, as what is appended. -/
theorem src_one {w : World} (d : UInt8) {y : Int} (hy : y = d.toNat) : Src Tryz.prog 1 113 (.slice (some ⟨w.heap.size, 0, none⟩) 1 1) 1 (cellsOf [d]) (w.alloc (.cells #[.int .u8 y] 5)) := by
  subst hy
  refine Src.ofSlice _ Tryz.underlying113 _ 1 1 _ rfl ?_ ?_
  · intro j u hj
    match j, hj with
    | 0, hj =>
      simp [cellsOf] at hj
      subst hj
      simp [Addr.add]
  · intro u hu
    simp [cellsOf] at hu
    subst hu
    rfl

set_option maxRecDepth 100000 in
set_option maxHeartbeats 1000000 in
theorem wNumber_any (b n : Nat) (l : List UInt8) (w : World) (h : WInv b w l) (hn : n ≤ 1099511627775) (hl : l.length ≤ 1099511627775) :
    Calls Tryz.prog 65 #[.pointer (some ⟨b, 0, none⟩), .int .i64 n] w fun e w' => e = .returned (.tuple #[]) ∧ WInv b w' (l ++ enc n) ∧ Kept (Wr b) w w' := by
  obtain ⟨i0, hi, hz0, hz1, hz2⟩ := info_parts Tryz.infoByte
  have hn' : (n : Int) ≤ 1099511627775 := by omega
  have HN : Hid ((enc n).length ≤ 6) := enc_len6 hn
  have HL : Hid (l.length ≤ 1099511627775) := hl
  clear hn hl
  go_enter Tryz.func65, Tryz.ntmps65
  go_wp2
  go_loopw [4] (fun t wr => ∃ r : Nat, ∃ l' : List UInt8, (r : Int) ≤ 1099511627775 ∧ t = .int .u64 r ∧ WInv b wr l' ∧ Hid (l' ++ enc r = l ++ enc n) ∧ Kept (Wr b) w wr) (fun t _ => (intOf t).toNat)
  case atStart => exact ⟨n, l, hn', by go_num, h, rfl, .refl _ _⟩
  case round =>
    obtain ⟨r, l', hr, rfl, ⟨ao, c, hb, ho⟩, HE, hk⟩ := hrel
    have h0 : wr.cell? ⟨b, 0, none⟩ = some (.slice ao l'.length c) := blk_cell hb 0
    have f0 := blk_free hb 0
    have HLL : Hid (l'.length + 1 ≤ maxLen ∧ (l'.length + 1) * 1 ≤ 140737488355328) := by
      have h1 := congrArg List.length HE.out
      have h2 := HN.out
      have h3 := HL.out
      simp at h1
      constructor
      · unfold maxLen; omega
      · omega
    have HB : Hid (b + 1 ≤ wr.heap.size) := lt_of_block hb
    by_cases h128 : r < 128
    · obtain ⟨d, hE, hd⟩ := enc_small_byte h128
      have HD : Hid (enc r = [d]) := hE
      have DD : Hid ((r : Int) = d.toNat) := by show (r : Int) = _; omega
      clear hE hd
      go_wp2_with (first | (at_builtin; go_must (refine wpList_append_src _ rfl _ _ 113 113 rfl (b + 1) 5 i0 (.int .u8 0) 1 1 Tryz.underlying113 hi hz0 hz1 hz2 rfl _ _ _ rfl (ho.alloc _) (.slice (some ⟨wr.heap.size, 0, none⟩) 1 1) 1 (cellsOf [d]) rfl (src_one d DD.out) HLL.out.1 HLL.out.2 (le_alloc HB.out _) ?_); intro ao' c' w1 ho' hg'; have hb1 := after_grow (blk_past hb _) (ho.alloc _) hg'; have h1 : w1.cell? ⟨b, 0, none⟩ = some (.slice ao l'.length c) := blk_cell hb1 0; have f1 := blk_free hb1 0; have HP : Hid _ := WInv.put (m := 1) (news := [d]) (blk_past hb _) (ho.alloc _) rfl ho' hg'; clear ho' hg' hb1))
      go_end0
      refine ⟨rfl, ?_, hk.trans (((Kept.refl _ _).alloc _).trans HP.out.2)⟩
      rw [← HE.out, HD.out]
      exact HP.out.1
    · obtain ⟨d, hE, hd⟩ := enc_big_byte h128
      have HD : Hid (enc r = d :: enc (r / 128)) := hE
      have hbit := or128 r
      rw [← hd] at hbit
      clear hE hd
      go_wp2_with (first | (at_builtin; go_must (refine wpList_append_src _ rfl _ _ 113 113 rfl (b + 1) 5 i0 (.int .u8 0) 1 1 Tryz.underlying113 hi hz0 hz1 hz2 rfl _ _ _ rfl (ho.alloc _) (.slice (some ⟨wr.heap.size, 0, none⟩) 1 1) 1 (cellsOf [d]) rfl (src_one d rfl) HLL.out.1 HLL.out.2 (le_alloc HB.out _) ?_); intro ao' c' w1 ho' hg'; have hb1 := after_grow (blk_past hb _) (ho.alloc _) hg'; have h1 : w1.cell? ⟨b, 0, none⟩ = some (.slice ao l'.length c) := blk_cell hb1 0; have f1 := blk_free hb1 0; have HP : Hid _ := WInv.put (m := 1) (news := [d]) (blk_past hb _) (ho.alloc _) rfl ho' hg'; clear ho' hg' hb1))
      go_roundw
      case rel => exact ⟨r / 128, l' ++ [d], by omega, by go_num, HP.out.1, by show (l' ++ [d]) ++ enc (r / 128) = _; rw [← HE.out, HD.out]; simp, hk.trans (((Kept.refl _ _).alloc _).trans HP.out.2)⟩
      case measure => simp [intOf]; omega

end Go.Proofs.YtijklginabipgaaGreat

/-
  The sum of bytes, plainly: bit by bit, as the program reckons it and as the document's answer does; the two are one.
-/
namespace Go.Proofs.YtijklginabipgaaGreat

def crcStep (c : Nat) : Nat := if c % 2 = 1 then c / 2 ^^^ 2197175160 else c / 2
def crcSteps : Nat → Nat → Nat
  | 0, c => c
  | k + 1, c => crcSteps k (crcStep c)
def crcByte (c : Nat) (b : UInt8) : Nat := crcSteps 8 (c ^^^ b.toNat)
/-- The register behind these bytes. -/
def crcReg (l : List UInt8) : Nat := l.foldl crcByte 4294967295
def crc (l : List UInt8) : Nat := 4294967295 - crcReg l

theorem crcStep_lt {c : Nat} (h : c < 4294967296) : crcStep c < 4294967296 := by
  unfold crcStep
  split
  · have : c / 2 ^^^ 2197175160 < 2 ^ 32 := Nat.xor_lt_two_pow (by omega) (by omega)
    omega
  · omega
theorem crcSteps_lt : ∀ (k : Nat) {c : Nat}, c < 4294967296 → crcSteps k c < 4294967296
  | 0, _, h => h
  | k + 1, _, h => crcSteps_lt k (crcStep_lt h)
theorem crcSteps_snoc : ∀ (k c : Nat), crcSteps (k + 1) c = crcStep (crcSteps k c)
  | 0, _ => rfl
  | k + 1, c => by
    show crcSteps (k + 1) (crcStep c) = _
    rw [crcSteps_snoc k]; rfl
theorem xor_lt {c b : Nat} (h : c < 4294967296) (hb : b < 4294967296) : c ^^^ b < 4294967296 := by
  have : c ^^^ b < 2 ^ 32 := Nat.xor_lt_two_pow (by omega) (by omega)
  omega
theorem crcByte_lt {c : Nat} {b : UInt8} (h : c < 4294967296) : crcByte c b < 4294967296 :=
  crcSteps_lt 8 (xor_lt h (by have := b.toNat_lt; omega))
theorem fold_lt : ∀ (l : List UInt8) {c : Nat}, c < 4294967296 → l.foldl crcByte c < 4294967296
  | [], _, h => h
  | _ :: l, _, h => fold_lt l (crcByte_lt h)
theorem crcReg_lt (l : List UInt8) : crcReg l < 4294967296 := fold_lt l (by omega)
theorem crc_lt (l : List UInt8) : crc l < 4294967296 := by unfold crc; omega
theorem crcReg_snoc (l : List UInt8) (b : UInt8) : crcReg (l ++ [b]) = crcByte (crcReg l) b := by
  simp [crcReg, List.foldl_append]

/-! The document's answer takes the byte in bit by bit. -/
def refStep (c b k : Nat) : Nat := if (c ^^^ b / 2 ^ k) % 2 = 1 then c / 2 ^^^ 2197175160 else c / 2
def refSteps (b : Nat) : Nat → Nat → Nat
  | 0, c => c
  | k + 1, c => refStep (refSteps b k c) b k
theorem xor_half (a b : Nat) : (a ^^^ b) / 2 = a / 2 ^^^ b / 2 := by
  have := Nat.shiftRight_xor_distrib (a := a) (b := b) (i := 1)
  simpa [Nat.shiftRight_eq_div_pow] using this
theorem steps_same (b c : Nat) : ∀ k, crcSteps k (c ^^^ b) = refSteps b k c ^^^ b / 2 ^ k
  | 0 => by simp [crcSteps, refSteps]
  | k + 1 => by
    rw [crcSteps_snoc, steps_same b c k]
    have hd : b / 2 ^ (k + 1) = b / 2 ^ k / 2 := by rw [Nat.pow_succ, Nat.div_div_eq_div_mul]
    simp only [refSteps, refStep, crcStep, xor_half, hd]
    split
    · rw [Nat.xor_assoc, Nat.xor_comm (b / 2 ^ k / 2), ← Nat.xor_assoc]
    · rfl
theorem byte_same (c : Nat) (b : UInt8) : refSteps b.toNat 8 c = crcByte c b := by
  have h := steps_same b.toNat c 8
  have : b.toNat / 2 ^ 8 = 0 := by have := b.toNat_lt; omega
  rw [this, Nat.xor_zero] at h
  exact h.symm
theorem refSteps_lt (b : Nat) (hb : b < 256) (c : Nat) (h : c < 4294967296) : ∀ k, refSteps b k c < 4294967296
  | 0 => h
  | k + 1 => by
    have ih := refSteps_lt b hb c h k
    show refStep _ b k < _
    unfold refStep
    split
    · exact xor_lt (by omega) (by omega)
    · omega

end Go.Proofs.YtijklginabipgaaGreat

/-
  The program's Sum and the document's: each answers the plain sum of WCrc.
-/
namespace Go.Proofs.YtijklginabipgaaGreat
open Go.RowKit

theorem u32_facts (x : Nat) (hx : x < 4294967296) : bits .and .u32 (x : Int) 1 = ((x % 2 : Nat) : Int) ∧ bits .xor .u32 ((x / 2 : Nat) : Int) 2197175160 = ((x / 2 ^^^ 2197175160 : Nat) : Int) := by
  constructor
  · have := u32_and_nat x 1 hx (by omega)
    rw [nat_mask1] at this
    exact this
  · exact u32_xor_nat (x / 2) 2197175160 (by omega) (by omega)

theorem xor_max (x : Nat) (hx : x < 4294967296) : bits BinOp.xor IntKind.u32 IntKind.u32.max (x : Int) = ((4294967295 - x : Nat) : Int) := by
  have e : IntKind.u32.max = ((4294967295 : Nat) : Int) := by decide
  rw [e, u32_xor_nat _ _ (by omega) hx]
  congr 1
  have h : (4294967295 : Nat) = 2 ^ 32 - 1 := by decide
  rw [h]
  apply Nat.eq_of_testBit_eq
  intro i
  rw [Nat.testBit_xor, Nat.testBit_two_pow_sub_one]
  have := Nat.testBit_two_pow_sub_succ (x := x) (n := 32) (by omega) i
  have e2 : 2 ^ 32 - 1 - x = 2 ^ 32 - (x + 1) := by omega
  rw [e2, this]
  by_cases hi : i < 32
  · simp [hi]
  · have : x.testBit i = false := Nat.testBit_lt_two_pow (Nat.lt_of_lt_of_le (by omega : x < 2 ^ 32) (Nat.pow_le_pow_right (by omega) (by omega)))
    simp [hi, this]

end Go.Proofs.YtijklginabipgaaGreat

/-
  What the document's reader does, method by method, in the plain readings of WBase; and its Sum.
-/
namespace Go.Proofs.YtijklginabipgaaGreat
open Go.RowKit

theorem i64_xor_nat (a b : Nat) (ha : a < 9223372036854775808) (hb : b < 9223372036854775808) : bits .xor .i64 (a : Int) (b : Int) = ((a ^^^ b : Nat) : Int) := by
  show IntKind.i64.wrap ((BitVec.ofInt 64 (a : Int) ^^^ BitVec.ofInt 64 (b : Int)).toNat : Int) = _
  rw [BitVec.toNat_xor, ofInt_u64 a (by omega), ofInt_u64 b (by omega)]
  have : a ^^^ b < 2 ^ 63 := Nat.xor_lt_two_pow (by omega) (by omega)
  rw [IntKind.wrap_i64]; omega

theorem tmod_nat (n m : Nat) : (n : Int).tmod (m : Int) = ((n % m : Nat) : Int) := by
  rw [Int.tmod_eq_emod_of_nonneg (by omega)]; rfl

theorem stText (most : Nat) (st : Except Int (List UInt8)) : stRun (rdText most) [] st = stRun (rdTake (stRun (rdUpTo most) 0 st).1) [] (stRun (rdUpTo most) 0 st).2 := by
  cases st with
  | error c => rfl
  | ok l =>
    cases hr : rdUpTo most l with
    | error c => rw [stRun_no hr, stRun_no (c := c) (by unfold rdText; rw [hr]), stRun_err]
    | ok r =>
      obtain ⟨n, t⟩ := r
      rw [stRun_ok hr]
      have e : rdText most l = rdTake n t := by unfold rdText; rw [hr]
      cases h2 : rdTake n t with
      | error c => rw [stRun_no (h2 ▸ e), stRun_no h2]
      | ok r2 => obtain ⟨a, u⟩ := r2; rw [stRun_ok (h2 ▸ e), stRun_ok h2]

/-- The error that the document's reader ends with: bytes that are left are one, too. -/
def stEnd (st : Except Int (List UInt8)) : Int :=
  match st with
  | .ok [] => 0
  | .ok _ => 1
  | .error c => c

end Go.Proofs.YtijklginabipgaaGreat

/-
  The program's writer of a text and of a frame; Frame, and the document's Frame: the same plain bytes.
-/
namespace Go.Proofs.YtijklginabipgaaGreat
open Go.RowKit

/-- Four bytes, the lowest first. -/
def le4 (c : Nat) : List UInt8 := [UInt8.ofNat (c % 256), UInt8.ofNat (c / 256 % 256), UInt8.ofNat (c / 65536 % 256), UInt8.ofNat (c / 16777216 % 256)]
def encFrame (l : List UInt8) : List UInt8 := encText l ++ le4 (crc l)

theorem byteCells_bs (l : List UInt8) : byteCells (bs l) = cellsOf l := by simp [byteCells, bs_data, cellsOf]
theorem src_str (l : List UInt8) (w : World) : Src Tryz.prog 1 9 (.string (bs l)) l.length (cellsOf l) w := by
  have := Src.ofString w (P := Tryz.prog) Tryz.underlying9 (bs l)
  rwa [bs_size, byteCells_bs] at this

set_option maxRecDepth 100000 in
theorem wText_any (b : Nat) (s l : List UInt8) (w : World) (h : WInv b w l) (hs : s.length ≤ 1099511627775) (hl : l.length ≤ 1099511627775) :
    Calls Tryz.prog 57 #[.pointer (some ⟨b, 0, none⟩), .string (bs s)] w fun e w' => e = .returned (.tuple #[]) ∧ WInv b w' (l ++ encText s) ∧ Kept (Wr b) w w' := by
  obtain ⟨i0, hi, hz0, hz1, hz2⟩ := info_parts Tryz.infoByte
  have H := wNumber_any b s.length l w h hs hl
  have hsz := bs_size s
  have hs' : (s.length : Int) ≤ 1099511627775 := by omega
  have HLL : Hid ((l ++ enc s.length).length + s.length ≤ maxLen ∧ ((l ++ enc s.length).length + s.length) * 1 ≤ 140737488355328) := by
    have h1 := enc_len6 hs
    simp only [List.length_append]
    constructor
    · unfold maxLen; omega
    · omega
  clear hs hl h
  obtain ⟨l2, hl2⟩ : ∃ l2, l2 = l ++ enc s.length := ⟨_, rfl⟩
  rw [← hl2] at H HLL
  have HE : Hid (l2 ++ s = l ++ encText s) := by rw [hl2]; show _ = l ++ (enc s.length ++ s); simp
  clear hl2
  go_enter Tryz.func57, Tryz.ntmps57
  go_wp2_with (first | (go_at_call 65; refine H.mono ?_; rintro e w1 ⟨rfl, ⟨ao, c, hb, ho⟩, hk⟩; have h0 : w1.cell? ⟨b, 0, none⟩ = some (.slice ao l2.length c) := blk_cell hb 0; have f0 := blk_free hb 0) | (at_builtin; go_must (refine wpList_append_src _ rfl (.tmp 12) (.tmp 13) 113 9 rfl (b + 1) 5 i0 (.int .u8 0) 1 1 Tryz.underlying113 hi hz0 hz1 hz2 rfl _ _ _ rfl ho (.string (bs s)) s.length (cellsOf s) rfl (src_str s _) HLL.out.1 HLL.out.2 (lt_of_block hb) ?_); intro ao' c' w2 ho' hg'; have hb1 := after_grow hb ho hg'; have h1 : w2.cell? ⟨b, 0, none⟩ = some (.slice ao l2.length c) := blk_cell hb1 0; have f1 := blk_free hb1 0; have HP : Hid _ := WInv.put (m := s.length) (news := s) hb ho rfl ho' hg'; clear ho' hg' hb1))
  go_end0
  refine ⟨rfl, ?_, hk.trans HP.out.2⟩
  rw [← HE.out]
  exact HP.out.1

def leN : Nat → Nat → List UInt8
  | 0, _ => []
  | k + 1, c => UInt8.ofNat (c % 256) :: leN k (c / 256)
theorem le4_eq (c : Nat) : leN 4 c = le4 c := by
  simp only [leN, le4]
  rw [Nat.div_div_eq_div_mul, Nat.div_div_eq_div_mul]

/-- The writer's bytes as a string. -/
theorem conv_own {b : Nat} {w : World} {l : List UInt8} {ao : Option Addr} {c : Nat} (ho : w.ownsRow (b + 1) 5 1 (.slice ao l.length c) l.length (cellsOf l)) :
    (convert 113 9 (.slice ao l.length c)).run Tryz.prog w = .ok (.string (bs l)) w := by
  rcases ho.2 with ⟨hv, hn⟩ | ⟨g, cap, cur, hv, hg⟩
  · obtain rfl : l = [] := List.eq_nil_of_length_eq_zero hn
    cases hv
    exact run_convert_bytes_nil w 113 5 Tryz.underlying113 Tryz.underlying5 0 0 9 Tryz.underlying9
  · cases hv
    refine run_convert_bytes_back w 113 9 5 ⟨g, 0, none⟩ c l Tryz.underlying113 Tryz.underlying5 Tryz.underlying9 ?_
    intro j hj
    refine ho.cells (g := g) rfl j _ ?_
    simp [cellsOf, hj]

theorem winv_new (w : World) : WInv w.heap.size (w.alloc (.cells #[.slice none 0 0] 115)) [] := ⟨none, 0, blk_new w _, World.ownsRow_nil _ _ _ _⟩
/-- What a new writer has turned is nothing that was there. -/
theorem Kept.newWr {w w' : World} {o : Obj} (h : Kept (Wr w.heap.size) (w.alloc o) w') : Kept Nil w w' := by
  have h2 := (h.mono (Y := fun k _ => w.heap.size ≤ k) (by
    rintro k o (rfl | ⟨hk, _⟩)
    · exact Nat.le_refl _
    · exact Nat.le_of_lt hk)).below (B := w.heap.size) (fun k o hk => hk) (by simp)
  exact Kept.ofBelow (((Below.refl _ _).alloc (Nat.le_refl _) o).trans h2) _

/-- Four bytes of a literal as a string. -/
theorem conv4 (w : World) (a b c d : Int) :
    (convert 113 9 (.slice (some ⟨w.heap.size, 0, none⟩) 4 4)).run Tryz.prog (w.alloc (.cells #[.int .u8 a, .int .u8 b, .int .u8 c, .int .u8 d] 5)) =
      .ok (.string (bs [UInt8.ofNat a.toNat, UInt8.ofNat b.toNat, UInt8.ofNat c.toNat, UInt8.ofNat d.toNat])) (w.alloc (.cells #[.int .u8 a, .int .u8 b, .int .u8 c, .int .u8 d] 5)) := by
  refine (run_convert_bytes_arg _ 113 5 Tryz.underlying113 Tryz.underlying5 w.heap.size 0 4 4 [a, b, c, d] rfl ?_ 9 Tryz.underlying9).trans ?_
  · intro i hi
    have hb := blk_new w (.cells #[.int .u8 a, .int .u8 b, .int .u8 c, .int .u8 d] 5)
    rcases (show i = 0 ∨ i = 1 ∨ i = 2 ∨ i = 3 by omega) with rfl | rfl | rfl | rfl
    · exact blk_cell hb 0
    · exact blk_cell hb 1
    · exact blk_cell hb 2
    · exact blk_cell hb 3
  · rfl

/-! ### both at once -/
/-- What a frame is made of, or that it can't be: the bytes and the error. -/
def putFrame (s : List UInt8) : List UInt8 × Int := if s.length ≤ 65536 then (encFrame s, 0) else ([], 4)

end Go.Proofs.YtijklginabipgaaGreat

/-
  Which numbers may be, and numbers written one behind the other: the program's areFrom, AreNumbers, AreCounts, and its writer's numbers.
-/
namespace Go.Proofs.YtijklginabipgaaGreat
open Go.RowKit

theorem blk_at {w : World} {b : Nat} {cs : Array Value} {t : TypeId} {v : Value} (h : w.heap[b]? = some (.cells cs t (0, 0))) (i : Nat) (hv : cs[i]? = some v) : w.cell? ⟨b, i, none⟩ = some v := (blk_cell h i).trans hv

/-- A row of ints in a block of its own. -/
def IntsAt (w : World) (b : Nat) (zs : List Int) : Prop := ∀ j, j < zs.length → w.cell? ⟨b, j, none⟩ = some (.int .i64 (zs.getD j 0))

def fromTo (least : Int) (zs : List Int) : Bool := zs.all fun z => decide (least ≤ z) && decide (z ≤ 1099511627775)

set_option maxRecDepth 100000 in
set_option maxHeartbeats 1000000 in
theorem areFrom_any (least : Int) (b cap : Nat) (zs : List Int) (w : World) (hc : IntsAt w b zs) (hl : zs.length ≤ 1099511627775) :
    Calls Tryz.prog 90 #[.int .i64 least, .slice (some ⟨b, 0, none⟩) zs.length cap] w fun e w' => e = .returned (.bool (fromTo least zs)) ∧ w' = w := by
  have hl' : (zs.length : Int) ≤ 1099511627775 := by omega
  have HC : Hid (IntsAt w b zs) := hc
  clear hc hl
  go_enter Tryz.func90, Tryz.ntmps90
  go_wp2
  go_loop [9] (fun i => ∃ k : Nat, k ≤ zs.length ∧ i = .int .i64 k ∧ Hid (fromTo least (zs.take k) = true)) (fun i => zs.length - (intOf i).toNat)
  case atStart => exact ⟨0, Nat.zero_le _, rfl, rfl⟩
  case round =>
    obtain ⟨k, hk, rfl, HT⟩ := hrel
    by_cases hlt : k < zs.length
    · have hcell := HC.out k hlt
      obtain ⟨z, hz⟩ : ∃ z, z = zs.getD k 0 := ⟨_, rfl⟩
      have HZ : Hid (zs.take (k + 1) = zs.take k ++ [z]) := by
        show zs.take (k + 1) = _
        rw [List.take_succ_eq_append_getElem hlt, hz]
        simp [List.getD_eq_getElem?_getD, hlt]
      have HG : Hid (zs = zs.take k ++ z :: zs.drop (k + 1)) := by
        show zs = _
        rw [hz]
        simp [List.getD_eq_getElem?_getD, hlt]
      rw [← hz] at hcell
      clear hz
      by_cases hin : least ≤ z ∧ z ≤ 1099511627775
      · obtain ⟨hin1, hin2⟩ := hin
        have HT2 : Hid (fromTo least (zs.take (k + 1)) = true) := by
          show fromTo least _ = true
          rw [HZ.out]
          have := HT.out
          simp only [fromTo, List.all_append, List.all_cons, List.all_nil, Bool.and_true] at this ⊢
          rw [this]; simp [hin1, hin2]
        go_wp2
        go_round
        case rel => exact ⟨k + 1, by omega, by go_num, HT2⟩
        case measure => simp [intOf]; omega
      · have HF : Hid (fromTo least zs = false) := by
          show fromTo least zs = false
          rw [HG.out]
          simp only [fromTo, List.all_append, List.all_cons]
          have : (decide (least ≤ z) && decide (z ≤ 1099511627775)) = false := by simp; omega
          rw [this]; simp
        by_cases h1 : z < least
        · clear hin
          go_wp2
          go_ret
          rw [HF.out]
          exact ⟨rfl, rfl⟩
        · have h2 : 1099511627775 < z := by omega
          clear hin
          go_wp2
          go_ret
          rw [HF.out]
          exact ⟨rfl, rfl⟩
    · have HF : Hid (fromTo least zs = true) := by
        have := HT.out
        rw [List.take_of_length_le (by omega)] at this
        exact this
      go_wp2
      go_ret
      rw [HF.out]
      exact ⟨rfl, rfl⟩

theorem areNumbers_any (b cap : Nat) (zs : List Int) (w : World) (hc : IntsAt w b zs) (hl : zs.length ≤ 1099511627775) :
    Calls Tryz.prog 50 #[.slice (some ⟨b, 0, none⟩) zs.length cap] w fun e w' => e = .returned (.bool (fromTo 0 zs)) ∧ w' = w := by
  have H := areFrom_any 0 b cap zs w hc hl
  clear hc hl
  go_enter Tryz.func50, Tryz.ntmps50
  go_wp2_with (go_at_call 90; go_must (refine H.mono ?_); rintro e w' ⟨rfl, rfl⟩)
  go_ret
  exact ⟨rfl, rfl⟩

theorem areCounts_any (b cap : Nat) (zs : List Int) (w : World) (hc : IntsAt w b zs) (hl : zs.length ≤ 1099511627775) :
    Calls Tryz.prog 56 #[.slice (some ⟨b, 0, none⟩) zs.length cap] w fun e w' => e = .returned (.bool (fromTo 1 zs)) ∧ w' = w := by
  have H := areFrom_any 1 b cap zs w hc hl
  clear hc hl
  go_enter Tryz.func56, Tryz.ntmps56
  go_wp2_with (go_at_call 90; go_must (refine H.mono ?_); rintro e w' ⟨rfl, rfl⟩)
  go_ret
  exact ⟨rfl, rfl⟩

/-- Numbers written one behind the other. -/
def encAll (ns : List Nat) : List UInt8 := ns.flatMap enc
def intsOf (ns : List Nat) : List Int := ns.map fun (n : Nat) => (n : Int)

theorem encAll_len (ns : List Nat) (h : ∀ n ∈ ns, n ≤ 1099511627775) : (encAll ns).length ≤ 6 * ns.length := by
  induction ns with
  | nil => simp [encAll]
  | cons n ns ih =>
    have h1 := enc_len6 (h n (by simp))
    have h2 := ih (fun m hm => h m (by simp [hm]))
    simp only [encAll, List.flatMap_cons, List.length_append, List.length_cons] at h2 ⊢
    omega

set_option maxRecDepth 100000 in
set_option maxHeartbeats 1000000 in
theorem wNumbers_any (b g cap : Nat) (cs : Array Value) (m : Nat × Nat) (ns : List Nat) (l : List UInt8) (w : World) (h : WInv b w l) (hg : w.heap[g]? = some (.cells cs 3 m)) (hgb : g ≠ b)
    (hc : IntsAt w g (intsOf ns)) (hn : ∀ n ∈ ns, n ≤ 1099511627775) (hnl : ns.length ≤ 10000000) (hl : l.length ≤ 100000000000) :
    Calls Tryz.prog 52 #[.pointer (some ⟨b, 0, none⟩), .slice (some ⟨g, 0, none⟩) ns.length cap] w fun e w' => e = .returned (.tuple #[]) ∧ WInv b w' (l ++ encAll ns) ∧ Kept (Wr b) w w' := by
  have hx : ¬ Wr b g (.cells cs 3 m) := by
    rintro (e | ⟨_, cs', m', e⟩)
    · exact hgb e
    · simp at e
  have HX : Hid (w.heap[g]? = some (.cells cs 3 m) ∧ ¬ Wr b g (.cells cs 3 m)) := ⟨hg, hx⟩
  have HC : Hid (IntsAt w g (intsOf ns)) := hc
  have HN : Hid (∀ n ∈ ns, n ≤ 1099511627775) := hn
  have HL : Hid (l.length ≤ 100000000000) := hl
  have hnl' : (ns.length : Int) ≤ 10000000 := by omega
  clear hg hx hc hn hl hgb
  go_enter Tryz.func52, Tryz.ntmps52
  go_wp2
  go_loopw [8] (fun i wr => ∃ k : Nat, k ≤ ns.length ∧ i = .int .i64 k ∧ WInv b wr (l ++ encAll (ns.take k)) ∧ Kept (Wr b) w wr) (fun i _ => ns.length - (intOf i).toNat)
  case atStart => exact ⟨0, Nat.zero_le _, rfl, by simpa [encAll] using h, .refl _ _⟩
  case round =>
    obtain ⟨k, hk, rfl, hinv, hkk⟩ := hrel
    by_cases hlt : k < ns.length
    · have hcell : wr.cell? ⟨g, k, none⟩ = some (.int .i64 (ns[k] : Nat)) := by
        rw [hkk.cell HX.out.1 HX.out.2 k, HC.out k (by simpa [intsOf] using hlt)]
        simp [intsOf, List.getD_eq_getElem?_getD, hlt]
      have hle := HN.out ns[k] (List.getElem_mem hlt)
      have HE : Hid ((l ++ encAll (ns.take k)) ++ enc ns[k] = l ++ encAll (ns.take (k + 1))) := by
        show _ = _
        rw [List.take_succ_eq_append_getElem hlt]
        simp only [encAll, List.flatMap_append, List.flatMap_cons, List.flatMap_nil, List.append_nil, List.append_assoc]
      have H := wNumber_any b ns[k] (l ++ encAll (ns.take k)) wr hinv hle (by
        have h1 := encAll_len (ns.take k) (fun n hn => HN.out n (List.mem_of_mem_take hn))
        have h2 := HL.out
        simp only [List.length_append, List.length_take] at h1 ⊢
        omega)
      rw [HE.out] at H
      obtain ⟨z, hz⟩ : ∃ z, z = ns[k] := ⟨_, rfl⟩
      rw [← hz] at hcell H
      have hle' : (z : Int) ≤ 1099511627775 := by omega
      clear hz hle hinv HE
      go_wp2_with (go_at_call 65; go_must (refine H.mono ?_); rintro e w' ⟨rfl, hinv', hk'⟩)
      go_roundw
      case rel => exact ⟨k + 1, by omega, by go_num, hinv', hkk.trans hk'⟩
      case measure => simp [intOf]; omega
    · go_wp2
      go_end0
      rw [List.take_of_length_le (by omega)] at hinv
      exact ⟨rfl, hinv, hkk⟩

end Go.Proofs.YtijklginabipgaaGreat

/-
  What the program's reader does, method by method: must, take, number, upTo, text: each answers by the plain reading of WBase, or gives up by its panic, and turns the reader's one cell alone.
-/
namespace Go.Proofs.YtijklginabipgaaGreat
open Go.RowKit

def up (c : Int) : List PanicEntry := [{ v := .iface 106 (.agg #[.int .i64 c]), recovered := false }]

theorem must_ok (c : Int) (w : World) : Calls Tryz.prog 47 #[.bool true, .int .i64 c] w fun e w' => e = .returned (.tuple #[]) ∧ w' = w := by
  go_enter Tryz.func47, Tryz.ntmps47
  go_wp2
  go_end0
  exact ⟨rfl, rfl⟩

theorem must_no (c : Int) (w : World) : Calls Tryz.prog 47 #[.bool false, .int .i64 c] w fun e w' => e = .panicked (up c) ∧ w' = w := by
  go_enter Tryz.func47, Tryz.ntmps47
  go_wp2
  exact ⟨rfl, rfl, rfl⟩

theorem take_ok (p : Addr) (l : List UInt8) (n : Nat) (w : World) (hc : w.cell? p = some (.string (bs l))) (hz : w.frozen? p = false) (hn : n ≤ l.length) :
    Calls Tryz.prog 88 #[.pointer (some p), .int .i64 n] w fun e w' => e = .returned (.string (bs (l.take n))) ∧ w' = w.setCell p (.string (bs (l.drop n))) := by
  have hn' : n ≤ (bs l).size := by rw [bs_size]; exact hn
  rw [← bs_take, ← bs_drop]
  clear hn
  go_enter Tryz.func88, Tryz.ntmps88
  go_wp2_with (go_at_call 47; refine (must_ok _ _).mono ?_; rintro e w' ⟨rfl, rfl⟩)
  go_ret
  exact ⟨rfl, rfl⟩

theorem take_no (p : Addr) (l : List UInt8) (n : Nat) (w : World) (hc : w.cell? p = some (.string (bs l))) (hz : w.frozen? p = false) (hn : l.length < n)  :
    Calls Tryz.prog 88 #[.pointer (some p), .int .i64 n] w fun e w' => e = .panicked (up 3) ∧ w' = w := by
  have hn' : ¬ n ≤ (bs l).size := by rw [bs_size]; omega
  clear hn
  go_enter Tryz.func88, Tryz.ntmps88
  go_wp2_with (go_at_call 47; refine (must_no _ _).mono ?_; rintro e w' ⟨rfl, rfl⟩)
  exact ⟨rfl, rfl, rfl⟩

/-- The reader's cell, told by the bytes that are left. -/
structure Left (p : Addr) (w : World) (l : List UInt8) : Prop where
  cell : w.cell? p = some (.string (bs l))
  free : w.frozen? p = false

theorem Left.set {p : Addr} {w : World} {l : List UInt8} (h : Left p w l) (t : List UInt8) : Left p (w.setCell p (.string (bs t))) t :=
  ⟨World.cell?_setCell_same _ _ _ (by rw [h.cell]), by rw [World.frozen?_setCell]; exact h.free⟩

/-- What a reader's method leaves: by its reading, the value and what is left; or its panic. -/
def RdPost {α : Type} (p : Addr) (w : World) (r : Except Int (α × List UInt8)) (V : α → World → Value → Prop) (e : Ending) (w' : World) : Prop :=
  match r with
  | .ok (a, t) => (∃ v, e = .returned v ∧ V a w' v) ∧ Left p w' t ∧ Kept (One p.block) w w'
  | .error c => e = .panicked (up c) ∧ Kept (One p.block) w w'

theorem RdPost.ok {α : Type} {p : Addr} {w : World} {r : Except Int (α × List UInt8)} {V : α → World → Value → Prop} {f : Nat} {args : Array Value} {a : α} {t : List UInt8}
    (h : Calls Tryz.prog f args w (RdPost p w r V)) (hr : r = .ok (a, t)) :
    Calls Tryz.prog f args w fun e w' => ∃ v, e = .returned v ∧ V a w' v ∧ w'.cell? p = some (.string (bs t)) ∧ w'.frozen? p = false ∧ Kept (One p.block) w w' := by
  refine h.mono ?_
  intro e w' h
  subst hr
  obtain ⟨⟨v, h1, h2⟩, h3, h4⟩ := h
  exact ⟨v, h1, h2, h3.cell, h3.free, h4⟩

theorem RdPost.no {α : Type} {p : Addr} {w : World} {r : Except Int (α × List UInt8)} {V : α → World → Value → Prop} {f : Nat} {args : Array Value} {c : Int}
    (h : Calls Tryz.prog f args w (RdPost p w r V)) (hr : r = .error c) :
    Calls Tryz.prog f args w fun e w' => e = .panicked (up c) ∧ Kept (One p.block) w w' := by
  refine h.mono ?_
  intro e w' h
  subst hr
  exact h

theorem i64_or_nat (a b : Nat) (ha : a < 9223372036854775808) (hb : b < 9223372036854775808) : bits .or .i64 (a : Int) (b : Int) = ((a ||| b : Nat) : Int) := by
  show IntKind.i64.wrap ((BitVec.ofInt 64 (a : Int) ||| BitVec.ofInt 64 (b : Int)).toNat : Int) = _
  rw [BitVec.toNat_or, ofInt_u64 a (by omega), ofInt_u64 b (by omega)]
  have : a ||| b < 2 ^ 63 := Nat.or_lt_two_pow (by omega) (by omega)
  rw [IntKind.wrap_i64]; omega

theorem or_fact (k x : Nat) (c : UInt8) (hk : k ≤ 6) (hx : x < 2 ^ (7 * k)) :
    bits BinOp.or IntKind.i64 (x : Int) (wrap64 (wrap64 (bits BinOp.and IntKind.u8 (c.toNat : Int) 127) * 2 ^ (7 * k))) = ((x + c.toNat % 128 * 2 ^ (7 * k) : Nat) : Int) := by
  have hc : c.toNat < 256 := c.toNat_lt
  have hp := pow7 k hk
  have e1 : bits BinOp.and IntKind.u8 (c.toNat : Int) 127 = ((c.toNat % 128 : Nat) : Int) := by
    have := u8_and_nat c.toNat 127 hc (by omega)
    rw [nat_mask7] at this
    exact this
  have hm : c.toNat % 128 * 2 ^ (7 * k) ≤ 127 * 4398046511104 := Nat.mul_le_mul (by omega) hp
  have e2 : wrap64 ((c.toNat % 128 : Nat) : Int) = ((c.toNat % 128 : Nat) : Int) := by unfold wrap64; omega
  have e3 : wrap64 (((c.toNat % 128 : Nat) : Int) * 2 ^ (7 * k)) = ((c.toNat % 128 * 2 ^ (7 * k) : Nat) : Int) := by
    have : (((c.toNat % 128 : Nat) : Int) * 2 ^ (7 * k)) = ((c.toNat % 128 * 2 ^ (7 * k) : Nat) : Int) := by push_cast; rfl
    rw [this]; unfold wrap64; omega
  rw [e1, e2, e3, i64_or_nat _ _ (by omega) (by omega), or_add hx]

def NumV : Nat → World → Value → Prop := fun n _ v => v = .int .i64 n

set_option maxRecDepth 100000 in
set_option maxHeartbeats 1000000 in
theorem number_any (p : Addr) (l : List UInt8) (w : World) (hl : Left p w l) :
    Calls Tryz.prog 48 #[.pointer (some p)] w (RdPost p w (rdNum l) NumV) := by
  obtain ⟨hc, hz⟩ := hl
  go_enter Tryz.func48, Tryz.ntmps48
  go_wp2
  go_loopw [3, 4] (fun n s wr => ∃ k : Nat, ∃ x : Nat, ∃ t : List UInt8, k ≤ 6 ∧ Hid (rdNum l = numGo k x t) ∧ x < 2 ^ (7 * k) ∧ n = .int .i64 x ∧ s = .int .i64 (7 * k : Nat) ∧ Left p wr t ∧ Kept (One p.block) w wr) (fun _ s _ => 50 - (intOf s).toNat)
  case atStart => exact ⟨0, 0, l, by omega, rfl, by omega, rfl, rfl, ⟨hc, hz⟩, .refl _ _⟩
  case round =>
    obtain ⟨k, x, t, hk, ht, hx, rfl, rfl, ⟨hcc, hzz⟩, hw⟩ := hrel
    clear hc hz
    cases t with
    | nil =>
      go_wp2_with (go_at_call 88; refine (take_no p [] 1 _ hcc hzz (by simp)).mono ?_; rintro e w' ⟨rfl, rfl⟩)
      rw [ht.out, numGo_nil]
      exact ⟨rfl, rfl, hw⟩
    | cons c t =>
      have h1 : (bs [c]).size = 1 := by rw [bs_size]; rfl
      have h2 : ∀ h, ((bs [c])[0]'h) = c := fun h => by rw [bs_at]; rfl
      have h3 := or_fact k x c hk hx
      have hlt := step_lt hx (show c.toNat % 128 < 128 by omega)
      have hw2 : Kept (One p.block) w (wr.setCell p (.string (bs t))) := hw.setCell (fun _ => rfl) _
      have hl2 : Left p (wr.setCell p (.string (bs t))) t := Left.set ⟨hcc, hzz⟩ t
      have HP : Hid (Kept (One p.block) w (wr.setCell p (.string (bs t))) ∧ Left p (wr.setCell p (.string (bs t))) t) := ⟨hw2, hl2⟩
      clear hw2 hl2
      obtain ⟨z, hz⟩ : ∃ z, z = x + c.toNat % 128 * 2 ^ (7 * k) := ⟨_, rfl⟩
      rw [← hz] at h3 hlt
      have HD : Hid (z = x + c.toNat % 128 * 2 ^ (7 * k)) := hz
      by_cases hb : k ≤ 5 ∧ x + c.toNat % 128 * 2 ^ (7 * k) ≤ maxNum ∧ (c.toNat ≠ 0 ∨ k = 0)
      · have hm : (z : Int) ≤ 1099511627775 := by rw [hz]; unfold maxNum at hb; omega
        by_cases h128 : c.toNat < 128
        · have HR : Hid (rdNum l = .ok (z, t)) := by rw [hz]; exact ht.out.trans (numGo_end hb h128)
          obtain ⟨hb1, hb2, hb3⟩ := hb
          clear hb2 hz
          by_cases hcz : c.toNat = 0
          · have hkz : (7 * (k : Int) == 0) = true := by simp; omega
            clear hb3
            have hcz2 : ((c.toNat : Int) != 0) = false := by simp [hcz]
            clear hcz
            go_wp2_with (first | (go_at_call 88; refine (take_ok p (c :: t) 1 _ hcc hzz (by simp)).mono ?_; rintro e w' ⟨rfl, rfl⟩) | (go_at_call 47; refine (must_ok _ _).mono ?_; rintro e w' ⟨rfl, rfl⟩))
            go_ret
            unfold RdPost
            rw [HR.out]
            exact ⟨⟨_, rfl, rfl⟩, HP.out.2, HP.out.1⟩
          · clear hb3
            go_wp2_with (first | (go_at_call 88; refine (take_ok p (c :: t) 1 _ hcc hzz (by simp)).mono ?_; rintro e w' ⟨rfl, rfl⟩) | (go_at_call 47; refine (must_ok _ _).mono ?_; rintro e w' ⟨rfl, rfl⟩))
            go_ret
            unfold RdPost
            rw [HR.out]
            exact ⟨⟨_, rfl, rfl⟩, HP.out.2, HP.out.1⟩
        · have HR : Hid (rdNum l = numGo (k + 1) z t) := by rw [hz]; exact ht.out.trans (numGo_more hb h128)
          obtain ⟨hb1, hb2, hb3⟩ := hb
          have hcz : ¬ c.toNat = 0 := by omega
          clear hb2 hz hb3
          go_wp2_with (first | (go_at_call 88; refine (take_ok p (c :: t) 1 _ hcc hzz (by simp)).mono ?_; rintro e w' ⟨rfl, rfl⟩) | (go_at_call 47; refine (must_ok _ _).mono ?_; rintro e w' ⟨rfl, rfl⟩))
          go_roundw
          case rel => exact ⟨k + 1, z, t, by omega, HR, hlt, rfl, by go_num, HP.out.2, HP.out.1⟩
          case measure => simp [intOf]; omega
      · have HR : Hid (rdNum l = .error 1) := ht.out.trans (numGo_bad hb)
        by_cases hk5 : k ≤ 5
        · by_cases hm : (z : Int) ≤ 1099511627775
          · have hcz : c.toNat = 0 := by unfold maxNum at hb; omega
            have hkz : (7 * (k : Int) == 0) = false := by simp; unfold maxNum at hb; omega
            have hcz2 : ((c.toNat : Int) != 0) = false := by simp [hcz]
            clear hcz hb hz
            go_wp2_with (first | (go_at_call 88; refine (take_ok p (c :: t) 1 _ hcc hzz (by simp)).mono ?_; rintro e w' ⟨rfl, rfl⟩) | (go_at_call 47; refine (must_no _ _).mono ?_; rintro e w' ⟨rfl, rfl⟩))
            unfold bodyPost RdPost
            rw [HR.out]
            exact ⟨rfl, rfl, HP.out.1⟩
          · clear hb hz
            go_wp2_with (first | (go_at_call 88; refine (take_ok p (c :: t) 1 _ hcc hzz (by simp)).mono ?_; rintro e w' ⟨rfl, rfl⟩) | (go_at_call 47; refine (must_no _ _).mono ?_; rintro e w' ⟨rfl, rfl⟩))
            unfold bodyPost RdPost
            rw [HR.out]
            exact ⟨rfl, rfl, HP.out.1⟩
        · clear hb hz
          go_wp2_with (first | (go_at_call 88; refine (take_ok p (c :: t) 1 _ hcc hzz (by simp)).mono ?_; rintro e w' ⟨rfl, rfl⟩) | (go_at_call 47; refine (must_no _ _).mono ?_; rintro e w' ⟨rfl, rfl⟩))
          unfold bodyPost RdPost
          rw [HR.out]
          exact ⟨rfl, rfl, HP.out.1⟩

theorem number_ok {p : Addr} {l t : List UInt8} {n : Nat} {w : World} (hl : Left p w l) (hr : rdNum l = .ok (n, t)) :
    Calls Tryz.prog 48 #[.pointer (some p)] w fun e w' => e = .returned (.int .i64 n) ∧ w'.cell? p = some (.string (bs t)) ∧ w'.frozen? p = false ∧ Kept (One p.block) w w' := by
  refine (RdPost.ok (number_any p l w hl) hr).mono ?_
  rintro e w' ⟨v, rfl, rfl, h⟩
  exact ⟨rfl, h⟩

theorem number_no {p : Addr} {l : List UInt8} {c : Int} {w : World} (hl : Left p w l) (hr : rdNum l = .error c) :
    Calls Tryz.prog 48 #[.pointer (some p)] w fun e w' => e = .panicked (up c) ∧ Kept (One p.block) w w' := RdPost.no (number_any p l w hl) hr

theorem upTo_any (p : Addr) (most : Nat) (l : List UInt8) (w : World) (hl : Left p w l) :
    Calls Tryz.prog 91 #[.pointer (some p), .int .i64 most] w (RdPost p w (rdUpTo most l) NumV) := by
  cases hr : rdNum l with
  | error c =>
    have HR : Hid (rdUpTo most l = .error c) := by unfold rdUpTo; rw [hr]; rfl
    go_enter Tryz.func91, Tryz.ntmps91
    go_wp2_with (go_at_call 48; refine (number_no hl hr).mono ?_; rintro e w' ⟨rfl, hk⟩)
    unfold bodyPost RdPost
    rw [HR.out]
    exact ⟨rfl, rfl, hk⟩
  | ok r =>
    obtain ⟨n, t⟩ := r
    by_cases hn : n ≤ most
    · have HR : Hid (rdUpTo most l = .ok (n, t)) := by unfold rdUpTo; rw [hr]; exact if_pos hn
      go_enter Tryz.func91, Tryz.ntmps91
      go_wp2_with (first | (go_at_call 48; refine (number_ok hl hr).mono ?_; rintro e w' ⟨rfl, hc', hz', hk⟩) | (go_at_call 47; refine (must_ok _ _).mono ?_; rintro e w' ⟨rfl, rfl⟩))
      go_ret
      unfold RdPost
      rw [HR.out]
      exact ⟨⟨_, rfl, rfl⟩, ⟨by assumption, by assumption⟩, by assumption⟩
    · have HR : Hid (rdUpTo most l = .error 4) := by unfold rdUpTo; rw [hr]; exact if_neg hn
      go_enter Tryz.func91, Tryz.ntmps91
      go_wp2_with (first | (go_at_call 48; refine (number_ok hl hr).mono ?_; rintro e w' ⟨rfl, hc', hz', hk⟩) | (go_at_call 47; refine (must_no _ _).mono ?_; rintro e w' ⟨rfl, rfl⟩))
      unfold bodyPost RdPost
      rw [HR.out]
      exact ⟨rfl, rfl, by assumption⟩

theorem upTo_ok {p : Addr} {l t : List UInt8} {most n : Nat} {w : World} (hl : Left p w l) (hr : rdUpTo most l = .ok (n, t)) :
    Calls Tryz.prog 91 #[.pointer (some p), .int .i64 most] w fun e w' => e = .returned (.int .i64 n) ∧ w'.cell? p = some (.string (bs t)) ∧ w'.frozen? p = false ∧ Kept (One p.block) w w' := by
  refine (RdPost.ok (upTo_any p most l w hl) hr).mono ?_
  rintro e w' ⟨v, rfl, rfl, h⟩
  exact ⟨rfl, h⟩

theorem upTo_no {p : Addr} {l : List UInt8} {most : Nat} {c : Int} {w : World} (hl : Left p w l) (hr : rdUpTo most l = .error c) :
    Calls Tryz.prog 91 #[.pointer (some p), .int .i64 most] w fun e w' => e = .panicked (up c) ∧ Kept (One p.block) w w' := RdPost.no (upTo_any p most l w hl) hr

def StrV : List UInt8 → World → Value → Prop := fun s _ v => v = .string (bs s)

theorem text_any (p : Addr) (most : Nat) (l : List UInt8) (w : World) (hl : Left p w l) :
    Calls Tryz.prog 55 #[.pointer (some p), .int .i64 most] w (RdPost p w (rdText most l) StrV) := by
  cases hr : rdUpTo most l with
  | error c =>
    have HR : Hid (rdText most l = .error c) := by unfold rdText; rw [hr]; rfl
    go_enter Tryz.func55, Tryz.ntmps55
    go_wp2_with (go_at_call 91; refine (upTo_no hl hr).mono ?_; rintro e w' ⟨rfl, hk⟩)
    unfold bodyPost RdPost
    rw [HR.out]
    exact ⟨rfl, rfl, hk⟩
  | ok r =>
    obtain ⟨n, t⟩ := r
    by_cases hn : n ≤ t.length
    · have HR : Hid (rdText most l = .ok (t.take n, t.drop n)) := by unfold rdText; rw [hr]; exact if_pos hn
      go_enter Tryz.func55, Tryz.ntmps55
      go_wp2_with (first | (go_at_call 91; refine (upTo_ok hl hr).mono ?_; rintro e w' ⟨rfl, hc', hz', hk⟩) | (go_at_call 88; refine (take_ok p t n _ hc' hz' hn).mono ?_; rintro e w2 ⟨rfl, rfl⟩))
      go_ret
      unfold RdPost
      rw [HR.out]
      exact ⟨⟨_, rfl, rfl⟩, Left.set (l := t) ⟨by assumption, by assumption⟩ _, Kept.setCell (by assumption) (fun _ => rfl) _⟩
    · have HR : Hid (rdText most l = .error 3) := by unfold rdText; rw [hr]; exact if_neg hn
      go_enter Tryz.func55, Tryz.ntmps55
      go_wp2_with (first | (go_at_call 91; refine (upTo_ok hl hr).mono ?_; rintro e w' ⟨rfl, hc', hz', hk⟩) | (go_at_call 88; refine (take_no p t n _ hc' hz' (by omega)).mono ?_; rintro e w2 ⟨rfl, rfl⟩))
      unfold bodyPost RdPost
      rw [HR.out]
      exact ⟨rfl, rfl, by assumption⟩

theorem text_ok {p : Addr} {l s t : List UInt8} {most : Nat} {w : World} (hl : Left p w l) (hr : rdText most l = .ok (s, t)) :
    Calls Tryz.prog 55 #[.pointer (some p), .int .i64 most] w fun e w' => e = .returned (.string (bs s)) ∧ w'.cell? p = some (.string (bs t)) ∧ w'.frozen? p = false ∧ Kept (One p.block) w w' := by
  refine (RdPost.ok (text_any p most l w hl) hr).mono ?_
  rintro e w' ⟨v, rfl, rfl, h⟩
  exact ⟨rfl, h⟩

theorem text_no {p : Addr} {l : List UInt8} {most : Nat} {c : Int} {w : World} (hl : Left p w l) (hr : rdText most l = .error c) :
    Calls Tryz.prog 55 #[.pointer (some p), .int .i64 most] w fun e w' => e = .panicked (up c) ∧ Kept (One p.block) w w' := RdPost.no (text_any p most l w hl) hr

end Go.Proofs.YtijklginabipgaaGreat

/-
  The program's reader of a frame, Unframe; and the document's: the same plain reading.
-/
namespace Go.Proofs.YtijklginabipgaaGreat
open Go.RowKit

/-- What so many bytes say, the lowest first. -/
def valN : Nat → List UInt8 → Nat
  | 0, _ => 0
  | k + 1, l => valN k l + (l.getD k 0).toNat * 2 ^ (8 * k)
theorem valN_lt (l : List UInt8) : ∀ k, valN k l < 2 ^ (8 * k)
  | 0 => by simp [valN]
  | k + 1 => by
    have ih := valN_lt l k
    have hb := (l.getD k 0).toNat_lt
    have e : 2 ^ (8 * (k + 1)) = 256 * 2 ^ (8 * k) := by rw [Nat.mul_add, Nat.pow_add]; omega
    have : ((l.getD k 0).toNat + 1) * 2 ^ (8 * k) ≤ 256 * 2 ^ (8 * k) := Nat.mul_le_mul_right _ (by omega)
    rw [Nat.add_mul] at this
    show valN k l + _ < _
    omega

theorem cell_lt {w : World} {a : Addr} {v : Value} (h : w.cell? a = some v) : a.block < w.heap.size := by
  cases hb : w.heap[a.block]? with
  | none => simp [World.cell?, hb] at h
  | some o => exact lt_of_block hb
theorem Left.alloc {p : Addr} {w : World} {l : List UInt8} (h : Left p w l) (o : Obj) : Left p (w.alloc o) l :=
  have e := Below.heap_alloc w o p.block (cell_lt h.cell)
  ⟨(World.cell?_of_block e).trans h.cell, (World.frozen?_of_block e).trans h.free⟩
theorem Left.other {p : Addr} {w : World} {l : List UInt8} (h : Left p w l) {a : Addr} (ha : p.block ≠ a.block) (u : Value) : Left p (w.setCell a u) l :=
  have e := Below.heap_setCell w a u p.block ha
  ⟨(World.cell?_of_block e).trans h.cell, (World.frozen?_of_block e).trans h.free⟩
theorem Left.drew {p : Addr} {w : World} {l : List UInt8} (h : Left p w l) : Left p w.drew l := ⟨h.cell, h.free⟩

theorem or8 (k x : Nat) (d : UInt8) (hk : k < 4) (hx : x < 2 ^ (8 * k)) : bits BinOp.or IntKind.u32 (x : Int) ((d.toNat : Int) * 2 ^ (8 * k) % 4294967296) = ((x + d.toNat * 2 ^ (8 * k) : Nat) : Int) := by
  have hd := d.toNat_lt
  have hp : 2 ^ (8 * k) ≤ 2 ^ 24 := Nat.pow_le_pow_right (by omega) (by omega)
  have hm : d.toNat * 2 ^ (8 * k) ≤ 255 * 2 ^ 24 := Nat.mul_le_mul (by omega) hp
  have e : ((d.toNat : Int) * 2 ^ (8 * k) % 4294967296) = ((d.toNat * 2 ^ (8 * k) : Nat) : Int) := by
    have : ((d.toNat : Int) * 2 ^ (8 * k)) = ((d.toNat * 2 ^ (8 * k) : Nat) : Int) := by push_cast; rfl
    rw [this]; omega
  rw [e, u32_or_nat _ _ (by omega) (by omega), Nat.or_comm, ← Nat.shiftLeft_eq, ← Nat.shiftLeft_add_eq_or_of_lt hx, Nat.add_comm]

def rdSum (l : List UInt8) : Except Int (Nat × List UInt8) := if 4 ≤ l.length then .ok (valN 4 (l.take 4), l.drop 4) else .error 3
def U32V : Nat → World → Value → Prop := fun n _ v => v = .int .u32 n

theorem sum_cell (w : World) (l : List UInt8) (cap k : Nat) (m : Nat × Nat) (hk : k < l.length) :
    (w.alloc (.cells (bytesRow (bs l) cap) 5 m)).drew.cell? ⟨w.heap.size, k, none⟩ = some (.int .u8 (l.getD k 0).toNat) := by
  have hb : (w.alloc (.cells (bytesRow (bs l) cap) 5 m)).drew.heap[w.heap.size]? = some (.cells (bytesRow (bs l) cap) 5 m) := blk_new w _
  simp only [World.cell?, hb]
  simp [bytesRow, bs, hk, Array.getElem?_append, List.getD_eq_getElem?_getD]

/-- A frame: its body and what stands behind it; all is taken. -/
def rdFrame (l : List UInt8) : Except Int ((List UInt8 × List UInt8) × List UInt8) :=
  match rdText 65536 l with
  | .error c => .error c
  | .ok (body, t) =>
    match rdSum t with
    | .error c => .error c
    | .ok (n, u) => if n = crc body then .ok ((body, u), []) else .error 2
def FrV : List UInt8 × List UInt8 → World → Value → Prop := fun x _ v => v = .agg #[.string (bs x.1), .string (bs x.2)]

theorem rdText_len {most : Nat} {l s t : List UInt8} (h : rdText most l = .ok (s, t)) : s.length ≤ most ∧ s.length + t.length < l.length := by
  unfold rdText at h
  split at h
  · rename_i n u hr
    have := rdUpTo_ok hr
    unfold rdTake at h
    split at h
    · simp only [Except.ok.injEq, Prod.mk.injEq] at h
      obtain ⟨rfl, rfl⟩ := h
      simp
      omega
    · cases h
  · cases h

end Go.Proofs.YtijklginabipgaaGreat

/-
  The program's read: a reader that gives up is caught, and the error stands in the answer.
-/
namespace Go.Proofs.YtijklginabipgaaGreat
open Go.RowKit

theorem catch_slots (a b t : Value) : #[a, b] ++ ((Array.replicate 18 undef).setIfInBounds 4 t).setIfInBounds 0 t = #[a, b, t, undef, undef, undef, t, undef, undef, undef, undef, undef, undef, undef, undef, undef, undef, undef, undef, undef] := by
  apply Array.ext'
  simp [List.replicate]

theorem assert_up (c : Int) (w : World) : (Instr.typeAssert (.iface 106 (.agg #[.int .i64 c])) 20 106 true).run Tryz.prog w = .ok (.tuple #[.agg #[.int .i64 c], .bool true]) w := by
  simp [Instr.typeAssert, run_underlying Tryz.underlying106]

/-- A whole text, read: nothing may be left. -/
def rdAll {α : Type} (r : Except Int (α × List UInt8)) : Except Int α :=
  match r with
  | .ok (a, []) => .ok a
  | .ok (_, _ :: _) => .error 1
  | .error c => .error c

theorem three (w : World) (o1 o2 o3 : Obj) : (((w.alloc o1).alloc o2).alloc o3).heap[w.heap.size]? = some o1 ∧ (((w.alloc o1).alloc o2).alloc o3).heap[w.heap.size + 1]? = some o2 ∧ (((w.alloc o1).alloc o2).alloc o3).heap[w.heap.size + 2]? = some o3 := by
  have e1 : (w.alloc o1).heap.size = w.heap.size + 1 := by simp
  have e2 : ((w.alloc o1).alloc o2).heap.size = w.heap.size + 2 := by simp
  refine ⟨blk_past (blk_past (blk_new w o1) _) _, ?_, ?_⟩
  · have := blk_past (blk_new (w.alloc o1) o2) o3
    rwa [e1] at this
  · have := blk_new ((w.alloc o1).alloc o2) o3
    rwa [e2] at this
theorem Left.ofBlk {b : Nat} {w : World} {l : List UInt8} {t : TypeId} (h : w.heap[b]? = some (.cells #[.string (bs l)] t (0, 0))) : Left ⟨b, 0, none⟩ w l := ⟨blk_cell h 0, blk_free h 0⟩
/-- What is new behind a world may turn. -/
theorem Kept.ofNew {w w1 w' : World} {X : Nat → Obj → Prop} (h1 : Kept Nil w w1) (h : Kept X w1 w') (hX : ∀ k o, X k o → w.heap.size ≤ k) : Kept Nil w w' :=
  Kept.ofBelow ((h1.below (B := w.heap.size) (fun _ _ x => x.elim) (Nat.le_refl _)).trans (h.below hX h1.size)) _

end Go.Proofs.YtijklginabipgaaGreat

/-
  Unframe, and the document's Unframe: the same plain answer.
-/
namespace Go.Proofs.YtijklginabipgaaGreat
open Go.RowKit

/-- A frame's body, what stands behind it, the error. -/
def unF (l : List UInt8) : List UInt8 × List UInt8 × Int :=
  match rdFrame l with
  | .ok (x, _) => (x.1, x.2, 0)
  | .error c => ([], [], c)

theorem rdFrame_nil {l : List UInt8} {x : List UInt8 × List UInt8} {t : List UInt8} (h : rdFrame l = .ok (x, t)) : t = [] := by
  unfold rdFrame at h
  split at h
  · cases h
  · split at h
    · cases h
    · split at h
      · simp only [Except.ok.injEq, Prod.mk.injEq] at h; exact h.2.symm
      · cases h

theorem val4 (x a b c d : Nat) (ha : a < 256) (hb : b < 256) (hc : c < 256) :
    a + b * 256 + c * 65536 + d * 16777216 = x ↔ (a = x % 256 ∧ b = x / 256 % 256 ∧ c = x / 65536 % 256 ∧ d = x / 16777216) := by
  omega

theorem ofNat_eq {d : UInt8} {n : Nat} (h : n < 256) : d = UInt8.ofNat n ↔ d.toNat = n := by
  rw [← UInt8.toNat_inj, ofNat_toNat h]

theorem len4 {l : List UInt8} (h : l.length = 4) : ∃ a b c d, l = [a, b, c, d] := by
  match l, h with
  | [a, b, c, d], _ => exact ⟨a, b, c, d, rfl⟩

theorem val_le4 {l : List UInt8} {x : Nat} (h : l.length = 4) (hx : x < 4294967296) : valN 4 l = x ↔ l = le4 x := by
  obtain ⟨a, b, c, d, rfl⟩ := len4 h
  have ha := a.toNat_lt
  have hb := b.toNat_lt
  have hc := c.toNat_lt
  have := val4 x a.toNat b.toNat c.toNat d.toNat ha hb hc
  simp only [valN, List.getD_cons_zero, List.getD_cons_succ]
  simp only [le4, List.cons.injEq, and_true]
  rw [ofNat_eq (by omega), ofNat_eq (by omega), ofNat_eq (by omega), ofNat_eq (by omega), Nat.mod_eq_of_lt (show x / 16777216 < 256 by omega)]
  rw [← this]
  simp

theorem unF_err {l : List UInt8} {c : Int} (h : rdText 65536 l = .error c) : unF l = ([], [], c) := by
  unfold unF rdFrame
  rw [h]
theorem unF_no {l body t : List UInt8} (h : rdText 65536 l = .ok (body, t)) (h4 : ¬ 4 ≤ t.length) : unF l = ([], [], 3) := by
  unfold unF rdFrame
  rw [h]
  simp only [show rdSum t = .error 3 from if_neg h4]
theorem rdFrame_if {l body t : List UInt8} (h : rdText 65536 l = .ok (body, t)) (h4 : 4 ≤ t.length) : rdFrame l = if valN 4 (t.take 4) = crc body then .ok ((body, t.drop 4), []) else .error 2 := by
  unfold rdFrame
  rw [h]
  simp only [show rdSum t = .ok (valN 4 (t.take 4), t.drop 4) from if_pos h4]
theorem val_sum (t body : List UInt8) (h4 : 4 ≤ t.length) : valN 4 (t.take 4) = crc body ↔ t.take 4 = le4 (crc body) := val_le4 (by simp; omega) (crc_lt body)
theorem unF_yes {l body t : List UInt8} (h : rdText 65536 l = .ok (body, t)) (h4 : 4 ≤ t.length) (hs : t.take 4 = le4 (crc body)) : unF l = (body, t.drop 4, 0) := by
  unfold unF
  rw [rdFrame_if h h4, if_pos ((val_sum t body h4).2 hs)]
theorem unF_sum {l body t : List UInt8} (h : rdText 65536 l = .ok (body, t)) (h4 : 4 ≤ t.length) (hs : ¬ t.take 4 = le4 (crc body)) : unF l = ([], [], 2) := by
  unfold unF
  rw [rdFrame_if h h4, if_neg (fun e => hs ((val_sum t body h4).1 e))]

theorem Kept.newOne {w w' : World} {o : Obj} (h : Kept (One w.heap.size) (w.alloc o) w') : Kept Nil w w' :=
  Kept.ofNew ((Kept.refl _ _).alloc o) h (fun k _ e => by have : k = w.heap.size := e; omega)

end Go.Proofs.YtijklginabipgaaGreat

/-
  What the texts on single records share: readings one behind another, the document's reader behind a fault, blocks that are none of the writer's.
-/
namespace Go.Proofs.YtijklginabipgaaGreat
open Go.RowKit

theorem ret_bool {a b : Bool} (h : a = b) : Ending.returned (.bool a) = .returned (.bool b) := by rw [h]
def isNum (x : Int) : Bool := decide (0 ≤ x) && decide (x ≤ 1099511627775)
theorem ints3 (w : World) (o : Obj) (x y z : Int) : IntsAt ((w.alloc o).alloc (.cells #[.int .i64 x, .int .i64 y, .int .i64 z] 3)) (w.heap.size + 1) [x, y, z] := by
  have hb := blk_new (w.alloc o) (.cells #[.int .i64 x, .int .i64 y, .int .i64 z] 3)
  rw [show (w.alloc o).heap.size = w.heap.size + 1 by simp] at hb
  intro j hj
  simp at hj
  rcases (show j = 0 ∨ j = 1 ∨ j = 2 by omega) with rfl | rfl | rfl
  · exact blk_cell hb 0
  · exact blk_cell hb 1
  · exact blk_cell hb 2
theorem WInv.alloc {b : Nat} {w : World} {l : List UInt8} (h : WInv b w l) (o : Obj) : WInv b (w.alloc o) l := by
  obtain ⟨ao, c, hb, ho⟩ := h
  exact ⟨ao, c, blk_past hb o, ho.alloc o⟩
theorem WInv.lt {b : Nat} {w : World} {l : List UInt8} (h : WInv b w l) : b < w.heap.size := by
  obtain ⟨ao, c, hb, ho⟩ := h
  exact lt_of_block hb
/-- A block of another type that lies behind the writer is none of the writer's. -/
theorem not_wr {b g : Nat} {cs : Array Value} {t : TypeId} {m : Nat × Nat} (hg : g ≠ b) (ht : t ≠ 5) : ¬ Wr b g (.cells cs t m) := by
  rintro (e | ⟨_, cs', m', e⟩)
  · exact hg e
  · simp at e; exact ht e.2.1
theorem encText_len {l : List UInt8} (h : l.length ≤ 1099511627775) : (encText l).length ≤ l.length + 6 := by
  have := enc_len6 h
  simp only [encText, List.length_append]; omega
theorem isNum_nat {x : Int} (h : isNum x = true) : (x.toNat : Int) = x ∧ x.toNat ≤ 1099511627775 := by
  simp only [isNum, Bool.and_eq_true, decide_eq_true_eq] at h
  omega
/-- One reading behind another. -/
def rdThen {α β : Type} (r : Except Int (α × List UInt8)) (f : α → List UInt8 → Except Int (β × List UInt8)) : Except Int (β × List UInt8) :=
  match r with
  | .ok (a, t) => f a t
  | .error c => .error c
theorem rdThen_ok {α β : Type} {r : Except Int (α × List UInt8)} {f : α → List UInt8 → Except Int (β × List UInt8)} {a : α} {t : List UInt8} (h : r = .ok (a, t)) : rdThen r f = f a t := by rw [h]; rfl
theorem rdThen_no {α β : Type} {r : Except Int (α × List UInt8)} {f : α → List UInt8 → Except Int (β × List UInt8)} {c : Int} (h : r = .error c) : rdThen r f = .error c := by rw [h]; rfl
theorem key_any (p : Addr) (l : List UInt8) (w : World) (hl : Left p w l) :
    Calls Tryz.prog 89 #[.pointer (some p)] w (RdPost p w (rdText 16 l) StrV) := by
  have H := text_any p 16 l w hl
  cases hr : rdText 16 l with
  | error c =>
    have H2 := RdPost.no H hr
    clear H
    go_enter Tryz.func89, Tryz.ntmps89
    go_wp2_with (go_at_call 55; go_must (refine H2.mono ?_); rintro e w1 ⟨rfl, hk⟩)
    exact ⟨rfl, rfl, hk⟩
  | ok r =>
    obtain ⟨s, t⟩ := r
    have H2 := RdPost.ok H hr
    clear H
    go_enter Tryz.func89, Tryz.ntmps89
    go_wp2_with (go_at_call 55; go_must (refine H2.mono ?_); rintro e w1 ⟨v, rfl, rfl, hc, hz, hk⟩)
    go_ret
    exact ⟨⟨_, rfl, rfl⟩, ⟨hc, hz⟩, hk⟩
theorem rdText_le {most : Nat} {l s t : List UInt8} (h : rdText most l = .ok (s, t)) : s.length ≤ most := (rdText_len h).1
theorem Left.kept {p : Addr} {w w' : World} {l : List UInt8} (h : Left p w l) (k : Kept Nil w w') : Left p w' l := by
  have hlt := cell_lt h.cell
  have e : w'.heap[p.block]? = w.heap[p.block]? := by
    rw [k.block p.block _ (Array.getElem?_eq_getElem hlt) (fun x => x.elim), Array.getElem?_eq_getElem hlt]
  exact ⟨(World.cell?_of_block e).trans h.cell, (World.frozen?_of_block e).trans h.free⟩
theorem numGo_err : ∀ {l : List UInt8} {k x : Nat} {c : Int}, numGo k x l = .error c → c ≠ 0 := by
  intro l
  induction l with
  | nil => intro k x c h; simp [numGo] at h; omega
  | cons d l ih =>
    intro k x c h
    by_cases h1 : k ≤ 5 ∧ x + d.toNat % 128 * 2 ^ (7 * k) ≤ maxNum ∧ (d.toNat ≠ 0 ∨ k = 0)
    · by_cases h2 : d.toNat < 128
      · rw [numGo_end h1 h2] at h; cases h
      · rw [numGo_more h1 h2] at h; exact ih h
    · rw [numGo_bad h1] at h; cases h; decide
theorem rdNum_err {l : List UInt8} {c : Int} (h : rdNum l = .error c) : c ≠ 0 := numGo_err h
theorem rdText_err {most : Nat} {l : List UInt8} {c : Int} (h : rdText most l = .error c) : c ≠ 0 := by
  unfold rdText rdUpTo at h
  cases hn : rdNum l with
  | error d => rw [hn] at h; simp only [Except.error.injEq] at h; subst h; exact rdNum_err hn
  | ok x =>
    obtain ⟨n, t⟩ := x
    rw [hn] at h
    simp only at h
    by_cases h1 : n ≤ most
    · rw [if_pos h1] at h
      simp only [rdTake] at h
      split at h
      · cases h
      · cases h; decide
    · rw [if_neg h1] at h
      cases h; decide
/-- A state behind a fault that is told. -/
def stBad (c : Int) (st : Except Int (List UInt8)) : Except Int (List UInt8) :=
  match st with
  | .ok _ => .error c
  | .error d => .error d
theorem isNum_of {n : Nat} (h : n ≤ maxNum) : isNum (n : Int) = true := by
  unfold maxNum at h
  simp [isNum]; omega
end Go.Proofs.YtijklginabipgaaGreat
