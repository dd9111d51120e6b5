/-
  Joined: WBase, WCfg1, WTab1, WEnc, WApp, WWrite, WCrc, WSum, WRef, WFrame1, WNum, WRead, WFrame2, WCatch, WFrame3, WGen, WEnt1, WTab2, WTorn1, WTimes, WNums, WLog1.
-/
import Derived.WalkKit
import Derived.WalkLawsBesides
import Derived.WalkSpells
import Derived.Below
import Derived.OneCell
import Derived.Test.YtflnjlbafchnaaaGreatDoorProg
import Derived.Outline
import Derived.Deep.DeepMust
import Derived.Deep.QuietTactic
import Derived.BigQuiet
import Derived.Laws.BitsAllLaws
import Derived.Laws.BytesArg
import Derived.Deep.AppendSrc
import Derived.Laws.CopyRow
import Derived.OwnWalk
import Derived.Laws.IdiomStrings
import Derived.Recover
import Derived.Defers
import Derived.RegionCalls
import Derived.Deep.RegionWith
import Derived.Laws.OwnMore
import Derived.Deep.CutRange
import Derived.Deep.CutBlock
import Derived.Deep.LoopGhost
/-
  The plain mathematics of the wire format, in which the two readers and the two writers are told alike: bytes as lists, a number read byte by byte, a text, and what a call leaves of the memory that was there.
-/
namespace Go.Proofs.YtflnjlbafchnaaaGreatDoor
open Go.RowKit

/-! ### bytes as a list -/

def bs (l : List UInt8) : ByteArray := ⟨l.toArray⟩
theorem bs_size (l : List UInt8) : (bs l).size = l.length := by simp [bs, ByteArray.size]
theorem bs_append (a b : List UInt8) : bs a ++ bs b = bs (a ++ b) := by
  apply ByteArray.ext; simp [bs]
theorem bs_self (s : ByteArray) : bs s.data.toList = s := by
  apply ByteArray.ext; simp [bs]
theorem bs_at (l : List UInt8) (i : Nat) (h : i < (bs l).size) : (bs l)[i]'h = l[i]'(by rw [← bs_size]; exact h) := by
  simp [bs, ByteArray.getElem_eq_getElem_data]
theorem bs_data (l : List UInt8) : (bs l).data.toList = l := by simp [bs]
theorem bs_toList (l : List UInt8) : (bs l).toList = l := by rw [Go.ByteArray.toList_eq, bs_data]
/-! ### a number -/

/-! ### what a call leaves of memory -/

/-- Of the blocks that were there those that 'X' doesn't name are as they were. -/
structure Kept (X : Nat → Obj → Prop) (w w' : World) : Prop where
  os : w'.os = w.os
  tape : w'.tape = w.tape
  output : w'.output = w.output
  size : w.heap.size ≤ w'.heap.size
  block : ∀ k o, w.heap[k]? = some o → ¬ X k o → w'.heap[k]? = some o

theorem Kept.refl (X : Nat → Obj → Prop) (w : World) : Kept X w w := ⟨rfl, rfl, rfl, Nat.le_refl _, fun _ _ h _ => h⟩
theorem Kept.trans {X : Nat → Obj → Prop} {a b c : World} (h : Kept X a b) (k : Kept X b c) : Kept X a c :=
  ⟨k.os.trans h.os, k.tape.trans h.tape, k.output.trans h.output, Nat.le_trans h.size k.size, fun i o ho hx => k.block i o (h.block i o ho hx) hx⟩
theorem Kept.mono {X Y : Nat → Obj → Prop} {a b : World} (h : Kept X a b) (hXY : ∀ k o, X k o → Y k o) : Kept Y a b :=
  ⟨h.os, h.tape, h.output, h.size, fun i o ho hx => h.block i o ho (fun x => hx (hXY _ _ x))⟩
theorem Kept.drew {X : Nat → Obj → Prop} {a w : World} (h : Kept X a w) : Kept X a w.drew := ⟨h.os, h.tape, h.output, h.size, h.block⟩
theorem Kept.alloc {X : Nat → Obj → Prop} {a w : World} (h : Kept X a w) (o : Obj) : Kept X a (w.alloc o) :=
  h.trans ⟨rfl, rfl, rfl, by simp, fun k p hp _ => by
    have hk : k < w.heap.size := by
      by_cases hk : k < w.heap.size
      · exact hk
      · rw [Array.getElem?_eq_none (by omega)] at hp; cases hp
    rw [Below.heap_alloc _ _ _ hk]; exact hp⟩
theorem Kept.setCell {X : Nat → Obj → Prop} {a w : World} (h : Kept X a w) {p : Addr} (hp : ∀ o, X p.block o) (u : Value) : Kept X a (w.setCell p u) :=
  h.trans ⟨rfl, rfl, rfl, by simp [World.setCell], fun k o ho hx => by
    rw [Below.heap_setCell _ _ _ _ (fun e => hx (by rw [e]; exact hp o))]; exact ho⟩
/-- A store into a block that was not there at first. -/
theorem Kept.setNew {X : Nat → Obj → Prop} {a w : World} (h : Kept X a w) {p : Addr} (hp : a.heap.size ≤ p.block) (u : Value) : Kept X a (w.setCell p u) :=
  ⟨h.os, h.tape, h.output, by simpa [World.setCell] using h.size, fun k o ho hx => by
    have hk : k < a.heap.size := by
      by_cases hk : k < a.heap.size
      · exact hk
      · rw [Array.getElem?_eq_none (by omega)] at ho; cases ho
    rw [Below.heap_setCell _ _ _ _ (by omega)]; exact h.block k o ho hx⟩
theorem Kept.below {X : Nat → Obj → Prop} {B : Nat} {w w' : World} (h : Kept X w w') (hX : ∀ k o, X k o → B ≤ k) (hB : B ≤ w.heap.size) : Below B w w' :=
  ⟨h.os, h.tape, h.output, h.size, fun k hk => by
    have : w.heap[k]? = some (w.heap[k]'(by omega)) := Array.getElem?_eq_getElem (by omega)
    rw [h.block k _ this (fun x => by have := hX _ _ x; omega), this]⟩
theorem Kept.ofBelow {w w' : World} (h : Below w.heap.size w w') (X : Nat → Obj → Prop) : Kept X w w' :=
  ⟨h.os, h.tape, h.output, h.size, fun k o ho _ => by
    have hk : k < w.heap.size := by
      by_cases hk : k < w.heap.size
      · exact hk
      · rw [Array.getElem?_eq_none (by omega)] at ho; cases ho
    rw [h.block k hk]; exact ho⟩
theorem Kept.cell {X : Nat → Obj → Prop} {w w' : World} (h : Kept X w w') {b : Nat} {o : Obj} (hb : w.heap[b]? = some o) (hx : ¬ X b o) (i : Nat) : w'.cell? ⟨b, i, none⟩ = w.cell? ⟨b, i, none⟩ :=
  World.cell?_of_block (w := w) (a := ⟨b, i, none⟩) (by rw [h.block b o hb hx, hb])
/-! ### a block of cells -/
theorem blk_cell {w : World} {b : Nat} {cs : Array Value} {t : TypeId} (h : w.heap[b]? = some (.cells cs t (0, 0))) (i : Nat) : w.cell? ⟨b, i, none⟩ = cs[i]? := by simp [World.cell?, h]
theorem blk_free {w : World} {b : Nat} {cs : Array Value} {t : TypeId} (h : w.heap[b]? = some (.cells cs t (0, 0))) (i : Nat) : w.frozen? ⟨b, i, none⟩ = false := by simp [World.frozen?, h]
theorem blk_set {w : World} {b : Nat} {cs : Array Value} {t : TypeId} (h : w.heap[b]? = some (.cells cs t (0, 0))) (i : Nat) (u : Value) : (w.setCell ⟨b, i, none⟩ u).heap[b]? = some (.cells (cs.setIfInBounds i u) t (0, 0)) := by
  have hlt := lt_of_block h
  have h' : w.heap[b] = .cells cs t (0, 0) := by simpa [Array.getElem?_eq_getElem hlt] using h
  show (w.heap.modify b _)[b]? = _
  rw [Array.getElem?_eq_getElem (by simpa using hlt), Array.getElem_modify_self, h']
  rfl
theorem blk_new (w : World) (o : Obj) : (w.alloc o).heap[w.heap.size]? = some o := by
  show (w.heap.push o)[w.heap.size]? = _
  rw [Array.getElem?_push, if_pos rfl]
theorem blk_past {w : World} {b : Nat} {o : Obj} (h : w.heap[b]? = some o) (o' : Obj) : (w.alloc o').heap[b]? = some o := by
  rw [Below.heap_alloc _ _ _ (lt_of_block h)]; exact h
theorem blk_other {w : World} {b : Nat} {o : Obj} (h : w.heap[b]? = some o) {a : Addr} (ha : b ≠ a.block) (u : Value) : (w.setCell a u).heap[b]? = some o := by
  rw [Below.heap_setCell _ _ _ _ ha]; exact h

/-! ### the document's reader: it goes on behind an error -/
/-- Nothing that was there has turned. -/
def Nil : Nat → Obj → Prop := fun _ _ => False
/-- Block b alone. -/
def One (b : Nat) : Nat → Obj → Prop := fun k _ => k = b

end Go.Proofs.YtflnjlbafchnaaaGreatDoor

/-
  Rows of numbers, read where they lie: are they nodes, rising; is a number among them: by the program (slices.Contains, slices.Index) and by the document's answer.
-/
namespace Go.Proofs.YtflnjlbafchnaaaGreatDoor
open Go.RowKit

theorem Kept.drewN {X : Nat → Obj → Prop} {a w : World} (h : Kept X a w) (n : Nat) : Kept X a (w.drewN n) := ⟨h.os, h.tape, h.output, h.size, h.block⟩

/-- A row of numbers that lies below block B. -/
def IntRow (B : Nat) (w : World) (ao : Option Addr) (zs : List Int) : Prop := ∀ j, (hj : j < zs.length) → ∃ a, ao = some a ∧ a.block < B ∧ w.cell? (a.add j) = some (.int .i64 zs[j])
theorem IntRow.kept {X : Nat → Obj → Prop} {B : Nat} {w w' : World} {ao : Option Addr} {zs : List Int} (h : IntRow B w ao zs) (hk : Kept X w w') (hX : ∀ k o, k < B → ¬ X k o) : IntRow B w' ao zs := by
  intro j hj
  obtain ⟨a, ha, hb, hc⟩ := h j hj
  refine ⟨a, ha, hb, ?_⟩
  have e : (a.add j).block = a.block := by unfold Addr.add; split <;> rfl
  have hlt : a.block < w.heap.size := by
    have : (a.add j).block < w.heap.size := World.block_lt_of_cell? w _ hc
    omega
  rw [World.cell?_of_block (w := w) (by rw [e, hk.block a.block _ (Array.getElem?_eq_getElem hlt) (hX _ _ hb), Array.getElem?_eq_getElem hlt])]
  exact hc
theorem IntRow.nil {B : Nat} {w w' : World} {ao : Option Addr} {zs : List Int} (h : IntRow B w ao zs) (hk : Kept Nil w w') : IntRow B w' ao zs := h.kept hk (fun _ _ _ x => x)
theorem IntRow.alloc {B : Nat} {w : World} {ao : Option Addr} {zs : List Int} (h : IntRow B w ao zs) (o : Obj) : IntRow B (w.alloc o) ao zs := h.nil ((Kept.refl _ _).alloc o)
theorem IntRow.mono {B B' : Nat} {w : World} {ao : Option Addr} {zs : List Int} (h : IntRow B w ao zs) (hB : B ≤ B') : IntRow B' w ao zs := fun j hj => by
  obtain ⟨a, ha, hb, hc⟩ := h j hj
  exact ⟨a, ha, by omega, hc⟩
theorem IntRow.full {B : Nat} {w : World} {ao : Option Addr} {zs : List Int} (h : IntRow B w ao zs) : IntRow w.heap.size w ao zs := fun j hj => by
  obtain ⟨a, ha, hb, hc⟩ := h j hj
  have e : (a.add j).block = a.block := by unfold Addr.add; split <;> rfl
  have := World.block_lt_of_cell? w _ hc
  exact ⟨a, ha, by omega, hc⟩
/-! ### rising -/
def isNd (z : Int) : Bool := decide (1 ≤ z) && decide (z ≤ 9)
def rise : Int → List Int → Bool
  | _, [] => true
  | p, z :: t => isNd z && decide (p < z) && rise z t
/-! ### among them -/
/-! ### the document's -/
end Go.Proofs.YtflnjlbafchnaaaGreatDoor

/-
  Keys: a row of texts, rising, none too long: by the program (areKeys).
-/
namespace Go.Proofs.YtflnjlbafchnaaaGreatDoor
open Go.RowKit

/-- A row of texts that lies below block B. -/
def StrRow (B : Nat) (w : World) (ao : Option Addr) (ks : List (List UInt8)) : Prop := ∀ j, (hj : j < ks.length) → ∃ a, ao = some a ∧ a.block < B ∧ w.cell? (a.add j) = some (.string (bs ks[j])) ∧ ks[j].length ≤ maxLen
theorem StrRow.kept {X : Nat → Obj → Prop} {B : Nat} {w w' : World} {ao : Option Addr} {ks : List (List UInt8)} (h : StrRow B w ao ks) (hk : Kept X w w') (hX : ∀ k o, k < B → ¬ X k o) : StrRow B w' ao ks := by
  intro j hj
  obtain ⟨a, ha, hb, hc, hl⟩ := h j hj
  refine ⟨a, ha, hb, ?_, hl⟩
  have e : (a.add j).block = a.block := by unfold Addr.add; split <;> rfl
  have hlt : a.block < w.heap.size := by
    have : (a.add j).block < w.heap.size := World.block_lt_of_cell? w _ hc
    omega
  rw [World.cell?_of_block (w := w) (by rw [e, hk.block a.block _ (Array.getElem?_eq_getElem hlt) (hX _ _ hb), Array.getElem?_eq_getElem hlt])]
  exact hc
theorem StrRow.nil {B : Nat} {w w' : World} {ao : Option Addr} {ks : List (List UInt8)} (h : StrRow B w ao ks) (hk : Kept Nil w w') : StrRow B w' ao ks := h.kept hk (fun _ _ _ x => x)
theorem StrRow.alloc {B : Nat} {w : World} {ao : Option Addr} {ks : List (List UInt8)} (h : StrRow B w ao ks) (o : Obj) : StrRow B (w.alloc o) ao ks := h.nil ((Kept.refl _ _).alloc o)

/-- Is one text ahead of another? -/
def lessB (x y : List UInt8) : Bool := Op.bytesLess x y
end Go.Proofs.YtflnjlbafchnaaaGreatDoor

/-
  The document's writers of a number and of a text, in plain bytes.
-/
namespace Go.Proofs.YtflnjlbafchnaaaGreatDoor
open Go.RowKit

/-- A number's bytes. -/
def encF : Nat → Nat → List UInt8
  | 0, n => [UInt8.ofNat n]
  | f + 1, n => if n < 128 then [UInt8.ofNat n] else UInt8.ofNat (128 + n % 128) :: encF f (n / 128)
def enc (n : Nat) : List UInt8 := encF n n
theorem ofNat_toNat {n : Nat} (h : n < 256) : (UInt8.ofNat n).toNat = n := by rw [UInt8.toNat_ofNat']; omega
end Go.Proofs.YtflnjlbafchnaaaGreatDoor

/-
  'append' onto a row of the call's own, of whatever is appended (a slice's elements, a string's bytes): what is owned behind it. A law on the model, over any program.
-/
namespace Go.Proofs.YtflnjlbafchnaaaGreatDoor
open Go.RowKit
variable {P : Program} (w : World)

theorem room_src (t tx ty e : TypeId) (i : TypeInfo) (ht : P.underlying t = some (.slice e)) (hi : P.info? e = some i)
    (g sLen sCap : Nat) (cur : Array Value) (hg : w.heap[g]? = some (.cells cur e (0, 0))) (x : Value) (m : Nat) (news : List Value) (hs : Src P i.size tx x m news w)
    (hroom : sLen + m ≤ sCap) (hfit : sLen * i.size + news.length ≤ cur.size) :
    (Builtin.append_ #[t, tx] ty #[.slice (some ⟨g, 0, none⟩) sLen sCap, x]).run P w =
      .ok (.slice (some ⟨g, 0, none⟩) (sLen + m) sCap) (w.setRow g (cur.toList.take (sLen * i.size) ++ news ++ cur.toList.drop (sLen * i.size + news.length)).toArray) := by
  have hst := run_storeCells_at P g (sLen * i.size) e news 0 cur w hg (by simpa using hfit) hs.one
  simp only [Nat.add_zero] at hst
  rcases hs.kind with ⟨e', hk⟩ | hk <;> simp [Builtin.append_, run_underlying ht, run_underlying hk, sizeOf, typeInfo, hi, hs.len, hroom, hs.cells, Addr.add_lit, hst]

theorem run_append_src (base : Nat) (t tx ty e : TypeId) (i : TypeInfo) (z : Value) (size bytes : Nat) (ht : P.underlying t = some (.slice e)) (hi : P.info? e = some i) (hz : i.zero = some z)
    (hsize : i.size = size) (hby : i.bytes = bytes) (hzs : z.cells.size = size)
    (v : Value) (n : Nat) (xs : List Value) (hown : w.ownsRow base e size v n xs) (x : Value) (m : Nat) (news : List Value) (hs : Src P size tx x m news w)
    (h63 : n + m ≤ maxLen) (hbytes : (n + m) * bytes ≤ 140737488355328) (hbase : base ≤ w.heap.size) :
    ∃ v' w', (Builtin.append_ #[t, tx] ty #[v, x]).run P w = .ok v' w' ∧ w'.ownsRow base e size v' (n + m) (xs ++ news) ∧ w.grownBy w' v.ownBlock := by
  subst hsize
  subst hby
  have hsmall : n + m ≤ 9223372036854775807 := by simp only [maxLen] at h63; omega
  have hl := hs.newsLen
  have hlen : (xs ++ news).length = (n + m) * i.size := by rw [List.length_append, hown.1, hl, Nat.add_mul]
  have grown : ∀ (old : Nat), ∀ (row : Option Nat),
      (w.drew.alloc (.cells ((xs ++ news).toArray ++ Builtin.zeroCells z.cells (grownCap w (n + m) old e - (n + m))) e)).ownsRow base e i.size
        (.slice (some ⟨w.heap.size, 0, none⟩) (n + m) (grownCap w (n + m) old e)) (n + m) (xs ++ news) ∧
      w.grownBy (w.drew.alloc (.cells ((xs ++ news).toArray ++ Builtin.zeroCells z.cells (grownCap w (n + m) old e - (n + m))) e)) row := by
    intro old row
    have hge := grownCap_ge w (n + m) old e
    have hcm : grownCap w (n + m) old e ≤ maxLen := grownCap_le_maxLen w (n + m) old e h63
    refine ⟨⟨hlen, .inr ⟨w.heap.size, _, _, rfl, hbase, heap_alloc_new w.drew _, hge, hcm, ?_, ?_⟩⟩, ⟨rfl, rfl, rfl, by simp, fun k hk _ => Below.heap_alloc w.drew _ k hk⟩⟩
    · simp only [Array.size_append, List.size_toArray, size_zeroCells, hzs, hlen, ← Nat.add_mul]
      congr 1
      omega
    · simp only [Array.toList_append]
      rw [← hlen]
      exact List.take_left
  rcases hown.2 with ⟨rfl, rfl⟩ | ⟨g, cap, cur, rfl, hbg, hg, hnc, hcm, hcs, htake⟩
  · have hx : xs = [] := List.eq_nil_of_length_eq_zero (by simpa using hown.1)
    subst hx
    by_cases hm : m = 0
    · subst hm
      have hn : news = [] := List.eq_nil_of_length_eq_zero (by simpa using hl)
      subst hn
      refine ⟨.slice none 0 0, w, ?_, World.ownsRow_nil w base e i.size, ⟨rfl, rfl, rfl, Nat.le_refl _, fun _ _ _ => rfl⟩⟩
      rcases hs.kind with ⟨e', hk⟩ | hk <;> simp [Builtin.append_, run_underlying ht, run_underlying hk, sizeOf, typeInfo, hi, hs.len, hs.cells]
    · have hr := run_append_grow_src (P := P) w t tx ty e i z ht hi hz none 0 0 [] (run_firstCells_none w.drew i.size 0 0 0) x m news hs (by omega) (by omega) (growslice_fits (by omega) hbytes)
      have hgr := grown 0 (Value.ownBlock (.slice none 0 0))
      exact ⟨_, _, hr, hgr.1, hgr.2⟩
  · by_cases hroom : n + m ≤ cap
    · have hfit : n * i.size + news.length ≤ cur.size := by rw [hl, hcs, ← Nat.add_mul]; exact Nat.mul_le_mul_right _ hroom
      have hr := room_src (P := P) w t tx ty e i ht hi g n cap cur hg x m news hs hroom hfit
      refine ⟨_, _, hr, ⟨hlen, .inr ⟨g, cap, _, rfl, hbg, setRow_heap w g cur _ e _ hg, hroom, hcm, ?_, ?_⟩⟩, ⟨rfl, rfl, rfl, by simp, fun k _ hk => setRow_other w g k _ (fun e => hk (by simp [Value.ownBlock, e]))⟩⟩
      · simp only [List.size_toArray, List.length_append, List.length_take, List.length_drop, Array.length_toList]
        omega
      · rw [htake, ← hlen]
        exact List.take_left
    · have holds : ∀ j u, xs[j]? = some u → w.cell? ((⟨g, 0, none⟩ : Addr).add j) = some u := hown.cells (g := g) rfl
      have hr := run_append_grow_src (P := P) w t tx ty e i z ht hi hz (some ⟨g, 0, none⟩) n cap xs (run_firstCells_some w.drew i.size n ⟨g, 0, none⟩ n cap xs hown.1 holds) x m news hs (by omega) (by omega) (growslice_fits (by omega) hbytes)
      have hgr := grown cap (Value.ownBlock (.slice (some ⟨g, 0, none⟩) n cap))
      exact ⟨_, _, hr, hgr.1, hgr.2⟩

theorem wp_append_src {o : Oper} {a : Act} {K : Act → World → Prop} {Q : Exit → Act → World → Prop} (s xo : Operand) (t tx : TypeId)
    (ho : o.op = .call { callee := .builtin .append, args := #[s, xo], argTypes := #[t, tx] })
    (base : Nat) (e : TypeId) (i : TypeInfo) (z : Value) (size bytes : Nat) (ht : P.underlying t = some (.slice e)) (hi : P.info? e = some i) (hz : i.zero = some z)
    (hsize : i.size = size) (hby : i.bytes = bytes) (hzs : z.cells.size = size)
    (v : Value) (n : Nat) (xs : List Value) (hv : a.eval s = v) (hown : w.ownsRow base e size v n xs) (x : Value) (m : Nat) (news : List Value) (hx : a.eval xo = x) (hs : Src P size tx x m news w)
    (h63 : n + m ≤ maxLen) (hbytes : (n + m) * bytes ≤ 140737488355328) (hbase : base ≤ w.heap.size)
    (h : ∀ v' w', w'.ownsRow base e size v' (n + m) (xs ++ news) → w.grownBy w' v.ownBlock → K (a.put o.dst v') w') : o.wp P a w K Q := by
  obtain ⟨v', w', hr, h2, h3⟩ := run_append_src (P := P) w base t tx o.type e i z size bytes ht hi hz hsize hby hzs v n xs hown x m news hs h63 hbytes hbase
  unfold Oper.wp execOp
  simp only [ho, resolve, invoke, builtin, Sem.run_bind, Sem.run_pure, Result.andThen_ok, List.map_toArray, List.map_cons, List.map_nil, hv, hx, hr]
  exact h v' w' h2 h3

theorem own_shape {w : World} {base : Nat} {e : TypeId} {size : Nat} {v : Value} {n : Nat} {xs : List Value} (h : w.ownsRow base e size v n xs) : ∃ ao c, v = .slice ao n c := by
  rcases h.2 with ⟨rfl, rfl⟩ | ⟨g, cap, cur, rfl, _⟩
  · exact ⟨_, _, rfl⟩
  · exact ⟨_, _, rfl⟩

theorem wpList_append_src {ops : Array Oper} {rest : List Oper} {o : Oper} {a : Act} {Q : Exit → Act → World → Prop} (hgd : o.guard = none) (s xo : Operand) (t tx : TypeId)
    (ho : o.op = .call { callee := .builtin .append, args := #[s, xo], argTypes := #[t, tx] })
    (base : Nat) (e : TypeId) (i : TypeInfo) (z : Value) (size bytes : Nat) (ht : P.underlying t = some (.slice e)) (hi : P.info? e = some i) (hz : i.zero = some z)
    (hsize : i.size = size) (hby : i.bytes = bytes) (hzs : z.cells.size = size)
    (v : Value) (n : Nat) (xs : List Value) (hv : a.eval s = v) (hown : w.ownsRow base e size v n xs) (x : Value) (m : Nat) (news : List Value) (hx : a.eval xo = x) (hs : Src P size tx x m news w)
    (h63 : n + m ≤ maxLen) (hbytes : (n + m) * bytes ≤ 140737488355328) (hbase : base ≤ w.heap.size)
    (h : ∀ ao c w', w'.ownsRow base e size (.slice ao (n + m) c) (n + m) (xs ++ news) → w.grownBy w' v.ownBlock → wpList P ops Q rest (a.put o.dst (.slice ao (n + m) c)) w') : wpList P ops Q (o :: rest) a w :=
  wpList_plain hgd fun _ hK => wp_append_src w s xo t tx ho base e i z size bytes ht hi hz hsize hby hzs v n xs hv hown x m news hx hs h63 hbytes hbase fun v' w' h2 h3 => by
    obtain ⟨ao, c, rfl⟩ := own_shape h2
    exact hK _ _ (h ao c w' h2 h3)

end Go.Proofs.YtflnjlbafchnaaaGreatDoor

/-
  What the program's writer does, method by method: its bytes behind each call, and what it leaves of memory.
-/
namespace Go.Proofs.YtflnjlbafchnaaaGreatDoor
open Go.RowKit

def cellsOf (l : List UInt8) : List Value := l.map fun c => Value.int .u8 c.toNat
theorem le_alloc {w : World} {n : Nat} (h : n ≤ w.heap.size) (o : Obj) : n ≤ (w.alloc o).heap.size := by simp; omega

end Go.Proofs.YtflnjlbafchnaaaGreatDoor

/-
  The sum of bytes, plainly: bit by bit, as the program reckons it and as the document's answer does; the two are one.
-/
namespace Go.Proofs.YtflnjlbafchnaaaGreatDoor

/-! The document's answer takes the byte in bit by bit. -/
end Go.Proofs.YtflnjlbafchnaaaGreatDoor

/-
  The program's Sum and the document's: each answers the plain sum of WCrc.
-/
namespace Go.Proofs.YtflnjlbafchnaaaGreatDoor
open Go.RowKit

end Go.Proofs.YtflnjlbafchnaaaGreatDoor

/-
  What the document's reader does, method by method, in the plain readings of WBase; and its Sum.
-/
namespace Go.Proofs.YtflnjlbafchnaaaGreatDoor
open Go.RowKit

end Go.Proofs.YtflnjlbafchnaaaGreatDoor

/-
  The program's writer of a text and of a frame; Frame, and the document's Frame: the same plain bytes.
-/
namespace Go.Proofs.YtflnjlbafchnaaaGreatDoor
open Go.RowKit

/-! ### both at once -/
end Go.Proofs.YtflnjlbafchnaaaGreatDoor

/-
  Which numbers may be, and numbers written one behind the other: the program's areFrom, AreNumbers, AreCounts, and its writer's numbers.
-/
namespace Go.Proofs.YtflnjlbafchnaaaGreatDoor
open Go.RowKit

theorem blk_at {w : World} {b : Nat} {cs : Array Value} {t : TypeId} {v : Value} (h : w.heap[b]? = some (.cells cs t (0, 0))) (i : Nat) (hv : cs[i]? = some v) : w.cell? ⟨b, i, none⟩ = some v := (blk_cell h i).trans hv

end Go.Proofs.YtflnjlbafchnaaaGreatDoor

/-
  What the program's reader does, method by method: must, take, number, upTo, text: each answers by the plain reading of WBase, or gives up by its panic, and turns the reader's one cell alone.
-/
namespace Go.Proofs.YtflnjlbafchnaaaGreatDoor
open Go.RowKit

/-- The reader's cell, told by the bytes that are left. -/
structure Left (p : Addr) (w : World) (l : List UInt8) : Prop where
  cell : w.cell? p = some (.string (bs l))
  free : w.frozen? p = false

theorem Left.set {p : Addr} {w : World} {l : List UInt8} (h : Left p w l) (t : List UInt8) : Left p (w.setCell p (.string (bs t))) t :=
  ⟨World.cell?_setCell_same _ _ _ (by rw [h.cell]), by rw [World.frozen?_setCell]; exact h.free⟩

end Go.Proofs.YtflnjlbafchnaaaGreatDoor

/-
  The program's reader of a frame, Unframe; and the document's: the same plain reading.
-/
namespace Go.Proofs.YtflnjlbafchnaaaGreatDoor
open Go.RowKit

theorem cell_lt {w : World} {a : Addr} {v : Value} (h : w.cell? a = some v) : a.block < w.heap.size := by
  cases hb : w.heap[a.block]? with
  | none => simp [World.cell?, hb] at h
  | some o => exact lt_of_block hb
theorem Left.alloc {p : Addr} {w : World} {l : List UInt8} (h : Left p w l) (o : Obj) : Left p (w.alloc o) l :=
  have e := Below.heap_alloc w o p.block (cell_lt h.cell)
  ⟨(World.cell?_of_block e).trans h.cell, (World.frozen?_of_block e).trans h.free⟩
theorem Left.drew {p : Addr} {w : World} {l : List UInt8} (h : Left p w l) : Left p w.drew l := ⟨h.cell, h.free⟩

end Go.Proofs.YtflnjlbafchnaaaGreatDoor

/-
  The program's read: a reader that gives up is caught, and the error stands in the answer.
-/
namespace Go.Proofs.YtflnjlbafchnaaaGreatDoor
open Go.RowKit

end Go.Proofs.YtflnjlbafchnaaaGreatDoor

/-
  Unframe, and the document's Unframe: the same plain answer.
-/
namespace Go.Proofs.YtflnjlbafchnaaaGreatDoor
open Go.RowKit

theorem len4 {l : List UInt8} (h : l.length = 4) : ∃ a b c d, l = [a, b, c, d] := by
  match l, h with
  | [a, b, c, d], _ => exact ⟨a, b, c, d, rfl⟩

end Go.Proofs.YtflnjlbafchnaaaGreatDoor

/-
  What the texts on single records share: readings one behind another, the document's reader behind a fault, blocks that are none of the writer's.
-/
namespace Go.Proofs.YtflnjlbafchnaaaGreatDoor
open Go.RowKit

def isNum (x : Int) : Bool := decide (0 ≤ x) && decide (x ≤ 1099511627775)
theorem Left.kept {p : Addr} {w w' : World} {l : List UInt8} (h : Left p w l) (k : Kept Nil w w') : Left p w' l := by
  have hlt := cell_lt h.cell
  have e : w'.heap[p.block]? = w.heap[p.block]? := by
    rw [k.block p.block _ (Array.getElem?_eq_getElem hlt) (fun x => x.elim), Array.getElem?_eq_getElem hlt]
  exact ⟨(World.cell?_of_block e).trans h.cell, (World.frozen?_of_block e).trans h.free⟩
end Go.Proofs.YtflnjlbafchnaaaGreatDoor

/-
  Which entries may be, by the program and by the document's answer; an entry written by either.
-/
namespace Go.Proofs.YtflnjlbafchnaaaGreatDoor
open Go.RowKit

/-- An entry, plainly. -/
structure En where
  ix : Int
  tm : Int
  kd : Int
  dt : List UInt8
def isCnt (x : Int) : Bool := decide (1 ≤ x) && decide (x ≤ 1099511627775)
def En.ok (x : En) : Bool := isCnt x.ix && isCnt x.tm && (if x.kd = 0 then x.dt.isEmpty else if x.kd = 1 ∨ x.kd = 2 then decide (x.dt.length ≤ 256) else false)

/-! ### the document's -/
end Go.Proofs.YtflnjlbafchnaaaGreatDoor

/-
  Pairs: rows of three cells; may they be: by the program.
-/
namespace Go.Proofs.YtflnjlbafchnaaaGreatDoor
open Go.RowKit

structure Pr where
  k : List UInt8
  v : List UInt8
  n : Int
/-- A row of pairs that lies below block B. -/
def PairRow (B : Nat) (w : World) (ao : Option Addr) (ps : List Pr) : Prop := ∀ j, (hj : j < ps.length) → ∃ a, ao = some a ∧ a.block < B ∧ w.cell? (a.add (j * 3)) = some (.string (bs ps[j].k)) ∧ w.cell? ⟨(a.add (j * 3)).block, (a.add (j * 3)).off + 1, none⟩ = some (.string (bs ps[j].v)) ∧ w.cell? ⟨(a.add (j * 3)).block, (a.add (j * 3)).off + 2, none⟩ = some (.int .i64 ps[j].n) ∧ ps[j].k.length ≤ maxLen ∧ ps[j].v.length ≤ maxLen
theorem cell_kept {X : Nat → Obj → Prop} {w w' : World} {a : Addr} {v : Value} (hk : Kept X w w') (hX : ∀ o, ¬ X a.block o) (h : w.cell? a = some v) : w'.cell? a = some v := by
  have hlt : a.block < w.heap.size := World.block_lt_of_cell? w _ h
  rw [World.cell?_of_block (w := w) (by rw [hk.block a.block _ (Array.getElem?_eq_getElem hlt) (hX _), Array.getElem?_eq_getElem hlt])]
  exact h
theorem add_block (a : Addr) (n : Nat) : (a.add n).block = a.block := by unfold Addr.add; split <;> rfl
theorem PairRow.kept {X : Nat → Obj → Prop} {B : Nat} {w w' : World} {ao : Option Addr} {ps : List Pr} (h : PairRow B w ao ps) (hk : Kept X w w') (hX : ∀ k o, k < B → ¬ X k o) : PairRow B w' ao ps := by
  intro j hj
  obtain ⟨a, ha, hb, c1, c2, c3, l1, l2⟩ := h j hj
  refine ⟨a, ha, hb, cell_kept hk (fun o => ?_) c1, cell_kept hk (fun o => ?_) c2, cell_kept hk (fun o => ?_) c3, l1, l2⟩ <;> exact hX _ _ (by simpa [add_block] using hb)
theorem PairRow.nil {B : Nat} {w w' : World} {ao : Option Addr} {ps : List Pr} (h : PairRow B w ao ps) (hk : Kept Nil w w') : PairRow B w' ao ps := h.kept hk (fun _ _ _ x => x)
theorem PairRow.alloc {B : Nat} {w : World} {ao : Option Addr} {ps : List Pr} (h : PairRow B w ao ps) (o : Obj) : PairRow B (w.alloc o) ao ps := h.nil ((Kept.refl _ _).alloc o)
def prOk (x : Pr) : Bool := !x.k.isEmpty && decide (x.k.length ≤ 16) && decide (x.v.length ≤ 64) && isCnt x.n
def pRise : Option (List UInt8) → List Pr → Bool
  | _, [] => true
  | p, x :: t => prOk x && (match p with | none => true | some q => lessB q x.k) && pRise (some x.k) t
def pairsOk (ps : List Pr) : Bool := decide (ps.length ≤ 32) && pRise none ps
end Go.Proofs.YtflnjlbafchnaaaGreatDoor

/-
  What comes of the sum and of numbers written: no two texts that part in up to four bytes standing together have one sum; what is written of a number is read again; what is cut off is short.
-/
namespace Go.Proofs.YtflnjlbafchnaaaGreatDoor

/-- Bytes as one number, the first one lowest. -/
def word : List UInt8 → Nat
  | [] => 0
  | b :: l => b.toNat ^^^ word l * 2 ^ 8

/-! ### what is written is read -/

/-! ### the turned bytes -/
end Go.Proofs.YtflnjlbafchnaaaGreatDoor

/-
  Rows of numbers: what is read so many times, by the program (times) and by the document's reader; numbers written one behind the other; two rows held against each other.
-/
namespace Go.Proofs.YtflnjlbafchnaaaGreatDoor
open Go.RowKit

/-! ### a row of its own, and what calls leave of it -/
theorem own_kept {X : Nat → Obj → Prop} {w w' : World} {B : Nat} {e : TypeId} {size : Nat} {v : Value} {n : Nat} {xs : List Value} (h : w.ownsRow B e size v n xs) (hk : Kept X w w')
    (hX : ∀ k cs, B ≤ k → ¬ X k (.cells cs e (0, 0))) : w'.ownsRow B e size v n xs := by
  refine ⟨h.1, h.2.imp id ?_⟩
  rintro ⟨g, cap, cur, h1, h2, h3, h4⟩
  exact ⟨g, cap, cur, h1, h2, hk.block _ _ h3 (hX _ _ h2), h4⟩
theorem Kept.grown {X : Nat → Obj → Prop} {a w w' : World} {row : Option Nat} (h : Kept X a w) (hg : w.grownBy w' row) (hrow : ∀ k, row = some k → a.heap.size ≤ k) : Kept X a w' :=
  ⟨hg.os.trans h.os, hg.tape.trans h.tape, hg.output.trans h.output, Nat.le_trans h.size hg.size, fun k o ho hx => by
    have hk := lt_of_block ho
    rw [hg.block k (by have := h.size; omega) (fun e => by have := hrow k e.symm; omega)]
    exact h.block k o ho hx⟩
theorem own_row {w : World} {B : Nat} {e : TypeId} {size : Nat} {v : Value} {n : Nat} {xs : List Value} (h : w.ownsRow B e size v n xs) : ∀ k, v.ownBlock = some k → B ≤ k := fun k hk => (h.lt k hk).1

/-! ### so many of a kind -/
/-! ### rows of ints -/
def natCells (ns : List Nat) : List Value := ns.map fun (n : Nat) => Value.int .i64 n
theorem natCells_snoc (ns : List Nat) (n : Nat) : natCells (ns ++ [n]) = natCells ns ++ [.int .i64 n] := by simp [natCells]
def OwnNats (B : Nat) (w : World) (ao : Option Addr) (c : Nat) (ns : List Nat) : Prop := w.ownsRow B 3 1 (.slice ao ns.length c) ns.length (natCells ns)
theorem src_int {w : World} (z : Int) : Src Tryz.prog 1 37 (.slice (some ⟨w.heap.size, 0, none⟩) 1 1) 1 [.int .i64 z] (w.alloc (.cells #[.int .i64 z] 3)) := by
  refine Src.ofSlice _ Tryz.underlying37 _ 1 1 _ rfl ?_ ?_
  · intro j u hj
    match j, hj with
    | 0, hj =>
      simp at hj
      subst hj
      simp [Addr.add]
  · intro u hu
    simp at hu
    subst hu
    rfl

theorem OwnNats.push {B : Nat} {w' : World} {ao : Option Addr} {c : Nat} {ns : List Nat} {n : Nat} (h : w'.ownsRow B 3 1 (.slice ao (ns.length + 1) c) (ns.length + 1) (natCells ns ++ [.int .i64 n])) : OwnNats B w' ao c (ns ++ [n]) := by
  unfold OwnNats
  rw [natCells_snoc, List.length_append]
  exact h

end Go.Proofs.YtflnjlbafchnaaaGreatDoor

/-
  GetNumbers's own function: so many numbers, the count lying in a cell of its own; what it got.
-/
namespace Go.Proofs.YtflnjlbafchnaaaGreatDoor
open Go.RowKit

theorem own_mono {w : World} {B B' : Nat} {e : TypeId} {size : Nat} {v : Value} {n : Nat} {xs : List Value} (h : w.ownsRow B e size v n xs) (hb : B' ≤ B) : w.ownsRow B' e size v n xs :=
  ⟨h.1, h.2.imp id fun ⟨g, cap, cur, h1, h2, h3⟩ => ⟨g, cap, cur, h1, Nat.le_trans hb h2, h3⟩⟩

end Go.Proofs.YtflnjlbafchnaaaGreatDoor

/-
  Rows of entries, as rows that can be read and as rows of one's own; the short functions of logs, the program's and the document's.
-/
namespace Go.Proofs.YtflnjlbafchnaaaGreatDoor
open Go.RowKit

/-- A row of entries that can be read. -/
def EntRow (B : Nat) (w : World) (ao : Option Addr) (es : List En) : Prop := ∀ j, (hj : j < es.length) → ∃ a, ao = some a ∧ a.block < B ∧ w.cell? (a.add (j * 4)) = some (.int .i64 es[j].ix) ∧ w.cell? ⟨(a.add (j * 4)).block, (a.add (j * 4)).off + 1, none⟩ = some (.int .i64 es[j].tm) ∧ w.cell? ⟨(a.add (j * 4)).block, (a.add (j * 4)).off + 2, none⟩ = some (.int .i64 es[j].kd) ∧ w.cell? ⟨(a.add (j * 4)).block, (a.add (j * 4)).off + 3, none⟩ = some (.string (bs es[j].dt)) ∧ es[j].dt.length ≤ maxLen
theorem EntRow.kept {X : Nat → Obj → Prop} {B : Nat} {w w' : World} {ao : Option Addr} {es : List En} (h : EntRow B w ao es) (hk : Kept X w w') (hX : ∀ k o, k < B → ¬ X k o) : EntRow B w' ao es := by
  intro j hj
  obtain ⟨a, h0, h1, h2, h3, h4, h5, h6⟩ := h j hj
  have hb : (a.add (j * 4)).block < B := by rw [add_block]; exact h1
  exact ⟨a, h0, h1, cell_kept hk (fun o => hX _ o hb) h2, cell_kept hk (fun o => hX _ o hb) h3, cell_kept hk (fun o => hX _ o hb) h4, cell_kept hk (fun o => hX _ o hb) h5, h6⟩
theorem EntRow.nil {B : Nat} {w w' : World} {ao : Option Addr} {es : List En} (h : EntRow B w ao es) (hk : Kept Nil w w') : EntRow B w' ao es := h.kept hk (fun _ _ _ x => x)
theorem EntRow.alloc {B : Nat} {w : World} {ao : Option Addr} {es : List En} (h : EntRow B w ao es) (o : Obj) : EntRow B (w.alloc o) ao es := h.nil ((Kept.refl _ _).alloc o)
theorem EntRow.mono {B B' : Nat} {w : World} {ao : Option Addr} {es : List En} (h : EntRow B w ao es) (hB : B ≤ B') : EntRow B' w ao es := fun j hj => by
  obtain ⟨a, h0, h1, h2⟩ := h j hj
  exact ⟨a, h0, Nat.lt_of_lt_of_le h1 hB, h2⟩
theorem EntRow.full {B : Nat} {w : World} {ao : Option Addr} {es : List En} (h : EntRow B w ao es) : EntRow w.heap.size w ao es := fun j hj => by
  obtain ⟨a, h0, h1, h2, h3⟩ := h j hj
  have hb := cell_lt h2
  rw [add_block] at hb
  exact ⟨a, h0, hb, h2, h3⟩
theorem addr_add2 (a : Addr) (i j : Nat) : (a.add i).add j = a.add (i + j) := by
  unfold Addr.add
  by_cases hi : i = 0
  · subst hi
    by_cases hj : j = 0
    · subst hj; simp
    · simp [hj]
  · by_cases hj : j = 0
    · subst hj; simp [hi]
    · simp [hi, hj, Nat.add_assoc]
theorem EntRow.drop {B : Nat} {w : World} {a : Addr} {es : List En} (h : EntRow B w (some a) es) (k : Nat) : EntRow B w (some (a.add (k * 4))) (es.drop k) := by
  intro j hj
  have hj' : k + j < es.length := by rw [List.length_drop] at hj; omega
  obtain ⟨a', h0, h1, h2⟩ := h (k + j) hj'
  simp only [Option.some.injEq] at h0
  subst h0
  simp only [List.getElem_drop]
  refine ⟨_, rfl, by rw [add_block]; exact h1, ?_⟩
  rw [addr_add2, show k * 4 + j * 4 = (k + j) * 4 by omega]
  exact h2
theorem EntRow.take {B : Nat} {w : World} {ao : Option Addr} {es : List En} (h : EntRow B w ao es) (k : Nat) : EntRow B w ao (es.take k) := by
  intro j hj
  have hj' : j < es.length := by rw [List.length_take] at hj; omega
  simp only [List.getElem_take]
  exact h j hj'

theorem addr_addE (g j : Nat) : (⟨g, 0, none⟩ : Addr).add j = ⟨g, j, none⟩ := by unfold Addr.add; split <;> simp_all
/-! ### the term of a place -/
theorem EntRow.tm {B : Nat} {w : World} {ao : Option Addr} {es : List En} (h : EntRow B w ao es) {j : Nat} (hj : j < es.length) : ∃ a, ao = some a ∧ w.cell? ⟨(a.add (j * 4)).block, (a.add (j * 4)).off + 1, none⟩ = some (.int .i64 es[j].tm) := by
  obtain ⟨a, h0, _, _, h3, _⟩ := h j hj
  exact ⟨a, h0, h3⟩
theorem EntRow.ix {B : Nat} {w : World} {ao : Option Addr} {es : List En} (h : EntRow B w ao es) {j : Nat} (hj : j < es.length) : ∃ a, ao = some a ∧ w.cell? (a.add (j * 4)) = some (.int .i64 es[j].ix) := by
  obtain ⟨a, h0, _, h2, _⟩ := h j hj
  exact ⟨a, h0, h2⟩

end Go.Proofs.YtflnjlbafchnaaaGreatDoor
