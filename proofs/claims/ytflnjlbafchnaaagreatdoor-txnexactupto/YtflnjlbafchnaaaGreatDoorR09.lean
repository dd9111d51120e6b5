/-
  Joined: WCd4, WCd5, WCd6, WCx7, WKv13, WKv14, WTab3, WCmdR, WKv15, WKv16, WKv17, WKv18, WTab4, WTab5, WTabS, WKvW, WCe7, WMs0, WCe8, WCe9, WCx8, WCxA, WCxB, WCg7, WCg8, WCx9, WCxC, WCg9, WCg2, WCg3, WKvY, WCf1, WCg5, WCg6, WCg4, WCh1, WCx3, WCx4, WCh2, WCx5, WCxK, WCxN.
-/
import Derived.Test.YtflnjlbafchnaaaGreatDoorR08
import Derived.Deep.RegionHeld3
import Derived.Deep.RegionWith
import Derived.Test.YtflnjlbafchnaaaGreatDoorR01
import Derived.Deep.DeepCutAuto
import Derived.Deep.LoopGhost
import Derived.Test.YtflnjlbafchnaaaGreatDoorR00
import Derived.Deep.RegionLaw
import Derived.Deep.CutRange
import Derived.BigQuiet
import Derived.Test.YtflnjlbafchnaaaGreatDoorR07
import Derived.Deep.MidRow
import Derived.Test.YtflnjlbafchnaaaGreatDoorR05
import Derived.StillTailTactics
import Derived.BigRegion
import Derived.Test.YtflnjlbafchnaaaGreatDoorRows
/-
  Cells: CellOf, from the first number on.
-/
namespace Go.Proofs.YtflnjlbafchnaaaGreatDoor
open Go.RowKit

end Go.Proofs.YtflnjlbafchnaaaGreatDoor

/-
  Cells: CellOf, whole (the document's).
-/
namespace Go.Proofs.YtflnjlbafchnaaaGreatDoor
open Go.RowKit

end Go.Proofs.YtflnjlbafchnaaaGreatDoor

/-
  Cells: FirstCell, SeenCell (the document's).
-/
namespace Go.Proofs.YtflnjlbafchnaaaGreatDoor
open Go.RowKit

end Go.Proofs.YtflnjlbafchnaaaGreatDoor

/-
  Cells: Take where it looks (the document's).
-/
namespace Go.Proofs.YtflnjlbafchnaaaGreatDoor
open Go.RowKit

end Go.Proofs.YtflnjlbafchnaaaGreatDoor

/-
  kv: the document's get and put.
-/
namespace Go.Proofs.YtflnjlbafchnaaaGreatDoor
open Go.RowKit

/-- What the document's call leaves: the pairs that came, or new ones; a result; all else as it was. -/
def RefApPost (w : World) (ao : Option Addr) (c : Nat) (ps PS : List Pr) (r : Rr) (e : Ending) (w' : World) : Prop :=
  ∃ ao' c' ko kc, e = .returned (.tuple #[.slice ao' PS.length c', rrV r ko kc]) ∧ ((PS = ps ∧ ao' = ao ∧ c' = c) ∨ OwnP w.heap.size w' ao' c' PS) ∧ OwnK w.heap.size w' ko kc r.ks ∧ Kept Nil w w'
end Go.Proofs.YtflnjlbafchnaaaGreatDoor

/-
  kv: the document's put, where there is room.
-/
namespace Go.Proofs.YtflnjlbafchnaaaGreatDoor
open Go.RowKit

end Go.Proofs.YtflnjlbafchnaaaGreatDoor

/-
  Pairs: may they be: by the document's answer.
-/
namespace Go.Proofs.YtflnjlbafchnaaaGreatDoor
open Go.RowKit

end Go.Proofs.YtflnjlbafchnaaaGreatDoor

/-
  The document's IsCommand: the same plain test.
-/
namespace Go.Proofs.YtflnjlbafchnaaaGreatDoor
open Go.RowKit

end Go.Proofs.YtflnjlbafchnaaaGreatDoor

/-
  kv: the document's Apply: no command, put, get, swap, append.
-/
namespace Go.Proofs.YtflnjlbafchnaaaGreatDoor
open Go.RowKit

theorem RefApPost.drew {w w' : World} {ao : Option Addr} {c : Nat} {ps PS : List Pr} {r : Rr} {e : Ending} (h : RefApPost w ao c ps PS r e w') : RefApPost w ao c ps PS r e w'.drew := by
  obtain ⟨a, b, c, d, h1, h2, h3, h4⟩ := h
  exact ⟨a, b, c, d, h1, h2.imp id fun h => h.kept (Kept.refl _ _).drew, h3.kept (Kept.refl _ _).drew, h4.drew⟩
end Go.Proofs.YtflnjlbafchnaaaGreatDoor

/-
  kv: the document's Apply: get and swap.
-/
namespace Go.Proofs.YtflnjlbafchnaaaGreatDoor
open Go.RowKit

end Go.Proofs.YtflnjlbafchnaaaGreatDoor

/-
  kv: the document's Apply: delete.
-/
namespace Go.Proofs.YtflnjlbafchnaaaGreatDoor
open Go.RowKit

end Go.Proofs.YtflnjlbafchnaaaGreatDoor

/-
  kv: the document's Apply: list.
-/
namespace Go.Proofs.YtflnjlbafchnaaaGreatDoor
open Go.RowKit

end Go.Proofs.YtflnjlbafchnaaaGreatDoor

/-
  Results: may they be: by the program and by the document's answer.
-/
namespace Go.Proofs.YtflnjlbafchnaaaGreatDoor
open Go.RowKit

end Go.Proofs.YtflnjlbafchnaaaGreatDoor

/-
  Tables: rows of sessions (seven cells each); may a table be: by the program.
-/
namespace Go.Proofs.YtflnjlbafchnaaaGreatDoor
open Go.RowKit

structure Ss where
  cl : Int
  ls : Int
  kd : Int
  val : List UInt8
  ver : Int
  ks : List (List UInt8)
  sn : Int
/-- A row of sessions that lies, with its keys, below block B. -/
def SessRow (B : Nat) (w : World) (ao : Option Addr) (ss : List Ss) : Prop := ∀ j, (hj : j < ss.length) → ∃ a ao2 c2, ao = some a ∧ a.block < B ∧ w.cell? (a.add (j * 7)) = some (.int .i64 ss[j].cl) ∧ w.cell? ⟨(a.add (j * 7)).block, (a.add (j * 7)).off + 1, none⟩ = some (.int .i64 ss[j].ls) ∧ w.cell? ⟨(a.add (j * 7)).block, (a.add (j * 7)).off + 2, none⟩ = some (.int .i64 ss[j].kd) ∧ w.cell? ⟨(a.add (j * 7)).block, (a.add (j * 7)).off + 3, none⟩ = some (.string (bs ss[j].val)) ∧ w.cell? ⟨(a.add (j * 7)).block, (a.add (j * 7)).off + 4, none⟩ = some (.int .i64 ss[j].ver) ∧ w.cell? ⟨(a.add (j * 7)).block, (a.add (j * 7)).off + 5, none⟩ = some (.slice ao2 ss[j].ks.length c2) ∧ w.cell? ⟨(a.add (j * 7)).block, (a.add (j * 7)).off + 6, none⟩ = some (.int .i64 ss[j].sn) ∧ StrRow B w ao2 ss[j].ks ∧ (ss[j].ks.length : Int) ≤ 9223372036854775807 ∧ ss[j].val.length ≤ maxLen
theorem SessRow.kept {X : Nat → Obj → Prop} {B : Nat} {w w' : World} {ao : Option Addr} {ss : List Ss} (h : SessRow B w ao ss) (hk : Kept X w w') (hX : ∀ k o, k < B → ¬ X k o) : SessRow B w' ao ss := by
  intro j hj
  obtain ⟨a, ao2, c2, ha, hb, c0, c1, c2', c3, c4, c5, c6, hs, l1, l2⟩ := h j hj
  refine ⟨a, ao2, c2, ha, hb, cell_kept hk (fun o => ?_) c0, cell_kept hk (fun o => ?_) c1, cell_kept hk (fun o => ?_) c2', cell_kept hk (fun o => ?_) c3, cell_kept hk (fun o => ?_) c4, cell_kept hk (fun o => ?_) c5, cell_kept hk (fun o => ?_) c6, hs.kept hk hX, l1, l2⟩ <;> exact hX _ _ (by simpa [add_block] using hb)
theorem SessRow.nil {B : Nat} {w w' : World} {ao : Option Addr} {ss : List Ss} (h : SessRow B w ao ss) (hk : Kept Nil w w') : SessRow B w' ao ss := h.kept hk (fun _ _ _ x => x)
theorem SessRow.alloc {B : Nat} {w : World} {ao : Option Addr} {ss : List Ss} (h : SessRow B w ao ss) (o : Obj) : SessRow B (w.alloc o) ao ss := h.nil ((Kept.refl _ _).alloc o)
end Go.Proofs.YtflnjlbafchnaaaGreatDoor

/-
  The same result twice is the same to the document's SameResult.
  The same table twice is the same to the document's SameTable.
-/
namespace Go.Proofs.YtflnjlbafchnaaaGreatDoor
open Go.RowKit

end Go.Proofs.YtflnjlbafchnaaaGreatDoor

namespace Go.Proofs.YtflnjlbafchnaaaGreatDoor
open Go.RowKit

end Go.Proofs.YtflnjlbafchnaaaGreatDoor

/-
  kv: the document's Apply, whole.
-/
namespace Go.Proofs.YtflnjlbafchnaaaGreatDoor
open Go.RowKit

theorem grown_set {w wr : World} {g i : Nat} (h : w.grownBy wr (some g)) (u : Value) : w.grownBy (wr.setCell ⟨g, i, none⟩ u) (some g) :=
  ⟨h.os, h.tape, h.output, by simpa [World.setCell] using h.size, fun j hj hne => by
    rw [Below.heap_setCell _ _ _ _ (fun e => hne (by rw [e]))]
    exact h.block j hj hne⟩
theorem grown_transK {a b c : World} {r : Option Nat} (h : a.grownBy b r) (k : b.grownBy c r) : a.grownBy c r :=
  ⟨k.os.trans h.os, k.tape.trans h.tape, k.output.trans h.output, Nat.le_trans h.size k.size, fun i hi hne => (k.block i (by have := h.size; omega) hne).trans (h.block i hi hne)⟩
theorem OwnP.frees {B c : Nat} {w : World} {ao : Option Addr} {ps : List Pr} (h : OwnP B w ao c ps) (h0 : 0 < ps.length) : ∃ g, ao = some ⟨g, 0, none⟩ ∧ ∀ j, (hj : j < ps.length) → w.cell? ⟨g, j * 3, none⟩ = some (.string (bs ps[j].k)) ∧ w.cell? ⟨g, j * 3 + 1, none⟩ = some (.string (bs ps[j].v)) ∧ w.cell? ⟨g, j * 3 + 2, none⟩ = some (.int .i64 ps[j].n) ∧ w.frozen? ⟨g, j * 3, none⟩ = false ∧ w.frozen? ⟨g, j * 3 + 1, none⟩ = false ∧ w.frozen? ⟨g, j * 3 + 2, none⟩ = false := by
  obtain ⟨g, e, _, _, hc⟩ := h.cells h0
  exact ⟨g, e, hc⟩

theorem OwnK.frees {B c : Nat} {w : World} {ao : Option Addr} {ks : List (List UInt8)} (h : OwnK B w ao c ks) (h0 : 0 < ks.length) : ∃ g cs, ao = some ⟨g, 0, none⟩ ∧ w.heap[g]? = some (.cells cs 9 (0, 0)) ∧ ks.length ≤ cs.size := by
  rcases h.2 with ⟨h1, _⟩ | ⟨g, cap, cur, hv, hb, hh, h1, h2, h3, h4⟩
  · simp at h1
    omega
  · simp only [Value.slice.injEq] at hv
    exact ⟨g, cur, hv.1, hh, by rw [h3]; omega⟩
theorem OwnK.set {B g c k : Nat} {w : World} {ks : List (List UInt8)} (h : OwnK B w (some ⟨g, 0, none⟩) c ks) (z : List UInt8) : OwnK B (w.setCell ⟨g, k, none⟩ (.string (bs z))) (some ⟨g, 0, none⟩) c (ks.set k z) := by
  have := own_setAtK h k (.string (bs z))
  unfold OwnK kyCells
  rw [List.length_set, List.map_set]
  exact this

end Go.Proofs.YtflnjlbafchnaaaGreatDoor

/-
  Cells: text, swapCommand (the program).
-/
namespace Go.Proofs.YtflnjlbafchnaaaGreatDoor
open Go.RowKit

end Go.Proofs.YtflnjlbafchnaaaGreatDoor

/-
  Whole structs out of and into a block, as laws of the walk: the world behind a store is any world with the block's new cells.
-/
namespace Go.Proofs.YtflnjlbafchnaaaGreatDoor
open Go.RowKit

end Go.Proofs.YtflnjlbafchnaaaGreatDoor

/-
  Cells: saw (the program): what a group says, by the result of a Get.
-/
namespace Go.Proofs.YtflnjlbafchnaaaGreatDoor
open Go.RowKit

def SiAt (w : World) (A : Nat) (c : Ce) (m : Int) : Prop := w.heap[A]? = some (.cells #[.string (bs c.v), .int .i64 c.n, .int .i64 c.s, .int .i64 c.h, .int .i64 c.g, .int .i64 m] 133 (0, 0))
theorem SiAt.set {w : World} {A : Nat} {c0 : Ce} {m0 : Int} (h : SiAt w A c0 m0) (c : Ce) (m : Int) : SiAt ((((((w.setCell ⟨A, 0, none⟩ (.string (bs c.v))).setCell ⟨A, 1, none⟩ (.int .i64 c.n)).setCell ⟨A, 2, none⟩ (.int .i64 c.s)).setCell ⟨A, 3, none⟩ (.int .i64 c.h)).setCell ⟨A, 4, none⟩ (.int .i64 c.g)).setCell ⟨A, 5, none⟩ (.int .i64 m)) A c m := blk_set (blk_set (blk_set (blk_set (blk_set (blk_set h 0 _) 1 _) 2 _) 3 _) 4 _) 5 _
end Go.Proofs.YtflnjlbafchnaaaGreatDoor

/-
  Cells: a command on just one key, plainly as kv.Apply does it; apply (the program).
-/
namespace Go.Proofs.YtflnjlbafchnaaaGreatDoor
open Go.RowKit

end Go.Proofs.YtflnjlbafchnaaaGreatDoor

/-
  Cells: the document's reads, from where the command has been done on (regions 23, 18).
-/
namespace Go.Proofs.YtflnjlbafchnaaaGreatDoor
open Go.RowKit

end Go.Proofs.YtflnjlbafchnaaaGreatDoor

/-
  Cells: the document's reads.
-/
namespace Go.Proofs.YtflnjlbafchnaaaGreatDoor
open Go.RowKit

end Go.Proofs.YtflnjlbafchnaaaGreatDoor

/-
  Cells: the document's reads, whole; Take, whole.
-/
namespace Go.Proofs.YtflnjlbafchnaaaGreatDoor
open Go.RowKit

end Go.Proofs.YtflnjlbafchnaaaGreatDoor

/-
  Cells: swapCommand, Next (the program).
-/
namespace Go.Proofs.YtflnjlbafchnaaaGreatDoor
open Go.RowKit

end Go.Proofs.YtflnjlbafchnaaaGreatDoor

/-
  Cells: Next (the program).
-/
namespace Go.Proofs.YtflnjlbafchnaaaGreatDoor
open Go.RowKit

end Go.Proofs.YtflnjlbafchnaaaGreatDoor

/-
  Cells: Command (the document's).
-/
namespace Go.Proofs.YtflnjlbafchnaaaGreatDoor
open Go.RowKit

def CdAt (X : World) (R : Nat) (kd : Int) (k v : List UInt8) (m : Int) : Prop := X.heap[R]? = some (.cells #[.int .i64 kd, .string (bs k), .string (bs v), .int .i64 m] 31 (0, 0))
theorem CdAt.kept {X Y : World} {R : Nat} {kd m : Int} {k v : List UInt8} (h : CdAt X R kd k v m) (kx : Kept Nil X Y) : CdAt Y R kd k v m := kx.block _ _ h (fun x => x)
theorem CdAt.off {X : World} {R D : Nat} {kd m : Int} {k v : List UInt8} (h : CdAt X R kd k v m) (hD : R ≠ D) (i : Nat) (x : Value) : CdAt (X.setCell ⟨D, i, none⟩ x) R kd k v m := blk_other (a := ⟨D, i, none⟩) h hD _
theorem CdAt.all {X : World} {R : Nat} {kd m : Int} {k v : List UInt8} (h : CdAt X R kd k v m) (kd' : Int) (k' v' : List UInt8) (m' : Int) : CdAt ((((X.setCell ⟨R, 0, none⟩ (.int .i64 kd')).setCell ⟨R, 1, none⟩ (.string (bs k'))).setCell ⟨R, 2, none⟩ (.string (bs v'))).setCell ⟨R, 3, none⟩ (.int .i64 m')) R kd' k' v' m' := blk_set (blk_set (blk_set (blk_set h 0 _) 1 _) 2 _) 3 _
end Go.Proofs.YtflnjlbafchnaaaGreatDoor

/-
  Cells: Command, whole (the document's).
-/
namespace Go.Proofs.YtflnjlbafchnaaaGreatDoor
open Go.RowKit

end Go.Proofs.YtflnjlbafchnaaaGreatDoor

/-
  Cells: Next, the other phases (the program).
-/
namespace Go.Proofs.YtflnjlbafchnaaaGreatDoor
open Go.RowKit

end Go.Proofs.YtflnjlbafchnaaaGreatDoor

/-
  Cells: hasLooked, handOver, hasWritten (the program).
-/
namespace Go.Proofs.YtflnjlbafchnaaaGreatDoor
open Go.RowKit

end Go.Proofs.YtflnjlbafchnaaaGreatDoor

/-
  Cells: handOver, hasWritten (the program).
-/
namespace Go.Proofs.YtflnjlbafchnaaaGreatDoor
open Go.RowKit

end Go.Proofs.YtflnjlbafchnaaaGreatDoor

/-
  kv.Apply leaves no list in its result, unless it lists.
-/
namespace Go.Proofs.YtflnjlbafchnaaaGreatDoor
open Go.RowKit

def ApPoN (w : World) (ps : List Pr) (r : Rr) (e : Ending) (w' : World) : Prop := ∃ ao' c' ko kc, e = .returned (.tuple #[.slice ao' ps.length c', rrV r ko kc]) ∧ OwnP w.heap.size w' ao' c' ps ∧ (ko = none ∧ kc = 0 ∧ r.ks = []) ∧ Kept Nil w w'
theorem ApPoN.drew {w w' : World} {ps : List Pr} {r : Rr} {e : Ending} (h : ApPoN w ps r e w') : ApPoN w ps r e w'.drew := by
  obtain ⟨a, b, c, d, h1, h2, h3, h4⟩ := h
  exact ⟨a, b, c, d, h1, h2.kept (Kept.refl _ _).drew, h3, h4.drew⟩
end Go.Proofs.YtflnjlbafchnaaaGreatDoor

/-
  Cells: apply of a content (the program).
-/
namespace Go.Proofs.YtflnjlbafchnaaaGreatDoor
open Go.RowKit

theorem OwnP.one {B c : Nat} {w : World} {ao : Option Addr} {p : Pr} (h : OwnP B w ao c [p]) : ∃ g, ao = some ⟨g, 0, none⟩ ∧ B ≤ g ∧ g < w.heap.size ∧ w.cell? ⟨g, 0, none⟩ = some (.string (bs p.k)) ∧ w.cell? ⟨g, 1, none⟩ = some (.string (bs p.v)) ∧ w.cell? ⟨g, 2, none⟩ = some (.int .i64 p.n) ∧ ∃ cur, w.heap[g]? = some (.cells cur 63 (0, 0)) := by
  rcases h.2 with ⟨h1, h2⟩ | ⟨g, cap, cur, h1, h2, h3, h4⟩
  · simp at h2
  · simp only [Value.slice.injEq] at h1
    have hc := World.ownsRow.cells (g := g) h (by rw [h1.1]; rfl)
    have hcc : ∀ j u, (kvCells [p])[j]? = some u → w.cell? ⟨g, j, none⟩ = some u := fun j u e => by
      have := hc j u e
      rw [Addr.add_lit, Nat.zero_add] at this
      exact this
    exact ⟨g, h1.1, h2, lt_of_block h3, hcc 0 _ rfl, hcc 1 _ rfl, hcc 2 _ rfl, cur, h3⟩
/-- From kv.Apply on. -/
structure CaIn (w X : World) (A1 R0 R1 : Nat) (kd : Int) (k val : List UInt8) (m : Int) : Prop where
  kp : Kept Nil w X
  ca : X.heap[A1]? = some (.cells #[.int .i64 kd, .string (bs k), .string (bs val), .int .i64 m] 31 (0, 0))
  c0 : X.heap[R0]? = some (.cells #[.string ⟨#[]⟩, .int .i64 0] 129 (0, 0))
  c1 : X.heap[R1]? = some (.cells #[.int .i64 0, .string ⟨#[]⟩, .int .i64 0, .slice none 0 0] 50 (0, 0))
theorem CaIn.kept {w X Y : World} {A1 R0 R1 : Nat} {kd m : Int} {k val : List UInt8} (h : CaIn w X A1 R0 R1 kd k val m) (kk : Kept Nil X Y) : CaIn w Y A1 R0 R1 kd k val m := ⟨h.kp.trans kk, kk.block _ _ h.ca (fun x => x), kk.block _ _ h.c0 (fun x => x), kk.block _ _ h.c1 (fun x => x)⟩
end Go.Proofs.YtflnjlbafchnaaaGreatDoor

/-
  Cells: apply (the program).
-/
namespace Go.Proofs.YtflnjlbafchnaaaGreatDoor
open Go.RowKit

end Go.Proofs.YtflnjlbafchnaaaGreatDoor

/-
  Cells: hasRead (the program).
-/
namespace Go.Proofs.YtflnjlbafchnaaaGreatDoor
open Go.RowKit

end Go.Proofs.YtflnjlbafchnaaaGreatDoor

/-
  Cells: hasWritten (the program).
-/
namespace Go.Proofs.YtflnjlbafchnaaaGreatDoor
open Go.RowKit

end Go.Proofs.YtflnjlbafchnaaaGreatDoor

/-
  Cells: Next whole, Answer, Look (the program).
-/
namespace Go.Proofs.YtflnjlbafchnaaaGreatDoor
open Go.RowKit

end Go.Proofs.YtflnjlbafchnaaaGreatDoor

/-
  Cells: Status (the document's).
-/
namespace Go.Proofs.YtflnjlbafchnaaaGreatDoor
open Go.RowKit

end Go.Proofs.YtflnjlbafchnaaaGreatDoor

/-
  Cells: NewJob (the document's).
-/
namespace Go.Proofs.YtflnjlbafchnaaaGreatDoor
open Go.RowKit

end Go.Proofs.YtflnjlbafchnaaaGreatDoor

/-
  Cells: isCommand, New (the program), where a job may be.
-/
namespace Go.Proofs.YtflnjlbafchnaaaGreatDoor
open Go.RowKit

end Go.Proofs.YtflnjlbafchnaaaGreatDoor

/-
  Cells: isCommand at any command, New where it gives no job (the program).
-/
namespace Go.Proofs.YtflnjlbafchnaaaGreatDoor
open Go.RowKit

end Go.Proofs.YtflnjlbafchnaaaGreatDoor

/-
  CellExact: results in a row; overTexts.
-/
namespace Go.Proofs.YtflnjlbafchnaaaGreatDoor
open Go.RowKit

/-- A result that is handed in, and where its keys lie. -/
structure Re where
  r : Rr
  ko : Option Addr
  kc : Nat
instance : Inhabited Re := ⟨⟨⟨0, [], 0, []⟩, none, 0⟩⟩
def ReRow (B : Nat) (w : World) (ao : Option Addr) (rs : List Re) : Prop := ∀ j, (hj : j < rs.length) → ∃ a, ao = some a ∧ a.block < B ∧ w.cell? (a.add (j * 4)) = some (.int .i64 rs[j].r.kd) ∧ w.cell? ⟨(a.add (j * 4)).block, (a.add (j * 4)).off + 1, none⟩ = some (.string (bs rs[j].r.v)) ∧ w.cell? ⟨(a.add (j * 4)).block, (a.add (j * 4)).off + 2, none⟩ = some (.int .i64 rs[j].r.n) ∧ w.cell? ⟨(a.add (j * 4)).block, (a.add (j * 4)).off + 3, none⟩ = some (.slice rs[j].ko rs[j].r.ks.length rs[j].kc) ∧ StrRow B w rs[j].ko rs[j].r.ks ∧ rs[j].r.v.length ≤ 1048576 ∧ rs[j].r.ks.length ≤ 1048576
theorem ReRow.nil {B : Nat} {w w' : World} {ao : Option Addr} {rs : List Re} (h : ReRow B w ao rs) (hk : Kept Nil w w') : ReRow B w' ao rs := fun j hj => by
  obtain ⟨a, h1, h2, h3, h4, h5, h6, h7, h8⟩ := h j hj
  exact ⟨a, h1, h2, cell_kept hk (fun _ x => x) h3, cell_kept hk (fun _ x => x) h4, cell_kept hk (fun _ x => x) h5, cell_kept hk (fun _ x => x) h6, h7.kept hk (fun _ _ _ x => x), h8⟩
namespace Jb
end Jb
end Go.Proofs.YtflnjlbafchnaaaGreatDoor

/-
  Results that are handed in: what the form says of them.
-/
namespace Go.Proofs.YtflnjlbafchnaaaGreatDoor
open Go.ChangeShapes Go.WideShapes Go.ChangeAt Go.RowKit
open Go.ChangeMaps (open_string shut_string)

theorem Tryz.cellsStE : Tryz.prog.cellsOf 48 = 1 := by kernel_rfl
theorem Tryz.cellsReE : Tryz.prog.cellsOf 50 = 4 := by kernel_rfl
theorem list2X {α : Type} {cs : List α} (h : cs.length = 2) : ∃ a b, cs = [a, b] := by
  match cs, h with
  | [a, b], _ => exact ⟨a, b, rfl⟩
theorem bulk_pos {H : Type} (d : DataW H) : 0 < Rows.uptoBulk d := by
  cases d with
  | lit l => cases l <;> simp [Rows.uptoBulk]
  | _ => simp [Rows.uptoBulk]
theorem bulk_all {H : Type} : ∀ l : List (DataW H), l.length ≤ Rows.uptoBulkAll l
  | [] => Nat.zero_le _
  | d :: l => by
    have h1 := bulk_pos d
    have h2 := bulk_all l
    simp only [Rows.uptoBulkAll, List.length_cons]
    omega
theorem bulk_slice {H α : Type} {zs : List α} {d : DataW H} (h : zs = [] ∨ ∃ sp el : List (DataW H), d = .slice el sp ∧ el.length = zs.length) {k : Nat} (hk : Rows.uptoBulk d ≤ k) : zs.length ≤ k := by
  rcases h with rfl | ⟨sp, el, rfl, hl⟩
  · simp
  · have := bulk_all el
    simp only [Rows.uptoBulk] at hk
    omega


theorem bulk_mem {H : Type} {d : DataW H} : ∀ {l : List (DataW H)}, d ∈ l → Rows.uptoBulk d ≤ Rows.uptoBulkAll l
  | [], h => by cases h
  | c :: l, h => by
    simp only [Rows.uptoBulkAll]
    rcases List.mem_cons.1 h with rfl | h
    · omega
    · have := bulk_mem h
      omega
section
variable {H : Type} {enc : TypeId × Value → H} {W : World} {fuel : Nat} {v : Value} {y : DataW H × List MemPlace}
set_option maxRecDepth 100000 in
theorem keysIn (hf : DataW.trod enc Tryz.prog W 0 (fun _ => true) true fuel 48 [v] = some y) :
    ∃ (ao : Option Addr) (ks : List (List UInt8)) (cap : Nat), v = .slice ao ks.length cap ∧ StrRow W.heap.size W ao ks ∧ (ks = [] ∨ ∃ sp el : List (DataW H), y.1 = .slice el sp ∧ el.length = ks.length) := by
  rcases Go.Deep.open_strs Tryz.underlying48 Tryz.underlying9 Tryz.cellsStrE hf with ⟨h1, _⟩ | ⟨a, len, cap, m, Sx, h1, _, hl, hm, hmm, hy, hx⟩
  · simp at h1
    subst h1
    exact ⟨none, [], 0, rfl, fun j hj => by simp at hj, .inl rfl⟩
  · simp at h1
    subst h1
    simp only [if_true] at hmm
    have hlen : ((List.range len).map fun i => (Sx i).data.toList).length = len := by simp
    refine ⟨some a, (List.range len).map fun i => (Sx i).data.toList, cap, by rw [hlen], ?_, .inr ⟨_, _, by rw [hy], by simp⟩⟩
    intro j hj
    rw [hlen] at hj
    obtain ⟨h1, h2⟩ := hx j (by omega)
    have e : (a.add j).block = a.block := by unfold Addr.add; split <;> rfl
    have hb := World.block_lt_of_cell? W _ h1
    refine ⟨a, rfl, by omega, ?_, ?_⟩
    · rw [h1]; simp [bs_self]
    · have : (Sx j).data.toList.length = (Sx j).size := by rw [← bs_size, bs_self]
      simp only [List.getElem_map, List.getElem_range]
      omega

set_option maxRecDepth 100000 in
theorem reOpen {c0 c1 c2 c3 : Value} (h2 : DataW.trod enc Tryz.prog W 0 (fun _ => true) true fuel 50 [c0, c1, c2, c3] = some y) (hb : Rows.uptoBulk y.1 ≤ 1048576) :
    ∃ r : Re, c0 = .int .i64 r.r.kd ∧ c1 = .string (bs r.r.v) ∧ c2 = .int .i64 r.r.n ∧ c3 = .slice r.ko r.r.ks.length r.kc ∧ StrRow W.heap.size W r.ko r.r.ks ∧ r.r.v.length ≤ 1048576 ∧ r.r.ks.length ≤ 1048576 := by
  obtain ⟨ys, n', _, hD, _, hyl, hg⟩ := DataW.trod_struct Tryz.underlying50 h2
  obtain ⟨y0, y1, y2, y3, rfl⟩ := list4 hyl
  have g0 := hg 0 _ rfl
  have g1 := hg 1 _ rfl
  have g2 := hg 2 _ rfl
  have g3 := hg 3 _ rfl
  simp [Tryz.cellsIntE, Tryz.cellsStrE, Tryz.cellsStE] at g0 g1 g2 g3
  obtain ⟨z0, e0, _, _⟩ := DataW.trod_int Tryz.underlying3 g0
  obtain ⟨s1, e1, d1, _⟩ := DataW.trod_string Tryz.underlying9 g1
  obtain ⟨z2, e2, _, _⟩ := DataW.trod_int Tryz.underlying3 g2
  obtain ⟨ko, ks, kc, e3, hrow, hkl⟩ := keysIn g3
  simp at e0 e1 e2
  subst e0 e1 e2 e3
  have ey : y.1 = .agg [y0.1, y1.1, y2.1, y3.1] := congrArg Prod.fst hD
  have b1 : Rows.uptoBulk y1.1 ≤ 1048576 := by
    rw [ey] at hb
    simp only [Rows.uptoBulk, Rows.uptoBulkAll] at hb
    omega
  have b3 : Rows.uptoBulk y3.1 ≤ 1048576 := by
    rw [ey] at hb
    simp only [Rows.uptoBulk, Rows.uptoBulkAll] at hb
    omega
  have l1 : s1.data.toList.length ≤ 1048576 := by
    have hd := congrArg Prod.fst d1
    simp only at hd
    rw [hd] at b1
    simp only [Rows.uptoBulk] at b1
    omega
  exact ⟨⟨⟨z0, s1.data.toList, z2, ks⟩, ko, kc⟩, rfl, by rw [bs_self], rfl, rfl, hrow, l1, bulk_slice hkl b3⟩
set_option maxRecDepth 100000 in
theorem resIn (hf : DataW.trod enc Tryz.prog W 0 (fun _ => true) true fuel 23 [v] = some y) (hb : Rows.uptoBulk y.1 ≤ 1048576) :
    ∃ (ao : Option Addr) (rs : List Re) (cap : Nat), v = .slice ao rs.length cap ∧ ReRow W.heap.size W ao rs ∧ rs.length ≤ 1048576 := by
  rcases Go.Deep.open_slice Tryz.underlying23 hf with ⟨h1, _⟩ | ⟨a, len, cap, m, n, D, Pl, h1, _, hl, hm, hmm, hy, hx⟩
  · simp at h1
    subst h1
    exact ⟨none, [], 0, rfl, fun j hj => by simp at hj, by simp⟩
  · simp at h1
    subst h1
    simp only [if_true] at hmm
    have hb2 : Rows.uptoBulkAll ((List.range len).map D) ≤ 1048576 := by
      rw [hy] at hb
      simp only [Rows.uptoBulk] at hb
      omega
    have hbD : ∀ j, j < len → Rows.uptoBulk (D j) ≤ 1048576 := fun j hj => Nat.le_trans (bulk_mem (List.mem_map_of_mem (List.mem_range.2 hj))) hb2
    have hbl : len ≤ 1048576 := by
      have := bulk_all ((List.range len).map D)
      simp at this
      omega
    obtain ⟨f, hF⟩ := Go.Deep.choose_lt (α := Re) (n := len) (p := fun j r => a.block < W.heap.size ∧ W.cell? (a.add (j * 4)) = some (.int .i64 r.r.kd) ∧ W.cell? ⟨(a.add (j * 4)).block, (a.add (j * 4)).off + 1, none⟩ = some (.string (bs r.r.v)) ∧ W.cell? ⟨(a.add (j * 4)).block, (a.add (j * 4)).off + 2, none⟩ = some (.int .i64 r.r.n) ∧ W.cell? ⟨(a.add (j * 4)).block, (a.add (j * 4)).off + 3, none⟩ = some (.slice r.ko r.r.ks.length r.kc) ∧ StrRow W.heap.size W r.ko r.r.ks ∧ r.r.v.length ≤ 1048576 ∧ r.r.ks.length ≤ 1048576) (fun j hj => by
      obtain ⟨cs, h1, h2⟩ := hx j (by omega)
      rw [Tryz.cellsReE] at h1
      obtain ⟨_, hlen, hc⟩ := World.cells?_some h1
      obtain ⟨c0, c1, c2, c3, rfl⟩ := list4 hlen
      obtain ⟨r, e0, e1, e2, e3, hr, l1, l2⟩ := reOpen h2 (hbD j hj)
      subst e0 e1 e2 e3
      have q0 := hc 0 (by omega)
      have q1 := hc 1 (by omega)
      have q2 := hc 2 (by omega)
      have q3 := hc 3 (by omega)
      rw [add_zero] at q0
      rw [add_pos _ (by omega)] at q1 q2 q3
      have e : (a.add (j * 4)).block = a.block := by unfold Addr.add; split <;> rfl
      have hb := World.block_lt_of_cell? W _ q0
      exact ⟨r, by omega, q0, q1, q2, q3, hr, l1, l2⟩)
    have hlen : ((List.range len).map f).length = len := by simp
    refine ⟨some a, (List.range len).map f, cap, by rw [hlen], ?_, by rw [hlen]; exact hbl⟩
    intro j hj
    rw [hlen] at hj
    have h := hF j hj
    simp only [List.getElem_map, List.getElem_range]
    exact ⟨a, rfl, h⟩
end
end Go.Proofs.YtflnjlbafchnaaaGreatDoor
