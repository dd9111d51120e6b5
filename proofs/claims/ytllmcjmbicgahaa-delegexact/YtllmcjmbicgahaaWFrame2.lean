/-
  The program's reader of a frame, Unframe; and the document's: the same plain reading.
-/
import Derived.Test.YtllmcjmbicgahaaWFrame1
import Derived.Test.YtllmcjmbicgahaaWRead
import Derived.Recover
import Derived.Defers
namespace Go.Proofs.Ytllmcjmbicgahaa
open Go.RowKit

/-- What so many bytes say, the lowest first. -/
def valN : Nat → List UInt8 → Nat
  | 0, _ => 0
  | k + 1, l => valN k l + (l.getD k 0).toNat * 2 ^ (8 * k)
theorem valN_lt (l : List UInt8) : ∀ k, valN k l < 2 ^ (8 * k)
  | 0 => by simp [valN]
  | k + 1 => by
    have ih := valN_lt l k
    have hb := (l.getD k 0).toNat_lt
    have e : 2 ^ (8 * (k + 1)) = 256 * 2 ^ (8 * k) := by rw [Nat.mul_add, Nat.pow_add]; omega
    have : ((l.getD k 0).toNat + 1) * 2 ^ (8 * k) ≤ 256 * 2 ^ (8 * k) := Nat.mul_le_mul_right _ (by omega)
    rw [Nat.add_mul] at this
    show valN k l + _ < _
    omega

theorem cell_lt {w : World} {a : Addr} {v : Value} (h : w.cell? a = some v) : a.block < w.heap.size := by
  cases hb : w.heap[a.block]? with
  | none => simp [World.cell?, hb] at h
  | some o => exact lt_of_block hb
theorem Left.alloc {p : Addr} {w : World} {l : List UInt8} (h : Left p w l) (o : Obj) : Left p (w.alloc o) l :=
  have e := Below.heap_alloc w o p.block (cell_lt h.cell)
  ⟨(World.cell?_of_block e).trans h.cell, (World.frozen?_of_block e).trans h.free⟩
theorem Left.other {p : Addr} {w : World} {l : List UInt8} (h : Left p w l) {a : Addr} (ha : p.block ≠ a.block) (u : Value) : Left p (w.setCell a u) l :=
  have e := Below.heap_setCell w a u p.block ha
  ⟨(World.cell?_of_block e).trans h.cell, (World.frozen?_of_block e).trans h.free⟩
theorem Left.drew {p : Addr} {w : World} {l : List UInt8} (h : Left p w l) : Left p w.drew l := ⟨h.cell, h.free⟩

theorem or8 (k x : Nat) (d : UInt8) (hk : k < 4) (hx : x < 2 ^ (8 * k)) : bits BinOp.or IntKind.u32 (x : Int) ((d.toNat : Int) * 2 ^ (8 * k) % 4294967296) = ((x + d.toNat * 2 ^ (8 * k) : Nat) : Int) := by
  have hd := d.toNat_lt
  have hp : 2 ^ (8 * k) ≤ 2 ^ 24 := Nat.pow_le_pow_right (by omega) (by omega)
  have hm : d.toNat * 2 ^ (8 * k) ≤ 255 * 2 ^ 24 := Nat.mul_le_mul (by omega) hp
  have e : ((d.toNat : Int) * 2 ^ (8 * k) % 4294967296) = ((d.toNat * 2 ^ (8 * k) : Nat) : Int) := by
    have : ((d.toNat : Int) * 2 ^ (8 * k)) = ((d.toNat * 2 ^ (8 * k) : Nat) : Int) := by push_cast; rfl
    rw [this]; omega
  rw [e, u32_or_nat _ _ (by omega) (by omega), Nat.or_comm, ← Nat.shiftLeft_eq, ← Nat.shiftLeft_add_eq_or_of_lt hx, Nat.add_comm]

def rdSum (l : List UInt8) : Except Int (Nat × List UInt8) := if 4 ≤ l.length then .ok (valN 4 (l.take 4), l.drop 4) else .error 3
def U32V : Nat → World → Value → Prop := fun n _ v => v = .int .u32 n

theorem sum_cell (w : World) (l : List UInt8) (cap k : Nat) (m : Nat × Nat) (hk : k < l.length) :
    (w.alloc (.cells (bytesRow (bs l) cap) 5 m)).drew.cell? ⟨w.heap.size, k, none⟩ = some (.int .u8 (l.getD k 0).toNat) := by
  have hb : (w.alloc (.cells (bytesRow (bs l) cap) 5 m)).drew.heap[w.heap.size]? = some (.cells (bytesRow (bs l) cap) 5 m) := blk_new w _
  simp only [World.cell?, hb]
  simp [bytesRow, bs, hk, Array.getElem?_append, List.getD_eq_getElem?_getD]

/-- A frame: its body and what stands behind it; all is taken. -/
def rdFrame (l : List UInt8) : Except Int ((List UInt8 × List UInt8) × List UInt8) :=
  match rdText 65536 l with
  | .error c => .error c
  | .ok (body, t) =>
    match rdSum t with
    | .error c => .error c
    | .ok (n, u) => if n = crc body then .ok ((body, u), []) else .error 2
def FrV : List UInt8 × List UInt8 → World → Value → Prop := fun x _ v => v = .agg #[.string (bs x.1), .string (bs x.2)]

theorem rdText_len {most : Nat} {l s t : List UInt8} (h : rdText most l = .ok (s, t)) : s.length ≤ most ∧ s.length + t.length < l.length := by
  unfold rdText at h
  split at h
  · rename_i n u hr
    have := rdUpTo_ok hr
    unfold rdTake at h
    split at h
    · simp only [Except.ok.injEq, Prod.mk.injEq] at h
      obtain ⟨rfl, rfl⟩ := h
      simp
      omega
    · cases h
  · cases h

end Go.Proofs.Ytllmcjmbicgahaa
