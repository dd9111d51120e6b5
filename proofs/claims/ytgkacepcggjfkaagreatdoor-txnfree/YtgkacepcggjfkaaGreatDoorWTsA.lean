/-
  TxnSerial: the pieces of its code, and what its rows say.
-/
import Derived.Test.YtgkacepcggjfkaaGreatDoorWTyMm
namespace Go.Proofs.YtgkacepcggjfkaaGreatDoor
open Go.RowKit

def headIsC (n : Nat) : Code → Bool
  | .region k _ _ => k == n
  | .seq a _ => headIsC n a
  | .block _ c => headIsC n c
  | .loop c => headIsC n c
  | _ => false
/-- From the statement on that begins with a region. -/
def findTailC (n : Nat) : Code → Option Code
  | .seq a b => if headIsC n a then some (.seq a b) else match findTailC n a with
    | some c => some c
    | none => findTailC n b
  | .block _ c => findTailC n c
  | .loop c => findTailC n c
  | .cond _ a b => match findTailC n a with
    | some c => some c
    | none => findTailC n b
  | _ => none
noncomputable def sT14 : Code := (Tryz.f4.body.bind (findTailC 14)).getD .skip
noncomputable def sT21 : Code := (Tryz.f4.body.bind (findTailC 21)).getD .skip
noncomputable def sT24 : Code := (Tryz.f4.body.bind (findTailC 24)).getD .skip
noncomputable def sT28 : Code := (Tryz.f4.body.bind (findTailC 28)).getD .skip
noncomputable def sT35 : Code := (Tryz.f4.body.bind (findTailC 35)).getD .skip
noncomputable def sT44 : Code := (Tryz.f4.body.bind (findTailC 44)).getD .skip
noncomputable def sT47 : Code := (Tryz.f4.body.bind (findTailC 47)).getD .skip
theorem OwnP.nilc {B c : Nat} {w : World} {ao : Option Addr} {ps : List Pr} (h : OwnP B w ao c ps) : ao = none → ps = [] ∧ c = 0 := fun e => by
  rcases h.2 with ⟨h1, h2⟩ | ⟨g, cap, cur, h1, _⟩
  · simp only [Value.slice.injEq] at h1
    exact ⟨List.eq_nil_of_length_eq_zero h1.2.1, h1.2.2⟩
  · rw [e] at h1
    simp at h1
theorem pairs_fit {ps : List Pr} (h : pairsOk ps = true) : Fit ps := fun p hp => by
  have := (prOk_iff ((pairs_ok h).2.2 p hp))
  unfold maxLen
  omega
theorem MS.pairs {w w1 X : World} {n0 sb pc c : Nat} {es : List Eb} {T : Nat → Tx} {ps : List Pr} {pa : Option Addr} {ser : List Int} (h : MS w w1 n0 sb es X T ps pa pc c ser) : PairRow X.heap.size X pa ps ∧ (pa = none → ps = [] ∧ pc = 0) ∧ (ps.length : Int) ≤ 3518437208780 :=
  ⟨h.pr.row (pairs_fit h.run.room.ok), h.pr.nilc, by have := (pairs_ok h.run.room.ok).1; omega⟩
theorem apR_v (kd : Int) (ck val : List UInt8) (m : Int) (ps : List Pr) : (apR kd ck val m ps).v.length ≤ 64 := by
  unfold apR
  split
  · rename_i h
    simp only [Bool.and_eq_true] at h
    have hs := (spot_ok h.1 ck).2.2.2
    unfold doR putRr swapRr putRr tellRr dropRr
    (repeat' split) <;> first | exact hs | exact Nat.zero_le _
  · exact Nat.zero_le _
theorem MS.more {w w1 X : World} {n0 sb pc c : Nat} {es : List Eb} {T : Nat → Tx} {ps : List Pr} {pa : Option Addr} {ser : List Int} (h : MS w w1 n0 sb es X T ps pa pc c ser) : MS w w1 n0 sb es X T ps pa pc (c + 1) ser :=
  { h with run := ⟨h.run.inv, ⟨h.run.room.ok, h.run.room.ks, fun k => by have := h.run.room.n k; exact ⟨this.1, by omega⟩⟩, fun b hb => by have := h.run.vr b hb; exact ⟨this.1, by omega⟩, h.run.tk, h.run.kk⟩ }
theorem MS.cell {w w1 X : World} {n0 sb pc c : Nat} {es : List Eb} {T : Nat → Tx} {ps : List Pr} {pa : Option Addr} {ser : List Int} (h : MS w w1 n0 sb es X T ps pa pc c ser) {sa : Addr} (hs : sa = ⟨sb, 0, none⟩) {n : Nat} {z : Int} (hz : ser[n]? = some z) : X.cell? (sa.add n) = some (.int .i64 z) := by
  rw [hs, addr_addE, blk_cell h.ser]
  simp [intC, hz]
theorem keys_ext {n : Nat} (hn : n < 4) : ByteArray.extract ⟨#[97, 98, 99, 122]⟩ n (n + 1) = bs (keys4[n]'hn) := by
  rcases (show n = 0 ∨ n = 1 ∨ n = 2 ∨ n = 3 by omega) with rfl | rfl | rfl | rfl <;> kernel_rfl
theorem keys_len {n : Nat} (hn : n < 4) : (keys4[n]'hn).length ≤ 15 := by
  rcases (show n = 0 ∨ n = 1 ∨ n = 2 ∨ n = 3 by omega) with rfl | rfl | rfl | rfl <;> exact (show (1 : Nat) ≤ 15 by decide)
theorem nums_at (s : St) {n : Nat} (hn : n < 4) : (numsL s)[n]? = some ((s.num (keys4[n]'hn) : Nat) : Int) := by
  unfold numsL
  rw [List.getElem?_map, List.getElem?_eq_getElem hn]
  rfl
end Go.Proofs.YtgkacepcggjfkaaGreatDoor
