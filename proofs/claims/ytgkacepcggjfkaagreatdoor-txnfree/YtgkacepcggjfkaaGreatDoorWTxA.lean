/-
  Transactions, plainly: what one is, the command that it tells, what an answer makes of it.
-/
import Derived.Test.YtgkacepcggjfkaaGreatDoorWTx3
namespace Go.Proofs.YtgkacepcggjfkaaGreatDoor

/-- A part; a transaction. -/
structure Pt where
  k : List UInt8
  a : Int
structure Tx where
  id : Nat
  ps : List Pt
  st : Nat
  old : List Int
  ph : Nat
  at' : Nat
  sn : Hd
  vr : Int
  hd : Bool
  hv : Int
def wOpen : List UInt8 := [111, 112, 101, 110]
def wDon : List UInt8 := [100, 111, 110, 101]
def wOff : List UInt8 := [111, 102, 102]
def versR (r : Rr) : Int := if r.kd = 1 then r.n else 0
structure Cd where
  kd : Int
  k : List UInt8
  v : List UInt8
  m : Int
def getC (k : List UInt8) : Cd := ⟨2, k, [], 0⟩
def swapC (k v : List UInt8) (m : Int) : Cd := ⟨4, k, v, m⟩
namespace Tx
def part (t : Tx) : Pt := (t.ps[t.at']?).getD ⟨[], 0⟩
def key (t : Tx) : List UInt8 := kKey t.part.k
def thenZ (t : Tx) : Int := t.sn.n + t.part.a
/-- What a number, held or not, writes. -/
def numT (n b : Nat) (z : Int) : List UInt8 := if b = 0 then Lib.decDigits n else Lib.decDigits n ++ 32 :: (Lib.decDigits b ++ 32 :: Lib.itoa z)
def next (t : Tx) : Cd × Bool :=
  if t.ph = 0 then (swapC (tKey t.id) wOpen 0, true)
  else if t.ph = 1 ∨ t.ph = 8 then (getC t.key, true)
  else if t.ph = 2 then (swapC t.key (numT t.sn.n t.id t.thenZ) t.vr, true)
  else if t.ph = 3 then (getC (tKey t.sn.b), true)
  else if t.ph = 4 then (swapC (tKey t.sn.b) wOff t.hv, true)
  else if t.ph = 5 then (swapC t.key (numT (t.sn.settled t.hd) 0 0) t.vr, true)
  else if t.ph = 6 then (swapC (tKey t.id) wDon 1, true)
  else if t.ph = 7 then (swapC (tKey t.id) wOff 1, true)
  else if t.ph = 9 then (swapC t.key (numT (t.sn.settled (decide (t.st = 2))) 0 0) t.vr, true)
  else (⟨0, [], [], 0⟩, false)
def further (t : Tx) (p b : Nat) : Tx := if t.at' + 1 = t.ps.length then { t with at' := 0, ph := b } else { t with at' := t.at' + 1, ph := p }
def note (t : Tx) : Tx := { t with old := t.old ++ [(t.sn.n : Int)] }.further 1 6
def see (t : Tx) (r : Rr) : Tx := { t with sn := hdOf (saidR r), vr := versR r }
def looked' (t : Tx) : Tx :=
  if t.sn.b = t.id then t.note
  else if 0 < t.sn.b then { t with ph := 3 }
  else if t.thenZ < 0 ∨ 999999999 < t.thenZ then { t with ph := 7 }
  else { t with ph := 2 }
def looked (t : Tx) (r : Rr) : Tx := (t.see r).looked'
def begun (t : Tx) (ok : Bool) : Tx := if ok = true then { t with ph := 1 } else { t with st := 3, ph := 10 }
def took (t : Tx) (ok : Bool) : Tx := if ok = true then ({ t with ph := 1 } : Tx).note else { t with ph := 1 }
def asked (t : Tx) (r : Rr) : Tx := { t with hd := decide (saidR r = wDon), hv := versR r, ph := if saidR r = wOpen then 4 else 5 }
def settle (t : Tx) (d : Bool) : Tx := { t with st := if d = true then 2 else 3, at' := 0, ph := 8 }
def cleared (t : Tx) (r : Rr) : Tx := if (t.see r).sn.b = t.id then { t.see r with ph := 9 } else (t.see r).further 8 10
def answer (t : Tx) (r : Rr) : Tx :=
  if t.ph = 0 then t.begun (decide (r.kd = 1))
  else if t.ph = 1 then t.looked r
  else if t.ph = 2 then t.took (decide (r.kd = 1))
  else if t.ph = 3 then t.asked r
  else if t.ph = 4 ∨ t.ph = 5 then { t with ph := 1 }
  else if t.ph = 6 then t.settle (decide (r.kd = 1))
  else if t.ph = 7 then t.settle false
  else if t.ph = 8 then t.cleared r
  else if t.ph = 9 then t.further 8 10
  else t
/-- What is always so of one. -/
structure Ok (t : Tx) : Prop where
  id0 : 1 ≤ t.id
  id : t.id ≤ 999
  len : 1 ≤ t.ps.length
  len4 : t.ps.length ≤ 4
  keys : ∀ p ∈ t.ps, 1 ≤ p.k.length ∧ p.k.length ≤ 15 ∧ -999999999 ≤ p.a ∧ p.a ≤ 999999999
  at' : t.at' < t.ps.length
  sn : t.sn.Ok
  old : t.old.length ≤ 4
  hold : t.ph = 2 → 0 ≤ t.thenZ ∧ t.thenZ ≤ 999999999
  ph : t.ph ≤ 10
  olds : t.ph ≤ 7 → t.ph ≠ 6 → t.old.length = t.at'
end Tx
end Go.Proofs.YtgkacepcggjfkaaGreatDoor
