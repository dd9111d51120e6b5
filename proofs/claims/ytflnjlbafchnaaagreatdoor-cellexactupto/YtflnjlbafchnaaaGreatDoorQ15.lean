/-
  Joined: WKvP, WTxG, WTxA, WTxF, WTxH, WCeA, WAppAt, WTx5.
-/
import Derived.Test.YtflnjlbafchnaaaGreatDoorQ09
import Derived.Test.YtflnjlbafchnaaaGreatDoorQ11
import Derived.Test.YtflnjlbafchnaaaGreatDoorQ12
import Derived.Test.YtflnjlbafchnaaaGreatDoorQ00
import Derived.Deep.RegionHeld3
/-
  KvMap, plainly: pairs, and beside them keys with their values.
-/
namespace Go.Proofs.YtflnjlbafchnaaaGreatDoor
open Go.RowKit

theorem there_no {key : List UInt8} {ps : List Pr} (h : Srt ps) (ht : isThere key ps = false) : ∀ p ∈ ps, p.k ≠ key := fun p hp e => by
  obtain ⟨j, hj, rfl⟩ := List.getElem_of_mem hp
  have := getP_hit h hj e
  unfold getP at this
  rw [ht] at this
  simp at this
theorem there_yes {key : List UInt8} {ps : List Pr} (h : Srt ps) {p : Pr} (hp : p ∈ ps) (e : p.k = key) : isThere key ps = true := by
  cases ht : isThere key ps with
  | true => rfl
  | false => exact absurd e (there_no h ht p hp)
theorem there_low {key : List UInt8} {ps : List Pr} (h : Srt ps) {j : Nat} (hj : j < ps.length) (e : ps[j].k = key) : lowP key ps = j := by
  have g := getP_hit h hj e
  have ht := there_yes h (List.getElem_mem hj) e
  unfold getP at g
  rw [ht] at g
  simp at g
  omega
theorem spot_at {key : List UInt8} {ps : List Pr} (h : Srt ps) {p : Pr} (hp : p ∈ ps) (e : p.k = key) : spotV key ps = p.v ∧ spotN key ps = p.n := by
  obtain ⟨j, hj, rfl⟩ := List.getElem_of_mem hp
  have hl := there_low h hj e
  have ht := there_yes h hp e
  unfold spotV spotN
  rw [ht, hl, List.getElem?_eq_getElem hj]
  exact ⟨rfl, rfl⟩
theorem srt_set {ps : List Pr} (h : Srt ps) {i : Nat} (hi : i < ps.length) {x : Pr} (hx : x.k = ps[i].k) : Srt (ps.set i x) := by
  have g := List.pairwise_iff_getElem.1 h
  refine List.pairwise_iff_getElem.2 fun a b ha hb hab => ?_
  rw [List.length_set] at ha hb
  rw [List.getElem_set, List.getElem_set]
  split <;> split
  · omega
  · rename_i e _
    subst e
    rw [hx]
    exact g i b hi hb hab
  · rename_i _ e
    subst e
    rw [hx]
    exact g a i ha hi hab
  · exact g a b ha hb hab
theorem mem_set_of {i : Nat} {x p : Pr} {ps : List Pr} (hi : i < ps.length) (hp : p ∈ ps) (hne : p.k ≠ ps[i].k) : p ∈ ps.set i x := by
  obtain ⟨j, hj, rfl⟩ := List.getElem_of_mem hp
  have hji : i ≠ j := fun e => by subst e; exact hne rfl
  have : (ps.set i x)[j]'(by rw [List.length_set]; exact hj) = ps[j] := by rw [List.getElem_set, if_neg hji]
  rw [← this]
  exact List.getElem_mem _
theorem mem_set_new {i : Nat} {x : Pr} {ps : List Pr} (hi : i < ps.length) : x ∈ ps.set i x := List.mem_iff_getElem.2 ⟨i, by rw [List.length_set]; exact hi, by rw [List.getElem_set, if_pos rfl]⟩
theorem nodup_inj {l : List (List UInt8)} (h : l.Nodup) {i j : Nat} (hi : i < l.length) (hj : j < l.length) (e : l[i] = l[j]) : i = j := by
  have g := List.pairwise_iff_getElem.1 h
  rcases Nat.lt_trichotomy i j with h1 | h1 | h1
  · exact absurd e (g i j hi hj h1)
  · exact h1
  · exact absurd e.symm (g j i hj hi h1)
/-- What KvMap holds of a map: pairs, and beside them keys with their values. -/
structure MI (t : Int) (ps : List Pr) (ks vs : List (List UInt8)) : Prop where
  ok : pairsOk ps = true
  lk : ks.length = ps.length
  lv : vs.length = ps.length
  nd : ks.Nodup
  has : ∀ j, (hj : j < ks.length) → (hv : j < vs.length) → ∃ p ∈ ps, p.k = ks[j] ∧ p.v = vs[j]
  all : ∀ p ∈ ps, p.k ∈ ks
  ver : ∀ p ∈ ps, p.n ≤ t
theorem MI.zero : MI 0 [] [] [] := ⟨rfl, rfl, rfl, List.nodup_nil, fun j hj _ => absurd hj (by simp), (fun p hp => by cases hp), (fun p hp => by cases hp)⟩
theorem MI.mono {t t' : Int} {ps : List Pr} {ks vs : List (List UInt8)} (h : MI t ps ks vs) (ht : t ≤ t') : MI t' ps ks vs := ⟨h.ok, h.lk, h.lv, h.nd, h.has, h.all, fun p hp => Int.le_trans (h.ver p hp) ht⟩
theorem ok_of {ps : List Pr} (h1 : ps.length ≤ 32) (h2 : Srt ps) (h3 : ∀ p ∈ ps, prOk p = true) : pairsOk ps = true := by
  unfold pairsOk
  rw [decide_eq_true h1, srt_rise h2 h3 (fun x hx => by cases hx)]
  rfl
theorem prOk_mk {key x : List UInt8} {n : Int} (h1 : key ≠ []) (h2 : key.length ≤ 16) (h3 : x.length ≤ 64) (h4 : 1 ≤ n) (h5 : n ≤ 1099511627775) : prOk ⟨key, x, n⟩ = true := by
  unfold prOk isCnt
  simp [h1, h2, h3, h4, h5]
theorem MI.put {t : Int} {ps : List Pr} {ks vs : List (List UInt8)} (h : MI t ps ks vs) {x : List UInt8} {j : Nat} (hj : j < ks.length) (h3 : x.length ≤ 64) (ht : t < 1099511627775) : MI (t + 1) (ps.set (lowP ks[j] ps) ⟨ks[j], x, spotN ks[j] ps + 1⟩) ks (vs.set j x) := by
  obtain ⟨h32, hs, hp⟩ := pairs_ok h.ok
  obtain ⟨p0, hp0, e1, e2⟩ := h.has j hj (by rw [h.lv, ← h.lk]; exact hj)
  obtain ⟨i, hi, rfl⟩ := List.getElem_of_mem hp0
  have hl := there_low hs hi e1
  have hn := (spot_at hs hp0 e1).2
  have hv0 := h.ver _ hp0
  obtain ⟨g1, g2, g3, g4, g5⟩ := prOk_iff (hp _ hp0)
  rw [hl, hn]
  refine ⟨ok_of (by rw [List.length_set]; exact h32) (srt_set hs hi (by exact e1.symm)) (fun p hpp => ?_), by rw [List.length_set]; exact h.lk, by rw [List.length_set, List.length_set]; exact h.lv, h.nd, fun q hq hv => ?_, fun p hpp => ?_, fun p hpp => ?_⟩
  · rcases List.mem_or_eq_of_mem_set hpp with hpp | rfl
    · exact hp p hpp
    · rw [e1] at g1 g2
      exact prOk_mk g1 g2 h3 (by omega) (by omega)
  · rw [List.length_set] at hv
    by_cases hqj : j = q
    · subst hqj
      exact ⟨_, mem_set_new hi, rfl, by rw [List.getElem_set, if_pos rfl]⟩
    · obtain ⟨p, hpp, e3, e4⟩ := h.has q hq hv
      refine ⟨p, mem_set_of hi hpp (fun e => hqj ?_), e3, by rw [List.getElem_set, if_neg hqj]; exact e4⟩
      have : ks[j] = ks[q] := by rw [← e1, ← e, e3]
      exact nodup_inj h.nd hj hq this
  · rcases List.mem_or_eq_of_mem_set hpp with hpp | rfl
    · exact h.all p hpp
    · exact List.getElem_mem hj
  · rcases List.mem_or_eq_of_mem_set hpp with hpp | rfl
    · have := h.ver p hpp; omega
    · show ps[i].n + 1 ≤ t + 1; omega
end Go.Proofs.YtflnjlbafchnaaaGreatDoor

/-
  Transactions, plainly: what a Get tells and a Swap makes of what stands under the keys.
-/
namespace Go.Proofs.YtflnjlbafchnaaaGreatDoor

theorem spot_abs {key : List UInt8} {ps : List Pr} (h : ∀ p ∈ ps, p.k ≠ key) : spotV key ps = [] ∧ spotN key ps = 0 := by
  have ht : isThere key ps = false := by
    cases ht : isThere key ps with
    | false => rfl
    | true =>
      obtain ⟨hl, e, _⟩ := there_at ht
      exact absurd e (h _ (List.getElem_mem hl))
  unfold spotV spotN
  rw [ht]
  simp
end Go.Proofs.YtflnjlbafchnaaaGreatDoor

/-
  Transactions, plainly: what one is, the command that it tells, what an answer makes of it.
-/
namespace Go.Proofs.YtflnjlbafchnaaaGreatDoor

/-- A part; a transaction. -/
structure Pt where
  k : List UInt8
  a : Int
structure Tx where
  id : Nat
  ps : List Pt
  st : Nat
  old : List Int
  ph : Nat
  at' : Nat
  sn : Hd
  vr : Int
  hd : Bool
  hv : Int
def wOpen : List UInt8 := [111, 112, 101, 110]
def wDon : List UInt8 := [100, 111, 110, 101]
def wOff : List UInt8 := [111, 102, 102]
def versR (r : Rr) : Int := if r.kd = 1 then r.n else 0
structure Cd where
  kd : Int
  k : List UInt8
  v : List UInt8
  m : Int
def getC (k : List UInt8) : Cd := ⟨2, k, [], 0⟩
def swapC (k v : List UInt8) (m : Int) : Cd := ⟨4, k, v, m⟩
namespace Tx
def part (t : Tx) : Pt := (t.ps[t.at']?).getD ⟨[], 0⟩
def key (t : Tx) : List UInt8 := kKey t.part.k
def thenZ (t : Tx) : Int := t.sn.n + t.part.a
/-- What a number, held or not, writes. -/
def numT (n b : Nat) (z : Int) : List UInt8 := if b = 0 then Lib.decDigits n else Lib.decDigits n ++ 32 :: (Lib.decDigits b ++ 32 :: Lib.itoa z)
def next (t : Tx) : Cd × Bool :=
  if t.ph = 0 then (swapC (tKey t.id) wOpen 0, true)
  else if t.ph = 1 ∨ t.ph = 8 then (getC t.key, true)
  else if t.ph = 2 then (swapC t.key (numT t.sn.n t.id t.thenZ) t.vr, true)
  else if t.ph = 3 then (getC (tKey t.sn.b), true)
  else if t.ph = 4 then (swapC (tKey t.sn.b) wOff t.hv, true)
  else if t.ph = 5 then (swapC t.key (numT (t.sn.settled t.hd) 0 0) t.vr, true)
  else if t.ph = 6 then (swapC (tKey t.id) wDon 1, true)
  else if t.ph = 7 then (swapC (tKey t.id) wOff 1, true)
  else if t.ph = 9 then (swapC t.key (numT (t.sn.settled (decide (t.st = 2))) 0 0) t.vr, true)
  else (⟨0, [], [], 0⟩, false)
def further (t : Tx) (p b : Nat) : Tx := if t.at' + 1 = t.ps.length then { t with at' := 0, ph := b } else { t with at' := t.at' + 1, ph := p }
def note (t : Tx) : Tx := { t with old := t.old ++ [(t.sn.n : Int)] }.further 1 6
def see (t : Tx) (r : Rr) : Tx := { t with sn := hdOf (saidR r), vr := versR r }
def looked' (t : Tx) : Tx :=
  if t.sn.b = t.id then t.note
  else if 0 < t.sn.b then { t with ph := 3 }
  else if t.thenZ < 0 ∨ 999999999 < t.thenZ then { t with ph := 7 }
  else { t with ph := 2 }
def looked (t : Tx) (r : Rr) : Tx := (t.see r).looked'
def begun (t : Tx) (ok : Bool) : Tx := if ok = true then { t with ph := 1 } else { t with st := 3, ph := 10 }
def took (t : Tx) (ok : Bool) : Tx := if ok = true then ({ t with ph := 1 } : Tx).note else { t with ph := 1 }
def asked (t : Tx) (r : Rr) : Tx := { t with hd := decide (saidR r = wDon), hv := versR r, ph := if saidR r = wOpen then 4 else 5 }
def settle (t : Tx) (d : Bool) : Tx := { t with st := if d = true then 2 else 3, at' := 0, ph := 8 }
def cleared (t : Tx) (r : Rr) : Tx := if (t.see r).sn.b = t.id then { t.see r with ph := 9 } else (t.see r).further 8 10
def answer (t : Tx) (r : Rr) : Tx :=
  if t.ph = 0 then t.begun (decide (r.kd = 1))
  else if t.ph = 1 then t.looked r
  else if t.ph = 2 then t.took (decide (r.kd = 1))
  else if t.ph = 3 then t.asked r
  else if t.ph = 4 ∨ t.ph = 5 then { t with ph := 1 }
  else if t.ph = 6 then t.settle (decide (r.kd = 1))
  else if t.ph = 7 then t.settle false
  else if t.ph = 8 then t.cleared r
  else if t.ph = 9 then t.further 8 10
  else t
/-- What is always so of one. -/
structure Ok (t : Tx) : Prop where
  id0 : 1 ≤ t.id
  id : t.id ≤ 999
  len : 1 ≤ t.ps.length
  len4 : t.ps.length ≤ 4
  keys : ∀ p ∈ t.ps, 1 ≤ p.k.length ∧ p.k.length ≤ 15 ∧ -999999999 ≤ p.a ∧ p.a ≤ 999999999
  at' : t.at' < t.ps.length
  sn : t.sn.Ok
  old : t.old.length ≤ 4
  hold : t.ph = 2 → 0 ≤ t.thenZ ∧ t.thenZ ≤ 999999999
  ph : t.ph ≤ 10
  olds : t.ph ≤ 7 → t.ph ≠ 6 → t.old.length = t.at'
end Tx
end Go.Proofs.YtflnjlbafchnaaaGreatDoor

/-
  Transactions, plainly: what is always so of one stays so.
-/
namespace Go.Proofs.YtflnjlbafchnaaaGreatDoor
namespace Tx

/-- The part of it that no step touches. -/
structure Base (t : Tx) : Prop where
  id0 : 1 ≤ t.id
  id : t.id ≤ 999
  len : 1 ≤ t.ps.length
  len4 : t.ps.length ≤ 4
  keys : ∀ p ∈ t.ps, 1 ≤ p.k.length ∧ p.k.length ≤ 15 ∧ -999999999 ≤ p.a ∧ p.a ≤ 999999999
theorem Ok.base {t : Tx} (h : t.Ok) : t.Base := ⟨h.id0, h.id, h.len, h.len4, h.keys⟩
theorem Base.of {t u : Tx} (h : t.Base) (h1 : u.id = t.id) (h2 : u.ps = t.ps) : u.Base := ⟨by rw [h1]; exact h.id0, by rw [h1]; exact h.id, by rw [h2]; exact h.len, by rw [h2]; exact h.len4, by rw [h2]; exact h.keys⟩
end Tx
end Go.Proofs.YtflnjlbafchnaaaGreatDoor

/-
  Transactions, plainly: the map as two functions of a key, and a transaction's step over them.
-/
namespace Go.Proofs.YtflnjlbafchnaaaGreatDoor

/-- What stands under the keys: the values and the versions. -/
structure St where
  v : List UInt8 → List UInt8
  n : List UInt8 → Int
def St.of (ps : List Pr) : St := ⟨fun k => spotV k ps, fun k => spotN k ps⟩
def St.put (s : St) (k x : List UInt8) : St := ⟨fun j => if j = k then x else s.v j, fun j => if j = k then s.n k + 1 else s.n j⟩
namespace Tx
end Tx
end Go.Proofs.YtflnjlbafchnaaaGreatDoor

/-
  Cells, plainly: a job, the command that it tells, what an answer makes of it.
-/
namespace Go.Proofs.YtflnjlbafchnaaaGreatDoor

def unsaid (g : Nat) : Ce := if g = 1 then ⟨[], 0, 0, 0, 0⟩ else ⟨[], 0, 2, 0, 1⟩
theorem unsaid_ok (g : Nat) : (unsaid g).Ok := by
  unfold unsaid
  split
  · exact ⟨by decide, by decide, fun _ => rfl, by decide, by decide, fun _ => rfl, fun e => absurd rfl e, fun _ => rfl⟩
  · exact ⟨by decide, by decide, fun _ => rfl, by decide, by decide, fun e => (by cases e), fun _ => ⟨by decide, by decide⟩, fun _ => rfl⟩
/-- What a group says, by the result of a Get. -/
def sawC (g : Nat) (r : Rr) : Ce := if r.kd = 1 then (ceOf r.v).getD (unsaid g) else unsaid g
theorem sawC_ok (g : Nat) (r : Rr) : (sawC g r).Ok := by
  unfold sawC
  split
  · cases h : ceOf r.v with
    | none => exact unsaid_ok g
    | some c => exact ceOf_ok h
  · exact unsaid_ok g
def cKey (k : List UInt8) : List UInt8 := 99 :: k
namespace Ce
def towards (c : Ce) (g : Nat) : Ce := ⟨c.v, c.n, 1, c.h + 1, g⟩
def arrived (c : Ce) : Ce := ⟨c.v, c.n, 0, c.h, 0⟩
def left (c : Ce) : Ce := ⟨[], 0, 2, c.h, c.g⟩
end Ce
/-! ### a command on just one key -/
def cmV (kd : Int) (val : List UInt8) (m : Int) (v : List UInt8) (n : Nat) : List UInt8 := if kd = 1 then val else if kd = 2 then v else if kd = 3 then [] else if kd = 4 then (if (n : Int) = m then val else v) else v ++ val
def cmN (kd : Int) (m : Int) (n : Nat) : Nat := if kd = 1 then n + 1 else if kd = 2 then n else if kd = 3 then 0 else if kd = 4 then (if (n : Int) = m then n + 1 else n) else n + 1
def cmR (kd : Int) (m : Int) (v : List UInt8) (n : Nat) : Rr := if kd = 1 then ⟨1, [], n + 1, []⟩ else if kd = 2 then tellRr 1 v n else if kd = 3 then dropRr n else if kd = 4 then (if (n : Int) = m then ⟨1, [], n + 1, []⟩ else tellRr 3 v n) else ⟨1, [], n + 1, []⟩
structure Jb where
  kd : Int
  k : List UInt8
  v : List UInt8
  m : Int
  tg : Nat
  st : Nat
  at' : Nat
  rs : Rr
  ph : Nat
  sn : Ce
  sv : Int
  nx : Ce
  re : Rr
  sp : Int
  ow : Bool
def Rr.zero : Rr := ⟨0, [], 0, []⟩
def Ce.zero : Ce := ⟨[], 0, 0, 0, 0⟩
def Jb.new (kd : Int) (k v : List UInt8) (m : Int) (tg at' : Nat) : Jb := ⟨kd, k, v, m, tg, 1, at', Rr.zero, 0, Ce.zero, 0, Ce.zero, Rr.zero, 0, false⟩
namespace Jb
def next (j : Jb) : Nat × Cd × Bool :=
  if j.ph = 0 then (j.at', getC (cKey j.k), true)
  else if j.ph = 1 then (j.at', swapC (cKey j.k) (ceTxt j.nx) j.sv, true)
  else if j.ph = 2 then (j.tg, getC (cKey j.k), true)
  else if j.ph = 3 then (j.tg, swapC (cKey j.k) (ceTxt (unsaid j.tg)) 0, true)
  else if j.ph = 4 then (j.sn.g, getC (cKey j.k), true)
  else if j.ph = 5 then (j.sn.g, swapC (cKey j.k) (ceTxt j.sn.arrived) j.sp, true)
  else if j.ph = 6 then (j.at', swapC (cKey j.k) (ceTxt j.sn.left) j.sv, true)
  else (0, ⟨0, [], [], 0⟩, false)
def fin (j : Jb) (r : Rr) : Jb := { j with st := 2, rs := r, ph := 7 }
def finK (j : Jb) (kd : Int) : Jb := j.fin ⟨kd, [], 0, []⟩
def follow (j : Jb) : Jb := { j with at' := j.sn.g, ph := 0 }
def handOver (j : Jb) : Jb :=
  if j.tg = j.at' then j.finK 1
  else if j.sn.h = 999999 then j.finK 4
  else { j with nx := j.sn.towards j.tg, ph := 2 }
def apply (j : Jb) : Jb :=
  if ¬ ((cmV j.kd j.v j.m j.sn.v j.sn.n).length ≤ 32 ∧ cmN j.kd j.m j.sn.n ≤ 999999) then j.finK 4
  else if cmV j.kd j.v j.m j.sn.v j.sn.n = j.sn.v ∧ cmN j.kd j.m j.sn.n = j.sn.n then j.fin (cmR j.kd j.m j.sn.v j.sn.n)
  else { j with nx := ⟨cmV j.kd j.v j.m j.sn.v j.sn.n, cmN j.kd j.m j.sn.n, 0, j.sn.h, 0⟩, re := cmR j.kd j.m j.sn.v j.sn.n, ph := 1 }
def seen (j : Jb) : Jb :=
  if j.sn.s = 2 then j.follow
  else if j.sn.s = 1 then { j with ph := 4 }
  else if 0 < j.tg then j.handOver
  else j.apply
def hasRead (j : Jb) (r : Rr) : Jb := if 5 < r.kd then j else ({ j with sn := sawC j.at' r, sv := versR r } : Jb).seen
def hasWritten (j : Jb) (r : Rr) : Jb :=
  if r.kd = 1 ∧ 0 < j.tg then { j with sn := j.nx, sv := r.n, ow := true, ph := 4 }
  else if r.kd = 1 then j.fin j.re
  else if r.kd = 4 then j.finK 4
  else if 5 < r.kd ∧ j.tg = 0 then { j with st := 3, ph := 7 }
  else { j with ph := 0 }
def hasPrepared (j : Jb) (r : Rr) : Jb := if 5 < r.kd then j else if r.kd = 2 then { j with ph := 3 } else { j with ph := 1 }
def hasRoom (j : Jb) (r : Rr) : Jb := if r.kd = 4 then j.finK 4 else { j with ph := 0 }
def hasLooked (j : Jb) (r : Rr) : Jb := if 5 < r.kd then j else { j with sp := versR r, ph := if (sawC j.sn.g r).h < j.sn.h then 5 else 6 }
def hasPut (j : Jb) (r : Rr) : Jb := { j with ph := if r.kd = 1 then 6 else 4 }
def hasSealed (j : Jb) : Jb := if j.ow = true then j.finK 1 else j.follow
def answer (j : Jb) (r : Rr) : Jb :=
  if j.ph = 0 then j.hasRead r
  else if j.ph = 1 then j.hasWritten r
  else if j.ph = 2 then j.hasPrepared r
  else if j.ph = 3 then j.hasRoom r
  else if j.ph = 4 then j.hasLooked r
  else if j.ph = 5 then j.hasPut r
  else if j.ph = 6 then j.hasSealed
  else j
/-- What is always so of one, whatever it is told. -/
structure Ok (j : Jb) : Prop where
  kd : 1 ≤ j.kd ∧ j.kd ≤ 5
  k1 : 1 ≤ j.k.length
  k2 : j.k.length ≤ 15
  v : j.v.length ≤ 32
  m : 0 ≤ j.m ∧ j.m ≤ 1099511627775
  tg : j.tg ≤ 4
  at1 : 1 ≤ j.at'
  at4 : j.at' ≤ 4
  st : j.st ≤ 3
  ph : j.ph ≤ 7
  sn : j.sn.Ok
  sns : (j.ph = 1 ∨ j.ph = 2 ∨ j.ph = 3) → j.sn.s = 0
  snm : (4 ≤ j.ph ∧ j.ph ≤ 6) → j.sn.s = 1
  nx : j.ph = 1 ∨ j.ph = 2 ∨ j.ph = 3 → j.nx.Ok
  nxm : 0 < j.tg → (j.ph = 1 ∨ j.ph = 2 ∨ j.ph = 3) → j.nx.s = 1
  to1 : j.ph = 2 ∨ j.ph = 3 → 0 < j.tg
  rk : j.rs.ks = []
  ek : j.re.ks = []
end Jb
theorem tell_ks (kd : Int) (v : List UInt8) (n : Int) : (tellRr kd v n).ks = [] := by unfold tellRr; split <;> rfl
theorem cmR_ks (kd m : Int) (v : List UInt8) (n : Nat) : (cmR kd m v n).ks = [] := by
  unfold cmR
  split
  · rfl
  · split
    · exact tell_ks _ _ _
    · split
      · unfold dropRr; split <;> rfl
      · split
        · split
          · rfl
          · exact tell_ks _ _ _
        · rfl
theorem cmN_zero {kd m : Int} {val v : List UInt8} {n : Nat} (hv : n = 0 → v = []) (h : cmN kd m n = 0) : cmV kd val m v n = [] := by
  unfold cmN at h
  unfold cmV
  split at h
  · omega
  · rename_i h1
    rw [if_neg h1]
    split at h
    · rename_i h2
      rw [if_pos h2]
      exact hv h
    · rename_i h2
      rw [if_neg h2]
      split at h
      · rename_i h3
        rw [if_pos h3]
      · rename_i h3
        rw [if_neg h3]
        split at h
        · rename_i h4
          rw [if_pos h4]
          split at h
          · omega
          · rename_i h5
            rw [if_neg h5]
            exact hv h
        · omega
theorem Ce.Ok.left {c : Ce} (h : c.Ok) (hs : c.s = 1) : c.left.Ok :=
  ⟨by simp [Ce.left], by simp [Ce.left], fun _ => rfl, by simp [Ce.left], h.h, fun e => by simp [Ce.left] at e, fun _ => h.g1 (by omega), fun _ => rfl⟩
theorem Ce.Ok.arrived {c : Ce} (h : c.Ok) : c.arrived.Ok :=
  ⟨h.v, h.n, h.vn, by simp [Ce.arrived], h.h, fun _ => rfl, fun e => absurd rfl e, fun e => by simp [Ce.arrived] at e⟩
theorem Ce.Ok.towards {c : Ce} (h : c.Ok) (hh : c.h ≠ 999999) {g : Nat} (hg : 1 ≤ g) (hg4 : g ≤ 4) : (c.towards g).Ok :=
  ⟨h.v, h.n, h.vn, by simp [Ce.towards], by have := h.h; simp [Ce.towards]; omega, fun e => by simp [Ce.towards] at e, fun _ => ⟨hg, hg4⟩, fun e => by simp [Ce.towards] at e⟩
namespace Jb
theorem Ok.fin {j : Jb} (h : j.Ok) {r : Rr} (hr : r.ks = []) : (j.fin r).Ok :=
  ⟨h.kd, h.k1, h.k2, h.v, h.m, h.tg, h.at1, h.at4, by simp [Jb.fin], by simp [Jb.fin], h.sn, fun e => by simp [Jb.fin] at e, fun e => by simp [Jb.fin] at e, fun e => by simp [Jb.fin] at e, fun _ e => by simp [Jb.fin] at e, fun e => by simp [Jb.fin] at e, hr, h.ek⟩
theorem Ok.follow {j : Jb} (h : j.Ok) (hs : j.sn.s ≠ 0) : j.follow.Ok :=
  ⟨h.kd, h.k1, h.k2, h.v, h.m, h.tg, (h.sn.g1 hs).1, (h.sn.g1 hs).2, h.st, by simp [Jb.follow], h.sn, fun e => by simp [Jb.follow] at e, fun e => by simp [Jb.follow] at e, fun e => by simp [Jb.follow] at e, fun _ e => by simp [Jb.follow] at e, fun e => by simp [Jb.follow] at e, h.rk, h.ek⟩
/-- A job that has seen something, and takes phase 0. -/
theorem Ok.zero {j : Jb} (h : j.Ok) {c : Ce} (hc : c.Ok) (m : Int) (p : Nat) (hp : p = 0) : ({ j with sn := c, sv := m, ph := p } : Jb).Ok :=
  ⟨h.kd, h.k1, h.k2, h.v, h.m, h.tg, h.at1, h.at4, h.st, by simp [hp], hc, fun e => by simp [hp] at e, fun e => by simp [hp] at e, fun e => by simp [hp] at e, fun _ e => by simp [hp] at e, fun e => by simp [hp] at e, h.rk, h.ek⟩
theorem Ok.ph0 {j : Jb} (h : j.Ok) : ({ j with ph := 0 } : Jb).Ok := Ok.zero h h.sn j.sv 0 rfl
theorem Ok.seen {j : Jb} (h : j.Ok) : j.seen.Ok := by
  unfold Jb.seen
  split
  · exact h.follow (by omega)
  · split
    · rename_i h2 h1
      exact ⟨h.kd, h.k1, h.k2, h.v, h.m, h.tg, h.at1, h.at4, h.st, by simp, h.sn, fun e => by simp at e, fun _ => h1, fun e => by simp at e, fun _ e => by simp at e, fun e => by simp at e, h.rk, h.ek⟩
    · rename_i h2 h1
      have h0 : j.sn.s = 0 := by have := h.sn.s; omega
      split
      · rename_i ht
        unfold Jb.handOver
        split
        · exact h.fin rfl
        · split
          · exact h.fin rfl
          · rename_i hh
            refine ⟨h.kd, h.k1, h.k2, h.v, h.m, h.tg, h.at1, h.at4, h.st, by simp, h.sn, fun _ => h0, fun e => by simp at e, fun _ => h.sn.towards hh ht h.tg, fun _ _ => rfl, fun _ => ht, h.rk, h.ek⟩
      · rename_i ht
        unfold Jb.apply
        split
        · exact h.fin rfl
        · rename_i hf
          simp only [Decidable.not_not] at hf
          split
          · exact h.fin (cmR_ks _ _ _ _)
          · refine ⟨h.kd, h.k1, h.k2, h.v, h.m, h.tg, h.at1, h.at4, h.st, by simp, h.sn, fun _ => h0, fun e => by simp at e, fun _ => ?_, fun e => absurd e ht, fun e => by simp at e, h.rk, cmR_ks _ _ _ _⟩
            exact ⟨hf.1, hf.2, fun e => cmN_zero h.sn.vn e, by simp, h.sn.h, fun _ => rfl, fun e => absurd rfl e, fun e => by simp at e⟩
theorem Ok.answer {j : Jb} (h : j.Ok) (r : Rr) : (j.answer r).Ok := by
  unfold Jb.answer
  split
  · rename_i hp
    unfold Jb.hasRead
    split
    · exact h
    · exact Ok.seen (Ok.zero h (sawC_ok _ _) _ _ hp)
  · split
    · rename_i hp
      unfold Jb.hasWritten
      have hnx := h.nx (.inl hp)
      split
      · rename_i hc
        exact ⟨h.kd, h.k1, h.k2, h.v, h.m, h.tg, h.at1, h.at4, h.st, by simp, hnx, fun e => by simp at e, fun _ => h.nxm hc.2 (.inl hp), fun e => by simp at e, fun _ e => by simp at e, fun e => by simp at e, h.rk, h.ek⟩
      · split
        · exact h.fin h.ek
        · split
          · exact h.fin rfl
          · split
            · exact ⟨h.kd, h.k1, h.k2, h.v, h.m, h.tg, h.at1, h.at4, by simp, by simp, h.sn, fun e => by simp at e, fun e => by simp at e, fun e => by simp at e, fun _ e => by simp at e, fun e => by simp at e, h.rk, h.ek⟩
            · exact h.ph0
    · split
      · rename_i hp
        have hnx := h.nx (.inr (.inl hp))
        have hs := h.sns (.inr (.inl hp))
        have ht := h.to1 (.inl hp)
        unfold Jb.hasPrepared
        split
        · exact h
        · split
          · exact ⟨h.kd, h.k1, h.k2, h.v, h.m, h.tg, h.at1, h.at4, h.st, by simp, h.sn, fun _ => hs, fun e => by simp at e, fun _ => hnx, fun e _ => h.nxm e (.inr (.inl hp)), fun _ => ht, h.rk, h.ek⟩
          · exact ⟨h.kd, h.k1, h.k2, h.v, h.m, h.tg, h.at1, h.at4, h.st, by simp, h.sn, fun _ => hs, fun e => by simp at e, fun _ => hnx, fun e _ => h.nxm e (.inr (.inl hp)), fun e => by simp at e, h.rk, h.ek⟩
      · split
        · unfold Jb.hasRoom
          split
          · exact h.fin rfl
          · exact h.ph0
        · split
          · rename_i hp
            have hs := h.snm ⟨by omega, by omega⟩
            unfold Jb.hasLooked
            split
            · exact h
            · refine ⟨h.kd, h.k1, h.k2, h.v, h.m, h.tg, h.at1, h.at4, h.st, ?_, h.sn, fun e => ?_, fun _ => hs, fun e => ?_, fun _ e => ?_, fun e => ?_, h.rk, h.ek⟩
              · simp only; split <;> omega
              all_goals (exfalso; revert e; simp only; split <;> omega)
          · split
            · rename_i hp
              have hs := h.snm ⟨by omega, by omega⟩
              unfold Jb.hasPut
              refine ⟨h.kd, h.k1, h.k2, h.v, h.m, h.tg, h.at1, h.at4, h.st, ?_, h.sn, fun e => ?_, fun _ => hs, fun e => ?_, fun _ e => ?_, fun e => ?_, h.rk, h.ek⟩
              · simp only; split <;> omega
              all_goals (exfalso; revert e; simp only; split <;> omega)
            · split
              · rename_i hp
                have hs := h.snm ⟨by omega, by omega⟩
                unfold Jb.hasSealed
                split
                · exact h.fin rfl
                · exact h.follow (by omega)
              · exact h
theorem Ok.new {kd : Int} {k v : List UInt8} {m : Int} {tg at' : Nat} (hkd : 1 ≤ kd ∧ kd ≤ 5) (h1 : 1 ≤ k.length) (h2 : k.length ≤ 15) (hv : v.length ≤ 32) (hm : 0 ≤ m ∧ m ≤ 1099511627775) (ht : tg ≤ 4) (ha : 1 ≤ at') (ha4 : at' ≤ 4) : (Jb.new kd k v m tg at').Ok :=
  ⟨hkd, h1, h2, hv, hm, ht, ha, ha4, by simp [Jb.new], by simp [Jb.new], unsaid_ok 1, fun e => by simp [Jb.new] at e, fun e => by simp [Jb.new] at e, fun e => by simp [Jb.new] at e, fun _ e => by simp [Jb.new] at e, fun e => by simp [Jb.new] at e, rfl, rfl⟩
end Jb
end Go.Proofs.YtflnjlbafchnaaaGreatDoor

/-
  'append' onto a row of the call's own: where what comes of it lies.
-/
namespace Go.Proofs.YtflnjlbafchnaaaGreatDoor
open Go.RowKit
variable {P : Program} (w : World)

end Go.Proofs.YtflnjlbafchnaaaGreatDoor

/-
  Transactions: one in memory.
-/
namespace Go.Proofs.YtflnjlbafchnaaaGreatDoor
open Go.RowKit

def intC (zs : List Int) : List Value := zs.map fun z => Value.int .i64 z
/-- Numbers of one's own. -/
def OwnI (B : Nat) (w : World) (ao : Option Addr) (c : Nat) (zs : List Int) : Prop := w.ownsRow B 3 1 (.slice ao zs.length c) zs.length (intC zs)
theorem OwnI.keptX {B c : Nat} {w w' : World} {ao : Option Addr} {zs : List Int} {X : Nat → Obj → Prop} (h : OwnI B w ao c zs) (hk : Kept X w w') (hX : ∀ a, ao = some a → ∀ o, ¬ X a.block o) : OwnI B w' ao c zs := by
  refine ⟨h.1, h.2.imp id ?_⟩
  rintro ⟨g, cap, cur, h1, h2, h3, h4⟩
  simp only [Value.slice.injEq] at h1
  refine ⟨g, cap, cur, by simp [h1], h2, hk.block _ _ h3 (hX _ h1.1 _), h4⟩
theorem OwnI.kept {B c : Nat} {w w' : World} {ao : Option Addr} {zs : List Int} (h : OwnI B w ao c zs) (hk : Kept Nil w w') : OwnI B w' ao c zs := h.keptX hk (fun _ _ _ x => x.elim)
theorem OwnI.lt {B c : Nat} {w : World} {ao : Option Addr} {zs : List Int} (h : OwnI B w ao c zs) : ∀ a, ao = some a → B ≤ a.block ∧ ∃ cur fr, w.heap[a.block]? = some (.cells cur 3 fr) := fun a ha => by
  rcases h.2 with ⟨h1, _⟩ | ⟨g, cap, cur, h1, h2, h3, _⟩
  · simp at h1
    rw [h1.1] at ha
    cases ha
  · simp only [Value.slice.injEq] at h1
    rw [h1.1] at ha
    cases ha
    exact ⟨h2, _, _, h3⟩
/-- A row of parts that lies below block B. -/
def PtRow (B : Nat) (w : World) (ao : Option Addr) (ps : List Pt) : Prop := ∀ j, (hj : j < ps.length) → ∃ a, ao = some a ∧ a.block < B ∧ w.cell? (a.add (j * 2)) = some (.string (bs ps[j].k)) ∧ w.cell? ⟨(a.add (j * 2)).block, (a.add (j * 2)).off + 1, none⟩ = some (.int .i64 ps[j].a)
theorem PtRow.keptX {B : Nat} {w w' : World} {ao : Option Addr} {ps : List Pt} {X : Nat → Obj → Prop} (h : PtRow B w ao ps) (hk : Kept X w w') (hX : ∀ a, ao = some a → ∀ o, ¬ X a.block o) : PtRow B w' ao ps := fun j hj => by
  obtain ⟨a, ha, hb, c0, c1⟩ := h j hj
  have hx := hX a ha
  refine ⟨a, ha, hb, cell_kept hk (by rw [show (a.add (j * 2)).block = a.block from by unfold Addr.add; split <;> rfl]; exact hx) c0, cell_kept hk (by show ∀ o, ¬ X (a.add (j * 2)).block o; rw [show (a.add (j * 2)).block = a.block from by unfold Addr.add; split <;> rfl]; exact hx) c1⟩
/-- A transaction's block. -/
def TxAt (w : World) (b : Nat) (t : Tx) (ap oo : Option Addr) (cp oc : Nat) : Prop := w.heap[b]? = some (.cells #[.int .i64 t.id, .slice ap t.ps.length cp, .int .i64 t.st, .slice oo t.old.length oc, .int .i64 t.ph, .int .i64 t.at', .int .i64 t.sn.n, .int .i64 t.sn.b, .int .i64 t.sn.t, .int .i64 t.vr, .bool t.hd, .int .i64 t.hv] 106 (0, 0))
theorem TxAt.s2 {w : World} {b : Nat} {t : Tx} {ap oo : Option Addr} {cp oc : Nat} (h : TxAt w b t ap oo cp oc) (x : Nat) : TxAt (w.setCell ⟨b, 2, none⟩ (.int .i64 (x : Nat))) b { t with st := x } ap oo cp oc := blk_set h 2 _
theorem TxAt.s4 {w : World} {b : Nat} {t : Tx} {ap oo : Option Addr} {cp oc : Nat} (h : TxAt w b t ap oo cp oc) (x : Nat) : TxAt (w.setCell ⟨b, 4, none⟩ (.int .i64 (x : Nat))) b { t with ph := x } ap oo cp oc := blk_set h 4 _
theorem TxAt.s5 {w : World} {b : Nat} {t : Tx} {ap oo : Option Addr} {cp oc : Nat} (h : TxAt w b t ap oo cp oc) (x : Nat) : TxAt (w.setCell ⟨b, 5, none⟩ (.int .i64 (x : Nat))) b { t with at' := x } ap oo cp oc := blk_set h 5 _
theorem TxAt.s9 {w : World} {b : Nat} {t : Tx} {ap oo : Option Addr} {cp oc : Nat} (h : TxAt w b t ap oo cp oc) (x : Int) : TxAt (w.setCell ⟨b, 9, none⟩ (.int .i64 x)) b { t with vr := x } ap oo cp oc := blk_set h 9 _
theorem TxAt.s10 {w : World} {b : Nat} {t : Tx} {ap oo : Option Addr} {cp oc : Nat} (h : TxAt w b t ap oo cp oc) (x : Bool) : TxAt (w.setCell ⟨b, 10, none⟩ (.bool x)) b { t with hd := x } ap oo cp oc := blk_set h 10 _
theorem TxAt.s11 {w : World} {b : Nat} {t : Tx} {ap oo : Option Addr} {cp oc : Nat} (h : TxAt w b t ap oo cp oc) (x : Int) : TxAt (w.setCell ⟨b, 11, none⟩ (.int .i64 x)) b { t with hv := x } ap oo cp oc := blk_set h 11 _
theorem TxAt.s3 {w : World} {b : Nat} {t : Tx} {ap oo : Option Addr} {cp oc : Nat} (h : TxAt w b t ap oo cp oc) (ao : Option Addr) (c : Nat) (zs : List Int) : TxAt (w.setCell ⟨b, 3, none⟩ (.slice ao zs.length c)) b { t with old := zs } ap ao cp c := blk_set h 3 _
theorem TxAt.keptX {w w' : World} {b : Nat} {t : Tx} {ap oo : Option Addr} {cp oc : Nat} {X : Nat → Obj → Prop} (h : TxAt w b t ap oo cp oc) (hk : Kept X w w') (hX : ∀ o, ¬ X b o) : TxAt w' b t ap oo cp oc := hk.block _ _ h (hX _)
theorem TxAt.kept {w w' : World} {b : Nat} {t : Tx} {ap oo : Option Addr} {cp oc : Nat} (h : TxAt w b t ap oo cp oc) (hk : Kept Nil w w') : TxAt w' b t ap oo cp oc := hk.block _ _ h (fun x => x.elim)
def cdV (c : Cd) : Value := .agg #[.int .i64 c.kd, .string (bs c.k), .string (bs c.v), .int .i64 c.m]
end Go.Proofs.YtflnjlbafchnaaaGreatDoor
