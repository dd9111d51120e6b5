/-
  Joined: WTxF, WTxH, WTxI, WTxJ, WTxK, WTxL, WTxP.
-/
import Derived.Test.YtgkacepcggjfkaaGreatDoorWTxA
import Derived.Test.YtgkacepcggjfkaaGreatDoorWTxG
/-
  Transactions, plainly: what is always so of one stays so.
-/
namespace Go.Proofs.YtgkacepcggjfkaaGreatDoor
namespace Tx

theorem further_ps (t : Tx) (p b : Nat) : (t.further p b).ps = t.ps ∧ (t.further p b).id = t.id ∧ (t.further p b).sn = t.sn ∧ (t.further p b).old = t.old ∧ (t.further p b).st = t.st := by
  unfold further
  split <;> exact ⟨rfl, rfl, rfl, rfl, rfl⟩
theorem further_at (t : Tx) (p b : Nat) (h : t.at' < t.ps.length) : (t.further p b).at' < t.ps.length ∧ (((t.further p b).ph = p ∧ (t.further p b).at' = t.at' + 1) ∨ ((t.further p b).ph = b ∧ (t.further p b).at' = 0 ∧ t.at' + 1 = t.ps.length)) := by
  unfold further
  split
  · rename_i h1
    exact ⟨by show 0 < _; omega, .inr ⟨rfl, rfl, h1⟩⟩
  · rename_i h1
    exact ⟨by show t.at' + 1 < _; omega, .inl ⟨rfl, rfl⟩⟩
/-- The part of it that no step touches. -/
structure Base (t : Tx) : Prop where
  id0 : 1 ≤ t.id
  id : t.id ≤ 999
  len : 1 ≤ t.ps.length
  len4 : t.ps.length ≤ 4
  keys : ∀ p ∈ t.ps, 1 ≤ p.k.length ∧ p.k.length ≤ 15 ∧ -999999999 ≤ p.a ∧ p.a ≤ 999999999
theorem Ok.base {t : Tx} (h : t.Ok) : t.Base := ⟨h.id0, h.id, h.len, h.len4, h.keys⟩
theorem Base.of {t u : Tx} (h : t.Base) (h1 : u.id = t.id) (h2 : u.ps = t.ps) : u.Base := ⟨by rw [h1]; exact h.id0, by rw [h1]; exact h.id, by rw [h2]; exact h.len, by rw [h2]; exact h.len4, by rw [h2]; exact h.keys⟩
theorem Ok.mk' {u : Tx} (hb : u.Base) (h1 : u.at' < u.ps.length) (h2 : u.sn.Ok) (h3 : u.old.length ≤ 4) (h4 : u.ph = 2 → 0 ≤ u.thenZ ∧ u.thenZ ≤ 999999999) (h5 : u.ph ≤ 10) (h6 : u.ph ≤ 7 → u.ph ≠ 6 → u.old.length = u.at') : u.Ok :=
  ⟨hb.id0, hb.id, hb.len, hb.len4, hb.keys, h1, h2, h3, h4, h5, h6⟩
theorem note_ok {t : Tx} (hb : t.Base) (ha : t.at' < t.ps.length) (hs : t.sn.Ok) (ho : t.old.length = t.at') : t.note.Ok := by
  unfold note
  obtain ⟨e1, e2, e3, e4, _⟩ := further_ps { t with old := t.old ++ [(t.sn.n : Int)] } 1 6
  obtain ⟨f1, f2⟩ := further_at { t with old := t.old ++ [(t.sn.n : Int)] } 1 6 ha
  have hl := hb.len4
  have ha' : t.at' < t.ps.length := ha
  refine Ok.mk' (hb.of e2 e1) (by rw [e1]; exact f1) (by rw [e3]; exact hs) (by rw [e4]; simp; omega) ?_ ?_ ?_
  · intro h
    rcases f2 with ⟨g, _⟩ | ⟨g, _⟩ <;> rw [g] at h <;> cases h
  · rcases f2 with ⟨g, _⟩ | ⟨g, _⟩ <;> rw [g] <;> omega
  · intro _ h6
    rcases f2 with ⟨g, g2⟩ | ⟨g, _⟩
    · rw [e4, g2]; simp; omega
    · exact absurd g h6
theorem further_ok {t : Tx} (h : t.Ok) : (t.further 8 10).Ok := by
  obtain ⟨e1, e2, e3, e4, _⟩ := further_ps t 8 10
  obtain ⟨f1, f2⟩ := further_at t 8 10 h.at'
  refine Ok.mk' (h.base.of e2 e1) (by rw [e1]; exact f1) (by rw [e3]; exact h.sn) (by rw [e4]; exact h.old) ?_ ?_ ?_
  · intro h
    rcases f2 with ⟨g, _⟩ | ⟨g, _⟩ <;> rw [g] at h <;> cases h
  · rcases f2 with ⟨g, _⟩ | ⟨g, _⟩ <;> rw [g] <;> omega
  · intro h7 _
    rcases f2 with ⟨g, _⟩ | ⟨g, _⟩ <;> rw [g] at h7 <;> omega
theorem answer_ok {t : Tx} (h : t.Ok) (r : Rr) : (t.answer r).Ok := by
  have hat := h.at'
  have hsn : (t.see r).sn.Ok := hdOf_ok _
  unfold answer
  split
  · rename_i hp
    unfold begun
    have ho := h.olds (by omega) (by omega)
    split
    · exact Ok.mk' (h.base.of rfl rfl) hat h.sn h.old (fun e => by cases e) (by show 1 ≤ 10; omega) (fun _ _ => ho)
    · exact Ok.mk' (h.base.of rfl rfl) hat h.sn h.old (fun e => by cases e) (by show 10 ≤ 10; omega) (fun e _ => absurd e (by show ¬ 10 ≤ 7; omega))
  split
  · rename_i hp
    have ho := h.olds (by omega) (by omega)
    unfold looked looked'
    split
    · exact note_ok (h.base.of rfl rfl) hat hsn ho
    split
    · exact Ok.mk' (h.base.of rfl rfl) hat hsn h.old (fun e => by cases e) (by show 3 ≤ 10; omega) (fun _ _ => ho)
    split
    · exact Ok.mk' (h.base.of rfl rfl) hat hsn h.old (fun e => by cases e) (by show 7 ≤ 10; omega) (fun _ _ => ho)
    · rename_i hz
      exact Ok.mk' (h.base.of rfl rfl) hat hsn h.old (fun _ => ⟨by show 0 ≤ (t.see r).thenZ; omega, by show (t.see r).thenZ ≤ 999999999; omega⟩) (by show 2 ≤ 10; omega) (fun _ _ => ho)
  split
  · rename_i hp
    have ho := h.olds (by omega) (by omega)
    unfold took
    split
    · exact note_ok (h.base.of rfl rfl) hat h.sn ho
    · exact Ok.mk' (h.base.of rfl rfl) hat h.sn h.old (fun e => by cases e) (by show 1 ≤ 10; omega) (fun _ _ => ho)
  split
  · rename_i hp
    have ho := h.olds (by omega) (by omega)
    unfold asked
    refine Ok.mk' (h.base.of rfl rfl) hat h.sn h.old ?_ ?_ (fun _ _ => ho)
    · intro e
      simp only at e
      split at e <;> cases e
    · show (if saidR r = wOpen then 4 else 5) ≤ 10
      split <;> omega
  split
  · rename_i hp
    have ho := h.olds (by omega) (by omega)
    exact Ok.mk' (h.base.of rfl rfl) hat h.sn h.old (fun e => by cases e) (by show 1 ≤ 10; omega) (fun _ _ => ho)
  split
  · unfold settle
    exact Ok.mk' (h.base.of rfl rfl) (by show 0 < t.ps.length; omega) h.sn h.old (fun e => by cases e) (by show 8 ≤ 10; omega) (fun e _ => absurd e (by show ¬ 8 ≤ 7; omega))
  split
  · unfold settle
    exact Ok.mk' (h.base.of rfl rfl) (by show 0 < t.ps.length; omega) h.sn h.old (fun e => by cases e) (by show 8 ≤ 10; omega) (fun e _ => absurd e (by show ¬ 8 ≤ 7; omega))
  split
  · rename_i hp
    have hs : (t.see r).Ok := Ok.mk' (h.base.of rfl rfl) hat hsn h.old (fun e => by have e2 : t.ph = 2 := e; omega) h.ph (fun e _ => by have e2 : t.ph ≤ 7 := e; omega)
    unfold cleared
    split
    · exact Ok.mk' (h.base.of rfl rfl) hat hsn h.old (fun e => by cases e) (by show 9 ≤ 10; omega) (fun e _ => absurd e (by show ¬ 9 ≤ 7; omega))
    · exact further_ok hs
  split
  · exact further_ok h
  · exact h
end Tx
end Go.Proofs.YtgkacepcggjfkaaGreatDoor

/-
  Transactions, plainly: the map as two functions of a key, and a transaction's step over them.
-/
namespace Go.Proofs.YtgkacepcggjfkaaGreatDoor

/-- What stands under the keys: the values and the versions. -/
structure St where
  v : List UInt8 → List UInt8
  n : List UInt8 → Int
def St.of (ps : List Pr) : St := ⟨fun k => spotV k ps, fun k => spotN k ps⟩
def St.put (s : St) (k x : List UInt8) : St := ⟨fun j => if j = k then x else s.v j, fun j => if j = k then s.n k + 1 else s.n j⟩
def St.swap (s : St) (k x : List UInt8) (m : Int) : St := if s.n k = m then s.put k x else s
namespace Tx
/-- An answer, by what it says, its version, and whether it is a yes. -/
def ans (t : Tx) (x : List UInt8) (m : Int) (ok : Bool) : Tx :=
  if t.ph = 0 then t.begun ok
  else if t.ph = 1 then ({ t with sn := hdOf x, vr := m } : Tx).looked'
  else if t.ph = 2 then t.took ok
  else if t.ph = 3 then { t with hd := decide (x = wDon), hv := m, ph := if x = wOpen then 4 else 5 }
  else if t.ph = 4 ∨ t.ph = 5 then { t with ph := 1 }
  else if t.ph = 6 then t.settle ok
  else if t.ph = 7 then t.settle false
  else if t.ph = 8 then (if (hdOf x).b = t.id then { t with sn := hdOf x, vr := m, ph := 9 } else ({ t with sn := hdOf x, vr := m } : Tx).further 8 10)
  else if t.ph = 9 then t.further 8 10
  else t
theorem answer_ans (t : Tx) (r : Rr) : t.answer r = t.ans (saidR r) (versR r) (decide (r.kd = 1)) := rfl
/-- The phases that read, and those that write. -/
def reads (t : Tx) : Prop := t.ph = 1 ∨ t.ph = 3 ∨ t.ph = 8
theorem ans_reads {t : Tx} (h : t.reads) (x : List UInt8) (m : Int) (o p : Bool) : t.ans x m o = t.ans x m p := by
  unfold ans
  rcases h with h | h | h <;> rw [h] <;> rfl
theorem ans_writes {t : Tx} (h : ¬ t.reads) (x y : List UInt8) (m k : Int) (o : Bool) : t.ans x m o = t.ans y k o := by
  unfold reads at h
  simp only [not_or] at h
  unfold ans
  rw [if_neg h.1, if_neg h.1, if_neg h.2.1, if_neg h.2.1, if_neg h.2.2, if_neg h.2.2]
theorem next_reads {t : Tx} (h : t.reads) : ∃ k, k ≠ [] ∧ t.next = (getC k, true) := by
  unfold next
  rcases h with h | h | h <;> rw [h]
  · exact ⟨_, by unfold key kKey; simp, rfl⟩
  · exact ⟨_, by unfold tKey; simp, rfl⟩
  · exact ⟨_, by unfold key kKey; simp, rfl⟩
theorem next_writes {t : Tx} (h : ¬ t.reads) (h9 : t.ph ≤ 9) : ∃ k x m, k ≠ [] ∧ t.next = (swapC k x m, true) := by
  unfold reads at h
  simp only [not_or] at h
  have : t.ph = 0 ∨ t.ph = 2 ∨ t.ph = 4 ∨ t.ph = 5 ∨ t.ph = 6 ∨ t.ph = 7 ∨ t.ph = 9 := by omega
  unfold next
  rcases this with e | e | e | e | e | e | e <;> rw [e]
  · exact ⟨_, _, _, by unfold tKey; simp, rfl⟩
  · exact ⟨_, _, _, by unfold key kKey; simp, rfl⟩
  · exact ⟨_, _, _, by unfold tKey; simp, rfl⟩
  · exact ⟨_, _, _, by unfold key kKey; simp, rfl⟩
  · exact ⟨_, _, _, by unfold tKey; simp, rfl⟩
  · exact ⟨_, _, _, by unfold tKey; simp, rfl⟩
  · exact ⟨_, _, _, by unfold key kKey; simp, rfl⟩
open Classical in
/-- A step. -/
noncomputable def go (t : Tx) (s : St) : St × Tx :=
  if t.reads then (s, t.ans (s.v t.next.1.k) (s.n t.next.1.k) true)
  else (s.swap t.next.1.k t.next.1.v t.next.1.m, t.ans [] 0 (decide (s.n t.next.1.k = t.next.1.m)))
end Tx
theorem get_vers {ps : List Pr} {key : List UInt8} (hok : pairsOk ps = true) (hc : isCmd 2 key [] 0 = true) : versR (apR 2 key [] 0 ps) = spotN key ps := by
  rw [(get_ap hok hc).2]
  by_cases hz : spotN key ps = 0
  · rw [if_pos hz, hz]
    rfl
  · rw [if_neg hz]
    rfl
/-- A step of a transaction over pairs is one over what stands under the keys. -/
theorem go_is {t : Tx} {ps : List Pr} (h9 : t.ph ≤ 9) (hok : pairsOk ps = true) (hc : isCmd t.next.1.kd t.next.1.k t.next.1.v t.next.1.m = true)
    (hl : ps.length < 32 ∨ ∃ p ∈ ps, p.k = t.next.1.k) (hm : spotN t.next.1.k ps < 1099511627775) :
    St.of (apP t.next.1.kd t.next.1.k t.next.1.v t.next.1.m ps) = (t.go (St.of ps)).1
      ∧ t.answer (apR t.next.1.kd t.next.1.k t.next.1.v t.next.1.m ps) = (t.go (St.of ps)).2
      ∧ pairsOk (apP t.next.1.kd t.next.1.k t.next.1.v t.next.1.m ps) = true
      ∧ ∀ p ∈ apP t.next.1.kd t.next.1.k t.next.1.v t.next.1.m ps, p.k = t.next.1.k ∨ ∃ q ∈ ps, q.k = p.k := by
  by_cases hr : t.reads
  · obtain ⟨k, _, e⟩ := Tx.next_reads hr
    unfold Tx.go
    rw [if_pos hr]
    rw [e] at hc ⊢
    replace hc : isCmd 2 k [] 0 = true := hc
    have hg := get_ap hok hc
    have h1 : saidR (apR 2 k [] 0 ps) = spotV k ps := get_tells hok hc
    have h2 := get_vers hok hc
    refine ⟨?_, ?_, ?_, fun p hp => ?_⟩
    · show St.of (apP 2 k [] 0 ps) = _
      rw [hg.1]
    · show t.answer (apR 2 k [] 0 ps) = _
      rw [Tx.answer_ans, h1, h2]
      exact Tx.ans_reads hr _ _ _ _
    · show pairsOk (apP 2 k [] 0 ps) = true
      rw [hg.1]
      exact hok
    · have hp' : p ∈ apP 2 k [] 0 ps := hp
      rw [hg.1] at hp'
      exact .inr ⟨p, hp', rfl⟩
  · obtain ⟨k, x, m, hk, e⟩ := Tx.next_writes hr h9
    unfold Tx.go
    rw [if_neg hr]
    rw [e] at hc hl hm ⊢
    replace hc : isCmd 4 k x m = true := hc
    have hl' : ps.length < 32 ∨ ∃ p ∈ ps, p.k = k := hl
    have hm' : spotN k ps < 1099511627775 := hm
    by_cases hn : spotN k ps = m
    · obtain ⟨e1, hs⟩ := swap_yes hok hc hn (fun hz => by
        rcases hl' with h | ⟨p, hp, ek⟩
        · exact h
        · exfalso
          have h4 := there_yes (pairs_ok hok).2.1 hp ek
          exact (spot_ok hok k).2.1.2 h4 (hn.trans hz)) (by rw [← hn]; exact hm') hk
      refine ⟨?_, ?_, hs.ok, hs.mem⟩
      · show St.of (apP 4 k x m ps) = (St.of ps).swap k x m
        have hsw : (St.of ps).swap k x m = (St.of ps).put k x := if_pos hn
        rw [hsw]
        unfold St.of St.put
        congr 1
        · funext j
          by_cases ej : j = k
          · rw [ej, if_pos rfl, hs.v]
          · rw [if_neg ej, (hs.oth j ej).1]
        · funext j
          by_cases ej : j = k
          · rw [ej, if_pos rfl, hs.n, ← hn]
          · rw [if_neg ej, (hs.oth j ej).2]
      · show t.answer (apR 4 k x m ps) = t.ans [] 0 (decide (spotN k ps = m))
        rw [Tx.answer_ans, e1, decide_eq_true hn]
        exact Tx.ans_writes hr _ _ _ _ _
    · obtain ⟨e1, e2⟩ := swap_no hok hc hn
      refine ⟨?_, ?_, ?_, fun p hp => ?_⟩
      · show St.of (apP 4 k x m ps) = (St.of ps).swap k x m
        rw [e1]
        exact (if_neg hn).symm
      · show t.answer (apR 4 k x m ps) = t.ans [] 0 (decide (spotN k ps = m))
        rw [Tx.answer_ans, decide_eq_false hn, decide_eq_false e2]
        exact Tx.ans_writes hr _ _ _ _ _
      · show pairsOk (apP 4 k x m ps) = true
        rw [e1]
        exact hok
      · have hp' : p ∈ apP 4 k x m ps := hp
        rw [e1] at hp'
        exact .inr ⟨p, hp', rfl⟩
end Go.Proofs.YtgkacepcggjfkaaGreatDoor

/-
  Transactions, plainly: what holds at every moment of some that share a map.
-/
namespace Go.Proofs.YtgkacepcggjfkaaGreatDoor

def St.hAt (s : St) (k : List UInt8) : Hd := hdOf (s.v (kKey k))
def St.num (s : St) (k : List UInt8) : Nat := (s.hAt k).settled (decide (s.v (tKey (s.hAt k).b) = wDon))
/-- Versions rise, and a value changes with its version alone. -/
def St.Ext (s u : St) : Prop := ∀ k, s.n k ≤ u.n k ∧ (u.n k = s.n k → u.v k = s.v k)
theorem St.Ext.refl (s : St) : s.Ext s := fun _ => ⟨Int.le_refl _, fun _ => rfl⟩
theorem St.put_ext (s : St) (k x : List UInt8) : s.Ext (s.put k x) := fun j => by
  unfold St.put
  by_cases e : j = k
  · subst e
    simp only [if_true]
    exact ⟨by omega, fun h => by omega⟩
  · exact ⟨Int.le_of_eq (if_neg e).symm, fun _ => if_neg e⟩
theorem St.swap_ext (s : St) (k x : List UInt8) (m : Int) : s.Ext (s.swap k x m) := by
  unfold St.swap
  split
  · exact s.put_ext k x
  · exact .refl s
theorem kt_ne (k : List UInt8) (b : Nat) : kKey k ≠ tKey b := by
  unfold kKey tKey
  simp
theorem kKey_inj {k j : List UInt8} (h : kKey k = kKey j) : k = j := by
  unfold kKey at h
  simpa using h
/-- The phases in which what was seen counts. -/
def Tx.minds (t : Tx) : Prop := t.ph = 2 ∨ t.ph = 3 ∨ t.ph = 4 ∨ t.ph = 5 ∨ t.ph = 9
/-- What holds of one of them. -/
structure TS (s : St) (T : Nat → Tx) (In : Nat → Prop) (b : Nat) (t : Tx) : Prop where
  id : t.id = b
  ok : t.Ok
  inj : ∀ (i j : Nat) (p q : Pt), t.ps[i]? = some p → t.ps[j]? = some q → p.k = q.k → i = j
  run : t.ph ≤ 7 → t.st = 1
  r0 : t.ph = 0 → s.n (tKey b) = 0 ∧ t.old = []
  r1 : t.ph ≠ 0 → (s.n (tKey b) = 1 ∧ s.v (tKey b) = wOpen) ∨ (s.n (tKey b) = 2 ∧ (s.v (tKey b) = wOff ∨ s.v (tKey b) = wDon))
  done : s.v (tKey b) = wDon ↔ t.st = 2
  ended : 8 ≤ t.ph → s.v (tKey b) ≠ wOpen
  held : s.v (tKey b) = wOpen → ∀ (j : Nat) (p : Pt), j < t.old.length → t.ps[j]? = some p → (s.hAt p.k).b = b
  six : t.ph = 6 → t.old.length = t.ps.length
  olds : t.old.length ≤ t.ps.length
  seen : t.minds → t.vr ≤ s.n t.key ∧ (s.n t.key = t.vr → s.hAt t.part.k = t.sn)
  two : t.ph = 2 → t.sn.b = 0
  three : t.ph = 3 ∨ t.ph = 4 ∨ t.ph = 5 → t.sn.b ≠ b ∧ In t.sn.b ∧ (T t.sn.b).ph ≠ 0 ∧ ∃ p ∈ (T t.sn.b).ps, p.k = t.part.k
  four : t.ph = 4 → t.hv = 1
  five : t.ph = 5 → s.v (tKey t.sn.b) ≠ wOpen ∧ t.hd = decide (s.v (tKey t.sn.b) = wDon)
  nine : t.ph = 9 → t.sn.b = b
abbrev TI (s : St) (T : Nat → Tx) (In : Nat → Prop) (b : Nat) : Prop := TS s T In b (T b)
/-- What holds of what stands under a key: nobody has it, or one that noted it. -/
def VI (s : St) (T : Nat → Tx) (In : Nat → Prop) (k : List UInt8) : Prop :=
  (s.hAt k).b = 0 ∨ (In (s.hAt k).b ∧ ∃ (j : Nat) (p : Pt), (T (s.hAt k).b).ps[j]? = some p ∧ (T (s.hAt k).b).old[j]? = some ((s.hAt k).n : Int) ∧ p.k = k ∧ ((s.hAt k).t : Int) = (s.hAt k).n + p.a)
structure Inv (s : St) (T : Nat → Tx) (In : Nat → Prop) : Prop where
  pos : ∀ b, In b → 1 ≤ b
  t : ∀ b, In b → TI s T In b
  v : ∀ k, VI s T In k
def upd (T : Nat → Tx) (b : Nat) (t : Tx) : Nat → Tx := fun c => if c = b then t else T c
theorem upd_same (T : Nat → Tx) (b : Nat) (t : Tx) : upd T b t b = t := if_pos rfl
theorem upd_ne (T : Nat → Tx) {b c : Nat} (t : Tx) (h : c ≠ b) : upd T b t c = T c := if_neg h
/-- What a step of one leaves to the others. -/
structure Leaves (s u : St) (T : Nat → Tx) (In : Nat → Prop) (b : Nat) (t : Tx) : Prop where
  ext : s.Ext u
  ps : t.ps = (T b).ps
  ph : (T b).ph ≠ 0 → t.ph ≠ 0
  /-- the others' records: as they were, or open and now off -/
  rc : ∀ c, In c → c ≠ b → (u.n (tKey c) = s.n (tKey c) ∧ u.v (tKey c) = s.v (tKey c)) ∨ (s.n (tKey c) = 1 ∧ s.v (tKey c) = wOpen ∧ u.n (tKey c) = 2 ∧ u.v (tKey c) = wOff)
  /-- a record that is no longer open stays -/
  shut : ∀ c, In c → (T c).ph ≠ 0 → s.v (tKey c) ≠ wOpen → u.v (tKey c) = s.v (tKey c)
  /-- what one whose record is open holds it goes on to hold -/
  hold : ∀ c k, In c → c ≠ b → s.v (tKey c) = wOpen → (s.hAt k).b = c → (u.hAt k).b = c
theorem wOff_ne : wOff ≠ wOpen := by decide
theorem wDon_ne : wDon ≠ wOpen := by decide
theorem wOff_done : wOff ≠ wDon := by decide
theorem TS.others {s u : St} {T : Nat → Tx} {In : Nat → Prop} {b c : Nat} {t : Tx} (hl : Leaves s u T In b t) (hc : In c) (hn : c ≠ b) (h : TI s T In c) : TI u (upd T b t) In c := by
  have e : upd T b t c = T c := upd_ne T t hn
  have hr := hl.rc c hc hn
  constructor
  · rw [e]; exact h.id
  · rw [e]; exact h.ok
  · rw [e]; exact h.inj
  · rw [e]; exact h.run
  · rw [e]
    intro h0
    have := h.r0 h0
    rcases hr with hr | hr
    · exact ⟨by rw [hr.1]; exact this.1, this.2⟩
    · exact absurd this.1 (by rw [hr.1]; decide)
  · rw [e]
    intro h0
    rcases hr with hr | hr
    · rw [hr.1, hr.2]; exact h.r1 h0
    · exact .inr ⟨hr.2.2.1, .inl hr.2.2.2⟩
  · rw [e]
    rcases hr with hr | hr
    · rw [hr.2]; exact h.done
    · rw [hr.2.2.2, ← h.done, hr.2.1]
      decide
  · rw [e]
    intro h8
    rcases hr with hr | hr
    · rw [hr.2]; exact h.ended h8
    · rw [hr.2.2.2]; exact wOff_ne
  · rw [e]
    intro ho j p hj hp
    rcases hr with hr | hr
    · rw [hr.2] at ho
      exact hl.hold c p.k hc hn ho (h.held ho j p hj hp)
    · rw [hr.2.2.2] at ho
      exact absurd ho wOff_ne
  · rw [e]; exact h.six
  · rw [e]; exact h.olds
  · rw [e]
    intro hm
    obtain ⟨h1, h2⟩ := h.seen hm
    have hx := hl.ext (T c).key
    refine ⟨Int.le_trans h1 hx.1, fun eq => ?_⟩
    have e1 : s.n (T c).key = (T c).vr := by have := hx.1; omega
    have e2 := hx.2 (by omega)
    have e3 := h2 e1
    unfold St.hAt at e3 ⊢
    have e4 : kKey (T c).part.k = (T c).key := rfl
    rw [e4] at e3 ⊢
    rw [e2]
    exact e3
  · rw [e]; exact h.two
  · rw [e]
    intro h3
    obtain ⟨a1, a2, a3, a4⟩ := h.three h3
    refine ⟨a1, a2, ?_, ?_⟩
    · by_cases eb : (T c).sn.b = b
      · rw [eb, upd_same]; rw [eb] at a3; exact hl.ph a3
      · rw [upd_ne T t eb]; exact a3
    · by_cases eb : (T c).sn.b = b
      · rw [eb, upd_same, hl.ps]; rw [eb] at a4; exact a4
      · rw [upd_ne T t eb]; exact a4
  · rw [e]; exact h.four
  · rw [e]
    intro h5
    obtain ⟨a1, a2⟩ := h.five h5
    obtain ⟨_, b2, b3, _⟩ := h.three (.inr (.inr h5))
    rw [hl.shut _ b2 b3 a1]
    exact ⟨a1, a2⟩
  · rw [e]; exact h.nine
theorem TS.self {u : St} {T : Nat → Tx} {In : Nat → Prop} {b : Nat} {t : Tx} (h : TS u T In b t) : TI u (upd T b t) In b := by
  have e : upd T b t b = t := upd_same T b t
  unfold TI
  rw [e]
  refine { h with three := fun h3 => ?_ }
  obtain ⟨a1, a2, a3, a4⟩ := h.three h3
  rw [upd_ne T t a1]
  exact ⟨a1, a2, a3, a4⟩
theorem VI.keep {s u : St} {T : Nat → Tx} {In : Nat → Prop} {b : Nat} {t : Tx} {k : List UInt8} (he : u.hAt k = s.hAt k) (hps : t.ps = (T b).ps) (hold : ∀ (j : Nat) z, (T b).old[j]? = some z → t.old[j]? = some z) (h : VI s T In k) : VI u (upd T b t) In k := by
  unfold VI at h ⊢
  rw [he]
  rcases h with h | ⟨h1, j, p, h2, h3, h4⟩
  · exact .inl h
  · refine .inr ⟨h1, j, p, ?_, ?_, h4⟩
    · by_cases eb : (s.hAt k).b = b
      · rw [eb, upd_same, hps]; rw [eb] at h2; exact h2
      · rw [upd_ne T t eb]; exact h2
    · by_cases eb : (s.hAt k).b = b
      · rw [eb, upd_same]; rw [eb] at h3; exact hold _ _ h3
      · rw [upd_ne T t eb]; exact h3
theorem Inv.step {s u : St} {T : Nat → Tx} {In : Nat → Prop} {b : Nat} {t : Tx} (h : Inv s T In) (hl : Leaves s u T In b t) (ht : TS u T In b t) (hv : ∀ k, VI u (upd T b t) In k) : Inv u (upd T b t) In := by
  refine ⟨h.pos, fun c hc => ?_, hv⟩
  by_cases e : c = b
  · subst e
    exact ht.self
  · exact TS.others hl hc e (h.t c hc)
theorem Leaves.same (s : St) {T : Nat → Tx} (In : Nat → Prop) {b : Nat} {t : Tx} (hps : t.ps = (T b).ps) (h0 : t.ph ≠ 0) : Leaves s s T In b t :=
  ⟨.refl s, hps, fun _ => h0, fun _ _ _ => .inl ⟨rfl, rfl⟩, fun _ _ _ _ => rfl, fun _ _ _ _ _ h => h⟩
/-- A step that reads alone and notes nothing. -/
theorem Inv.read {s : St} {T : Nat → Tx} {In : Nat → Prop} {b : Nat} {t : Tx} (h : Inv s T In) (hb : In b) (h0 : (T b).ph ≠ 0) (h0' : t.ph ≠ 0) (hok : t.Ok) (hid : t.id = (T b).id) (hps : t.ps = (T b).ps) (hst : t.st = (T b).st) (hold : t.old = (T b).old)
    (h7 : t.ph ≤ 7 → (T b).ph ≤ 7) (h8 : 8 ≤ t.ph → 8 ≤ (T b).ph) (h6 : t.ph ≠ 6)
    (seen : t.minds → t.vr ≤ s.n t.key ∧ (s.n t.key = t.vr → s.hAt t.part.k = t.sn))
    (two : t.ph = 2 → t.sn.b = 0)
    (three : t.ph = 3 ∨ t.ph = 4 ∨ t.ph = 5 → t.sn.b ≠ b ∧ In t.sn.b ∧ (T t.sn.b).ph ≠ 0 ∧ ∃ p ∈ (T t.sn.b).ps, p.k = t.part.k)
    (four : t.ph = 4 → t.hv = 1)
    (five : t.ph = 5 → s.v (tKey t.sn.b) ≠ wOpen ∧ t.hd = decide (s.v (tKey t.sn.b) = wDon))
    (nine : t.ph = 9 → t.sn.b = b) : Inv s (upd T b t) In := by
  have g := h.t b hb
  refine h.step (Leaves.same s In hps h0') ?_ (fun k => VI.keep rfl hps (fun j z e => by rw [hold]; exact e) (h.v k))
  exact ⟨hid.trans g.id, hok, by rw [hps]; exact g.inj, fun e => by rw [hst]; exact g.run (h7 e), fun e => absurd e h0', fun _ => g.r1 h0, by rw [hst]; exact g.done, fun e => g.ended (h8 e), by rw [hold, hps]; exact g.held, fun e => absurd e h6, by rw [hold, hps]; exact g.olds, seen, two, three, four, five, nine⟩
end Go.Proofs.YtgkacepcggjfkaaGreatDoor

/-
  Transactions, plainly: the steps that read keep what holds at every moment.
-/
namespace Go.Proofs.YtgkacepcggjfkaaGreatDoor

theorem Tx.ans_ok {t : Tx} (h : t.Ok) (x : List UInt8) (m : Int) : (t.ans x m true).Ok := by
  have := Tx.answer_ok h ⟨1, x, m, []⟩
  rw [Tx.answer_ans] at this
  exact this
theorem Tx.ans_ok0 {t : Tx} (h : t.Ok) : (t.ans [] 0 false).Ok := by
  have := Tx.answer_ok h ⟨2, [], 0, []⟩
  rw [Tx.answer_ans] at this
  exact this
theorem Tx.part_at {t : Tx} (h : t.Ok) : t.ps[t.at']? = some t.part := by
  unfold Tx.part
  rw [List.getElem?_eq_getElem h.at']
  rfl
/-- What a transaction that begins upon a part has not yet noted it does not hold. -/
theorem Inv.not_mine {s : St} {T : Nat → Tx} {In : Nat → Prop} {b : Nat} (h : Inv s T In) (hb : In b) (ho : (T b).old.length = (T b).at') : (s.hAt (T b).part.k).b ≠ b := by
  have g := h.t b hb
  intro e
  rcases h.v (T b).part.k with hv | ⟨_, j, p, h2, h3, h4, _⟩
  · rw [e] at hv
    have := h.pos b hb
    omega
  · rw [e] at h2 h3
    have hj : j < (T b).old.length := (List.getElem?_eq_some_iff.1 h3).1
    have := g.inj _ _ _ _ h2 (Tx.part_at g.ok) h4
    omega
/-- Who holds a key is one in play, has begun, and has that key. -/
theorem Inv.holder {s : St} {T : Nat → Tx} {In : Nat → Prop} (h : Inv s T In) {k : List UInt8} (hp : 0 < (s.hAt k).b) : In (s.hAt k).b ∧ (T (s.hAt k).b).ph ≠ 0 ∧ ∃ p ∈ (T (s.hAt k).b).ps, p.k = k := by
  rcases h.v k with hv | ⟨h1, j, p, h2, h3, h4, _⟩
  · omega
  · refine ⟨h1, fun e => ?_, p, List.mem_of_getElem? h2, h4⟩
    rw [((h.t _ h1).r0 e).2] at h3
    simp at h3
theorem Inv.step1 {s : St} {T : Nat → Tx} {In : Nat → Prop} {b : Nat} (h : Inv s T In) (hb : In b) (h1 : (T b).ph = 1) : Inv s (upd T b ((T b).ans (s.v (T b).key) (s.n (T b).key) true)) In := by
  have g := h.t b hb
  have hne := h.not_mine hb (g.ok.olds (by omega) (by omega))
  have hok := Tx.ans_ok g.ok (s.v (T b).key) (s.n (T b).key)
  have ea : (T b).ans (s.v (T b).key) (s.n (T b).key) true = ({ (T b) with sn := s.hAt (T b).part.k, vr := s.n (T b).key } : Tx).looked' := by
    unfold Tx.ans
    rw [if_neg (by omega), if_pos h1]
    rfl
  rw [ea] at hok ⊢
  unfold Tx.looked' at hok ⊢
  have hne' : ¬ ({ (T b) with sn := s.hAt (T b).part.k, vr := s.n (T b).key } : Tx).sn.b = ({ (T b) with sn := s.hAt (T b).part.k, vr := s.n (T b).key } : Tx).id := fun e => hne (e.trans g.id)
  rw [if_neg hne'] at hok ⊢
  by_cases hp : 0 < (s.hAt (T b).part.k).b
  · rw [if_pos hp] at hok ⊢
    obtain ⟨a1, a2, a3⟩ := h.holder hp
    exact h.read hb (by omega) (by show (3 : Nat) ≠ 0; decide) hok rfl rfl rfl rfl (fun _ => by omega) (fun e => absurd (show 8 ≤ (3 : Nat) from e) (by decide)) (by show (3 : Nat) ≠ 6; decide) (fun _ => ⟨Int.le_refl _, fun _ => rfl⟩) (fun e => absurd (show (3 : Nat) = 2 from e) (by decide)) (fun _ => ⟨hne, a1, a2, a3⟩) (fun e => absurd (show (3 : Nat) = 4 from e) (by decide)) (fun e => absurd (show (3 : Nat) = 5 from e) (by decide)) (fun e => absurd (show (3 : Nat) = 9 from e) (by decide))
  · rw [if_neg hp] at hok ⊢
    split at hok
    · rename_i hz
      rw [if_pos hz]
      exact h.read hb (by omega) (by show (7 : Nat) ≠ 0; decide) hok rfl rfl rfl rfl (fun _ => by omega) (fun e => absurd (show 8 ≤ (7 : Nat) from e) (by decide)) (by show (7 : Nat) ≠ 6; decide) (fun e => absurd (show (7 : Nat) = 2 ∨ (7 : Nat) = 3 ∨ (7 : Nat) = 4 ∨ (7 : Nat) = 5 ∨ (7 : Nat) = 9 from e) (by decide)) (fun e => absurd (show (7 : Nat) = 2 from e) (by decide)) (fun e => absurd (show (7 : Nat) = 3 ∨ (7 : Nat) = 4 ∨ (7 : Nat) = 5 from e) (by decide)) (fun e => absurd (show (7 : Nat) = 4 from e) (by decide)) (fun e => absurd (show (7 : Nat) = 5 from e) (by decide)) (fun e => absurd (show (7 : Nat) = 9 from e) (by decide))
    · rename_i hz
      rw [if_neg hz]
      exact h.read hb (by omega) (by show (2 : Nat) ≠ 0; decide) hok rfl rfl rfl rfl (fun _ => by omega) (fun e => absurd (show 8 ≤ (2 : Nat) from e) (by decide)) (by show (2 : Nat) ≠ 6; decide) (fun _ => ⟨Int.le_refl _, fun _ => rfl⟩) (fun _ => by show (s.hAt (T b).part.k).b = 0; omega) (fun e => absurd (show (2 : Nat) = 3 ∨ (2 : Nat) = 4 ∨ (2 : Nat) = 5 from e) (by decide)) (fun e => absurd (show (2 : Nat) = 4 from e) (by decide)) (fun e => absurd (show (2 : Nat) = 5 from e) (by decide)) (fun e => absurd (show (2 : Nat) = 9 from e) (by decide))
theorem Inv.step3 {s : St} {T : Nat → Tx} {In : Nat → Prop} {b : Nat} (h : Inv s T In) (hb : In b) (h3 : (T b).ph = 3) : Inv s (upd T b ((T b).ans (s.v (tKey (T b).sn.b)) (s.n (tKey (T b).sn.b)) true)) In := by
  have g := h.t b hb
  have hok := Tx.ans_ok g.ok (s.v (tKey (T b).sn.b)) (s.n (tKey (T b).sn.b))
  have ea : (T b).ans (s.v (tKey (T b).sn.b)) (s.n (tKey (T b).sn.b)) true = { (T b) with hd := decide (s.v (tKey (T b).sn.b) = wDon), hv := s.n (tKey (T b).sn.b), ph := if s.v (tKey (T b).sn.b) = wOpen then 4 else 5 } := by
    unfold Tx.ans
    rw [if_neg (by omega), if_neg (by omega), if_neg (by omega), if_pos h3]
  obtain ⟨a1, a2, a3, a4⟩ := g.three (.inl h3)
  have gs := g.seen (.inr (.inl h3))
  rw [ea] at hok ⊢
  by_cases ho : s.v (tKey (T b).sn.b) = wOpen
  · rw [if_pos ho] at hok ⊢
    exact h.read hb (by omega) (by show (4 : Nat) ≠ 0; decide) hok rfl rfl rfl rfl (fun _ => by omega) (fun e => absurd (show 8 ≤ (4 : Nat) from e) (by decide)) (by show (4 : Nat) ≠ 6; decide) (fun _ => gs) (fun e => absurd (show (4 : Nat) = 2 from e) (by decide)) (fun _ => ⟨a1, a2, a3, a4⟩) (fun _ => by
      rcases (h.t _ a2).r1 a3 with r | r
      · exact r.1
      · rw [ho] at r
        exact absurd r.2 (by decide)) (fun e => absurd (show (4 : Nat) = 5 from e) (by decide)) (fun e => absurd (show (4 : Nat) = 9 from e) (by decide))
  · rw [if_neg ho] at hok ⊢
    exact h.read hb (by omega) (by show (5 : Nat) ≠ 0; decide) hok rfl rfl rfl rfl (fun _ => by omega) (fun e => absurd (show 8 ≤ (5 : Nat) from e) (by decide)) (by show (5 : Nat) ≠ 6; decide) (fun _ => gs) (fun e => absurd (show (5 : Nat) = 2 from e) (by decide)) (fun _ => ⟨a1, a2, a3, a4⟩) (fun e => absurd (show (5 : Nat) = 4 from e) (by decide)) (fun _ => ⟨ho, rfl⟩) (fun e => absurd (show (5 : Nat) = 9 from e) (by decide))
/-- The next part is cleared, or the transaction is at its end. -/
theorem Inv.on {s : St} {T : Nat → Tx} {In : Nat → Prop} {b : Nat} {t : Tx} (h : Inv s T In) (hb : In b) (h8 : 8 ≤ (T b).ph) (hok : (t.further 8 10).Ok) (hid : t.id = (T b).id) (hps : t.ps = (T b).ps) (hst : t.st = (T b).st) (hold : t.old = (T b).old) : Inv s (upd T b (t.further 8 10)) In := by
  obtain ⟨f1, f2, f3, f4, f5⟩ := Tx.further_ps t 8 10
  have hp : (t.further 8 10).ph = 8 ∨ (t.further 8 10).ph = 10 := by
    unfold Tx.further
    split
    · exact .inr rfl
    · exact .inl rfl
  exact h.read hb (by omega) (by omega) hok (f2.trans hid) (f1.trans hps) (f5.trans hst) (f4.trans hold) (fun e => by omega) (fun _ => h8) (by omega) (fun e => by unfold Tx.minds at e; omega) (fun e => by omega) (fun e => by omega) (fun e => by omega) (fun e => by omega) (fun e => by omega)
theorem Inv.step8 {s : St} {T : Nat → Tx} {In : Nat → Prop} {b : Nat} (h : Inv s T In) (hb : In b) (h8 : (T b).ph = 8) : Inv s (upd T b ((T b).ans (s.v (T b).key) (s.n (T b).key) true)) In := by
  have g := h.t b hb
  have hok := Tx.ans_ok g.ok (s.v (T b).key) (s.n (T b).key)
  have ea : (T b).ans (s.v (T b).key) (s.n (T b).key) true = (if (s.hAt (T b).part.k).b = (T b).id then { (T b) with sn := s.hAt (T b).part.k, vr := s.n (T b).key, ph := 9 } else ({ (T b) with sn := s.hAt (T b).part.k, vr := s.n (T b).key } : Tx).further 8 10) := by
    unfold Tx.ans
    rw [if_neg (by omega), if_neg (by omega), if_neg (by omega), if_neg (by omega), if_neg (by omega), if_neg (by omega), if_neg (by omega), if_pos h8]
    rfl
  rw [ea] at hok ⊢
  by_cases hm : (s.hAt (T b).part.k).b = (T b).id
  · rw [if_pos hm] at hok ⊢
    exact h.read hb (by omega) (by show (9 : Nat) ≠ 0; decide) hok rfl rfl rfl rfl (fun e => absurd (show (9 : Nat) ≤ 7 from e) (by decide)) (fun _ => by omega) (by show (9 : Nat) ≠ 6; decide) (fun _ => ⟨Int.le_refl _, fun _ => rfl⟩) (fun e => absurd (show (9 : Nat) = 2 from e) (by decide)) (fun e => absurd (show (9 : Nat) = 3 ∨ (9 : Nat) = 4 ∨ (9 : Nat) = 5 from e) (by decide)) (fun e => absurd (show (9 : Nat) = 4 from e) (by decide)) (fun e => absurd (show (9 : Nat) = 5 from e) (by decide)) (fun _ => hm.trans g.id)
  · rw [if_neg hm] at hok ⊢
    exact h.on hb (by omega) hok rfl rfl rfl rfl
end Go.Proofs.YtgkacepcggjfkaaGreatDoor

/-
  Transactions, plainly: the steps that write a record keep what holds at every moment.
-/
namespace Go.Proofs.YtgkacepcggjfkaaGreatDoor

theorem hdOf_dec {n : Nat} (h : n ≤ 999999999) : hdOf (Lib.decDigits n) = ⟨n, 0, 0⟩ := by
  have := hdOf_txt (h := ⟨n, 0, 0⟩) ⟨h, Nat.zero_le _, Nat.zero_le _, fun _ => rfl⟩
  exact this
theorem tKey_inj {a b : Nat} (ha : a ≤ 999) (hb : b ≤ 999) (h : tKey a = tKey b) : a = b := by
  unfold tKey at h
  have h2 : Lib.decDigits a = Lib.decDigits b := by simpa using h
  have h3 := hdOf_dec (n := a) (by omega)
  rw [h2, hdOf_dec (by omega)] at h3
  have := congrArg Hd.n h3
  exact this.symm
theorem St.put_at (s : St) (k x : List UInt8) : (s.put k x).v k = x ∧ (s.put k x).n k = s.n k + 1 := ⟨if_pos rfl, if_pos rfl⟩
theorem St.put_off (s : St) {k j : List UInt8} (x : List UInt8) (h : j ≠ k) : (s.put k x).v j = s.v j ∧ (s.put k x).n j = s.n j := ⟨if_neg h, if_neg h⟩
theorem St.hAt_rec (s : St) (c : Nat) (x k : List UInt8) : (s.put (tKey c) x).hAt k = s.hAt k := by
  unfold St.hAt
  rw [(s.put_off x (kt_ne k c)).1]
theorem Inv.le {s : St} {T : Nat → Tx} {In : Nat → Prop} (h : Inv s T In) {c : Nat} (hc : In c) : c ≤ 999 := by
  have g := h.t c hc
  have := g.ok.id
  rw [g.id] at this
  exact this
theorem St.hAt_le (s : St) (k : List UInt8) : (s.hAt k).b ≤ 999 := (hdOf_ok _).b
/-- A record is written: the numbers of all keys stay, if it was not done and is not done now, or if nobody could ask. -/
theorem St.num_rec {s : St} {c : Nat} {x k : List UInt8} (hc : c ≤ 999) (h : (s.hAt k).b = c → (x = wDon ↔ s.v (tKey c) = wDon)) : (s.put (tKey c) x).num k = s.num k := by
  unfold St.num
  rw [s.hAt_rec]
  by_cases e : (s.hAt k).b = c
  · rw [e, (s.put_at _ _).1]
    congr 1
    exact decide_eq_decide.2 (h e)
  · rw [(s.put_off x (fun e2 => e (tKey_inj (s.hAt_le k) hc e2))).1]
/-- One's own record is written, by one that begins or while it is open. -/
theorem Leaves.mine {s : St} {T : Nat → Tx} {In : Nat → Prop} {b : Nat} {t : Tx} {x : List UInt8} (h : Inv s T In) (hb : In b) (hps : t.ps = (T b).ps) (h0 : t.ph ≠ 0) (ho : (T b).ph = 0 ∨ s.v (tKey b) = wOpen) : Leaves s (s.put (tKey b) x) T In b t := by
  have off : ∀ c, In c → c ≠ b → tKey c ≠ tKey b := fun c hc hn e => hn (tKey_inj (h.le hc) (h.le hb) e)
  refine ⟨s.put_ext _ _, hps, fun _ => h0, fun c hc hn => .inl ⟨(s.put_off x (off c hc hn)).2, (s.put_off x (off c hc hn)).1⟩, fun c hc hp hv => ?_, fun c k _ _ _ e => by rw [s.hAt_rec]; exact e⟩
  by_cases e : c = b
  · subst e
    rcases ho with ho | ho
    · exact absurd ho hp
    · exact absurd ho hv
  · exact (s.put_off x (off c hc e)).1
theorem Inv.step0 {s : St} {T : Nat → Tx} {In : Nat → Prop} {b : Nat} (h : Inv s T In) (hb : In b) (h0 : (T b).ph = 0) :
    s.n (tKey b) = 0 ∧ Inv (s.put (tKey b) wOpen) (upd T b ((T b).ans [] 0 true)) In ∧ ∀ k, (s.put (tKey b) wOpen).num k = s.num k := by
  have g := h.t b hb
  have hok := Tx.ans_ok g.ok [] 0
  have ea : (T b).ans [] 0 true = { (T b) with ph := 1 } := by
    unfold Tx.ans
    rw [if_pos h0]
    rfl
  rw [ea] at hok ⊢
  obtain ⟨r1, r2⟩ := g.r0 h0
  obtain ⟨p1, p2⟩ := s.put_at (tKey b) wOpen
  have hst := g.run (by omega)
  refine ⟨r1, h.step (Leaves.mine h hb rfl (by show (1 : Nat) ≠ 0; decide) (.inl h0)) ?_ (fun k => VI.keep (s.hAt_rec _ _ _) rfl (fun _ _ e => e) (h.v k)), fun k => St.num_rec (h.le hb) (fun e => ?_)⟩
  · exact ⟨g.id, hok, g.inj, fun _ => hst, fun e => absurd (show (1 : Nat) = 0 from e) (by decide), fun _ => .inl ⟨by rw [p2, r1]; rfl, p1⟩, by rw [p1]; show wOpen = wDon ↔ (T b).st = 2; rw [hst]; decide, fun e => absurd (show 8 ≤ (1 : Nat) from e) (by decide), fun _ j p hj _ => by
        have hj' : j < (T b).old.length := hj
        rw [r2] at hj'
        simp at hj', fun e => absurd (show (1 : Nat) = 6 from e) (by decide), g.olds, fun e => absurd (show (1 : Nat) = 2 ∨ (1 : Nat) = 3 ∨ (1 : Nat) = 4 ∨ (1 : Nat) = 5 ∨ (1 : Nat) = 9 from e) (by decide), fun e => absurd (show (1 : Nat) = 2 from e) (by decide), fun e => absurd (show (1 : Nat) = 3 ∨ (1 : Nat) = 4 ∨ (1 : Nat) = 5 from e) (by decide), fun e => absurd (show (1 : Nat) = 4 from e) (by decide), fun e => absurd (show (1 : Nat) = 5 from e) (by decide), fun e => absurd (show (1 : Nat) = 9 from e) (by decide)⟩
  · have hp := h.pos b hb
    have := (h.holder (k := k) (by omega)).2.1
    rw [e] at this
    exact absurd h0 this
/-- A transaction settles: its record is shut. -/
theorem Inv.settles {s u : St} {T : Nat → Tx} {In : Nat → Prop} {b : Nat} {d : Bool} (h : Inv s T In) (hb : In b) (hok : ((T b).settle d).Ok) (hl : Leaves s u T In b ((T b).settle d)) (hh : ∀ k, u.hAt k = s.hAt k) (hn : u.n (tKey b) = 2) (hv : u.v (tKey b) = if d = true then wDon else wOff) : Inv u (upd T b ((T b).settle d)) In := by
  have g := h.t b hb
  have hno : u.v (tKey b) ≠ wOpen := by
    rw [hv]
    cases d <;> decide
  refine h.step hl ?_ (fun k => VI.keep (hh k) rfl (fun _ _ e => e) (h.v k))
  exact ⟨g.id, hok, g.inj, fun e => absurd (show (8 : Nat) ≤ 7 from e) (by decide), fun e => absurd (show (8 : Nat) = 0 from e) (by decide), fun _ => .inr ⟨hn, by rw [hv]; cases d <;> decide⟩, by
      rw [hv]
      show (if d = true then wDon else wOff) = wDon ↔ (if d = true then 2 else 3) = 2
      cases d <;> decide, fun _ => hno, fun e => absurd e hno, fun e => absurd (show (8 : Nat) = 6 from e) (by decide), g.olds, fun e => absurd (show (8 : Nat) = 2 ∨ (8 : Nat) = 3 ∨ (8 : Nat) = 4 ∨ (8 : Nat) = 5 ∨ (8 : Nat) = 9 from e) (by decide), fun e => absurd (show (8 : Nat) = 2 from e) (by decide), fun e => absurd (show (8 : Nat) = 3 ∨ (8 : Nat) = 4 ∨ (8 : Nat) = 5 from e) (by decide), fun e => absurd (show (8 : Nat) = 4 from e) (by decide), fun e => absurd (show (8 : Nat) = 5 from e) (by decide), fun e => absurd (show (8 : Nat) = 9 from e) (by decide)⟩
theorem Inv.shutOff {s : St} {T : Nat → Tx} {In : Nat → Prop} {b : Nat} (h : Inv s T In) (hb : In b) (h7 : (T b).ph = 6 ∨ (T b).ph = 7) (hn : s.n (tKey b) ≠ 1) : s.n (tKey b) = 2 ∧ s.v (tKey b) = wOff := by
  have g := h.t b hb
  have hst := g.run (by omega)
  rcases g.r1 (by omega) with r | r
  · exact absurd r.1 hn
  · refine ⟨r.1, r.2.resolve_right (fun e => ?_)⟩
    have := g.done.1 e
    omega
theorem Inv.isOpen {s : St} {T : Nat → Tx} {In : Nat → Prop} {b : Nat} (h : Inv s T In) (hb : In b) (h0 : (T b).ph ≠ 0) (hn : s.n (tKey b) = 1) : s.v (tKey b) = wOpen := by
  rcases (h.t b hb).r1 h0 with r | r
  · exact r.2
  · omega
theorem Inv.step67no {s : St} {T : Nat → Tx} {In : Nat → Prop} {b : Nat} (h : Inv s T In) (hb : In b) (h7 : (T b).ph = 6 ∨ (T b).ph = 7) (hn : s.n (tKey b) ≠ 1) : Inv s (upd T b ((T b).ans [] 0 false)) In := by
  have g := h.t b hb
  have hok := Tx.ans_ok0 g.ok
  have ea : (T b).ans [] 0 false = (T b).settle false := by
    unfold Tx.ans
    rcases h7 with e | e <;> rw [e] <;> rfl
  rw [ea] at hok ⊢
  obtain ⟨r1, r2⟩ := h.shutOff hb h7 hn
  exact h.settles hb hok (Leaves.same s In rfl (by show (8 : Nat) ≠ 0; decide)) (fun _ => rfl) r1 r2
theorem Inv.step7 {s : St} {T : Nat → Tx} {In : Nat → Prop} {b : Nat} (h : Inv s T In) (hb : In b) (h7 : (T b).ph = 7) (hn : s.n (tKey b) = 1) : Inv (s.put (tKey b) wOff) (upd T b ((T b).ans [] 0 true)) In ∧ ∀ k, (s.put (tKey b) wOff).num k = s.num k := by
  have g := h.t b hb
  have hok := Tx.ans_ok g.ok [] 0
  have ea : (T b).ans [] 0 true = (T b).settle false := by
    unfold Tx.ans
    rw [h7]
    rfl
  rw [ea] at hok ⊢
  have ho := h.isOpen hb (by omega) hn
  obtain ⟨p1, p2⟩ := s.put_at (tKey b) wOff
  exact ⟨h.settles hb hok (Leaves.mine h hb rfl (by show (8 : Nat) ≠ 0; decide) (.inr ho)) (fun _ => s.hAt_rec _ _ _) (by rw [p2, hn]; rfl) p1, fun k => St.num_rec (h.le hb) (fun _ => by rw [ho]; decide)⟩
/-- A transaction is committed. -/
theorem Inv.step6 {s : St} {T : Nat → Tx} {In : Nat → Prop} {b : Nat} (h : Inv s T In) (hb : In b) (h6 : (T b).ph = 6) (hn : s.n (tKey b) = 1) :
    Inv (s.put (tKey b) wDon) (upd T b ((T b).ans [] 0 true)) In
      ∧ (∀ (j : Nat) (p : Pt), (T b).ps[j]? = some p → (T b).old[j]? = some (s.num p.k : Int) ∧ ((s.put (tKey b) wDon).num p.k : Int) = s.num p.k + p.a)
      ∧ ∀ k, (∀ p ∈ (T b).ps, p.k ≠ k) → (s.put (tKey b) wDon).num k = s.num k := by
  have g := h.t b hb
  have hok := Tx.ans_ok g.ok [] 0
  have ea : (T b).ans [] 0 true = (T b).settle true := by
    unfold Tx.ans
    rw [h6]
    rfl
  rw [ea] at hok ⊢
  have ho := h.isOpen hb (by omega) hn
  have hpos := h.pos b hb
  obtain ⟨p1, p2⟩ := s.put_at (tKey b) wDon
  refine ⟨h.settles hb hok (Leaves.mine h hb rfl (by show (8 : Nat) ≠ 0; decide) (.inr ho)) (fun _ => s.hAt_rec _ _ _) (by rw [p2, hn]; rfl) p1, fun j p hp => ?_, fun k hk => St.num_rec (h.le hb) (fun e => ?_)⟩
  · have hj : j < (T b).old.length := by
      rw [g.six h6]
      exact (List.getElem?_eq_some_iff.1 hp).1
    have hh := g.held ho j p hj hp
    have hs : s.num p.k = (s.hAt p.k).n := by
      unfold St.num Hd.settled
      rw [hh, ho]
      exact if_neg (fun e => absurd e.1 (by decide))
    have hu : (s.put (tKey b) wDon).num p.k = (s.hAt p.k).t := by
      unfold St.num Hd.settled
      rw [s.hAt_rec, hh, p1]
      exact if_pos ⟨by decide, hpos⟩
    rcases h.v p.k with hv | ⟨_, i, q, h2, h3, h4, h5⟩
    · omega
    · rw [hh] at h2 h3
      have hij := g.inj _ _ _ _ h2 hp h4
      subst hij
      rw [hp] at h2
      obtain rfl := Option.some.inj h2
      rw [hs, hu]
      exact ⟨h3, h5⟩
  · rcases h.v k with hv | ⟨_, i, q, h2, _, h4, _⟩
    · omega
    · rw [e] at h2
      exact absurd h4 (hk q (List.mem_of_getElem? h2))
theorem Inv.back1 {s : St} {T : Nat → Tx} {In : Nat → Prop} {b : Nat} (h : Inv s T In) (hb : In b) (h4 : (T b).ph = 2 ∨ (T b).ph = 4 ∨ (T b).ph = 5) (hok : ({ (T b) with ph := 1 } : Tx).Ok) : Inv s (upd T b { (T b) with ph := 1 }) In :=
  h.read hb (by omega) (by show (1 : Nat) ≠ 0; decide) hok rfl rfl rfl rfl (fun _ => by omega) (fun e => absurd (show 8 ≤ (1 : Nat) from e) (by decide)) (by show (1 : Nat) ≠ 6; decide) (fun e => absurd (show (1 : Nat) = 2 ∨ (1 : Nat) = 3 ∨ (1 : Nat) = 4 ∨ (1 : Nat) = 5 ∨ (1 : Nat) = 9 from e) (by decide)) (fun e => absurd (show (1 : Nat) = 2 from e) (by decide)) (fun e => absurd (show (1 : Nat) = 3 ∨ (1 : Nat) = 4 ∨ (1 : Nat) = 5 from e) (by decide)) (fun e => absurd (show (1 : Nat) = 4 from e) (by decide)) (fun e => absurd (show (1 : Nat) = 5 from e) (by decide)) (fun e => absurd (show (1 : Nat) = 9 from e) (by decide))
/-- Another is turned off. -/
theorem Inv.step4 {s : St} {T : Nat → Tx} {In : Nat → Prop} {b : Nat} (h : Inv s T In) (hb : In b) (h4 : (T b).ph = 4) (hn : s.n (tKey (T b).sn.b) = 1) : Inv (s.put (tKey (T b).sn.b) wOff) (upd T b ((T b).ans [] 0 true)) In ∧ ∀ k, (s.put (tKey (T b).sn.b) wOff).num k = s.num k := by
  have g := h.t b hb
  have hok := Tx.ans_ok g.ok [] 0
  have ea : (T b).ans [] 0 true = { (T b) with ph := 1 } := by
    unfold Tx.ans
    rw [if_neg (by omega), if_neg (by omega), if_neg (by omega), if_neg (by omega), if_pos (.inl h4)]
  rw [ea] at hok ⊢
  obtain ⟨a1, a2, a3, a4⟩ := g.three (.inr (.inl h4))
  have ho := h.isOpen a2 a3 hn
  obtain ⟨p1, p2⟩ := s.put_at (tKey (T b).sn.b) wOff
  have off : ∀ c, In c → c ≠ (T b).sn.b → tKey c ≠ tKey (T b).sn.b := fun c hc hne e => hne (tKey_inj (h.le hc) (h.le a2) e)
  obtain ⟨q1, q2⟩ := s.put_off wOff (off b hb (Ne.symm a1))
  refine ⟨h.step ⟨s.put_ext _ _, rfl, fun _ => by show (1 : Nat) ≠ 0; decide, fun c hc _ => ?_, fun c hc hp hv => ?_, fun c k _ _ _ e => by rw [s.hAt_rec]; exact e⟩ ?_ (fun k => VI.keep (s.hAt_rec _ _ _) rfl (fun _ _ e => e) (h.v k)), fun k => St.num_rec (h.le a2) (fun _ => by rw [ho]; decide)⟩
  · by_cases e : c = (T b).sn.b
    · rw [e]
      exact .inr ⟨hn, ho, by rw [p2, hn]; rfl, p1⟩
    · exact .inl ⟨(s.put_off wOff (off c hc e)).2, (s.put_off wOff (off c hc e)).1⟩
  · by_cases e : c = (T b).sn.b
    · rw [e] at hv
      exact absurd ho hv
    · exact (s.put_off wOff (off c hc e)).1
  · exact ⟨g.id, hok, g.inj, fun _ => g.run (by omega), fun e => absurd (show (1 : Nat) = 0 from e) (by decide), fun _ => by rw [q1, q2]; exact g.r1 (by omega), by rw [q1]; exact g.done, fun e => absurd (show 8 ≤ (1 : Nat) from e) (by decide), fun e j p hj hp => by
        rw [s.hAt_rec]
        rw [q1] at e
        exact g.held e j p hj hp, fun e => absurd (show (1 : Nat) = 6 from e) (by decide), g.olds, fun e => absurd (show (1 : Nat) = 2 ∨ (1 : Nat) = 3 ∨ (1 : Nat) = 4 ∨ (1 : Nat) = 5 ∨ (1 : Nat) = 9 from e) (by decide), fun e => absurd (show (1 : Nat) = 2 from e) (by decide), fun e => absurd (show (1 : Nat) = 3 ∨ (1 : Nat) = 4 ∨ (1 : Nat) = 5 from e) (by decide), fun e => absurd (show (1 : Nat) = 4 from e) (by decide), fun e => absurd (show (1 : Nat) = 5 from e) (by decide), fun e => absurd (show (1 : Nat) = 9 from e) (by decide)⟩
end Go.Proofs.YtgkacepcggjfkaaGreatDoor

/-
  Transactions, plainly: the steps that write a number keep what holds at every moment.
-/
namespace Go.Proofs.YtgkacepcggjfkaaGreatDoor

theorem St.rec_key (s : St) (k x : List UInt8) (c : Nat) : (s.put (kKey k) x).v (tKey c) = s.v (tKey c) ∧ (s.put (kKey k) x).n (tKey c) = s.n (tKey c) := s.put_off x (Ne.symm (kt_ne k c))
theorem St.hAt_key (s : St) (k x : List UInt8) : (s.put (kKey k) x).hAt k = hdOf x := by
  unfold St.hAt
  rw [(s.put_at _ _).1]
theorem St.hAt_off (s : St) {k j : List UInt8} (x : List UInt8) (h : j ≠ k) : (s.put (kKey k) x).hAt j = s.hAt j := by
  unfold St.hAt
  rw [(s.put_off x (fun e => h (kKey_inj e))).1]
theorem St.num_off (s : St) {k j : List UInt8} (x : List UInt8) (h : j ≠ k) : (s.put (kKey k) x).num j = s.num j := by
  unfold St.num
  rw [s.hAt_off x h, (s.rec_key k x _).1]
theorem Leaves.key {s : St} {T : Nat → Tx} {In : Nat → Prop} {b : Nat} {t : Tx} (k x : List UInt8) (hps : t.ps = (T b).ps) (h0 : t.ph ≠ 0) (hk : ∀ c, In c → c ≠ b → s.v (tKey c) = wOpen → (s.hAt k).b ≠ c) : Leaves s (s.put (kKey k) x) T In b t := by
  refine ⟨s.put_ext _ _, hps, fun _ => h0, fun c _ _ => .inl ⟨(s.rec_key k x c).2, (s.rec_key k x c).1⟩, fun c _ _ _ => (s.rec_key k x c).1, fun c j hc hn ho e => ?_⟩
  by_cases ej : j = k
  · subst ej
    exact absurd e (hk c hc hn ho)
  · rw [s.hAt_off x ej]
    exact e
theorem upd_id (T : Nat → Tx) (b : Nat) : upd T b (T b) = T := by
  funext c
  unfold upd
  split
  · rename_i e
    rw [e]
  · rfl
/-- A key is made free: it has the number that it had. -/
theorem Inv.freed {s : St} {T : Nat → Tx} {In : Nat → Prop} {b m : Nat} (h : Inv s T In) (hb : In b) (h5 : (T b).ph = 5 ∨ (T b).ph = 9) (hm : m ≤ 999999999) (hn : s.n (T b).key = (T b).vr) (hs : s.v (tKey (T b).sn.b) ≠ wOpen) (hnum : m = (T b).sn.settled (decide (s.v (tKey (T b).sn.b) = wDon))) :
    Inv (s.put (T b).key (Lib.decDigits m)) T In ∧ ∀ k, (s.put (T b).key (Lib.decDigits m)).num k = s.num k := by
  have g := h.t b hb
  have hsn := (g.seen (by unfold Tx.minds; omega)).2 hn
  have hu : (s.put (kKey (T b).part.k) (Lib.decDigits m)).hAt (T b).part.k = ⟨m, 0, 0⟩ := by rw [s.hAt_key, hdOf_dec hm]
  have hk : (T b).key = kKey (T b).part.k := rfl
  have hr := fun c => s.rec_key (T b).part.k (Lib.decDigits m) c
  obtain ⟨_, p2⟩ := s.put_at (T b).key (Lib.decDigits m)
  refine ⟨?_, fun k => ?_⟩
  · have hv : ∀ k, VI (s.put (kKey (T b).part.k) (Lib.decDigits m)) (upd T b (T b)) In k := fun k => by
      by_cases e : k = (T b).part.k
      · subst e
        left
        rw [hu]
      · exact VI.keep (s.hAt_off _ e) rfl (fun _ _ e => e) (h.v k)
    have ht : TS (s.put (kKey (T b).part.k) (Lib.decDigits m)) T In b (T b) := by
      refine { g with r0 := ?_, r1 := ?_, done := ?_, ended := ?_, held := ?_, seen := ?_, five := ?_ }
      · rw [(hr b).2]; exact g.r0
      · rw [(hr b).1, (hr b).2]; exact g.r1
      · rw [(hr b).1]; exact g.done
      · rw [(hr b).1]; exact g.ended
      · rw [(hr b).1]
        intro ho j p hj hp
        have := g.held ho j p hj hp
        by_cases e : p.k = (T b).part.k
        · rw [e, hsn] at this
          rw [this] at hs
          exact absurd ho hs
        · rw [s.hAt_off _ e]
          exact this
      · intro _
        rw [← hk, p2, hn]
        exact ⟨by omega, fun e => by omega⟩
      · rw [(hr _).1]; exact g.five
    have := h.step (Leaves.key (s := s) (T := T) (In := In) (b := b) (t := T b) (T b).part.k (Lib.decDigits m) rfl (by omega) (fun c _ _ ho e => by
      rw [hsn] at e
      rw [e] at hs
      exact hs ho)) ht hv
    rw [upd_id] at this
    exact this
  · rw [hk]
    by_cases e : k = (T b).part.k
    · subst e
      unfold St.num
      rw [hu, hsn, ← hnum]
      unfold Hd.settled
      exact if_neg (fun e => absurd (show 0 < (0 : Nat) from e.2) (by decide))
    · exact s.num_off _ e
theorem settled_most {h : Hd} (ho : h.Ok) (d : Bool) : h.settled d ≤ 999999999 := by
  unfold Hd.settled
  split
  · exact ho.t
  · exact ho.n
theorem Inv.step5 {s : St} {T : Nat → Tx} {In : Nat → Prop} {b : Nat} (h : Inv s T In) (hb : In b) (h5 : (T b).ph = 5) (hn : s.n (T b).key = (T b).vr) :
    Inv (s.put (T b).key (Tx.numT ((T b).sn.settled (T b).hd) 0 0)) (upd T b ((T b).ans [] 0 true)) In ∧ ∀ k, (s.put (T b).key (Tx.numT ((T b).sn.settled (T b).hd) 0 0)).num k = s.num k := by
  have g := h.t b hb
  have hok := Tx.ans_ok g.ok [] 0
  have ea : (T b).ans [] 0 true = { (T b) with ph := 1 } := by
    unfold Tx.ans
    rw [if_neg (by omega), if_neg (by omega), if_neg (by omega), if_neg (by omega), if_pos (.inr h5)]
  rw [ea] at hok ⊢
  obtain ⟨a1, a2⟩ := g.five h5
  obtain ⟨b1, b2⟩ := h.freed hb (.inl h5) (settled_most g.ok.sn (T b).hd) hn a1 (by rw [a2])
  exact ⟨b1.back1 hb (.inr (.inr h5)) hok, b2⟩
theorem Inv.step9 {s : St} {T : Nat → Tx} {In : Nat → Prop} {b : Nat} (h : Inv s T In) (hb : In b) (h9 : (T b).ph = 9) (hn : s.n (T b).key = (T b).vr) :
    Inv (s.put (T b).key (Tx.numT ((T b).sn.settled (decide ((T b).st = 2))) 0 0)) (upd T b ((T b).ans [] 0 true)) In ∧ ∀ k, (s.put (T b).key (Tx.numT ((T b).sn.settled (decide ((T b).st = 2))) 0 0)).num k = s.num k := by
  have g := h.t b hb
  have hok := Tx.ans_ok g.ok [] 0
  have ea : (T b).ans [] 0 true = (T b).further 8 10 := by
    unfold Tx.ans
    rw [h9]
    rfl
  rw [ea] at hok ⊢
  have hb9 := g.nine h9
  obtain ⟨b1, b2⟩ := h.freed hb (.inr h9) (settled_most g.ok.sn (decide ((T b).st = 2))) hn (by rw [hb9]; exact g.ended (by omega)) (by rw [hb9, decide_eq_decide.2 g.done])
  exact ⟨b1.on hb (by omega) hok rfl rfl rfl rfl, b2⟩
/-- The writes that find another version. -/
theorem Inv.no9 {s : St} {T : Nat → Tx} {In : Nat → Prop} {b : Nat} (h : Inv s T In) (hb : In b) (h9 : (T b).ph = 9) : Inv s (upd T b ((T b).ans [] 0 false)) In := by
  have g := h.t b hb
  have hok := Tx.ans_ok0 g.ok
  have ea : (T b).ans [] 0 false = (T b).further 8 10 := by
    unfold Tx.ans
    rw [h9]
    rfl
  rw [ea] at hok ⊢
  exact h.on hb (by omega) hok rfl rfl rfl rfl
theorem Inv.no245 {s : St} {T : Nat → Tx} {In : Nat → Prop} {b : Nat} (h : Inv s T In) (hb : In b) (h4 : (T b).ph = 2 ∨ (T b).ph = 4 ∨ (T b).ph = 5) : Inv s (upd T b ((T b).ans [] 0 false)) In := by
  have g := h.t b hb
  have hok := Tx.ans_ok0 g.ok
  have ea : (T b).ans [] 0 false = { (T b) with ph := 1 } := by
    unfold Tx.ans
    rcases h4 with e | e | e <;> rw [e] <;> rfl
  rw [ea] at hok ⊢
  exact h.back1 hb h4 hok
theorem hdOf_numT {n b : Nat} {z : Int} (hn : n ≤ 999999999) (hb1 : 1 ≤ b) (hb : b ≤ 999) (hz : 0 ≤ z) (hz1 : z ≤ 999999999) : hdOf (Tx.numT n b z) = ⟨n, b, z.toNat⟩ := by
  have := hdOf_txt (h := ⟨n, b, z.toNat⟩) ⟨hn, hb, by show z.toNat ≤ 999999999; omega, fun e => absurd (show b = 0 from e) (by omega)⟩
  have hi : Lib.itoa z = Lib.decDigits z.toNat := by
    have := itoa_nat z.toNat
    rw [Int.toNat_of_nonneg hz] at this
    exact this
  have ht : Tx.numT n b z = Hd.txt ⟨n, b, z.toNat⟩ := by
    unfold Tx.numT Hd.txt
    rw [if_neg (by omega), hi]
    exact (if_neg (show ¬ b = 0 by omega)).symm
  rw [ht]
  exact this
/-- A part is held. -/
theorem Inv.step2 {s : St} {T : Nat → Tx} {In : Nat → Prop} {b : Nat} (h : Inv s T In) (hb : In b) (h2 : (T b).ph = 2) (hn : s.n (T b).key = (T b).vr) :
    Inv (s.put (T b).key (Tx.numT (T b).sn.n (T b).id (T b).thenZ)) (upd T b ((T b).ans [] 0 true)) In ∧ ∀ k, (s.put (T b).key (Tx.numT (T b).sn.n (T b).id (T b).thenZ)).num k = s.num k := by
  have g := h.t b hb
  have hok := Tx.ans_ok g.ok [] 0
  have ea : (T b).ans [] 0 true = ({ (T b) with ph := 1, old := (T b).old ++ [((T b).sn.n : Int)] } : Tx).further 1 6 := by
    unfold Tx.ans
    rw [h2]
    rfl
  rw [ea] at hok ⊢
  have hsn := (g.seen (.inl h2)).2 hn
  have hb0 := g.two h2
  have hst := g.run (by omega)
  have hpos := h.pos b hb
  obtain ⟨z0, z1⟩ := g.ok.hold h2
  obtain ⟨x, hx⟩ : ∃ x, x = Tx.numT (T b).sn.n (T b).id (T b).thenZ := ⟨_, rfl⟩
  have hd : hdOf x = ⟨(T b).sn.n, b, (T b).thenZ.toNat⟩ := by
    rw [hx, g.id]
    exact hdOf_numT g.ok.sn.n hpos (h.le hb) z0 z1
  rw [← hx]
  have hk : (T b).key = kKey (T b).part.k := rfl
  rw [hk]
  have hu : (s.put (kKey (T b).part.k) x).hAt (T b).part.k = ⟨(T b).sn.n, b, (T b).thenZ.toNat⟩ := by rw [s.hAt_key, hd]
  have hr := fun c => s.rec_key (T b).part.k x c
  have ho := g.ok.olds (by omega) (by omega)
  have hat := g.ok.at'
  obtain ⟨t, ht⟩ : ∃ t, t = ({ (T b) with ph := 1, old := (T b).old ++ [((T b).sn.n : Int)] } : Tx).further 1 6 := ⟨_, rfl⟩
  rw [← ht] at hok ⊢
  obtain ⟨f1, f2, f3, f4, f5⟩ := Tx.further_ps ({ (T b) with ph := 1, old := (T b).old ++ [((T b).sn.n : Int)] } : Tx) 1 6
  rw [← ht] at f1 f2 f4 f5
  have f1' : t.ps = (T b).ps := f1
  have f2' : t.id = (T b).id := f2
  have f4' : t.old = (T b).old ++ [((T b).sn.n : Int)] := f4
  have f5' : t.st = (T b).st := f5
  have hlen : t.old.length = (T b).at' + 1 := by rw [f4', List.length_append, ho]; rfl
  have hph : (t.ph = 1) ∨ (t.ph = 6 ∧ (T b).at' + 1 = (T b).ps.length) := by
    rw [ht]
    unfold Tx.further
    split
    · rename_i e
      exact .inr ⟨rfl, e⟩
    · exact .inl rfl
  have hnd : s.v (tKey b) ≠ wDon := fun e => by
    have := g.done.1 e
    omega
  refine ⟨h.step (Leaves.key _ _ f1' (by omega) (fun c hc _ _ e => ?_)) ?_ (fun k => ?_), fun k => ?_⟩
  · rw [hsn, hb0] at e
    have := h.pos c hc
    omega
  · exact ⟨f2'.trans g.id, hok, by rw [f1']; exact g.inj, fun _ => by rw [f5']; exact hst, fun e => by omega, fun _ => by rw [(hr b).1, (hr b).2]; exact g.r1 (by omega), by rw [(hr b).1, f5']; exact g.done, fun e => by omega, fun e j p hj hp => by
        rw [f1'] at hp
        rw [(hr b).1] at e
        by_cases ek : p.k = (T b).part.k
        · rw [ek, hu]
        · rw [s.hAt_off _ ek]
          refine g.held e j p ?_ hp
          rw [hlen] at hj
          rw [ho]
          have : j ≠ (T b).at' := fun ej => by
            subst ej
            rw [Tx.part_at g.ok] at hp
            exact ek (by rw [Option.some.inj hp])
          omega, fun e => by rw [hlen, f1']; omega, by rw [hlen, f1']; omega, fun e => by unfold Tx.minds at e; omega, fun e => by omega, fun e => by omega, fun e => by omega, fun e => by omega, fun e => by omega⟩
  · by_cases e : k = (T b).part.k
    · subst e
      unfold VI
      rw [hu]
      refine .inr ⟨hb, (T b).at', (T b).part, ?_, ?_, rfl, ?_⟩
      · show (upd T b t b).ps[(T b).at']? = _
        rw [upd_same, f1']
        exact Tx.part_at g.ok
      · show (upd T b t b).old[(T b).at']? = _
        rw [upd_same, f4', ← ho]
        simp
      · show ((T b).thenZ.toNat : Int) = (T b).sn.n + (T b).part.a
        rw [Int.toNat_of_nonneg z0]
        rfl
    · exact VI.keep (s.hAt_off _ e) f1' (fun j z e => by
        rw [f4', List.getElem?_append_left (List.getElem?_eq_some_iff.1 e).1]
        exact e) (h.v k)
  · by_cases e : k = (T b).part.k
    · subst e
      unfold St.num
      rw [hu, hsn]
      unfold Hd.settled
      rw [hb0]
      refine (if_neg (fun e => ?_)).trans (if_neg (fun e => absurd e.2 (by decide))).symm
      have e1 : s.v (tKey b) = wDon := by
        have := of_decide_eq_true e.1
        rw [(hr _).1] at this
        exact this
      exact hnd e1
    · exact s.num_off _ e
end Go.Proofs.YtgkacepcggjfkaaGreatDoor

/-
  Transactions, plainly: every step keeps what holds at every moment, and what it makes of the numbers.
-/
namespace Go.Proofs.YtgkacepcggjfkaaGreatDoor

theorem Inv.st_same {s u : St} {T : Nat → Tx} {In : Nat → Prop} {b : Nat} {t : Tx} (h : Inv s T In) (hb : In b) (hi : Inv u (upd T b t) In) (hv : u.v (tKey b) = wDon ↔ s.v (tKey b) = wDon) : t.st = 2 ↔ (T b).st = 2 := by
  have h1 := (hi.t b hb).done
  rw [upd_same] at h1
  rw [← h1, hv]
  exact (h.t b hb).done
/-- What a step makes of the numbers: nothing, or it commits, and then just what it says. -/
def Makes (s u : St) (t t' : Tx) : Prop :=
  ((∀ k, u.num k = s.num k) ∧ (t'.st = 2 ↔ t.st = 2))
    ∨ (t.st = 1 ∧ t'.st = 2 ∧ t'.old = t.old ∧ t'.old.length = t.ps.length
      ∧ (∀ (j : Nat) (p : Pt), t.ps[j]? = some p → t.old[j]? = some (s.num p.k : Int) ∧ (u.num p.k : Int) = s.num p.k + p.a)
      ∧ ∀ k, (∀ p ∈ t.ps, p.k ≠ k) → u.num k = s.num k)
theorem Inv.go {s : St} {T : Nat → Tx} {In : Nat → Prop} {b : Nat} (h : Inv s T In) (hb : In b) (h9 : (T b).ph ≤ 9) :
    Inv ((T b).go s).1 (upd T b ((T b).go s).2) In ∧ Makes s ((T b).go s).1 (T b) ((T b).go s).2 := by
  have g := h.t b hb
  have rd : ∀ k t, (T b).reads → (T b).next.1.k = k → (T b).ans (s.v k) (s.n k) true = t → Inv s (upd T b t) In → Inv ((T b).go s).1 (upd T b ((T b).go s).2) In ∧ Makes s ((T b).go s).1 (T b) ((T b).go s).2 := fun k t hr hk ht hi => by
    have e : (T b).go s = (s, t) := by
      unfold Tx.go
      rw [if_pos hr, hk, ht]
    rw [e]
    exact ⟨hi, .inl ⟨fun _ => rfl, h.st_same hb hi Iff.rfl⟩⟩
  have wr : ∀ k x m, ¬ (T b).reads → (T b).next = (swapC k x m, true) →
      (s.n k = m → Inv (s.put k x) (upd T b ((T b).ans [] 0 true)) In ∧ Makes s (s.put k x) (T b) ((T b).ans [] 0 true)) →
      (s.n k ≠ m → Inv s (upd T b ((T b).ans [] 0 false)) In) → Inv ((T b).go s).1 (upd T b ((T b).go s).2) In ∧ Makes s ((T b).go s).1 (T b) ((T b).go s).2 := fun k x m hr hk hy hno => by
    by_cases hn : s.n k = m
    · have e : (T b).go s = (s.put k x, (T b).ans [] 0 true) := by
        unfold Tx.go
        rw [if_neg hr, hk]
        show (s.swap k x m, (T b).ans [] 0 (decide (s.n k = m))) = _
        unfold St.swap
        rw [if_pos hn, decide_eq_true hn]
      rw [e]
      exact hy hn
    · have e : (T b).go s = (s, (T b).ans [] 0 false) := by
        unfold Tx.go
        rw [if_neg hr, hk]
        show (s.swap k x m, (T b).ans [] 0 (decide (s.n k = m))) = _
        unfold St.swap
        rw [if_neg hn, decide_eq_false hn]
      rw [e]
      exact ⟨hno hn, .inl ⟨fun _ => rfl, h.st_same hb (hno hn) Iff.rfl⟩⟩
  have hph : (T b).ph = 0 ∨ (T b).ph = 1 ∨ (T b).ph = 2 ∨ (T b).ph = 3 ∨ (T b).ph = 4 ∨ (T b).ph = 5 ∨ (T b).ph = 6 ∨ (T b).ph = 7 ∨ (T b).ph = 8 ∨ (T b).ph = 9 := by omega
  rcases hph with e | e | e | e | e | e | e | e | e | e
  · obtain ⟨a1, a2, a3⟩ := h.step0 hb e
    refine wr (tKey b) wOpen 0 (by unfold Tx.reads; omega) (by unfold Tx.next; rw [if_pos e, g.id]) (fun _ => ⟨a2, .inl ⟨a3, h.st_same hb a2 ?_⟩⟩) (fun hn => absurd a1 hn)
    rw [(s.put_at _ _).1, g.done, g.run (by omega)]
    decide
  · exact rd _ _ (.inl e) (by unfold Tx.next; rw [e]; rfl) rfl (h.step1 hb e)
  · refine wr (T b).key _ (T b).vr (by unfold Tx.reads; omega) (by unfold Tx.next; rw [e]; rfl) (fun hn => ?_) (fun _ => h.no245 hb (.inl e))
    obtain ⟨a1, a2⟩ := h.step2 hb e hn
    exact ⟨a1, .inl ⟨a2, h.st_same hb a1 (by rw [show (T b).key = kKey (T b).part.k from rfl, (s.rec_key _ _ _).1])⟩⟩
  · exact rd _ _ (.inr (.inl e)) (by unfold Tx.next; rw [e]; rfl) rfl (h.step3 hb e)
  · have h4 := g.four e
    refine wr (tKey (T b).sn.b) wOff 1 (by unfold Tx.reads; omega) (by unfold Tx.next; rw [e, h4]; rfl) (fun hn => ?_) (fun _ => h.no245 hb (.inr (.inl e)))
    obtain ⟨a1, a2⟩ := h.step4 hb e hn
    obtain ⟨c1, c2, _⟩ := g.three (.inr (.inl e))
    exact ⟨a1, .inl ⟨a2, h.st_same hb a1 (by rw [(s.put_off wOff (fun e2 => c1 (tKey_inj (h.le c2) (h.le hb) e2.symm))).1])⟩⟩
  · refine wr (T b).key _ (T b).vr (by unfold Tx.reads; omega) (by unfold Tx.next; rw [e]; rfl) (fun hn => ?_) (fun _ => h.no245 hb (.inr (.inr e)))
    obtain ⟨a1, a2⟩ := h.step5 hb e hn
    exact ⟨a1, .inl ⟨a2, h.st_same hb a1 (by rw [show (T b).key = kKey (T b).part.k from rfl, (s.rec_key _ _ _).1])⟩⟩
  · refine wr (tKey b) wDon 1 (by unfold Tx.reads; omega) (by unfold Tx.next; rw [e, g.id]; rfl) (fun hn => ?_) (fun hn => h.step67no hb (.inl e) hn)
    obtain ⟨a1, a2, a3⟩ := h.step6 hb e hn
    have ea : (T b).ans [] 0 true = (T b).settle true := by
      unfold Tx.ans
      rw [e]
      rfl
    refine ⟨a1, .inr ⟨g.run (by omega), by rw [ea]; rfl, by rw [ea]; rfl, ?_, a2, a3⟩⟩
    rw [ea]
    exact g.six e
  · refine wr (tKey b) wOff 1 (by unfold Tx.reads; omega) (by unfold Tx.next; rw [e, g.id]; rfl) (fun hn => ?_) (fun hn => h.step67no hb (.inr e) hn)
    obtain ⟨a1, a2⟩ := h.step7 hb e hn
    refine ⟨a1, .inl ⟨a2, h.st_same hb a1 ?_⟩⟩
    rw [(s.put_at _ _).1, g.done, g.run (by omega)]
    decide
  · exact rd _ _ (.inr (.inr e)) (by unfold Tx.next; rw [e]; rfl) rfl (h.step8 hb e)
  · refine wr (T b).key _ (T b).vr (by unfold Tx.reads; omega) (by unfold Tx.next; rw [e]; rfl) (fun hn => ?_) (fun _ => h.no9 hb e)
    obtain ⟨a1, a2⟩ := h.step9 hb e hn
    exact ⟨a1, .inl ⟨a2, h.st_same hb a1 (by rw [show (T b).key = kKey (T b).part.k from rfl, (s.rec_key _ _ _).1])⟩⟩
end Go.Proofs.YtgkacepcggjfkaaGreatDoor
