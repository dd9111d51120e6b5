/-
  Joined: WCeA, WAppAt.
-/
import Derived.Test.YtflnjlbafchnaaaGreatDoorR04
import Derived.Test.YtflnjlbafchnaaaGreatDoorR05
import Derived.Test.YtflnjlbafchnaaaGreatDoorR00
/-
  Cells, plainly: a job, the command that it tells, what an answer makes of it.
-/
namespace Go.Proofs.YtflnjlbafchnaaaGreatDoor

def unsaid (g : Nat) : Ce := if g = 1 then ⟨[], 0, 0, 0, 0⟩ else ⟨[], 0, 2, 0, 1⟩
theorem unsaid_ok (g : Nat) : (unsaid g).Ok := by
  unfold unsaid
  split
  · exact ⟨by decide, by decide, fun _ => rfl, by decide, by decide, fun _ => rfl, fun e => absurd rfl e, fun _ => rfl⟩
  · exact ⟨by decide, by decide, fun _ => rfl, by decide, by decide, fun e => (by cases e), fun _ => ⟨by decide, by decide⟩, fun _ => rfl⟩
/-- What a group says, by the result of a Get. -/
def sawC (g : Nat) (r : Rr) : Ce := if r.kd = 1 then (ceOf r.v).getD (unsaid g) else unsaid g
theorem sawC_ok (g : Nat) (r : Rr) : (sawC g r).Ok := by
  unfold sawC
  split
  · cases h : ceOf r.v with
    | none => exact unsaid_ok g
    | some c => exact ceOf_ok h
  · exact unsaid_ok g
def cKey (k : List UInt8) : List UInt8 := 99 :: k
namespace Ce
def towards (c : Ce) (g : Nat) : Ce := ⟨c.v, c.n, 1, c.h + 1, g⟩
def arrived (c : Ce) : Ce := ⟨c.v, c.n, 0, c.h, 0⟩
def left (c : Ce) : Ce := ⟨[], 0, 2, c.h, c.g⟩
end Ce
/-! ### a command on just one key -/
def cmV (kd : Int) (val : List UInt8) (m : Int) (v : List UInt8) (n : Nat) : List UInt8 := if kd = 1 then val else if kd = 2 then v else if kd = 3 then [] else if kd = 4 then (if (n : Int) = m then val else v) else v ++ val
def cmN (kd : Int) (m : Int) (n : Nat) : Nat := if kd = 1 then n + 1 else if kd = 2 then n else if kd = 3 then 0 else if kd = 4 then (if (n : Int) = m then n + 1 else n) else n + 1
def cmR (kd : Int) (m : Int) (v : List UInt8) (n : Nat) : Rr := if kd = 1 then ⟨1, [], n + 1, []⟩ else if kd = 2 then tellRr 1 v n else if kd = 3 then dropRr n else if kd = 4 then (if (n : Int) = m then ⟨1, [], n + 1, []⟩ else tellRr 3 v n) else ⟨1, [], n + 1, []⟩
structure Jb where
  kd : Int
  k : List UInt8
  v : List UInt8
  m : Int
  tg : Nat
  st : Nat
  at' : Nat
  rs : Rr
  ph : Nat
  sn : Ce
  sv : Int
  nx : Ce
  re : Rr
  sp : Int
  ow : Bool
def Rr.zero : Rr := ⟨0, [], 0, []⟩
def Ce.zero : Ce := ⟨[], 0, 0, 0, 0⟩
def Jb.new (kd : Int) (k v : List UInt8) (m : Int) (tg at' : Nat) : Jb := ⟨kd, k, v, m, tg, 1, at', Rr.zero, 0, Ce.zero, 0, Ce.zero, Rr.zero, 0, false⟩
namespace Jb
def next (j : Jb) : Nat × Cd × Bool :=
  if j.ph = 0 then (j.at', getC (cKey j.k), true)
  else if j.ph = 1 then (j.at', swapC (cKey j.k) (ceTxt j.nx) j.sv, true)
  else if j.ph = 2 then (j.tg, getC (cKey j.k), true)
  else if j.ph = 3 then (j.tg, swapC (cKey j.k) (ceTxt (unsaid j.tg)) 0, true)
  else if j.ph = 4 then (j.sn.g, getC (cKey j.k), true)
  else if j.ph = 5 then (j.sn.g, swapC (cKey j.k) (ceTxt j.sn.arrived) j.sp, true)
  else if j.ph = 6 then (j.at', swapC (cKey j.k) (ceTxt j.sn.left) j.sv, true)
  else (0, ⟨0, [], [], 0⟩, false)
def fin (j : Jb) (r : Rr) : Jb := { j with st := 2, rs := r, ph := 7 }
def finK (j : Jb) (kd : Int) : Jb := j.fin ⟨kd, [], 0, []⟩
def follow (j : Jb) : Jb := { j with at' := j.sn.g, ph := 0 }
def handOver (j : Jb) : Jb :=
  if j.tg = j.at' then j.finK 1
  else if j.sn.h = 999999 then j.finK 4
  else { j with nx := j.sn.towards j.tg, ph := 2 }
def apply (j : Jb) : Jb :=
  if ¬ ((cmV j.kd j.v j.m j.sn.v j.sn.n).length ≤ 32 ∧ cmN j.kd j.m j.sn.n ≤ 999999) then j.finK 4
  else if cmV j.kd j.v j.m j.sn.v j.sn.n = j.sn.v ∧ cmN j.kd j.m j.sn.n = j.sn.n then j.fin (cmR j.kd j.m j.sn.v j.sn.n)
  else { j with nx := ⟨cmV j.kd j.v j.m j.sn.v j.sn.n, cmN j.kd j.m j.sn.n, 0, j.sn.h, 0⟩, re := cmR j.kd j.m j.sn.v j.sn.n, ph := 1 }
def seen (j : Jb) : Jb :=
  if j.sn.s = 2 then j.follow
  else if j.sn.s = 1 then { j with ph := 4 }
  else if 0 < j.tg then j.handOver
  else j.apply
def hasRead (j : Jb) (r : Rr) : Jb := if 5 < r.kd then j else ({ j with sn := sawC j.at' r, sv := versR r } : Jb).seen
def hasWritten (j : Jb) (r : Rr) : Jb :=
  if r.kd = 1 ∧ 0 < j.tg then { j with sn := j.nx, sv := r.n, ow := true, ph := 4 }
  else if r.kd = 1 then j.fin j.re
  else if r.kd = 4 then j.finK 4
  else if 5 < r.kd ∧ j.tg = 0 then { j with st := 3, ph := 7 }
  else { j with ph := 0 }
def hasPrepared (j : Jb) (r : Rr) : Jb := if 5 < r.kd then j else if r.kd = 2 then { j with ph := 3 } else { j with ph := 1 }
def hasRoom (j : Jb) (r : Rr) : Jb := if r.kd = 4 then j.finK 4 else { j with ph := 0 }
def hasLooked (j : Jb) (r : Rr) : Jb := if 5 < r.kd then j else { j with sp := versR r, ph := if (sawC j.sn.g r).h < j.sn.h then 5 else 6 }
def hasPut (j : Jb) (r : Rr) : Jb := { j with ph := if r.kd = 1 then 6 else 4 }
def hasSealed (j : Jb) : Jb := if j.ow = true then j.finK 1 else j.follow
def answer (j : Jb) (r : Rr) : Jb :=
  if j.ph = 0 then j.hasRead r
  else if j.ph = 1 then j.hasWritten r
  else if j.ph = 2 then j.hasPrepared r
  else if j.ph = 3 then j.hasRoom r
  else if j.ph = 4 then j.hasLooked r
  else if j.ph = 5 then j.hasPut r
  else if j.ph = 6 then j.hasSealed
  else j
/-- What is always so of one, whatever it is told. -/
structure Ok (j : Jb) : Prop where
  kd : 1 ≤ j.kd ∧ j.kd ≤ 5
  k1 : 1 ≤ j.k.length
  k2 : j.k.length ≤ 15
  v : j.v.length ≤ 32
  m : 0 ≤ j.m ∧ j.m ≤ 1099511627775
  tg : j.tg ≤ 4
  at1 : 1 ≤ j.at'
  at4 : j.at' ≤ 4
  st : j.st ≤ 3
  ph : j.ph ≤ 7
  sn : j.sn.Ok
  sns : (j.ph = 1 ∨ j.ph = 2 ∨ j.ph = 3) → j.sn.s = 0
  snm : (4 ≤ j.ph ∧ j.ph ≤ 6) → j.sn.s = 1
  nx : j.ph = 1 ∨ j.ph = 2 ∨ j.ph = 3 → j.nx.Ok
  nxm : 0 < j.tg → (j.ph = 1 ∨ j.ph = 2 ∨ j.ph = 3) → j.nx.s = 1
  to1 : j.ph = 2 ∨ j.ph = 3 → 0 < j.tg
  rk : j.rs.ks = []
  ek : j.re.ks = []
end Jb
theorem tell_ks (kd : Int) (v : List UInt8) (n : Int) : (tellRr kd v n).ks = [] := by unfold tellRr; split <;> rfl
theorem cmR_ks (kd m : Int) (v : List UInt8) (n : Nat) : (cmR kd m v n).ks = [] := by
  unfold cmR
  split
  · rfl
  · split
    · exact tell_ks _ _ _
    · split
      · unfold dropRr; split <;> rfl
      · split
        · split
          · rfl
          · exact tell_ks _ _ _
        · rfl
theorem cmN_zero {kd m : Int} {val v : List UInt8} {n : Nat} (hv : n = 0 → v = []) (h : cmN kd m n = 0) : cmV kd val m v n = [] := by
  unfold cmN at h
  unfold cmV
  split at h
  · omega
  · rename_i h1
    rw [if_neg h1]
    split at h
    · rename_i h2
      rw [if_pos h2]
      exact hv h
    · rename_i h2
      rw [if_neg h2]
      split at h
      · rename_i h3
        rw [if_pos h3]
      · rename_i h3
        rw [if_neg h3]
        split at h
        · rename_i h4
          rw [if_pos h4]
          split at h
          · omega
          · rename_i h5
            rw [if_neg h5]
            exact hv h
        · omega
theorem Ce.Ok.left {c : Ce} (h : c.Ok) (hs : c.s = 1) : c.left.Ok :=
  ⟨by simp [Ce.left], by simp [Ce.left], fun _ => rfl, by simp [Ce.left], h.h, fun e => by simp [Ce.left] at e, fun _ => h.g1 (by omega), fun _ => rfl⟩
theorem Ce.Ok.arrived {c : Ce} (h : c.Ok) : c.arrived.Ok :=
  ⟨h.v, h.n, h.vn, by simp [Ce.arrived], h.h, fun _ => rfl, fun e => absurd rfl e, fun e => by simp [Ce.arrived] at e⟩
theorem Ce.Ok.towards {c : Ce} (h : c.Ok) (hh : c.h ≠ 999999) {g : Nat} (hg : 1 ≤ g) (hg4 : g ≤ 4) : (c.towards g).Ok :=
  ⟨h.v, h.n, h.vn, by simp [Ce.towards], by have := h.h; simp [Ce.towards]; omega, fun e => by simp [Ce.towards] at e, fun _ => ⟨hg, hg4⟩, fun e => by simp [Ce.towards] at e⟩
namespace Jb
theorem Ok.fin {j : Jb} (h : j.Ok) {r : Rr} (hr : r.ks = []) : (j.fin r).Ok :=
  ⟨h.kd, h.k1, h.k2, h.v, h.m, h.tg, h.at1, h.at4, by simp [Jb.fin], by simp [Jb.fin], h.sn, fun e => by simp [Jb.fin] at e, fun e => by simp [Jb.fin] at e, fun e => by simp [Jb.fin] at e, fun _ e => by simp [Jb.fin] at e, fun e => by simp [Jb.fin] at e, hr, h.ek⟩
theorem Ok.follow {j : Jb} (h : j.Ok) (hs : j.sn.s ≠ 0) : j.follow.Ok :=
  ⟨h.kd, h.k1, h.k2, h.v, h.m, h.tg, (h.sn.g1 hs).1, (h.sn.g1 hs).2, h.st, by simp [Jb.follow], h.sn, fun e => by simp [Jb.follow] at e, fun e => by simp [Jb.follow] at e, fun e => by simp [Jb.follow] at e, fun _ e => by simp [Jb.follow] at e, fun e => by simp [Jb.follow] at e, h.rk, h.ek⟩
/-- A job that has seen something, and takes phase 0. -/
theorem Ok.zero {j : Jb} (h : j.Ok) {c : Ce} (hc : c.Ok) (m : Int) (p : Nat) (hp : p = 0) : ({ j with sn := c, sv := m, ph := p } : Jb).Ok :=
  ⟨h.kd, h.k1, h.k2, h.v, h.m, h.tg, h.at1, h.at4, h.st, by simp [hp], hc, fun e => by simp [hp] at e, fun e => by simp [hp] at e, fun e => by simp [hp] at e, fun _ e => by simp [hp] at e, fun e => by simp [hp] at e, h.rk, h.ek⟩
theorem Ok.ph0 {j : Jb} (h : j.Ok) : ({ j with ph := 0 } : Jb).Ok := Ok.zero h h.sn j.sv 0 rfl
theorem Ok.seen {j : Jb} (h : j.Ok) : j.seen.Ok := by
  unfold Jb.seen
  split
  · exact h.follow (by omega)
  · split
    · rename_i h2 h1
      exact ⟨h.kd, h.k1, h.k2, h.v, h.m, h.tg, h.at1, h.at4, h.st, by simp, h.sn, fun e => by simp at e, fun _ => h1, fun e => by simp at e, fun _ e => by simp at e, fun e => by simp at e, h.rk, h.ek⟩
    · rename_i h2 h1
      have h0 : j.sn.s = 0 := by have := h.sn.s; omega
      split
      · rename_i ht
        unfold Jb.handOver
        split
        · exact h.fin rfl
        · split
          · exact h.fin rfl
          · rename_i hh
            refine ⟨h.kd, h.k1, h.k2, h.v, h.m, h.tg, h.at1, h.at4, h.st, by simp, h.sn, fun _ => h0, fun e => by simp at e, fun _ => h.sn.towards hh ht h.tg, fun _ _ => rfl, fun _ => ht, h.rk, h.ek⟩
      · rename_i ht
        unfold Jb.apply
        split
        · exact h.fin rfl
        · rename_i hf
          simp only [Decidable.not_not] at hf
          split
          · exact h.fin (cmR_ks _ _ _ _)
          · refine ⟨h.kd, h.k1, h.k2, h.v, h.m, h.tg, h.at1, h.at4, h.st, by simp, h.sn, fun _ => h0, fun e => by simp at e, fun _ => ?_, fun e => absurd e ht, fun e => by simp at e, h.rk, cmR_ks _ _ _ _⟩
            exact ⟨hf.1, hf.2, fun e => cmN_zero h.sn.vn e, by simp, h.sn.h, fun _ => rfl, fun e => absurd rfl e, fun e => by simp at e⟩
theorem Ok.answer {j : Jb} (h : j.Ok) (r : Rr) : (j.answer r).Ok := by
  unfold Jb.answer
  split
  · rename_i hp
    unfold Jb.hasRead
    split
    · exact h
    · exact Ok.seen (Ok.zero h (sawC_ok _ _) _ _ hp)
  · split
    · rename_i hp
      unfold Jb.hasWritten
      have hnx := h.nx (.inl hp)
      split
      · rename_i hc
        exact ⟨h.kd, h.k1, h.k2, h.v, h.m, h.tg, h.at1, h.at4, h.st, by simp, hnx, fun e => by simp at e, fun _ => h.nxm hc.2 (.inl hp), fun e => by simp at e, fun _ e => by simp at e, fun e => by simp at e, h.rk, h.ek⟩
      · split
        · exact h.fin h.ek
        · split
          · exact h.fin rfl
          · split
            · exact ⟨h.kd, h.k1, h.k2, h.v, h.m, h.tg, h.at1, h.at4, by simp, by simp, h.sn, fun e => by simp at e, fun e => by simp at e, fun e => by simp at e, fun _ e => by simp at e, fun e => by simp at e, h.rk, h.ek⟩
            · exact h.ph0
    · split
      · rename_i hp
        have hnx := h.nx (.inr (.inl hp))
        have hs := h.sns (.inr (.inl hp))
        have ht := h.to1 (.inl hp)
        unfold Jb.hasPrepared
        split
        · exact h
        · split
          · exact ⟨h.kd, h.k1, h.k2, h.v, h.m, h.tg, h.at1, h.at4, h.st, by simp, h.sn, fun _ => hs, fun e => by simp at e, fun _ => hnx, fun e _ => h.nxm e (.inr (.inl hp)), fun _ => ht, h.rk, h.ek⟩
          · exact ⟨h.kd, h.k1, h.k2, h.v, h.m, h.tg, h.at1, h.at4, h.st, by simp, h.sn, fun _ => hs, fun e => by simp at e, fun _ => hnx, fun e _ => h.nxm e (.inr (.inl hp)), fun e => by simp at e, h.rk, h.ek⟩
      · split
        · unfold Jb.hasRoom
          split
          · exact h.fin rfl
          · exact h.ph0
        · split
          · rename_i hp
            have hs := h.snm ⟨by omega, by omega⟩
            unfold Jb.hasLooked
            split
            · exact h
            · refine ⟨h.kd, h.k1, h.k2, h.v, h.m, h.tg, h.at1, h.at4, h.st, ?_, h.sn, fun e => ?_, fun _ => hs, fun e => ?_, fun _ e => ?_, fun e => ?_, h.rk, h.ek⟩
              · simp only; split <;> omega
              all_goals (exfalso; revert e; simp only; split <;> omega)
          · split
            · rename_i hp
              have hs := h.snm ⟨by omega, by omega⟩
              unfold Jb.hasPut
              refine ⟨h.kd, h.k1, h.k2, h.v, h.m, h.tg, h.at1, h.at4, h.st, ?_, h.sn, fun e => ?_, fun _ => hs, fun e => ?_, fun _ e => ?_, fun e => ?_, h.rk, h.ek⟩
              · simp only; split <;> omega
              all_goals (exfalso; revert e; simp only; split <;> omega)
            · split
              · rename_i hp
                have hs := h.snm ⟨by omega, by omega⟩
                unfold Jb.hasSealed
                split
                · exact h.fin rfl
                · exact h.follow (by omega)
              · exact h
theorem Ok.new {kd : Int} {k v : List UInt8} {m : Int} {tg at' : Nat} (hkd : 1 ≤ kd ∧ kd ≤ 5) (h1 : 1 ≤ k.length) (h2 : k.length ≤ 15) (hv : v.length ≤ 32) (hm : 0 ≤ m ∧ m ≤ 1099511627775) (ht : tg ≤ 4) (ha : 1 ≤ at') (ha4 : at' ≤ 4) : (Jb.new kd k v m tg at').Ok :=
  ⟨hkd, h1, h2, hv, hm, ht, ha, ha4, by simp [Jb.new], by simp [Jb.new], unsaid_ok 1, fun e => by simp [Jb.new] at e, fun e => by simp [Jb.new] at e, fun e => by simp [Jb.new] at e, fun _ e => by simp [Jb.new] at e, fun e => by simp [Jb.new] at e, rfl, rfl⟩
end Jb
end Go.Proofs.YtflnjlbafchnaaaGreatDoor

/-
  'append' onto a row of the call's own: where what comes of it lies.
-/
namespace Go.Proofs.YtflnjlbafchnaaaGreatDoor
open Go.RowKit
variable {P : Program} (w : World)

theorem run_append_at (base : Nat) (t tx ty e : TypeId) (i : TypeInfo) (z : Value) (size bytes : Nat) (ht : P.underlying t = some (.slice e)) (hi : P.info? e = some i) (hz : i.zero = some z)
    (hsize : i.size = size) (hby : i.bytes = bytes) (hzs : z.cells.size = size)
    (v : Value) (n : Nat) (xs : List Value) (hown : w.ownsRow base e size v n xs) (x : Value) (m : Nat) (news : List Value) (hs : Src P size tx x m news w)
    (h63 : n + m ≤ maxLen) (hbytes : (n + m) * bytes ≤ 140737488355328) (hbase : base ≤ w.heap.size) :
    ∃ v' w', (Builtin.append_ #[t, tx] ty #[v, x]).run P w = .ok v' w' ∧ w'.ownsRow base e size v' (n + m) (xs ++ news) ∧ w.grownBy w' v.ownBlock ∧ ∀ g, v'.ownBlock = some g → v.ownBlock = some g ∨ w.heap.size ≤ g := by
  subst hsize
  subst hby
  have hsmall : n + m ≤ 9223372036854775807 := by simp only [maxLen] at h63; omega
  have hl := hs.newsLen
  have hlen : (xs ++ news).length = (n + m) * i.size := by rw [List.length_append, hown.1, hl, Nat.add_mul]
  have grown : ∀ (old : Nat), ∀ (row : Option Nat),
      (w.drew.alloc (.cells ((xs ++ news).toArray ++ Builtin.zeroCells z.cells (grownCap w (n + m) old e - (n + m))) e)).ownsRow base e i.size
        (.slice (some ⟨w.heap.size, 0, none⟩) (n + m) (grownCap w (n + m) old e)) (n + m) (xs ++ news) ∧
      w.grownBy (w.drew.alloc (.cells ((xs ++ news).toArray ++ Builtin.zeroCells z.cells (grownCap w (n + m) old e - (n + m))) e)) row := by
    intro old row
    have hge := grownCap_ge w (n + m) old e
    have hcm : grownCap w (n + m) old e ≤ maxLen := grownCap_le_maxLen w (n + m) old e h63
    refine ⟨⟨hlen, .inr ⟨w.heap.size, _, _, rfl, hbase, heap_alloc_new w.drew _, hge, hcm, ?_, ?_⟩⟩, ⟨rfl, rfl, rfl, by simp, fun k hk _ => Below.heap_alloc w.drew _ k hk⟩⟩
    · simp only [Array.size_append, List.size_toArray, size_zeroCells, hzs, hlen, ← Nat.add_mul]
      congr 1
      omega
    · simp only [Array.toList_append]
      rw [← hlen]
      exact List.take_left
  rcases hown.2 with ⟨rfl, rfl⟩ | ⟨g, cap, cur, rfl, hbg, hg, hnc, hcm, hcs, htake⟩
  · have hx : xs = [] := List.eq_nil_of_length_eq_zero (by simpa using hown.1)
    subst hx
    by_cases hm : m = 0
    · subst hm
      have hn : news = [] := List.eq_nil_of_length_eq_zero (by simpa using hl)
      subst hn
      refine ⟨.slice none 0 0, w, ?_, World.ownsRow_nil w base e i.size, ⟨rfl, rfl, rfl, Nat.le_refl _, fun _ _ _ => rfl⟩, fun g hg => by simp [Value.ownBlock] at hg⟩
      rcases hs.kind with ⟨e', hk⟩ | hk <;> simp [Builtin.append_, run_underlying ht, run_underlying hk, sizeOf, typeInfo, hi, hs.len, hs.cells]
    · have hr := run_append_grow_src (P := P) w t tx ty e i z ht hi hz none 0 0 [] (run_firstCells_none w.drew i.size 0 0 0) x m news hs (by omega) (by omega) (growslice_fits (by omega) hbytes)
      have hgr := grown 0 (Value.ownBlock (.slice none 0 0))
      exact ⟨_, _, hr, hgr.1, hgr.2, fun g hg => .inr (by simp [Value.ownBlock] at hg; omega)⟩
  · by_cases hroom : n + m ≤ cap
    · have hfit : n * i.size + news.length ≤ cur.size := by rw [hl, hcs, ← Nat.add_mul]; exact Nat.mul_le_mul_right _ hroom
      have hr := room_src (P := P) w t tx ty e i ht hi g n cap cur hg x m news hs hroom hfit
      refine ⟨_, _, hr, ⟨hlen, .inr ⟨g, cap, _, rfl, hbg, setRow_heap w g cur _ e _ hg, hroom, hcm, ?_, ?_⟩⟩, ⟨rfl, rfl, rfl, by simp, fun k _ hk => setRow_other w g k _ (fun e => hk (by simp [Value.ownBlock, e]))⟩, fun g' hg' => .inl (by simpa [Value.ownBlock] using hg')⟩
      · simp only [List.size_toArray, List.length_append, List.length_take, List.length_drop, Array.length_toList]
        omega
      · rw [htake, ← hlen]
        exact List.take_left
    · have holds : ∀ j u, xs[j]? = some u → w.cell? ((⟨g, 0, none⟩ : Addr).add j) = some u := hown.cells (g := g) rfl
      have hr := run_append_grow_src (P := P) w t tx ty e i z ht hi hz (some ⟨g, 0, none⟩) n cap xs (run_firstCells_some w.drew i.size n ⟨g, 0, none⟩ n cap xs hown.1 holds) x m news hs (by omega) (by omega) (growslice_fits (by omega) hbytes)
      have hgr := grown cap (Value.ownBlock (.slice (some ⟨g, 0, none⟩) n cap))
      exact ⟨_, _, hr, hgr.1, hgr.2, fun g hg => .inr (by simp [Value.ownBlock] at hg; omega)⟩

theorem wp_append_at {o : Oper} {a : Act} {K : Act → World → Prop} {Q : Exit → Act → World → Prop} (s xo : Operand) (t tx : TypeId)
    (ho : o.op = .call { callee := .builtin .append, args := #[s, xo], argTypes := #[t, tx] })
    (base : Nat) (e : TypeId) (i : TypeInfo) (z : Value) (size bytes : Nat) (ht : P.underlying t = some (.slice e)) (hi : P.info? e = some i) (hz : i.zero = some z)
    (hsize : i.size = size) (hby : i.bytes = bytes) (hzs : z.cells.size = size)
    (v : Value) (n : Nat) (xs : List Value) (hv : a.eval s = v) (hown : w.ownsRow base e size v n xs) (x : Value) (m : Nat) (news : List Value) (hx : a.eval xo = x) (hs : Src P size tx x m news w)
    (h63 : n + m ≤ maxLen) (hbytes : (n + m) * bytes ≤ 140737488355328) (hbase : base ≤ w.heap.size)
    (h : ∀ v' w', w'.ownsRow base e size v' (n + m) (xs ++ news) → w.grownBy w' v.ownBlock → (∀ g, v'.ownBlock = some g → v.ownBlock = some g ∨ w.heap.size ≤ g) → K (a.put o.dst v') w') : o.wp P a w K Q := by
  obtain ⟨v', w', hr, h2, h3, h4⟩ := run_append_at (P := P) w base t tx o.type e i z size bytes ht hi hz hsize hby hzs v n xs hown x m news hs h63 hbytes hbase
  unfold Oper.wp execOp
  simp only [ho, resolve, invoke, builtin, Sem.run_bind, Sem.run_pure, Result.andThen_ok, List.map_toArray, List.map_cons, List.map_nil, hv, hx, hr]
  exact h v' w' h2 h3 h4

end Go.Proofs.YtflnjlbafchnaaaGreatDoor
