/-
  Joined: WTf3, WTf4.
-/
import Derived.Test.YtgkacepcggjfkaaGreatDoorWTsA
import Derived.Test.YtgkacepcggjfkaaGreatDoorWTfPl
/-
  TxnFree: what is so at each round, in memory and plainly.
-/
namespace Go.Proofs.YtgkacepcggjfkaaGreatDoor
open Go.RowKit

/-- What is so of some transactions and their map, in memory: as TxnSerial's, without the law's own numbers. -/
structure MF (w w1 : World) (n0 : Nat) (In : Nat → Prop) (K : List (List UInt8)) (b : Nat → Nat) (X : World) (T : Nat → Tx) (ps : List Pr) (pa : Option Addr) (pc c : Nat) : Prop where
  tm : ∃ D, D.b = b ∧ TM n0 w1.heap.size X In T D
  run : Run In K ps T c
  pr : OwnP w1.heap.size X pa pc ps
  kept : Kept (XT w1.heap.size w1.heap.size In b) w1 X
  kw : Kept Nil w X
  bw : ∀ i, In i → w.heap.size ≤ b i
  w1w : w.heap.size ≤ w1.heap.size
  n0le : n0 ≤ X.heap.size
theorem MF.next {w w1 X X' : World} {n0 pc c : Nat} {In : Nat → Prop} {K : List (List UInt8)} {b : Nat → Nat} {T : Nat → Tx} {ps : List Pr} {pa : Option Addr} (h : MF w w1 n0 In K b X T ps pa pc c) (k : Kept Nil X X') : MF w w1 n0 In K b X' T ps pa pc c := by
  obtain ⟨D, e, hD⟩ := h.tm
  exact ⟨⟨D, e, hD.kept k⟩, h.run, h.pr.kept k, h.kept.trans (k.mono (fun _ _ x => x.elim)), h.kw.trans k, h.bw, h.w1w, Nat.le_trans h.n0le k.size⟩
theorem MF.more {w w1 X : World} {n0 pc c : Nat} {In : Nat → Prop} {K : List (List UInt8)} {b : Nat → Nat} {T : Nat → Tx} {ps : List Pr} {pa : Option Addr} (h : MF w w1 n0 In K b X T ps pa pc c) : MF w w1 n0 In K b X T ps pa pc (c + 1) :=
  { h with run := ⟨h.run.inv, ⟨h.run.room.ok, h.run.room.ks, fun k => by have := h.run.room.n k; exact ⟨this.1, by omega⟩⟩, fun b hb => by have := h.run.vr b hb; exact ⟨this.1, by omega⟩, h.run.tk, h.run.kk⟩ }
theorem MF.pairs {w w1 X : World} {n0 pc c : Nat} {In : Nat → Prop} {K : List (List UInt8)} {b : Nat → Nat} {T : Nat → Tx} {ps : List Pr} {pa : Option Addr} (h : MF w w1 n0 In K b X T ps pa pc c) : PairRow X.heap.size X pa ps ∧ (pa = none → ps = [] ∧ pc = 0) ∧ (ps.length : Int) ≤ 3518437208780 :=
  ⟨h.pr.row (pairs_fit h.run.room.ok), h.pr.nilc, by have := (pairs_ok h.run.room.ok).1; omega⟩
theorem MF.answered {w w1 X X' : World} {n0 pc pc' c i : Nat} {In : Nat → Prop} {K : List (List UInt8)} {b : Nat → Nat} {T : Nat → Tx} {ps : List Pr} {pa pa' : Option Addr} {e : Ending} {D : TD} (h : MF w w1 n0 In K b X T ps pa pc c) (hl : K.length < 32) (hc : c < 1099511627775) (hi : In i) (h9 : (T i).ph ≤ 9)
    (hD : D.b = b) (hM : TM n0 w1.heap.size X In T D) (hp : OwnP w1.heap.size X pa' pc' ((T i).psOf ps))
    (ha : TxPost n0 X (D.b i) ((T i).answer ((T i).rOf ps)) (D.ap i) (D.oo i) (D.cp i) e X') : e = .returned (.tuple #[]) ∧ MF w w1 n0 In K b X' (upd T i ((T i).answer ((T i).rOf ps))) ((T i).psOf ps) pa' pc' (c + 1) := by
  obtain ⟨r1, r2, r3, r4⟩ := h.run.step hl hc hi h9
  have hps : ((T i).answer ((T i).rOf ps)).ps = (T i).ps := by rw [r4]; exact (go_ps _ _).1
  have hid : ((T i).answer ((T i).rOf ps)).id = i := by rw [r4, (go_ps _ _).2]; exact hM.id i hi
  obtain ⟨he, ⟨D', e', hM'⟩, hk⟩ := hM.step hi hps hid ha
  have hk2 := ha.2
  obtain ⟨_, _, _, _, hkx, _⟩ := hk2
  have hkk := hk w1.heap.size
  rw [hD] at hkk
  refine ⟨he, ⟨⟨D', e'.trans hD, hM'⟩, r1, ?_, h.kept.trans hkk, ?_, h.bw, h.w1w, Nat.le_trans h.n0le hkk.size⟩⟩
  · refine ⟨hp.1, hp.2.imp id ?_⟩
    rintro ⟨g, cap, cur, h1, h2, h3, h4⟩
    exact ⟨g, cap, cur, h1, h2, hkx.block _ _ h3 (TxX.pair (hM.tx i hi) (hM.old i hi) g cur h3), h4⟩
  · refine ⟨hkk.os.trans h.kw.os, hkk.tape.trans h.kw.tape, hkk.output.trans h.kw.output, Nat.le_trans h.kw.size hkk.size, fun q o hq _ => hkk.block q o (h.kw.block q o hq (fun x => x)) (fun x => ?_)⟩
    have hlt := lt_of_block hq
    rcases x with x | x | ⟨j, hj, x⟩
    · have := h.w1w; omega
    · have := h.w1w; omega
    · have := h.bw j hj; omega
/-- The plain rest of a step: what stands in the map, and how great the numbers are. -/
theorem Good.step {In : Nat → Prop} {K : List (List UInt8)} {ps : List Pr} {T : Nat → Tx} {c i : Nat} (h : Run In K ps T c) (hl : K.length < 32) (hc : c < 1099511627775) (hi : In i) (h9 : (T i).ph ≤ 9) (hg : (St.of ps).Good) : (St.of ((T i).psOf ps)).Good := by
  obtain ⟨_, _, r3, _⟩ := h.step hl hc hi h9
  rw [r3]
  exact hg.go (h.inv.t i hi).ok h9
/-- What is left to those that are not committed. -/
def leftZ (ids : List Nat) (T : Nat → Tx) : Int := (ids.map fun i => if (T i).st = 2 then (0 : Int) else 9).sum
theorem left_same {ids : List Nat} {T : Nat → Tx} {i : Nat} {t : Tx} (h : t.st = 2 ↔ (T i).st = 2) : leftZ ids (upd T i t) = leftZ ids T := by
  unfold leftZ
  congr 1
  refine List.map_congr_left fun j _ => ?_
  by_cases e : j = i
  · subst e
    rw [upd_same]
    by_cases c : (T j).st = 2
    · rw [if_pos c, if_pos (h.2 c)]
    · rw [if_neg c, if_neg (fun x => c (h.1 x))]
  · rw [upd_ne T t e]
theorem left_notin {ids : List Nat} {T : Nat → Tx} {i : Nat} {t : Tx} (h : i ∉ ids) : leftZ ids (upd T i t) = leftZ ids T := by
  unfold leftZ
  congr 1
  refine List.map_congr_left fun j hj => ?_
  have hne : j ≠ i := fun e => by subst e; exact h hj
  rw [upd_ne T t hne]
theorem left_less {T : Nat → Tx} {i : Nat} {t : Tx} (h1 : (T i).st ≠ 2) (h2 : t.st = 2) : ∀ {ids : List Nat}, ids.Nodup → i ∈ ids → leftZ ids (upd T i t) + 9 = leftZ ids T
  | [], _, h => by cases h
  | j :: ids, hd, h => by
    have hd' := List.nodup_cons.1 hd
    by_cases e : j = i
    · subst e
      have := left_notin (T := T) (t := t) hd'.1
      unfold leftZ at this ⊢
      simp only [List.map_cons, List.sum_cons]
      rw [this, upd_same, if_pos h2, if_neg h1]
      omega
    · have hi : i ∈ ids := by
        rcases List.mem_cons.1 h with x | x
        · exact absurd x.symm e
        · exact x
      have := left_less h1 h2 hd'.2 hi
      unfold leftZ at this ⊢
      simp only [List.map_cons, List.sum_cons]
      rw [upd_ne T t e]
      omega
/-- The numbers stay small: each that is committed adds nine at most. -/
def Small (ids : List Nat) (T : Nat → Tx) (s : St) : Prop := ∀ k, (s.num k : Int) + leftZ ids T ≤ 54
theorem Small.step {ids : List Nat} {s u : St} {T : Nat → Tx} {i : Nat} {t : Tx} (h : Small ids T s) (hm : Makes s u (T i) t) (hd : ids.Nodup) (hi : i ∈ ids) (ha : ∀ p ∈ (T i).ps, p.a ≤ 9) : Small ids (upd T i t) u := fun k => by
  rcases hm with ⟨h1, h2⟩ | ⟨e1, e2, _, _, h5, h6⟩
  · rw [left_same h2, h1 k]
    exact h k
  · have hl := left_less (T := T) (i := i) (t := t) (by omega) e2 hd hi
    have hk := h k
    by_cases c : ∃ p ∈ (T i).ps, p.k = k
    · obtain ⟨p, hp, rfl⟩ := c
      obtain ⟨j, hj, e⟩ := List.getElem_of_mem hp
      have h7 := (h5 j p (by rw [← e]; exact List.getElem?_eq_getElem hj)).2
      have h8 := ha p hp
      omega
    · rw [h6 k (fun p hp e => c ⟨p, hp, e⟩)]
      omega
end Go.Proofs.YtgkacepcggjfkaaGreatDoor

/-
  TxnFree, plainly: one more is begun; who has ended holds no key, and no text says that it does.
-/
namespace Go.Proofs.YtgkacepcggjfkaaGreatDoor

theorem spotV_of {ps : List Pr} (hok : pairsOk ps = true) {p : Pr} (hp : p ∈ ps) : (St.of ps).v p.k = p.v ∧ (St.of ps).n p.k = p.n := by
  have hs := (pairs_ok hok).2.1
  exact spot_at hs hp rfl
/-- No text says that the one that has ended holds a key. -/
theorem noHold {In : Nat → Prop} {K : List (List UInt8)} {ps : List Pr} {T : Nat → Tx} {c : Nat} {N0 : List UInt8 → Nat} (h : Run In K ps T c) (hS : Solo (St.of ps) (T 50) 50 N0) (hg : (St.of ps).Good) (h10 : (T 50).ph = 10)
    (hK : ∀ k ∈ K, (∃ i, In i ∧ k = tKey i) ∨ ∃ q, k = kKey q) : ∀ p ∈ ps, ∀ k, (p.v.drop k).take 4 ≠ [32, 53, 48, 32] := fun p hp k hs => by
  obtain ⟨hv, hn⟩ := spotV_of h.room.ok hp
  have h50 := good_sub (x := p.v) (by rw [← hv]; exact hg p.k) hs
  rcases hK p.k (h.room.ks p hp) with ⟨i, hi, e⟩ | ⟨q, e⟩
  · have g := h.inv.t i hi
    rw [e] at hv hn
    have hn0 : (St.of ps).n (tKey i) ≠ 0 := by
      rw [hn]
      have := (prOk_iff ((pairs_ok h.room.ok).2.2 p hp)).2.2.2.1
      omega
    have hph : (T i).ph ≠ 0 := fun e0 => hn0 (g.r0 e0).1
    rcases g.r1 hph with ⟨_, x⟩ | ⟨_, x | x⟩
    · rw [← hv, x] at h50
      exact absurd h50 (by decide)
    · rw [← hv, x] at h50
      exact absurd h50 (by decide)
    · rw [← hv, x] at h50
      exact absurd h50 (by decide)
  · rw [e] at hv
    have hb : ((St.of ps).hAt q).b = 50 := by unfold St.hAt; rw [hv]; exact h50
    rcases h.inv.v q with x | ⟨_, j, p2, h2, _, h4, _⟩
    · rw [hb] at x
      cases x
    · rw [hb] at h2
      have := hS.free (by omega) j p2 h2 (.inr h10)
      rw [h4] at this
      exact this hb
end Go.Proofs.YtgkacepcggjfkaaGreatDoor
