/-
  WireStrict: what was read, written again: each pair of calls.
-/
import Derived.Test.YtijklginabipgaaGreatWOly
import Derived.Test.YtijklginabipgaaGreatWOlt
import Derived.Test.YtijklginabipgaaGreatWOlg
import Derived.Test.YtijklginabipgaaGreatWOle
import Derived.Test.YtijklginabipgaaGreatWOlc
import Derived.Test.YtijklginabipgaaGreatWOlq
namespace Go.Proofs.YtijklginabipgaaGreat
open Go.RowKit

theorem req_small {q : Rq} (h : q.ok = true) : q.key.length ≤ 64 ∧ q.val.length ≤ 64 := by
  unfold Rq.ok at h
  simp only [Bool.and_eq_true] at h
  have h2 := h.2
  split at h2
  · unfold Rq.none at h2
    simp only [Bool.and_eq_true, decide_eq_true_eq, List.isEmpty_iff] at h2
    rw [h2.1.1.2, h2.1.2]
    simp
  · simp only [isCmd, Bool.and_eq_true, decide_eq_true_eq] at h2
    exact ⟨by omega, h2.1.1.2⟩
theorem getReq_all (l : List UInt8) : getReq l = getAll zRq (rdReq l) := by
  unfold getReq
  cases h : rdReq l with
  | error c => rfl
  | ok p =>
    obtain ⟨x, t⟩ := p
    cases t <;> rfl
theorem OwnSss.nilK {B : Nat} {w w' : World} {ao : Option Addr} {c : Nat} {es : List Es} (h : OwnSss B w ao c es) (hk : Kept Nil w w') : OwnSss B w' ao c es :=
  ⟨own_kept h.1 hk (fun _ _ _ x => x.elim), fun e he => own_kept (h.2 e he) hk (fun _ _ _ x => x.elim)⟩

theorem getAll_zero {α : Type} {z x : α} {r : Except Int (α × List UInt8)} (h : getAll z r = (x, 0)) (he : ∀ c, r = .error c → c ≠ 0) : r = .ok (x, []) := by
  cases r with
  | error c =>
    rw [getAll_err rfl] at h
    simp only [Prod.mk.injEq] at h
    exact absurd h.2 (he c rfl)
  | ok p =>
    obtain ⟨y, t⟩ := p
    cases t with
    | nil =>
      rw [getAll_ok rfl] at h
      simp only [Prod.mk.injEq] at h
      rw [h.1]
    | cons b t =>
      rw [getAll_left rfl] at h
      simp only [Prod.mk.injEq] at h
      exact absurd h.2 (by decide)
theorem getAll_cases {α : Type} (z : α) (r : Except Int (α × List UInt8)) : (∃ x, r = .ok (x, []) ∧ getAll z r = (x, 0)) ∨ ∃ c, getAll z r = (z, c) := by
  cases r with
  | error c => exact .inr ⟨c, getAll_err rfl⟩
  | ok p =>
    obtain ⟨y, t⟩ := p
    cases t with
    | nil => exact .inl ⟨y, rfl, getAll_ok rfl⟩
    | cons b t => exact .inr ⟨1, getAll_left rfl⟩
theorem noZero_cmdS : NoZero rdCmd := noZero_num.then fun _ => (noZero_text 16).then fun _ => (noZero_text 64).then fun _ => noZero_num.then fun _ => NoZero.all _
theorem noZero_reqS : NoZero rdReq := noZero_num.then fun cl => noZero_num.then fun _ => noZero_num.then fun _ => by
  by_cases h : cl = 0
  · simp only [h, if_true]
    exact NoZero.end _ _ _ (by decide)
  · simp only [h, if_false]
    exact noZero_cmdS.then fun _ => NoZero.end _ _ _ (by decide)
theorem noZero_snS : NoZero rdSn := noZero_num.then fun _ => noZero_num.then fun _ => noZero_cfg.then fun _ => (noZero_text 8192).then fun _ => NoZero.all _
theorem noZero_snapS : NoZero rdSnap := noZero_snS.then fun _ => NoZero.end _ _ _ (by decide)
theorem noZero_upToS (most : Nat) : NoZero (rdUpTo most) := fun _ _ h => rdUpTo_err h
theorem noZero_prS : NoZero rdPr := (noZero_text 16).then fun _ => (noZero_text 64).then fun _ => noZero_num.then fun _ => NoZero.all _
theorem noZero_keysS : NoZero (rdKeys 32) := (noZero_upToS 32).then fun n => rdTimes_err (noZero_text 16) n
theorem noZero_rsS : NoZero rdRs := noZero_num.then fun _ => (noZero_text 64).then fun _ => noZero_num.then fun _ => noZero_keysS.then fun _ => NoZero.all _
theorem noZero_ssS : NoZero rdSs := noZero_num.then fun _ => noZero_num.then fun _ => noZero_num.then fun _ => noZero_rsS.then fun _ => NoZero.all _
theorem noZero_tabS : NoZero rdTab := noZero_num.then fun _ => ((noZero_upToS 32).then fun n => rdTimes_err noZero_prS n).then fun _ => ((noZero_upToS 8).then fun n => rdTimes_err noZero_ssS n).then fun _ => NoZero.end _ _ _ (by decide)
theorem noZero_flagS : NoZero rdFlag := by
  intro l c h
  cases l with
  | nil => cases h; decide
  | cons b t =>
    simp only [rdFlag] at h
    split at h
    · cases h
    · cases h; decide
theorem noZero_ensS : NoZero (rdEns 8) := (noZero_upToS 8).then fun n => rdTimes_err noZero_ent n
theorem noZero_bodyS (kd fr td tm : Nat) : NoZero (rdBody kd fr td tm) := by
  intro l c h
  unfold rdBody at h
  split at h
  · exact (noZero_num.then fun _ => noZero_num.then fun _ => NoZero.all _) l c h
  · split at h
    · exact (noZero_flagS.then fun _ => NoZero.all _) l c h
    · split at h
      · exact (noZero_num.then fun _ => noZero_num.then fun _ => noZero_num.then fun _ => noZero_num.then fun _ => noZero_ensS.then fun _ => NoZero.all _) l c h
      · split at h
        · exact (noZero_num.then fun _ => noZero_flagS.then fun _ => noZero_num.then fun _ => noZero_num.then fun _ => NoZero.all _) l c h
        · split at h
          · exact (noZero_num.then fun _ => noZero_snS.then fun _ => NoZero.all _) l c h
          · cases h
theorem noZero_msgS : NoZero rdMsg := noZero_num.then fun kd => noZero_num.then fun fr => noZero_num.then fun td => noZero_num.then fun tm => (noZero_bodyS kd fr td tm).then fun _ => NoZero.end _ _ _ (by decide)

theorem strictReq (l : List UInt8) (w : World) : Calls Tryz.prog 4 #[.string (bs l)] w fun e w' => ∃ cl nm kd ifv tm : Int, ∃ key val : List UInt8, ∃ c f : Int, ∃ p : List UInt8, e = .returned (.tuple #[.agg #[.int .i64 cl, .int .i64 nm, .int .i64 kd, .string (bs key), .string (bs val), .int .i64 ifv, .int .i64 tm], .int .i64 c]) ∧ Kept Nil w w' ∧ (c = 0 → f = 0 ∧ p = l) ∧ ∀ w2, Kept Nil w' w2 → Calls Tryz.prog 5 #[.agg #[.int .i64 cl, .int .i64 nm, .int .i64 kd, .string (bs key), .string (bs val), .int .i64 ifv, .int .i64 tm]] w2 fun e w3 => e = .returned (.tuple #[.string (bs p), .int .i64 f]) ∧ Kept Nil w2 w3 := by
  refine (getRequest_any l w).mono ?_
  rintro e w' ⟨rfl, hk⟩
  rw [getReq_all]
  have hc := getAll_cases zRq (rdReq l)
  have hs : (getAll zRq (rdReq l)).1.key.length ≤ maxLen ∧ (getAll zRq (rdReq l)).1.val.length ≤ maxLen := by
    rcases hc with ⟨x, r, e⟩ | ⟨c, e⟩
    · rw [e]
      have hq := (rdReq_strict r).2
      have := req_small hq
      unfold maxLen
      simp only
      omega
    · rw [e]
      unfold maxLen
      exact ⟨by simp [zRq], by simp [zRq]⟩
  have hz : (getAll zRq (rdReq l)).2 = 0 → (putReq (getAll zRq (rdReq l)).1).2 = 0 ∧ (putReq (getAll zRq (rdReq l)).1).1 = l := fun h0 => by
    have r := getAll_zero (x := (getAll zRq (rdReq l)).1) (Prod.ext rfl h0) (noZero_reqS l)
    obtain ⟨e1, e2⟩ := rdReq_strict r
    unfold putReq
    rw [if_pos e2]
    exact ⟨rfl, by rw [List.append_nil] at e1; exact e1.symm⟩
  generalize getAll zRq (rdReq l) = g at hs hz ⊢
  obtain ⟨x, c⟩ := g
  obtain ⟨cl, nm, kd, key, val, ifv, tm⟩ := x
  exact ⟨cl, nm, kd, ifv, tm, key, val, c, _, _, rfl, hk, hz, fun w2 _ => putRequest_any cl nm kd ifv tm key val w2 hs.1 hs.2⟩

theorem strictEnt (l : List UInt8) (w : World) : Calls Tryz.prog 6 #[.string (bs l)] w fun e w' => ∃ ix tm kd : Int, ∃ dt : List UInt8, ∃ c f : Int, ∃ p : List UInt8, e = .returned (.tuple #[.agg #[.int .i64 ix, .int .i64 tm, .int .i64 kd, .string (bs dt)], .int .i64 c]) ∧ Kept Nil w w' ∧ (c = 0 → f = 0 ∧ p = l) ∧ ∀ w2, Kept Nil w' w2 → Calls Tryz.prog 7 #[.agg #[.int .i64 ix, .int .i64 tm, .int .i64 kd, .string (bs dt)]] w2 fun e w3 => e = .returned (.tuple #[.string (bs p), .int .i64 f]) ∧ Kept Nil w2 w3 := by
  refine (getEntry_any l w).mono ?_
  rintro e w' ⟨v, rfl, hv, hk⟩
  unfold EnV at hv
  subst hv
  have hc := getAll_cases zEn (rdEnt l)
  have hs : (getAll zEn (rdEnt l)).1.dt.length ≤ maxLen := by
    rcases hc with ⟨x, r, e⟩ | ⟨c, e⟩
    · rw [e]
      have := (En.facts (rdEnt_strict r).2).2.2.2
      unfold maxLen
      simp only
      omega
    · rw [e]
      unfold maxLen
      simp [zEn]
  have hz : (getAll zEn (rdEnt l)).2 = 0 → (putEnt (getAll zEn (rdEnt l)).1).2 = 0 ∧ (putEnt (getAll zEn (rdEnt l)).1).1 = l := fun h0 => by
    have r := getAll_zero (x := (getAll zEn (rdEnt l)).1) (Prod.ext rfl h0) (noZero_ent l)
    obtain ⟨e1, e2⟩ := rdEnt_strict r
    unfold putEnt
    rw [if_pos e2]
    exact ⟨rfl, by rw [List.append_nil] at e1; exact e1.symm⟩
  generalize getAll zEn (rdEnt l) = g at hs hz ⊢
  obtain ⟨x, c⟩ := g
  obtain ⟨ix, tm, kd, dt⟩ := x
  exact ⟨ix, tm, kd, dt, c, _, _, rfl, hk, hz, fun w2 _ => putEntry_any ix tm kd dt w2 hs⟩

theorem cf_len {c : Cf} (h : c.ok = true) : c.v.length ≤ 1000 ∧ c.n.length ≤ 1000 ∧ c.l.length ≤ 1000 := by
  have f := few_of h
  exact ⟨f.1.len, f.2.1.len, f.2.2.len⟩

theorem strictCfg (l : List UInt8) (w : World) : Calls Tryz.prog 8 #[.string (bs l)] w fun e w' => ∃ a1 a2 a3 : Option Addr, ∃ n1 n2 n3 c1 c2 c3 : Nat, ∃ c f : Int, ∃ p : List UInt8, e = .returned (.tuple #[.agg #[.slice a1 n1 c1, .slice a2 n2 c2, .slice a3 n3 c3], .int .i64 c]) ∧ Kept Nil w w' ∧ (c = 0 → f = 0 ∧ p = l) ∧ ∀ w2, Kept Nil w' w2 → Calls Tryz.prog 9 #[.agg #[.slice a1 n1 c1, .slice a2 n2 c2, .slice a3 n3 c3]] w2 fun e w3 => e = .returned (.tuple #[.string (bs p), .int .i64 f]) ∧ Kept Nil w2 w3 := by
  refine (getConfig_any l w).mono ?_
  rintro e w' ⟨v, rfl, hv, hk⟩
  have hc := getAll_cases zCf (rdCfg l)
  have hs : (getAll zCf (rdCfg l)).1.v.length ≤ 1000 ∧ (getAll zCf (rdCfg l)).1.n.length ≤ 1000 ∧ (getAll zCf (rdCfg l)).1.l.length ≤ 1000 := by
    rcases hc with ⟨x, r, e⟩ | ⟨c, e⟩
    · rw [e]
      exact cf_len (rdCfg_strict r).2
    · rw [e]
      exact ⟨by simp [zCf], by simp [zCf], by simp [zCf]⟩
  have hz : (getAll zCf (rdCfg l)).2 = 0 → (putCfg (intsOf (getAll zCf (rdCfg l)).1.v) (intsOf (getAll zCf (rdCfg l)).1.n) (intsOf (getAll zCf (rdCfg l)).1.l)).2 = 0 ∧ (putCfg (intsOf (getAll zCf (rdCfg l)).1.v) (intsOf (getAll zCf (rdCfg l)).1.n) (intsOf (getAll zCf (rdCfg l)).1.l)).1 = l := fun h0 => by
    have r := getAll_zero (x := (getAll zCf (rdCfg l)).1) (Prod.ext rfl h0) (noZero_cfg l)
    obtain ⟨e1, e2⟩ := rdCfg_strict r
    unfold putCfg
    rw [if_pos (show isCfg _ _ _ = true from e2), natsOf_ints, natsOf_ints, natsOf_ints]
    exact ⟨rfl, by rw [List.append_nil] at e1; exact e1.symm⟩
  generalize getAll zCf (rdCfg l) = g at hv hs hz ⊢
  obtain ⟨x, c⟩ := g
  obtain ⟨a1, a2, a3, c1, c2, c3, rfl, o1, o2, o3⟩ := hv
  refine ⟨a1, a2, a3, x.v.length, x.n.length, x.l.length, c1, c2, c3, c, _, _, rfl, hk, hz, fun w2 h2 => ?_⟩
  have hr := cf_rows (own_kept o1 h2 (fun _ _ _ x => x.elim)) (own_kept o2 h2 (fun _ _ _ x => x.elim)) (own_kept o3 h2 (fun _ _ _ x => x.elim))
  have H := putConfig_any w2.heap.size c1 c2 c3 a1 a2 a3 (intsOf x.v) (intsOf x.n) (intsOf x.l) w2 hr (by have := hs.1; rw [intsOf_len]; simp only at this; omega) (by have := hs.2.1; rw [intsOf_len]; simp only at this; omega) (by have := hs.2.2; rw [intsOf_len]; simp only at this; omega)
  rw [intsOf_len, intsOf_len, intsOf_len] at H
  exact H

theorem strictSnap (l : List UInt8) (w : World) : Calls Tryz.prog 10 #[.string (bs l)] w fun e w' => ∃ ix tm : Int, ∃ a1 a2 a3 : Option Addr, ∃ n1 n2 n3 c1 c2 c3 : Nat, ∃ dt : List UInt8, ∃ c f : Int, ∃ p : List UInt8, e = .returned (.tuple #[.agg #[.int .i64 ix, .int .i64 tm, .slice a1 n1 c1, .slice a2 n2 c2, .slice a3 n3 c3, .string (bs dt)], .int .i64 c]) ∧ Kept Nil w w' ∧ (c = 0 → f = 0 ∧ p = l) ∧ ∀ w2, Kept Nil w' w2 → Calls Tryz.prog 11 #[.agg #[.int .i64 ix, .int .i64 tm, .slice a1 n1 c1, .slice a2 n2 c2, .slice a3 n3 c3, .string (bs dt)]] w2 fun e w3 => e = .returned (.tuple #[.string (bs p), .int .i64 f]) ∧ Kept Nil w2 w3 := by
  refine (getSnapshot_any l w).mono ?_
  rintro e w' ⟨v, rfl, hv, hk⟩
  have hc := getAll_cases zSn (rdSnap l)
  have hs : (getAll zSn (rdSnap l)).1.c.v.length ≤ 1000 ∧ (getAll zSn (rdSnap l)).1.c.n.length ≤ 1000 ∧ (getAll zSn (rdSnap l)).1.c.l.length ≤ 1000 ∧ (getAll zSn (rdSnap l)).1.dt.length ≤ 8192 := by
    rcases hc with ⟨x, r, e⟩ | ⟨c, e⟩
    · rw [e]
      have q := snOk_facts (rdSnap_strict r).2
      have q3 := cf_len (c := x.c) q.2.2.1
      exact ⟨q3.1, q3.2.1, q3.2.2, q.2.2.2⟩
    · rw [e]
      exact ⟨by simp [zSn, zCf], by simp [zSn, zCf], by simp [zSn, zCf], by simp [zSn]⟩
  have hz : (getAll zSn (rdSnap l)).2 = 0 → (putSnap (getAll zSn (rdSnap l)).1.ix (getAll zSn (rdSnap l)).1.tm (intsOf (getAll zSn (rdSnap l)).1.c.v) (intsOf (getAll zSn (rdSnap l)).1.c.n) (intsOf (getAll zSn (rdSnap l)).1.c.l) (getAll zSn (rdSnap l)).1.dt).2 = 0 ∧ (putSnap (getAll zSn (rdSnap l)).1.ix (getAll zSn (rdSnap l)).1.tm (intsOf (getAll zSn (rdSnap l)).1.c.v) (intsOf (getAll zSn (rdSnap l)).1.c.n) (intsOf (getAll zSn (rdSnap l)).1.c.l) (getAll zSn (rdSnap l)).1.dt).1 = l := fun h0 => by
    have r := getAll_zero (x := (getAll zSn (rdSnap l)).1) (Prod.ext rfl h0) (noZero_snapS l)
    obtain ⟨e1, e2⟩ := rdSnap_strict r
    unfold putSnap
    rw [if_pos (show snOk _ _ _ _ _ _ = true from e2), natsOf_ints, natsOf_ints, natsOf_ints, Int.toNat_natCast, Int.toNat_natCast]
    exact ⟨rfl, by rw [List.append_nil] at e1; exact e1.symm⟩
  generalize getAll zSn (rdSnap l) = g at hv hs hz ⊢
  obtain ⟨x, c⟩ := g
  obtain ⟨a1, a2, a3, c1, c2, c3, rfl, o1, o2, o3⟩ := hv
  refine ⟨x.ix, x.tm, a1, a2, a3, x.c.v.length, x.c.n.length, x.c.l.length, c1, c2, c3, x.dt, c, _, _, rfl, hk, hz, fun w2 h2 => ?_⟩
  have hr := cf_rows (own_kept o1 h2 (fun _ _ _ x => x.elim)) (own_kept o2 h2 (fun _ _ _ x => x.elim)) (own_kept o3 h2 (fun _ _ _ x => x.elim))
  have H := putSnapshot_any x.ix x.tm w2.heap.size c1 c2 c3 a1 a2 a3 (intsOf x.c.v) (intsOf x.c.n) (intsOf x.c.l) x.dt w2 hr (by have := hs.1; rw [intsOf_len]; simp only at this; omega) (by have := hs.2.1; rw [intsOf_len]; simp only at this; omega) (by have := hs.2.2.1; rw [intsOf_len]; simp only at this; omega) (by have := hs.2.2.2; unfold maxLen; simp only at this; omega)
  rw [intsOf_len, intsOf_len, intsOf_len] at H
  exact H

theorem strictTab (l : List UInt8) (w : World) : Calls Tryz.prog 14 #[.string (bs l)] w fun e w' => ∃ a1 a2 : Option Addr, ∃ n1 n2 c1 c2 : Nat, ∃ tm : Int, ∃ c f : Int, ∃ p : List UInt8, e = .returned (.tuple #[.agg #[.slice a1 n1 c1, .slice a2 n2 c2, .int .i64 tm], .int .i64 c]) ∧ Kept Nil w w' ∧ (c = 0 → f = 0 ∧ p = l) ∧ ∀ w2, Kept Nil w' w2 → Calls Tryz.prog 15 #[.agg #[.slice a1 n1 c1, .slice a2 n2 c2, .int .i64 tm]] w2 fun e w3 => e = .returned (.tuple #[.string (bs p), .int .i64 f]) ∧ Kept Nil w2 w3 := by
  refine (getTable_any l w).mono ?_
  rintro e w' ⟨v, rfl, hv, hk⟩
  have hc := getAll_cases zTb (rdTab l)
  have hs : ((getAll zTb (rdTab l)).1.ps.length ≤ 32 ∧ ∀ p ∈ (getAll zTb (rdTab l)).1.ps, PSmall p) ∧ (getAll zTb (rdTab l)).1.ss.length ≤ 8 ∧ ∀ s ∈ (getAll zTb (rdTab l)).1.ss, SSmall s := by
    rcases hc with ⟨x, r, e⟩ | ⟨c, e⟩
    · rw [e]
      obtain ⟨tm, l1, r1, h⟩ := rdThen_inv r
      obtain ⟨ps, l2, r2, h⟩ := rdThen_inv h
      obtain ⟨ss, l3, r3, h⟩ := rdThen_inv h
      unfold rdTabEnd at h
      split at h
      · cases h
        exact ⟨rdPrs_small r2, rdSss_small r3⟩
      · cases h
    · rw [e]
      exact ⟨⟨by simp [zTb], by intro p hp; simp [zTb] at hp⟩, by simp [zTb], by intro p hp; simp [zTb] at hp⟩
  have hz : (getAll zTb (rdTab l)).2 = 0 → (putTab (getAll zTb (rdTab l)).1.tm (getAll zTb (rdTab l)).1.ps (getAll zTb (rdTab l)).1.ss).2 = 0 ∧ (putTab (getAll zTb (rdTab l)).1.tm (getAll zTb (rdTab l)).1.ps (getAll zTb (rdTab l)).1.ss).1 = l := fun h0 => by
    have r := getAll_zero (x := (getAll zTb (rdTab l)).1) (Prod.ext rfl h0) (noZero_tabS l)
    obtain ⟨e1, e2⟩ := rdTab_strict r
    unfold putTab
    rw [if_pos (show tabOk _ _ _ = true from e2)]
    exact ⟨rfl, by rw [List.append_nil] at e1; exact e1.symm⟩
  generalize getAll zTb (rdTab l) = g at hv hs hz ⊢
  obtain ⟨x, c⟩ := g
  obtain ⟨a1, c1, a2, c2, es, he, rfl, o1, o2⟩ := hv
  simp only at he hs hz
  have hle : es.length = x.ss.length := by rw [← he]; simp
  refine ⟨a1, a2, x.ps.length, es.length, c1, c2, x.tm, c, _, _, rfl, hk, hz, fun w2 h2 => ?_⟩
  have r1 := prs_row (own_kept o1 h2 (fun _ _ _ x => x.elim)) hs.1.2
  have r2 := sss_row (OwnSss.nilK o2 h2) (by rw [he]; exact hs.2.2)
  rw [he] at r2
  have H := putTable_any w2.heap.size c1 c2 x.tm a1 a2 x.ps x.ss w2 r1 r2 (by have := hs.1.1; omega) (by have := hs.2.1; omega)
  rw [← hle] at H
  exact H

theorem strictMsg (l : List UInt8) (w : World) : Calls Tryz.prog 12 #[.string (bs l)] w fun e w' => ∃ x0 x1 x2 x3 x4 x5 x6 x7 x8 x9 x10 x11 x12 x13 x14 x15 x16 : Value, ∃ c f : Int, ∃ p : List UInt8, e = .returned (.tuple #[.agg #[x0, x1, x2, x3, x4, x5, x6, x7, x8, x9, x10, x11, x12, x13, x14, x15, x16], .int .i64 c]) ∧ Kept Nil w w' ∧ (c = 0 → f = 0 ∧ p = l) ∧ (#[x0, x1, x2, x3, x4, x5, x6, x7, x8, x9, x10, x11, x12, x13, x14, x15, x16] : Array Value).all (·.oneCell') = true ∧ ∀ w2, Kept Nil w' w2 → Calls Tryz.prog 13 #[.agg #[x0, x1, x2, x3, x4, x5, x6, x7, x8, x9, x10, x11, x12, x13, x14, x15, x16]] w2 fun e w3 => e = .returned (.tuple #[.string (bs p), .int .i64 f]) ∧ Kept Nil w2 w3 := by
  refine (getMessage_any l w).mono ?_
  rintro e w' ⟨v, rfl, hv, hk⟩
  rcases getAll_cases zMg (rdMsg l) with ⟨x, r, eq⟩ | ⟨c, eq⟩
  · rw [eq] at hv ⊢
    obtain ⟨e1, e2, e3, e4⟩ := rdMsg_strict r
    have hv' := hv
    obtain ⟨ae, ce, a1, a2, a3, c1, c2, c3, rfl, hP⟩ := hv
    refine ⟨_, _, _, _, _, _, _, _, _, _, _, _, _, _, _, _, _, 0, 0, encMsg x, rfl, hk, fun _ => ⟨rfl, by rw [List.append_nil] at e1; exact e1.symm⟩, (one17 rfl rfl rfl rfl rfl rfl rfl rfl rfl rfl rfl rfl rfl rfl rfl rfl rfl), fun w2 h2 => ?_⟩
    refine putMsg_any x w.heap.size _ w2 e2 e3 e4 ⟨ae, ce, a1, a2, a3, c1, c2, c3, rfl, hP.1, own_kept hP.2.1 h2 (fun _ _ _ x => x.elim), own_kept hP.2.2.1 h2 (fun _ _ _ x => x.elim), own_kept hP.2.2.2.1 h2 (fun _ _ _ x => x.elim), own_kept hP.2.2.2.2 h2 (fun _ _ _ x => x.elim)⟩
  · have hc : c ≠ 0 := by
      intro h0
      rw [h0] at eq
      have r := getAll_zero eq (noZero_msgS l)
      have := (rdMsg_strict r).2.2.2
      revert this
      decide
    rw [eq] at hv ⊢
    obtain ⟨ae, ce, a1, a2, a3, c1, c2, c3, rfl, hP⟩ := hv
    obtain ⟨rfl, rfl⟩ := hP.1.1 (show (0 : Nat) ≠ 5 by decide)
    obtain ⟨⟨rfl, rfl⟩, ⟨rfl, rfl⟩, ⟨rfl, rfl⟩⟩ := hP.1.2 (show (0 : Nat) ≠ 7 by decide)
    exact ⟨_, _, _, _, _, _, _, _, _, _, _, _, _, _, _, _, _, c, 7, [], rfl, hk, fun h => absurd h hc, (one17 rfl rfl rfl rfl rfl rfl rfl rfl rfl rfl rfl rfl rfl rfl rfl rfl rfl), fun w2 _ => putMsg_zero w2⟩

end Go.Proofs.YtijklginabipgaaGreat
