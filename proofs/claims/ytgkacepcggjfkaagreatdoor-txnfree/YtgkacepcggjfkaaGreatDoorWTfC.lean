/-
  TxnFree: the one that goes on alone, in memory.
-/
import Derived.Test.YtgkacepcggjfkaaGreatDoorWTfA
import Derived.Test.YtgkacepcggjfkaaGreatDoorWTsE
namespace Go.Proofs.YtgkacepcggjfkaaGreatDoor
open Go.RowKit

def In50 (es : List Eb) : Nat → Prop := fun b => InE es b ∨ b = 50
def K50 (es : List Eb) : List (List UInt8) := tKey 50 :: allK es
def b50 (es : List Eb) (xb : Nat) : Nat → Nat := fun i => if i = 50 then xb else (dOf es).b i
structure FS (w w1 : World) (n0 : Nat) (es : List Eb) (xb : Nat) (N0 : List UInt8 → Nat) (own : List Pt) (X : World) (T : Nat → Tx) (ps : List Pr) (pa : Option Addr) (pc c j : Nat) : Prop where
  mf : MF w w1 n0 (In50 es) (K50 es) (b50 es xb) X T ps pa pc c
  good : (St.of ps).Good
  solo : Solo (St.of ps) (T 50) 50 N0
  own : (T 50).ps = own
  mu : muS (St.of ps) (T 50) + j ≤ 32
theorem FS.next {w w1 X X' : World} {n0 xb pc c j : Nat} {es : List Eb} {N0 : List UInt8 → Nat} {own : List Pt} {T : Nat → Tx} {ps : List Pr} {pa : Option Addr} (h : FS w w1 n0 es xb N0 own X T ps pa pc c j) (k : Kept Nil X X') : FS w w1 n0 es xb N0 own X' T ps pa pc c j := ⟨h.mf.next k, h.good, h.solo, h.own, h.mu⟩
theorem K50_len (es : List Eb) : (K50 es).length = es.length + 5 := by simp [K50, allK_len]
theorem FS.answered {w w1 X X' : World} {n0 xb pc pc' c j : Nat} {es : List Eb} {N0 : List UInt8 → Nat} {own : List Pt} {T : Nat → Tx} {ps : List Pr} {pa pa' : Option Addr} {e : Ending} {D : TD} (h : FS w w1 n0 es xb N0 own X T ps pa pc c j) (hl : es.length < 27) (hc : c < 1099511627775) (h9 : (T 50).ph ≤ 9) (hN : ∀ p ∈ own, (N0 p.k : Int) + p.a ≤ 999999999)
    (hD : D.b = b50 es xb) (hM : TM n0 w1.heap.size X (In50 es) T D) (hp : OwnP w1.heap.size X pa' pc' ((T 50).psOf ps))
    (ha : TxPost n0 X (D.b 50) ((T 50).answer ((T 50).rOf ps)) (D.ap 50) (D.oo 50) (D.cp 50) e X') : e = .returned (.tuple #[]) ∧ FS w w1 n0 es xb N0 own X' (upd T 50 ((T 50).answer ((T 50).rOf ps))) ((T 50).psOf ps) pa' pc' (c + 1) (j + 1) := by
  have hK : (K50 es).length < 32 := by rw [K50_len]; omega
  have hi : In50 es 50 := .inr rfl
  obtain ⟨h1, h2⟩ := h.mf.answered hK hc hi h9 hD hM hp ha
  obtain ⟨r1, r2, r3, r4⟩ := h.mf.run.step hK hc hi h9
  obtain ⟨s1, s2⟩ := Solo.go h.mf.run.inv hi h9 h.solo (by rw [h.own]; exact hN)
  refine ⟨h1, h2, Good.step h.mf.run hK hc hi h9 h.good, ?_, ?_, ?_⟩
  · rw [upd_same, r3, r4]
    exact s1
  · rw [upd_same, r4, (go_ps _ _).1]
    exact h.own
  · rw [upd_same, r3, r4]
    have := h.mu
    omega
theorem TM.add {B N : Nat} {w : World} {In : Nat → Prop} {T : Nat → Tx} {D : TD} {d xb cp : Nat} {own : List Pt} {ap : Option Addr} (h : TM B N w In T D) (hd : ¬ In d) (h1 : TxAt w xb (newTx d own) ap none cp 0) (h2 : OwnT B w ap cp own) (h3 : B ≤ xb) : ∃ D', D'.b = (fun i => if i = d then xb else D.b i) ∧ TM B N w (fun b => In b ∨ b = d) (upd T d (newTx d own)) D' := by
  have hne : ∀ i, In i → i ≠ d := fun i hi e => by subst e; exact hd hi
  refine ⟨⟨fun i => if i = d then xb else D.b i, fun i => if i = d then ap else D.ap i, fun i => if i = d then cp else D.cp i, fun i => if i = d then none else D.oo i, fun i => if i = d then 0 else D.oc i⟩, rfl, fun i hi => ?_, fun i hi => ?_, fun i hi => ?_, fun i hi => ?_, fun i hi => ?_, fun i a hi ha => ?_, fun i j a c hi hj hn ha hc => ?_, h.sz⟩
  · by_cases e : i = d
    · subst e
      simp only [if_true, upd_same]
      exact h1
    · simp only [if_neg e, upd_ne T _ e]
      exact h.tx i (hi.resolve_right e)
  · by_cases e : i = d
    · subst e
      simp only [if_true, upd_same]
      exact h2
    · simp only [if_neg e, upd_ne T _ e]
      exact h.ps i (hi.resolve_right e)
  · by_cases e : i = d
    · subst e
      simp only [if_true, upd_same]
      exact World.ownsRow_nil w B 3 1
    · simp only [if_neg e, upd_ne T _ e]
      exact h.old i (hi.resolve_right e)
  · by_cases e : i = d
    · subst e
      rw [upd_same]
      rfl
    · rw [upd_ne T _ e]
      exact h.id i (hi.resolve_right e)
  · by_cases e : i = d
    · subst e
      simp only [if_true]
      exact h3
    · simp only [if_neg e]
      exact h.ge i (hi.resolve_right e)
  · by_cases e : i = d
    · subst e
      simp at ha
    · simp only [if_neg e] at ha
      exact h.oon i a (hi.resolve_right e) ha
  · by_cases e : i = d
    · subst e
      simp at ha
    · by_cases e2 : j = d
      · subst e2
        simp at hc
      · simp only [if_neg e] at ha
        simp only [if_neg e2] at hc
        exact h.ne i j a c (hi.resolve_right e) (hj.resolve_right e2) hn ha hc
theorem tKey_ne50 {i : Nat} (h : i ≤ 999) (hn : i ≠ 50) : tKey i ≠ tKey 50 := fun e => hn (tKey_inj h (by decide) e)
theorem FS.first {w w1 X : World} {n0 pc c xb cp : Nat} {es : List Eb} {own : List Pt} {T : Nat → Tx} {ps : List Pr} {pa ap : Option Addr} (h : FO w w1 n0 es X T ps pa pc c) (h6 : ∀ e ∈ es, e.id ≤ 6) (h1 : TxAt X xb (newTx 50 own) ap none cp 0) (h2 : OwnT n0 X ap cp own) (h3 : n0 ≤ xb) (h4 : w.heap.size ≤ xb) (ht : Tam own) (ok : (newTx 50 own).Ok) :
    FS w w1 n0 es xb (St.of ps).num own X (upd T 50 (newTx 50 own)) ps pa pc c 0 := by
  have hd : ¬ InE es 50 := fun ⟨e, he, e2⟩ => by have := h6 e he; omega
  have hne : ∀ i, InE es i → i ≠ 50 := fun i hi e => by subst e; exact hd hi
  have habs : ∀ p ∈ ps, p.k ≠ tKey 50 := fun p hp e => by
    have hk := h.mf.run.room.ks p hp
    rw [e] at hk
    rcases List.mem_append.1 hk with hk | hk
    · obtain ⟨x, hx, e2⟩ := List.mem_map.1 hk
      exact tKey_ne50 (by have := h6 x hx; omega) (by have := h6 x hx; omega) e2
    · obtain ⟨x, _, e2⟩ := List.mem_map.1 hk
      exact kt_ne _ _ e2
  obtain ⟨hv, hn⟩ := spot_abs habs
  obtain ⟨D, eD, hD⟩ := h.mf.tm
  obtain ⟨D', eD', hD'⟩ := hD.add hd h1 h2 h3
  have hb : (fun i => if i = 50 then xb else D.b i) = b50 es xb := by funext i; unfold b50; rw [eD]
  refine ⟨⟨⟨D', eD'.trans hb, hD'⟩, ⟨h.mf.run.inv.add hd hn hv ok ht.1.rise, ⟨h.mf.run.room.ok, fun p hp => List.mem_cons_of_mem _ (h.mf.run.room.ks p hp), h.mf.run.room.n⟩, fun b hb => ?_, fun b hb => ?_, fun b hb p hp => ?_⟩, h.mf.pr, h.mf.kept.mono (fun q o x => ?_), h.mf.kw, fun i hi => ?_, h.mf.w1w, h.mf.n0le⟩, h.good, ?_, by rw [upd_same]; rfl, ?_⟩
  · by_cases e : b = 50
    · subst e
      rw [upd_same]
      exact ⟨Int.le_refl 0, by show (0 : Int) ≤ c; omega⟩
    · rw [upd_ne T _ e]
      exact h.mf.run.vr b (hb.resolve_right e)
  · rcases hb with hb | rfl
    · exact List.mem_cons_of_mem _ (h.mf.run.tk b hb)
    · exact List.mem_cons_self ..
  · by_cases e : b = 50
    · subst e
      rw [upd_same] at hp
      obtain ⟨i, hi, e2⟩ := ht.1.key p hp
      rw [e2]
      exact List.mem_cons_of_mem _ (List.mem_append_right _ (List.mem_map.2 ⟨_, (low_keys hi).1, rfl⟩))
    · rw [upd_ne T _ e] at hp
      exact List.mem_cons_of_mem _ (h.mf.run.kk b (hb.resolve_right e) p hp)
  · rcases x with x | x | ⟨i, hi, x⟩
    · exact .inl x
    · exact .inr (.inl x)
    · exact .inr (.inr ⟨i, .inl hi, by unfold b50; rw [if_neg (hne i hi)]; exact x⟩)
  · unfold b50
    by_cases e : i = 50
    · rw [if_pos e]
      exact h4
    · rw [if_neg e]
      exact h.mf.bw i (hi.resolve_right e)
  · rw [upd_same]
    exact ⟨fun x => absurd (show (0 : Nat) = 2 ∨ (0 : Nat) = 3 ∨ (0 : Nat) = 4 ∨ (0 : Nat) = 5 ∨ (0 : Nat) = 9 from x) (by decide), fun x => absurd (show (0 : Nat) = 4 from x) (by decide), fun x => absurd rfl x, fun _ _ => rfl, fun _ j p _ hj => absurd (show j < 0 from hj) (Nat.not_lt_zero _), fun x => absurd (show (0 : Nat) = 7 from x) (by decide), fun x => absurd (show 8 ≤ (0 : Nat) from x) (by decide), fun x => absurd (show 8 ≤ (0 : Nat) from x) (by decide), fun x => absurd (show 8 ≤ (0 : Nat) from x) (by decide)⟩
  · rw [upd_same]
    have : muS (St.of ps) (newTx 50 own) = 2 + 10 * own.length := by unfold muS; rfl
    rw [this]
    have := ht.1.len
    omega
theorem FO.bound {w w1 X : World} {n0 pc c : Nat} {es : List Eb} {own : List Pt} {T : Nat → Tx} {ps : List Pr} {pa : Option Addr} (h : FO w w1 n0 es X T ps pa pc c) (ht : Tam own) : ∀ p ∈ own, (((St.of ps).num p.k : Nat) : Int) + p.a ≤ 999999999 := fun p hp => by
  have h1 := h.small p.k
  have h2 : 0 ≤ leftZ (es.map Eb.id) T := by
    unfold leftZ
    have : ∀ l : List Nat, 0 ≤ (l.map fun i => if (T i).st = 2 then (0 : Int) else 9).sum := fun l => by
      induction l with
      | nil => exact Int.le_refl 0
      | cons x l ih =>
        simp only [List.map_cons, List.sum_cons]
        split <;> omega
    exact this _
  have h3 := ht.1.add p hp
  omega
theorem K50_is {es : List Eb} : ∀ k ∈ K50 es, (∃ i, In50 es i ∧ k = tKey i) ∨ ∃ q, k = kKey q := fun k hk => by
  rcases List.mem_cons.1 hk with rfl | hk
  · exact .inl ⟨50, .inr rfl, rfl⟩
  · rcases List.mem_append.1 hk with hk | hk
    · obtain ⟨e, he, rfl⟩ := List.mem_map.1 hk
      exact .inl ⟨e.id, .inl ⟨e, he, rfl⟩, rfl⟩
    · obtain ⟨q, _, rfl⟩ := List.mem_map.1 hk
      exact .inr ⟨q, rfl⟩
end Go.Proofs.YtgkacepcggjfkaaGreatDoor
