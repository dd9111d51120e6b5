/-
  TxnSerial: the transactions are begun.
-/
import Derived.Test.YtgkacepcggjfkaaGreatDoorWTsA
import Derived.Test.YtgkacepcggjfkaaGreatDoorWTxE
import Derived.BigQuiet
import Derived.BigRegion
import Derived.StillTailTactics
import Derived.Deep.DeepCutAuto
import Derived.Deep.DeepFit
import Derived.Deep.RegionHeld3
import Derived.Deep.RegionLaw
namespace Go.Proofs.YtgkacepcggjfkaaGreatDoor
open Go.RowKit

theorem Tryz.infoTp : (Tryz.prog.info? 24).map (fun i => (i.zero, i.size, i.bytes)) = some (some (.pointer none), 1, 8) := by kernel_rfl
theorem Tryz.infoPs : (Tryz.prog.info? 22).map (fun i => (i.zero, i.size, i.bytes)) = some (some (.slice none 0 0), 1, 24) := by kernel_rfl
/-- The raw parts: where each list lies. -/
def RawRow (B : Nat) (w : World) (ao : Option Addr) (rs : List (List Pt)) : Prop := ∀ j, (hj : j < rs.length) → ∃ a, ao = some a ∧ a.block < B ∧ ∃ qa qc, w.cell? (a.add j) = some (.slice qa rs[j].length qc) ∧ PtRow B w qa rs[j] ∧ rs[j].length ≤ 140737488355328 ∧ ∀ p ∈ rs[j], p.k.length ≤ 140737488355328
theorem one_src (w : World) (t st : TypeId) (v : Value) (hu : Tryz.prog.underlying st = some (.slice t)) (hv : v.oneCell' = true) : Src Tryz.prog 1 st (.slice (some ⟨w.heap.size, 0, .none⟩) 1 1) 1 [v] (w.alloc (.cells #[v] t)) := by
  refine Src.ofSlice _ hu ⟨w.heap.size, 0, .none⟩ 1 1 _ rfl ?_ (fun u hu => by simp at hu; subst hu; exact hv)
  intro j u hj
  rw [addr_addE, blk_cell (blk_new w (.cells #[v] t)), ← hj]
  simp
theorem LRow.push {n0 lc n : Nat} {w : World} {lo : Option Addr} {es : List Eb} {e : Eb} (hn : n = es.length) (h : w.ownsRow n0 24 1 (.slice lo (n + 1) lc) (n + 1) (es.map enP ++ [enP e])) : LRow n0 w lo lc (es ++ [e]) := by
  subst hn
  show World.ownsRow _ _ _ _ _ _ _
  rw [List.length_append, List.map_append]
  exact h
theorem PRow.push {n0 lc n : Nat} {w : World} {lo : Option Addr} {es : List Eb} {e : Eb} (hn : n = es.length) (h : w.ownsRow n0 22 1 (.slice lo (n + 1) lc) (n + 1) (es.map enS ++ [enS e])) : PRow n0 w lo lc (es ++ [e]) := by
  subst hn
  show World.ownsRow _ _ _ _ _ _ _
  rw [List.length_append, List.map_append]
  exact h
theorem Kept.grownB {w w1 w2 : World} {n0 size n : Nat} {t : TypeId} {v : Value} {xs : List Value} (k : Kept Nil w w1) (h : w1.ownsRow n0 t size v n xs) (hg : w1.grownBy w2 v.ownBlock) (hn : w.heap.size ≤ n0) : Kept Nil w w2 :=
  k.grown0 hg (fun g e => Nat.le_trans hn (World.ownsRow.lt h g e).1)
theorem tam_good {k : Nat} {qs : List Pt} (h : Tam qs) (hk : k < 6) : NewGood ((k : Int) + 1) qs := by
  refine ⟨by omega, by omega, h.2, by have := h.1.len; omega, fun p hp => ?_, rise_nodup h.1.rise⟩
  obtain ⟨i, hi, e⟩ := h.1.key p hp
  have h2 := h.1.add p hp
  unfold ptOk
  rw [e]
  simp [lowK]
  omega
/-- What is so of those that were begun, so far. -/
structure Begun0 (n0 : Nat) (w : World) (lo po : Option Addr) (lc pc : Nat) (es : List Eb) : Prop where
  l : LRow n0 w lo lc es
  p : PRow n0 w po pc es
  ok : ∀ e ∈ es, EbOk n0 w e
theorem Begun0.kept {n0 : Nat} {w w' : World} {lo po : Option Addr} {lc pc : Nat} {es : List Eb} (h : Begun0 n0 w lo po lc pc es) (k : Kept Nil w w') : Begun0 n0 w' lo po lc pc es :=
  ⟨own_kept h.l k (fun _ _ _ x => x), own_kept h.p k (fun _ _ _ x => x), fun e he => (h.ok e he).kept k⟩
theorem off_xt {w1 : World} {n0 sb g : Nat} {es : List Eb} {t : TypeId} {cs : Array Value} {fr : Nat × Nat} (h : ∀ e ∈ es, EbOk n0 w1 e) (hsb : ∃ cs fr, w1.heap[sb]? = some (.cells cs 3 fr)) (hg : w1.heap[g]? = some (.cells cs t fr)) (h1 : t ≠ 106) (h2 : t ≠ 3) : ∀ o, ¬ XT w1.heap.size sb (InE es) (dOf es).b g o := fun o x => by
  rcases x with x | x | ⟨i, hi, x⟩
  · have := lt_of_block hg
    omega
  · obtain ⟨c2, f2, hs⟩ := hsb
    rw [x, hs] at hg
    simp at hg
    exact h2 hg.2.1.symm
  · obtain ⟨c2, f2, hs⟩ := (h _ (enAt_mem hi).1).tx.type
    have x' : (enAt es i).b = g := x
    rw [x', hg] at hs
    simp at hs
    exact h1 hs.2.1
theorem own_at {B c n : Nat} {t : TypeId} {w X : World} {a : Addr} {xs : List Value} {Z : Nat → Obj → Prop} (h : w.ownsRow B t 1 (.slice (some a) n c) n xs) (hk : Kept Z w X) (hZ : ∀ g cs, w.heap[g]? = some (.cells cs t (0, 0)) → ∀ o, ¬ Z g o) {j : Nat} {u : Value} (hj : xs[j]? = some u) : X.cell? (a.add j) = some u := by
  rcases h.2 with ⟨h1, _⟩ | ⟨g, cap, cur, h1, h2, h3, h4⟩
  · simp at h1
  · simp only [Value.slice.injEq, Option.some.injEq] at h1
    have hc := World.ownsRow.cells h (g := g) (by rw [h1.1]; rfl) j u hj
    rw [← h1.1] at hc
    refine cell_kept hk (fun o => ?_) hc
    rw [add_block, h1.1]
    exact hZ g cur h3 o
theorem LR.of {w1 : World} {n0 sb lc pk : Nat} {es : List Eb} {la pp : Addr} (h : Begun0 n0 w1 (some la) (some pp) lc pk es) (hsb : ∃ cs fr, w1.heap[sb]? = some (.cells cs 3 fr)) : LR w1 sb es la pp := fun X hX k hk => by
  refine ⟨own_at h.l hX (fun g cs hg => off_xt h.ok hsb hg (by decide) (by decide)) (by rw [List.getElem?_map, List.getElem?_eq_getElem hk]; rfl), own_at h.p hX (fun g cs hg => off_xt h.ok hsb hg (by decide) (by decide)) (by rw [List.getElem?_map, List.getElem?_eq_getElem hk]; rfl), ?_⟩
  have ho := (h.ok es[k] (List.getElem_mem hk)).cpy
  exact (ho.keptX hX (fun a ha o => by
    obtain ⟨_, cs, fr, hb⟩ := ho.lt a ha
    exact off_xt h.ok hsb hb (by decide) (by decide) o)).row
theorem low_keys {i : Nat} (h : i < 3) : lowK i ∈ keys4 ∧ lowK i ≠ zK ∧ ∃ a : Nat, keys4[a]? = some (lowK i) := by
  rcases (show i = 0 ∨ i = 1 ∨ i = 2 by omega) with rfl | rfl | rfl
  · exact ⟨by decide, by decide, 0, rfl⟩
  · exact ⟨by decide, by decide, 1, rfl⟩
  · exact ⟨by decide, by decide, 2, rfl⟩
/-- All of them, the law's own one at the end. -/
structure All7 (es : List Eb) : Prop where
  ke : ∀ e ∈ es, (∀ p ∈ e.ps, ∃ a : Nat, keys4[a]? = some p.k) ∧ e.ps.length ≤ 4
  km : ∀ e ∈ es, ∀ p ∈ e.ps, p.k ∈ keys4
  i7 : InE es 7
  al : ∀ T : Nat → Tx, (∀ i, (T i).ps = (enAt es i).ps) → Alone T (InE es) 7
  nd : (es.map Eb.id).Nodup
  l7 : es.length ≤ 7
  l1 : 1 ≤ es.length
  la : ∀ h : es.length - 1 < es.length, es[es.length - 1].id = 7
  z : (enAt es 7).ps = [⟨zK, 5⟩]
theorem All7.of {es : List Eb} {e : Eb} (h6 : es.length ≤ 6) (hid : ∀ j, (hj : j < es.length) → es[j].id = j + 1) (htm : ∀ x ∈ es, Tam x.ps) (he : e.id = 7) (hp : e.ps = [⟨zK, 5⟩]) : All7 (es ++ [e]) ∧ (enAt (es ++ [e]) 7).b = e.b := by
  have nd : ((es ++ [e]).map Eb.id).Nodup := by
    rw [List.nodup_iff_pairwise_ne, List.pairwise_iff_getElem]
    intro i j hi hj hlt
    simp only [List.getElem_map]
    simp only [List.length_map, List.length_append, List.length_singleton] at hi hj
    rw [List.getElem_append_left (by omega), hid i (by omega)]
    by_cases ej : j < es.length
    · rw [List.getElem_append_left ej, hid j ej]
      omega
    · rw [List.getElem_append_right (by omega)]
      simp only [List.getElem_singleton]
      rw [he]
      omega
  have hlen : es.length < (es ++ [e]).length := by simp
  have hat : (es ++ [e])[es.length]'hlen = e := by simp
  have h7 : enAt (es ++ [e]) 7 = e := by
    have := enAt_self nd hlen
    rw [hat, he] at this
    exact this
  have hmem : ∀ x ∈ es ++ [e], x.id ≠ 7 → Tam x.ps := fun x hx hn => by
    rcases List.mem_append.1 hx with hx | hx
    · exact htm x hx
    · rw [List.mem_singleton] at hx
      subst hx
      exact absurd he hn
  have hps : ∀ x ∈ es ++ [e], (∀ p ∈ x.ps, p.k ∈ keys4 ∧ ∃ a : Nat, keys4[a]? = some p.k) ∧ x.ps.length ≤ 4 := fun x hx => by
    rcases List.mem_append.1 hx with hx | hx
    · refine ⟨fun p hp => ?_, by have := (htm x hx).1.len; omega⟩
      obtain ⟨i, hi, e2⟩ := (htm x hx).1.key p hp
      rw [e2]
      exact ⟨(low_keys hi).1, (low_keys hi).2.2⟩
    · rw [List.mem_singleton] at hx
      subst hx
      rw [hp]
      refine ⟨fun p hp => ?_, by simp⟩
      rw [List.mem_singleton] at hp
      subst hp
      exact ⟨by decide, 3, rfl⟩
  refine ⟨⟨fun x hx => ⟨fun p hp => ((hps x hx).1 p hp).2, (hps x hx).2⟩, fun x hx p hp => ((hps x hx).1 p hp).1, ⟨e, by simp, he⟩, fun T hT b hb hn p hp q hq => ?_, nd, by simp; omega, by simp, fun h => ?_, by rw [h7, hp]⟩, by rw [h7]⟩
  · rw [hT 7, h7, ‹e.ps = _›, List.mem_singleton] at hp
    subst hp
    rw [hT b] at hq
    obtain ⟨m1, m2⟩ := enAt_mem hb
    obtain ⟨i, hi, e2⟩ := (hmem _ m1 (by rw [m2]; exact hn)).1.key q hq
    rw [e2]
    exact (low_keys hi).2.1
  · have : (es ++ [e]).length - 1 = es.length := by simp
    have e9 : (es ++ [e])[(es ++ [e]).length - 1] = e := by simp
    rw [e9]
    exact he
theorem MS.first {w w1 : World} {n0 sb : Nat} {es : List Eb} (h : ∀ e ∈ es, EbOk n0 w1 e) (ha : All7 es) (hk : Kept Nil w w1) (hn : w.heap.size ≤ n0) (hn1 : n0 ≤ w1.heap.size) (hs : w1.heap[sb]? = some (.cells #[.int .i64 0, .int .i64 0, .int .i64 0, .int .i64 0] 3 (0, 0))) (hsw : w.heap.size ≤ sb) : MS w w1 n0 sb es w1 (tOf es) [] none 0 0 (numsL (St.of [])) :=
  ⟨⟨dOf es, rfl, TM.first h⟩, Run.first h ha.km, World.ownsRow_nil _ _ _ _, hs, Kept.refl _ _, hk, fun _ => rfl, lt_of_block hs, hsw, fun _ hi => Nat.le_trans hn (h _ (enAt_mem hi).1).ge, hk.size, hn1⟩
theorem ptr_row {w : World} {g : Nat} {k : List UInt8} {a : Int} (h : w.heap[g]? = some (.cells #[.string (bs k), .int .i64 a] 29 (0, 0))) {n0 : Nat} (hn : n0 ≤ g) : OwnT n0 w (some ⟨g, 0, none⟩) 1 [⟨k, a⟩] := by
  refine ⟨rfl, .inr ⟨g, 1, _, rfl, hn, h, Nat.le_refl _, by unfold maxLen; omega, rfl, rfl⟩⟩
theorem new7_good : NewGood 7 [⟨zK, 5⟩] := ⟨by decide, by decide, by decide, by decide, fun p hp => by rw [List.mem_singleton] at hp; subst hp; decide, by decide⟩
end Go.Proofs.YtgkacepcggjfkaaGreatDoor
