/-
  slices.Insert on a row of ints of one's own: it grows in its place or in a new one; all else is as it was.
-/
import Derived.Test.YtijklginabipgaaWTrk5
import Derived.Test.YtijklginabipgaaWShelfC
import Derived.Test.YtijklginabipgaaWChgM
namespace Go.Proofs.Ytijklginabipgaa
open Go.RowKit

theorem blk_setCells {b : Nat} {t : TypeId} : ∀ (vs : List Value) (o : Nat) (w : World) (cs : Array Value), w.heap[b]? = some (.cells cs t (0, 0)) → ∃ cs', (w.setCells b o vs).heap[b]? = some (.cells cs' t (0, 0)) ∧ cs'.size = cs.size ∧ ∀ i, cs'[i]? = if o ≤ i ∧ i < o + vs.length ∧ i < cs.size then vs[i - o]? else cs[i]?
  | [], o, w, cs, h => ⟨cs, h, rfl, fun i => by rw [if_neg (by simp; omega)]⟩
  | v :: r, o, w, cs, h => by
    obtain ⟨cs', h1, h2, h3⟩ := blk_setCells r (o + 1) _ _ (blk_set h o v)
    refine ⟨cs', h1, by simpa using h2, fun i => ?_⟩
    rw [h3 i]
    simp only [Array.size_setIfInBounds, List.length_cons]
    by_cases hi : i = o
    · subst hi
      rw [if_neg (by omega)]
      by_cases hs : i < cs.size
      · rw [if_pos (by omega)]
        simp [hs]
      · rw [if_neg (by omega)]
        simp [hs]
    · by_cases hc : o + 1 ≤ i ∧ i < o + 1 + r.length ∧ i < cs.size
      · rw [if_pos hc, if_pos (by omega), show i - o = (i - (o + 1)) + 1 by omega, List.getElem?_cons_succ]
      · rw [if_neg hc, if_neg (by omega)]
        rw [Array.getElem?_setIfInBounds, if_neg (by omega)]
theorem own_of_blk {B g cap : Nat} {w : World} {cs : Array Value} {zs : List Int} (hB : B ≤ g) (h : w.heap[g]? = some (.cells cs 3 (0, 0))) (hs : cs.size = cap) (hm : cap ≤ maxLen) (hl : zs.length ≤ cap) (hz : ∀ i, (hi : i < zs.length) → cs[i]? = some (.int .i64 zs[i])) : OwnInts B w (some ⟨g, 0, none⟩) cap zs := by
  refine ⟨by simp, .inr ⟨g, cap, cs, rfl, hB, h, hl, hm, by omega, ?_⟩⟩
  apply List.ext_getElem?
  intro i
  rw [Nat.mul_one, List.getElem?_take]
  by_cases hi : i < zs.length
  · rw [if_pos hi, Array.getElem?_toList, hz i hi]
    simp [hi]
  · rw [if_neg hi]
    simp [hi]
theorem size_setCells (b : Nat) : ∀ (vs : List Value) (o : Nat) (w : World), (w.setCells b o vs).heap.size = w.heap.size
  | [], _, _ => rfl
  | v :: r, o, w => by rw [World.setCells, size_setCells b r]; simp [World.setCell]
theorem grownBy_setCells (b : Nat) : ∀ (vs : List Value) (o : Nat) {a w : World}, a.grownBy w (some b) → a.grownBy (w.setCells b o vs) (some b)
  | [], _, _, _, h => h
  | v :: r, o, a, w, h => grownBy_setCells b r (o + 1) ⟨h.os, h.tape, h.output, by simpa [World.setCell] using h.size, fun k hk hne => by
      rw [Below.heap_setCell _ _ _ _ (by intro e; exact hne (by rw [e]))]; exact h.block k hk hne⟩
theorem grown_drew {a w : World} {r : Option Nat} (h : a.grownBy w r) : a.grownBy w.drew r := ⟨h.os, h.tape, h.output, h.size, h.block⟩
theorem grown_drewN {a w : World} {r : Option Nat} (h : a.grownBy w r) (n : Nat) : a.grownBy (w.drewN n) r := ⟨h.os, h.tape, h.output, h.size, h.block⟩
theorem grown_refl (w : World) (r : Option Nat) : w.grownBy w r := ⟨rfl, rfl, rfl, Nat.le_refl _, fun _ _ _ => rfl⟩
theorem grown_alloc {a w : World} {r : Option Nat} (h : a.grownBy w r) (o : Obj) : a.grownBy (w.alloc o) r := ⟨h.os, h.tape, h.output, by have := h.size; simp; omega, fun k hk hne => by
  rw [Below.heap_alloc _ _ _ (by have := h.size; omega)]; exact h.block k hk hne⟩
theorem grown_trans {a b c : World} {r : Option Nat} (h : a.grownBy b r) (k : b.grownBy c r) : a.grownBy c r :=
  ⟨k.os.trans h.os, k.tape.trans h.tape, k.output.trans h.output, Nat.le_trans h.size k.size, fun i hi hne => (k.block i (by have := h.size; omega) hne).trans (h.block i hi hne)⟩
/-- A change of a block that is new, on top of what has changed. -/
theorem grown_new {a w w' : World} {r : Option Nat} {g : Nat} (h : a.grownBy w r) (k : w.grownBy w' (some g)) (hg : a.heap.size ≤ g) : a.grownBy w' r :=
  ⟨k.os.trans h.os, k.tape.trans h.tape, k.output.trans h.output, Nat.le_trans h.size k.size, fun i hi hne => (k.block i (by have := h.size; omega) (by intro e; injection e; omega)).trans (h.block i hi hne)⟩

/-- What comes of a row of one's own: it lies where it lay, or in a new block; all else is as it was. -/
def RowPost (B : Nat) (ao : Option Addr) (n c : Nat) (w : World) (zs : List Int) (e : Ending) (w' : World) : Prop :=
  ∃ ao' c', e = .returned (.slice ao' zs.length c') ∧ OwnInts B w' ao' c' zs ∧ w.grownBy w' (Value.slice ao n c).ownBlock ∧ (∀ g, (Value.slice ao' zs.length c').ownBlock = some g → (Value.slice ao n c).ownBlock = some g ∨ w.heap.size ≤ g)
theorem insAt_get {zs : List Int} {z : Int} {i k : Nat} (hi : i ≤ zs.length) (hk : k < (zs.take i ++ z :: zs.drop i).length) : (zs.take i ++ z :: zs.drop i)[k]? = if k < i then zs[k]? else if k = i then some z else zs[k - 1]? := by
  rw [List.getElem?_append, List.length_take, Nat.min_eq_left hi]
  split
  · rename_i h
    rw [List.getElem?_take, if_pos h]
  · rename_i h
    by_cases he : k = i
    · subst he; simp
    · rw [if_neg he, show k - i = (k - i - 1) + 1 by omega, List.getElem?_cons_succ, List.getElem?_drop]
      congr 1
      omega
theorem insAt_len {zs : List Int} {z : Int} {i : Nat} (hi : i ≤ zs.length) : (zs.take i ++ z :: zs.drop i).length = zs.length + 1 := by
  simp; omega
theorem zeroInt (n : Nat) : (Builtin.zeroCells (Value.int .i64 0).cells n).size = n := by simp [Builtin.zeroCells, Value.cells]

set_option maxRecDepth 100000 in
set_option maxHeartbeats 1000000 in
theorem insert_any (B vb c i : Nat) (ao : Option Addr) (zs : List Int) (z : Int) (w : World) (h : OwnInts B w ao c zs) (hi : i ≤ zs.length) (hB : B ≤ w.heap.size) (hs : zs.length ≤ 1000000)
    (hv : w.heap[vb]? = some (.cells #[.int .i64 z] 3 (0, 0))) (hne : (Value.slice ao zs.length c).ownBlock ≠ some vb) :
    Calls Try.prog 188 #[.slice ao zs.length c, .int .i64 i, .slice (some ⟨vb, 0, none⟩) 1 1] w (RowPost B ao zs.length c w (zs.take i ++ z :: zs.drop i)) := by
  have hvs : ∀ j v, [Value.int .i64 z][j]? = some v → w.cell? ⟨vb, 0 + j, none⟩ = some v := fun j v hj => by
    cases j with
    | zero => simp only [List.getElem?_cons_zero, Option.some.injEq] at hj; subst hj; exact blk_at hv 0 rfl
    | succ j => simp at hj
  have h1v : ∀ v ∈ [Value.int .i64 z], v.oneCell' = true := fun v hv => by simp at hv; subst hv; rfl
  have h1c : ∀ v ∈ zs.map (Value.int .i64), v.oneCell' = true := fun v hv => by obtain ⟨x, _, rfl⟩ := List.mem_map.1 hv; rfl
  have hlen := @insAt_len zs z i hi
  have hG := grownCap_ge w (zs.length + 1) c 3
  have hG2 := grownCap_le_maxLen w (zs.length + 1) c 3 (by unfold maxLen; omega)
  rcases h.2 with ⟨h1, h0⟩ | ⟨g, cap, cur, h1, hbg, hg, hnc, hcm, hcs, ht⟩
  · simp only [Value.slice.injEq] at h1
    obtain ⟨rfl, _, rfl⟩ := h1
    obtain rfl : zs = [] := List.length_eq_zero_iff.1 h0
    obtain rfl : i = 0 := by simpa using hi
    have C := Try.slices_Insert_int_end_grow none 0 0 vb 0 1 1 [] [.int .i64 z] w (by omega) (by omega) (by omega) (by omega) rfl rfl (fun _ => rfl) (fun a e => by cases e) hvs h1v
    refine C.mono ?_
    rintro e w' ⟨rfl, rfl⟩
    refine ⟨_, _, rfl, own_of_blk hB (blk_new w.drew _) (by simp only [List.nil_append, Array.size_append, zeroInt]; simp only [List.length_nil, Nat.zero_add] at hG; simp; omega) hG2 hG (fun k hk => ?_), grown_alloc (grown_drew (grown_refl _ _)) _, fun g' hg' => .inr (by simp [Value.ownBlock] at hg'; omega)⟩
    simp at hk
    subst hk
    simp
    rw [Array.getElem?_append_left (by simp)]
    simp
  · simp only [Value.slice.injEq] at h1
    obtain ⟨rfl, _, rfl⟩ := h1
    rw [Nat.mul_one] at hcs ht
    have hcv : ∀ k, (hk : k < zs.length) → cur[k]? = some (.int .i64 zs[k]) := fun k hk => by
      have := congrArg (fun l => l[k]?) ht
      simp only [List.getElem?_take, if_pos hk, Array.getElem?_toList] at this
      rw [this]
      simp [hk]
    have hcl : ∀ j v, (zs.map (Value.int .i64))[j]? = some v → w.cell? ⟨g, 0 + j, none⟩ = some v := fun j v hj => by
      have hlt : j < zs.length := by have := (List.getElem?_eq_some_iff.1 hj).1; simpa using this
      rw [Nat.zero_add, blk_cell hg j, hcv j hlt, ← hj]
      simp [hlt]
    have hgv : vb ≠ g := fun e => hne (by rw [e]; rfl)
    have hglt := lt_of_block hg
    by_cases hroom : zs.length + 1 ≤ c
    · by_cases hin : i < zs.length
      · have C := Try.slices_Insert_int_shift g 0 zs.length c i vb 0 1 1 (zs.map (Value.int .i64)) [.int .i64 z] w hin (by omega) hroom (by unfold maxLen at hcm; omega) hgv (by simp) rfl hcl
          (fun j hj => by rw [Nat.zero_add, blk_cell hg j, Array.getElem?_eq_getElem (by omega)]; rfl) (fun j hj => blk_free hg _) hvs h1c h1v 3 3 1 c (by simp [World.shape?, hv]) (by simp [World.shape?, hg, hcs]) (by omega) (blk_free hv _) (blk_free hv _)
        refine C.mono ?_
        rintro e w' ⟨rfl, rfl⟩
        obtain ⟨c1, b1, s1, g1⟩ := blk_setCells (b := g) ((zs.map (Value.int .i64)).drop i) (0 + (i + 1)) w.drew cur hg
        obtain ⟨c2, b2, s2, g2⟩ := blk_setCells (b := g) [.int .i64 z] (0 + i) _ c1 b1
        refine ⟨some ⟨g, 0, none⟩, c, by rw [hlen], own_of_blk hbg b2 (by omega) hcm (by omega) (fun k hk => ?_), grownBy_setCells g _ _ (grownBy_setCells g _ _ (grown_drew (grown_refl _ _))), fun g' hg' => .inl hg'⟩
        have hgt := insAt_get (z := z) hi hk
        rw [List.getElem?_eq_getElem hk] at hgt
        rw [g2 k, g1 k]
        simp only [Nat.zero_add, List.length_singleton, List.length_drop, List.length_map]
        rw [hlen] at hk
        by_cases hki : k < i
        · rw [if_pos hki, List.getElem?_eq_getElem (by omega)] at hgt
          simp only [Option.some.injEq] at hgt
          rw [if_neg (by omega), if_neg (by omega), hcv k (by omega), hgt]
        · rw [if_neg hki] at hgt
          by_cases hke : k = i
          · subst hke
            rw [if_pos rfl] at hgt
            simp only [Option.some.injEq] at hgt
            rw [if_pos (by omega), hgt]
            simp
          · rw [if_neg hke, List.getElem?_eq_getElem (by omega)] at hgt
            simp only [Option.some.injEq] at hgt
            rw [if_neg (by omega), if_pos (by omega), hgt, List.getElem?_drop, show i + (k - (i + 1)) = k - 1 by omega]
            simp [show k - 1 < zs.length by omega]
      · obtain rfl : i = zs.length := by omega
        have C := Try.slices_Insert_int_end_room g 0 zs.length c vb 0 1 1 [.int .i64 z] w (by omega) hroom (by unfold maxLen at hcm; omega) rfl
          (fun j hj => by rw [blk_cell hg _, Array.getElem?_eq_getElem (by omega)]; rfl) (fun j hj => blk_free hg _) hvs h1v
        refine C.mono ?_
        rintro e w' ⟨rfl, rfl⟩
        obtain ⟨c2, b2, s2, g2⟩ := blk_setCells (b := g) [.int .i64 z] (0 + zs.length) _ cur hg
        refine ⟨some ⟨g, 0, none⟩, c, by rw [hlen], own_of_blk hbg b2 (by omega) hcm (by omega) (fun k hk => ?_), grownBy_setCells g _ _ (grown_refl _ _), fun g' hg' => .inl hg'⟩
        have hgt := insAt_get (z := z) hi hk
        rw [List.getElem?_eq_getElem hk] at hgt
        rw [g2 k]
        simp only [Nat.zero_add, List.length_singleton]
        rw [hlen] at hk
        by_cases hki : k < zs.length
        · rw [if_pos hki, List.getElem?_eq_getElem (by omega)] at hgt
          simp only [Option.some.injEq] at hgt
          rw [if_neg (by omega), hcv k (by omega), hgt]
        · obtain rfl : k = zs.length := by omega
          rw [if_neg (by omega), if_pos rfl] at hgt
          simp only [Option.some.injEq] at hgt
          rw [if_pos (by omega), hgt]
          simp
    · have hca : ∀ a, some (⟨g, 0, none⟩ : Addr) = some a → ∀ j v, (zs.map (Value.int .i64))[j]? = some v → w.cell? (a.add j) = some v := fun a ha j v hj => by
        simp only [Option.some.injEq] at ha
        subst ha
        have := hcl j v hj
        rw [Addr.add_lit]
        exact this
      by_cases hin : i < zs.length
      · have C := Try.slices_Insert_int_grow g 0 zs.length c i vb 0 1 1 (zs.map (Value.int .i64)) [.int .i64 z] w hin (by omega) hnc (by omega) (by omega) (by simp) rfl hcl hvs h1c h1v
        refine C.mono ?_
        rintro e w' ⟨rfl, rfl⟩
        generalize grownCap w (zs.length + 1) c 3 = G at *
        have b0 := blk_new w (.cells ((((zs.map (Value.int .i64)).take i).toArray ++ Builtin.zeroCells (Value.int .i64 0).cells (zs.length + 1 - i)) ++ Builtin.zeroCells (Value.int .i64 0).cells (G - (zs.length + 1))) 3)
        have s0 : ((((zs.map (Value.int .i64)).take i).toArray ++ Builtin.zeroCells (Value.int .i64 0).cells (zs.length + 1 - i)) ++ Builtin.zeroCells (Value.int .i64 0).cells (G - (zs.length + 1))).size = G := by
          simp only [Array.size_append, zeroInt, List.size_toArray, List.length_take, List.length_map]; omega
        have g0 : ∀ k, k < i → ((((zs.map (Value.int .i64)).take i).toArray ++ Builtin.zeroCells (Value.int .i64 0).cells (zs.length + 1 - i)) ++ Builtin.zeroCells (Value.int .i64 0).cells (G - (zs.length + 1)))[k]? = (zs.map (Value.int .i64))[k]? := fun k hk => by
          rw [Array.getElem?_append_left (by simp only [Array.size_append, zeroInt, List.size_toArray, List.length_take, List.length_map]; omega), Array.getElem?_append_left (by simp only [List.size_toArray, List.length_take, List.length_map]; omega), List.getElem?_toArray, List.getElem?_take, if_pos hk]
        obtain ⟨c1, b1, s1, g1⟩ := blk_setCells (b := w.heap.size) [.int .i64 z] i (w.alloc (.cells ((((zs.map (Value.int .i64)).take i).toArray ++ Builtin.zeroCells (Value.int .i64 0).cells (zs.length + 1 - i)) ++ Builtin.zeroCells (Value.int .i64 0).cells (G - (zs.length + 1))) 3)).drew _ b0
        obtain ⟨c2, b2, s2, g2⟩ := blk_setCells (b := w.heap.size) ((zs.map (Value.int .i64)).drop i) (i + 1) _ c1 (show _ from b1 : ((((w.alloc (.cells ((((zs.map (Value.int .i64)).take i).toArray ++ Builtin.zeroCells (Value.int .i64 0).cells (zs.length + 1 - i)) ++ Builtin.zeroCells (Value.int .i64 0).cells (G - (zs.length + 1))) 3)).drew.setCells w.heap.size i [.int .i64 z]).drew).heap[w.heap.size]? = _))
        refine ⟨some ⟨w.heap.size, 0, none⟩, G, by rw [hlen], own_of_blk hB b2 (by omega) hG2 (by omega) (fun k hk => ?_), ?_, fun g' hg' => .inr (by simp [Value.ownBlock] at hg'; omega)⟩
        · have hgt := insAt_get (z := z) hi hk
          rw [List.getElem?_eq_getElem hk] at hgt
          rw [g2 k, g1 k, s1]
          rw [s0]
          simp only [List.length_singleton, List.length_drop, List.length_map]
          rw [hlen] at hk
          by_cases hki : k < i
          · rw [if_pos hki, List.getElem?_eq_getElem (by omega)] at hgt
            simp only [Option.some.injEq] at hgt
            rw [if_neg (by omega), if_neg (by omega), g0 k hki, hgt]
            simp [show k < zs.length by omega]
          · rw [if_neg hki] at hgt
            by_cases hke : k = i
            · subst hke
              rw [if_pos rfl] at hgt
              simp only [Option.some.injEq] at hgt
              rw [if_neg (by omega), if_pos (by omega), hgt]
              simp
            · rw [if_neg hke, List.getElem?_eq_getElem (by omega)] at hgt
              simp only [Option.some.injEq] at hgt
              rw [if_pos (by omega), hgt, List.getElem?_drop, show i + (k - (i + 1)) = k - 1 by omega]
              simp [show k - 1 < zs.length by omega]
        · exact grown_new (grown_alloc (grown_refl _ _) _) (grownBy_setCells _ _ _ (grown_drew (grownBy_setCells _ _ _ (grown_drew (grown_refl _ _))))) (Nat.le_refl _)
      · obtain rfl : i = zs.length := by omega
        have C := Try.slices_Insert_int_end_grow (some ⟨g, 0, none⟩) zs.length c vb 0 1 1 (zs.map (Value.int .i64)) [.int .i64 z] w (by omega) hnc (by omega) (by omega) (by simp) rfl (fun e => by cases e) hca hvs h1v
        refine C.mono ?_
        rintro e w' ⟨rfl, rfl⟩
        generalize grownCap w (zs.length + 1) c 3 = G at *
        refine ⟨some ⟨w.heap.size, 0, none⟩, G, by rw [hlen], own_of_blk hB (blk_new w.drew _) (by simp only [Array.size_append, zeroInt, List.size_toArray, List.length_append, List.length_map, List.length_singleton]; omega) hG2 (by omega) (fun k hk => ?_), grown_alloc (grown_drew (grown_refl _ _)) _, fun g' hg' => .inr (by simp [Value.ownBlock] at hg'; omega)⟩
        have e2 : zs.take zs.length ++ z :: zs.drop zs.length = zs ++ [z] := by simp
        rw [hlen] at hk
        rw [Array.getElem?_append_left (by simp; omega), List.getElem?_toArray]
        have e3 : zs.map (Value.int .i64) ++ [Value.int .i64 z] = (zs ++ [z]).map (Value.int .i64) := by simp
        rw [e3, List.getElem?_map]
        simp only [e2]
        rw [List.getElem?_eq_getElem (by simp; omega)]
        rfl

end Go.Proofs.Ytijklginabipgaa
