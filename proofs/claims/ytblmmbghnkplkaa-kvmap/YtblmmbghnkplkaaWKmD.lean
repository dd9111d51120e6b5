/-
  KvMap: a key and its value taken out: rows put together anew.
-/
import Derived.Test.YtblmmbghnkplkaaWKm1
import Derived.Test.YtblmmbghnkplkaaWOld
namespace Go.Proofs.Ytblmmbghnkplkaa
open Go.RowKit

theorem kyCells_one (ks : List (List UInt8)) : ∀ u ∈ kyCells ks, u.oneCell' = true := fun u hu => by
  unfold kyCells at hu
  obtain ⟨x, _, rfl⟩ := List.mem_map.1 hu
  rfl
theorem kyCells_lenM (ks : List (List UInt8)) : (kyCells ks).length = ks.length * 1 := by unfold kyCells; rw [List.length_map]; omega
theorem kyCells_app (ks ls : List (List UInt8)) : kyCells (ks ++ ls) = kyCells ks ++ kyCells ls := by unfold kyCells; rw [List.map_append]
theorem OwnK.cellsM {B c g : Nat} {w : World} {ks : List (List UInt8)} (h : OwnK B w (some ⟨g, 0, none⟩) c ks) : ∀ j u, (kyCells ks)[j]? = some u → w.cell? ((⟨g, 0, none⟩ : Addr).add j) = some u := h.cells (g := g) rfl
theorem OwnK.srcT {B c g q d : Nat} {w : World} {ks : List (List UInt8)} (h : OwnK B w (some ⟨g, 0, none⟩) c ks) (hq : q ≤ ks.length) : Src Try.prog 1 53 (.slice (some ⟨g, 0, none⟩) q d) q (kyCells (ks.take q)) w := by
  refine Src.ofSlice _ Try.underlying53 _ q d _ (by rw [kyCells_lenM, List.length_take, Nat.min_eq_left hq]) (fun j u hj => ?_) (kyCells_one _)
  refine h.cellsM j u ?_
  unfold kyCells at hj ⊢
  rw [List.map_take] at hj
  rw [List.getElem?_take] at hj
  split at hj
  · exact hj
  · cases hj
theorem OwnK.srcD {B c g i d : Nat} {w : World} {ks : List (List UInt8)} (h : OwnK B w (some ⟨g, 0, none⟩) c ks) : Src Try.prog 1 53 (.slice (some ⟨g, i, none⟩) (ks.length - i) d) (ks.length - i) (kyCells (ks.drop i)) w := by
  refine Src.ofSlice _ Try.underlying53 _ _ d _ (by rw [kyCells_lenM, List.length_drop]) (fun j u hj => ?_) (kyCells_one _)
  have e : (⟨g, i, none⟩ : Addr).add j = (⟨g, 0, none⟩ : Addr).add (i + j) := by
    cases j with
    | zero => cases i with
      | zero => rfl
      | succ i => simp [Addr.add]
    | succ j => cases i with
      | zero => simp [Addr.add]
      | succ i => simp [Addr.add]
  rw [e]
  refine h.cellsM _ u ?_
  unfold kyCells at hj ⊢
  rw [List.map_drop, List.getElem?_drop] at hj
  exact hj
theorem src_e {a : Addr} {d : Nat} {w : World} : Src Try.prog 1 53 (.slice (some a) 0 d) 0 (kyCells []) w :=
  Src.ofSlice _ Try.underlying53 a 0 d [] rfl (fun j u hj => by simp at hj) (fun u hu => by simp at hu)
theorem OwnK.monoM {B B' c : Nat} {w : World} {ao : Option Addr} {ks : List (List UInt8)} (h : OwnK B w ao c ks) (hb : B' ≤ B) : OwnK B' w ao c ks := by
  refine ⟨h.1, h.2.imp id ?_⟩
  rintro ⟨g, cap, cur, h1, h2, h3⟩
  exact ⟨g, cap, cur, h1, Nat.le_trans hb h2, h3⟩
theorem OwnK.blockM {B c : Nat} {w : World} {ao : Option Addr} {ks : List (List UInt8)} (h : OwnK B w ao c ks) (h0 : 0 < ks.length) : ∃ g, ao = some ⟨g, 0, none⟩ ∧ ks.length ≤ c ∧ c ≤ maxLen := by
  rcases h.2 with ⟨_, h2⟩ | ⟨g, cap, cur, hv, hb, hh, h1, h2, h3, h4⟩
  · omega
  · simp only [Value.slice.injEq] at hv
    obtain ⟨rfl, _, rfl⟩ := hv
    exact ⟨g, rfl, h1, h2⟩
theorem ownK_cut2 {B c q i : Nat} {w : World} {ao : Option Addr} {ks : List (List UInt8)} (hq : q ≤ ks.length) (h : w.ownsRow B 9 1 (.slice ao (0 + q + (ks.length - i)) c) (0 + q + (ks.length - i)) ([] ++ kyCells (ks.take q) ++ kyCells (ks.drop i))) : OwnK B w ao c (ks.take q ++ ks.drop i) := by
  unfold OwnK
  rw [kyCells_app, List.length_append, List.length_take, List.length_drop, Nat.min_eq_left hq]
  rw [Nat.zero_add, List.nil_append] at h
  exact h
theorem ownK_cut {B c q : Nat} {w : World} {ao : Option Addr} {ks : List (List UInt8)} (hq : q ≤ ks.length) (h : w.ownsRow B 9 1 (.slice ao (0 + q + 0) c) (0 + q + 0) ([] ++ kyCells (ks.take q) ++ kyCells [])) : OwnK B w ao c (ks.take q ++ []) := by
  unfold OwnK
  rw [kyCells_app, List.length_append, List.length_take, Nat.min_eq_left hq]
  rw [Nat.zero_add, List.nil_append] at h
  exact h
/-! What a slot holds behind others that were put. -/
theorem put_sizeM (a : Act) (d : Option Tmp) (v : Value) : (a.put d v).tmps.size = a.tmps.size := by cases d <;> simp [Act.put]
theorem eval_putNe (a : Act) (d t : Nat) (v : Value) (h : d ≠ t) : (a.put (some d) v).eval (.tmp t) = a.eval (.tmp t) := by simp [Act.eval, Act.put, Array.getElem?_setIfInBounds_ne h]
theorem eval_putEq (a : Act) (d : Nat) (v : Value) (h : d < a.tmps.size) : (a.put (some d) v).eval (.tmp d) = v := by simp [Act.eval, Act.put, h]
theorem eval_putAt (a : Act) (d n : Nat) (v : Value) (hn : a.tmps.size = n) (h : d < n) : (a.put (some d) v).eval (.tmp d) = v := eval_putEq a d v (by rw [hn]; exact h)
theorem eval_const (a : Act) (v : Value) : a.eval (.const v) = v := rfl
theorem KS.anew {w X Y Z : World} {ks vs ks2 vs2 : List (List UInt8)} {ak av a2 b2 : Option Addr} {ck cv c2 d2 : Nat} (h : KS w ks vs ak av ck cv X) (hk : OwnK X.heap.size Y a2 c2 ks2) (k1 : Kept Nil X Y) (hv : OwnK Y.heap.size Z b2 d2 vs2) (k2 : Kept Nil Y Z) : KS w ks2 vs2 a2 b2 c2 d2 Z :=
  ⟨(hk.kept k2).monoM h.kept.size, hv.monoM (Nat.le_trans h.kept.size k1.size), fun g hg hg2 => by
    have := own_lt hk hg
    have := own_row hv g hg2
    omega, (h.kept.trans k1).trans k2⟩

end Go.Proofs.Ytblmmbghnkplkaa
