/-
  Relays: the document's Receive.
-/
import Derived.Test.YtmlncfnnldplgaaWRy2
import Derived.Test.YtmlncfnnldplgaaWRl3
namespace Go.Proofs.Ytmlncfnnldplgaa
open Go.RowKit

/-- What an Ack leaves of what waits, by the document. -/
def leftP (m : Int) (sn : Nat) (l : List Pk) : List Pk := l.filter fun x => decide (x.nu > m) || decide (m > (sn : Int))
theorem leftP_next {m : Int} {sn : Nat} {l : List Pk} {i : Nat} (hi : i < l.length) : leftP m sn (l.take (i + 1)) = leftP m sn (l.take i) ++ (if (decide (l[i].nu > m) || decide (m > (sn : Int))) = true then [l[i]] else []) := by
  unfold leftP
  rw [List.take_succ_eq_append_getElem hi, List.filter_append]
  congr 1
  cases h : (decide (l[i].nu > m) || decide (m > (sn : Int))) with
  | true => simp only [List.filter_cons, h, List.filter_nil]; first | done | rfl
  | false => simp only [List.filter_cons, h, List.filter_nil]; first | done | rfl
theorem pksO_get {id : Int} {k : Nat} {o : Oh} {i : Nat} (hi : i < o.wt.length) : (pksO id k o)[i]'(by rw [pksO_len]; exact hi) = pkO id k o i o.wt[i] := by simp [pksO]
theorem left_ack (id : Int) (k : Nat) (o : Oh) (m : Int) (hm : 1 ≤ m) : leftP m (o.ak + o.wt.length) (pksO id k o) = pksO id k (ackO o m) := by
  unfold ackO
  by_cases hx : m - o.ak < 1 ∨ m - o.ak > o.wt.length
  · rw [if_pos hx]
    unfold leftP
    rw [List.filter_eq_self]
    intro x hx2
    obtain ⟨j, hj, rfl⟩ := List.getElem_of_mem hx2
    rw [pksO_len] at hj
    rw [pksO_get hj]
    show (decide ((o.ak : Int) + 1 + j > m) || decide (m > ((o.ak + o.wt.length : Nat) : Int))) = true
    simp only [Bool.or_eq_true, decide_eq_true_eq]
    rcases hx with h | h <;> omega
  · rw [if_neg hx]
    have h1 : ¬ m - o.ak < 1 := fun h => hx (.inl h)
    have h2 : ¬ m - o.ak > o.wt.length := fun h => hx (.inr h)
    obtain ⟨n, hn⟩ : ∃ n : Nat, m.toNat - o.ak = n := ⟨_, rfl⟩
    rw [hn]
    have hnl : n ≤ o.wt.length := by omega
    have e1 : pksO id k o = (pksO id k o).take n ++ (pksO id k o).drop n := (List.take_append_drop _ _).symm
    have f1 : leftP m (o.ak + o.wt.length) ((pksO id k o).take n) = [] := by
      unfold leftP
      rw [List.filter_eq_nil_iff]
      intro x hx2
      obtain ⟨j, hj, rfl⟩ := List.getElem_of_mem hx2
      rw [List.length_take, pksO_len] at hj
      rw [List.getElem_take, pksO_get (by omega)]
      show ¬ (decide ((o.ak : Int) + 1 + j > m) || decide (m > ((o.ak + o.wt.length : Nat) : Int))) = true
      simp only [Bool.or_eq_true, decide_eq_true_eq]
      omega
    have f2 : leftP m (o.ak + o.wt.length) ((pksO id k o).drop n) = (pksO id k o).drop n := by
      unfold leftP
      rw [List.filter_eq_self]
      intro x hx2
      obtain ⟨j, hj, rfl⟩ := List.getElem_of_mem hx2
      rw [List.length_drop, pksO_len] at hj
      rw [List.getElem_drop, pksO_get (by omega)]
      show (decide ((o.ak : Int) + 1 + ((n + j : Nat) : Int) > m) || decide (m > ((o.ak + o.wt.length : Nat) : Int))) = true
      simp only [Bool.or_eq_true, decide_eq_true_eq]
      omega
    have f3 : leftP m (o.ak + o.wt.length) (pksO id k o) = (pksO id k o).drop n := by
      conv => lhs; rw [e1]
      unfold leftP at f1 f2 ⊢
      rw [List.filter_append, f1, f2, List.nil_append]
    rw [f3]
    apply List.ext_getElem
    · rw [List.length_drop, pksO_len, pksO_len, List.length_drop]
    · intro i h3 h4
      rw [pksO_len, List.length_drop] at h4
      rw [List.getElem_drop, pksO_get (by omega), pksO_get (by rw [List.length_drop]; omega)]
      unfold pkO
      simp only [List.getElem_drop]
      congr 1
      omega
theorem ack_sent (o : Oh) (m : Int) (hm : 1 ≤ m) : (ackO o m).ak + (ackO o m).wt.length = o.ak + o.wt.length ∧ (ackO o m).cm = o.cm := by
  unfold ackO
  by_cases hx : m - o.ak < 1 ∨ m - o.ak > o.wt.length
  · rw [if_pos hx]; exact ⟨rfl, rfl⟩
  · rw [if_neg hx]
    have h1 : ¬ m - o.ak < 1 := fun h => hx (.inl h)
    have h2 : ¬ m - o.ak > o.wt.length := fun h => hx (.inr h)
    simp only [List.length_drop]
    exact ⟨by omega, trivial⟩
/-- The document's relay with one row changed. -/
theorem Ry.setW {G G' : Nat → Prop} {b k : Nat} {w w2 : World} {id : Int} {os : Nat → Oh} {ay : Nat → Option Addr} {cy : Nat → Nat} {cells : Array Value} (h : Ry G w b id os ay cy) (hc : RyC w b id os ay cy cells) (hk : k < 10) (K : Kept Nil w w2) {o' : Oh} (hs : o'.ak + o'.wt.length = (os k).ak + (os k).wt.length) (hcm : o'.cm = (os k).cm) {a' : Option Addr} {c' : Nat} (row : OwnPk w.heap.size w2 a' c' (pksO id k o')) (hG : ∀ g, G g → G' g) (hG2 : ∀ g, w.heap.size ≤ g → G' g) :
    Ry G' (w2.setCell ⟨b, 11 + k, none⟩ (.slice a' o'.wt.length c')) b id (upd os k o') (upd ay k a') (upd cy k c') := by
  have hz := hc.sz
  have hb2 := K.block _ _ hc.blk (fun x => x)
  refine ⟨⟨_, blk_set hb2 _ _, by simpa using hz, ?_, fun j hj => ?_, fun j hj => ?_, fun j hj => ?_⟩, fun j hj => ?_, fun j hj g hg => ?_⟩
  · rw [Array.getElem?_setIfInBounds, if_neg (by omega)]; exact hc.c0
  · rw [Array.getElem?_setIfInBounds, if_neg (by omega), hc.cs j hj]
    by_cases e : j = k
    · subst e; rw [upd_self, hs]
    · rw [upd_ne _ _ e]
  · rw [Array.getElem?_setIfInBounds]
    by_cases e : j = k
    · subst e; rw [if_pos rfl, if_pos (by omega), upd_self, upd_self, upd_self]
    · rw [if_neg (by omega), hc.cw j hj, upd_ne _ _ e, upd_ne _ _ e, upd_ne _ _ e]
  · rw [Array.getElem?_setIfInBounds, if_neg (by omega), hc.cc j hj]
    by_cases e : j = k
    · subst e; rw [upd_self, hcm]
    · rw [upd_ne _ _ e]
  · by_cases e : j = k
    · subst e; rw [upd_self, upd_self, upd_self]; exact own_setB (row.mono (Nat.zero_le _)) (ownPk_ne row hb2 (by decide)) _ _
    · rw [upd_ne _ _ e, upd_ne _ _ e, upd_ne _ _ e]; exact own_setB ((h.rows j hj).kept K) (ownPk_ne ((h.rows j hj).kept K) hb2 (by decide)) _ _
  · by_cases e : j = k
    · subst e
      rw [upd_self, upd_self, upd_self] at hg
      exact hG2 g (own_row row g (by rw [pksO_len]; exact hg))
    · rw [upd_ne _ _ e, upd_ne _ _ e, upd_ne _ _ e] at hg
      exact hG g (h.good j hj g hg)
/-- With another number come. -/
theorem Ry.setC {G : Nat → Prop} {b k : Nat} {w : World} {id : Int} {os : Nat → Oh} {ay : Nat → Option Addr} {cy : Nat → Nat} (h : Ry G w b id os ay cy) (hk : k < 10) (n : Nat) :
    Ry G (w.setCell ⟨b, 21 + k, none⟩ (.int .i64 n)) b id (upd os k { os k with cm := n }) ay cy := by
  obtain ⟨cells, hc⟩ := h.cl
  have hz := hc.sz
  have hwt : ∀ j, (upd os k { os k with cm := n } j).wt = (os j).wt ∧ (upd os k { os k with cm := n } j).ak = (os j).ak := fun j => by
    by_cases e : j = k
    · subst e; rw [upd_self]; exact ⟨rfl, rfl⟩
    · rw [upd_ne _ _ e]; exact ⟨rfl, rfl⟩
  have hpk : ∀ j, pksO id j (upd os k { os k with cm := n } j) = pksO id j (os j) := fun j => by
    by_cases e : j = k
    · subst e; rw [upd_self]; rfl
    · rw [upd_ne _ _ e]
  refine ⟨⟨_, blk_set hc.blk _ _, by simpa using hz, ?_, fun j hj => ?_, fun j hj => ?_, fun j hj => ?_⟩, fun j hj => ?_, fun j hj g hg => ?_⟩
  · rw [Array.getElem?_setIfInBounds, if_neg (by omega)]; exact hc.c0
  · rw [Array.getElem?_setIfInBounds, if_neg (by omega), hc.cs j hj, (hwt j).1, (hwt j).2]
  · rw [Array.getElem?_setIfInBounds, if_neg (by omega), hc.cw j hj, (hwt j).1]
  · rw [Array.getElem?_setIfInBounds]
    by_cases e : j = k
    · subst e; rw [if_pos rfl, if_pos (by omega), upd_self]
    · rw [if_neg (by omega), hc.cc j hj, upd_ne _ _ e]
  · rw [hpk]; exact own_setB (h.rows j hj) (ownPk_ne (h.rows j hj) hc.blk (by decide)) _ _
  · rw [(hwt j).1] at hg; exact h.good j hj g hg
end Go.Proofs.Ytmlncfnnldplgaa
