/-
  Delegations: the library's Search, countAhead, At; Clone, IndexFunc, ContainsFunc, Has.
-/
import Derived.Test.YtmlncfnnldplgaaWDg1
namespace Go.Proofs.Ytmlncfnnldplgaa
open Go.RowKit

set_option maxRecDepth 100000 in
set_option maxHeartbeats 2000000 in
theorem search_any (N n : Nat) (c1 c2 : Value) (q : Nat → Bool) (w : World) (hn : (n : Int) ≤ 4611686018427387903)
    (eg : ∀ (args : Array Value) (w : World), (callFunc N args).run Try.prog w = .ok (.enter N args) w)
    (hm : ∀ i j, i ≤ j → j < n → q i = true → q j = true)
    (PF : ∀ X, Kept Nil w X → ∀ i, i < n → Calls Try.prog N #[.int .i64 i, c1, c2] X fun r w' => r = .returned (.bool (q i)) ∧ Kept Nil X w') :
    Calls Try.prog 76 #[.int .i64 n, .func (.func N) #[] #[c1, c2]] w fun e w' => ∃ k : Nat, k ≤ n ∧ e = .returned (.int .i64 k) ∧ (∀ i, i < k → q i = false) ∧ (∀ i, k ≤ i → i < n → q i = true) ∧ Kept Nil w w' := by
  have HM : Hid (∀ i j, i ≤ j → j < n → q i = true → q j = true) := hm
  clear hm
  go_enter Try.func76, Try.ntmps76
  go_wp2
  go_loopw [5, 6] (fun u v wr => ∃ i j : Nat, i ≤ j ∧ j ≤ n ∧ u = .int .i64 i ∧ v = .int .i64 j ∧ Hid (∀ x, x < i → q x = false) ∧ Hid (∀ x, j ≤ x → x < n → q x = true) ∧ Hid (Kept Nil w wr)) (fun u v _ => (intOf v).toNat - (intOf u).toNat)
  case atStart => exact ⟨0, n, Nat.zero_le _, Nat.le_refl _, rfl, rfl, fun x h0 => by omega, fun x hx h0 => by omega, Kept.refl _ _⟩
  case round =>
    obtain ⟨i, j, hij, hjn, rfl, rfl, H1, H2, HK⟩ := hrel
    by_cases hlt : i < j
    · have hli : (i : Int) < (j : Int) := by omega
      have hmn : (i + j) / 2 < n := by omega
      have PY := PF wr HK.out ((i + j) / 2) hmn
      cases hq : q ((i + j) / 2) with
      | false =>
        rw [hq] at PY
        have HQ : Hid (q ((i + j) / 2) = false) := hq
        clear hq
        go_wp2_with fail
        go_fit PY
        rintro e w1 ⟨rfl, k1⟩
        have K1 : Hid (Kept Nil w w1) := HK.out.trans k1
        clear k1 PY
        go_wp2
        go_roundw
        case rel => exact ⟨(i + j) / 2 + 1, j, by omega, hjn, by congr 1, rfl, fun x hx => (by
          cases hxx : q x with
          | false => rfl
          | true => have := HM.out x ((i + j) / 2) (by omega) hmn hxx; rw [HQ.out] at this; cases this), H2.out, K1.out⟩
        case measure => simp [intOf]; omega
      | true =>
        rw [hq] at PY
        have HQ : Hid (q ((i + j) / 2) = true) := hq
        clear hq
        go_wp2_with fail
        go_fit PY
        rintro e w1 ⟨rfl, k1⟩
        have K1 : Hid (Kept Nil w w1) := HK.out.trans k1
        clear k1 PY
        go_wp2
        go_roundw
        case rel => exact ⟨i, (i + j) / 2, by omega, by omega, rfl, by congr 1, H1.out, fun x hx hxn => HM.out _ x hx hxn HQ.out, K1.out⟩
        case measure => simp [intOf]; omega
    · obtain rfl : i = j := by omega
      have hli : ¬ (i : Int) < (i : Int) := by omega
      go_wp2
      go_ret
      exact ⟨i, hjn, rfl, H1.out, H2.out, HK.out⟩

set_option maxRecDepth 100000 in
set_option maxHeartbeats 2000000 in
theorem cntC_any (N B b2 b3 i c : Nat) (a : Addr) (cap : Value) (p : Bd → Bool) (ps : List Bd) (w : World) (h : BdRow B w (some a) ps) (hi : i < ps.length)
    (eg : ∀ (args : Array Value) (w : World), (callFunc N args).run Try.prog w = .ok (.enter N args) w)
    (h2 : w.cell? ⟨b2, 0, none⟩ = some (.slice (some a) ps.length c)) (h3 : w.cell? ⟨b3, 0, none⟩ = some (.func (.func N) #[] #[cap]))
    (PF : ∀ X, Kept Nil w X → ∀ x : Bd, Calls Try.prog N #[bdV x, cap] X fun r w' => r = .returned (.bool (p x)) ∧ Kept Nil X w') :
    Calls Try.prog 77 #[.int .i64 i, .pointer (some ⟨b3, 0, none⟩), .pointer (some ⟨b2, 0, none⟩)] w fun e w' => e = .returned (.bool (p (ps[i]))) ∧ Kept Nil w w' := by
  obtain ⟨c0, c1, _⟩ := h.at2 hi
  obtain ⟨y, HY⟩ : ∃ y : Bd, Hid (y = ps[i]) := ⟨ps[i], (rfl : ps[i] = ps[i])⟩
  rw [← HY.out] at c0 c1 ⊢
  have PY := PF w.drew (Kept.refl _ _).drew y
  unfold bdV at PY
  have hii : (i : Int) < ps.length := by omega
  clear PF h
  go_enter Try.func77, Try.ntmps77
  go_wp2_with fail
  go_region_held3 (fun w' => w'.cell? ⟨b2, 0, none⟩ = some (.slice (some a) ps.length c) ∧ w'.cell? ⟨b3, 0, none⟩ = some (.func (.func N) #[] #[cap]) ∧ w'.cell? (a.add (i * 2)) = some (.string (bs y.f)) ∧ w'.cell? ⟨(a.add (i * 2)).block, (a.add (i * 2)).off + 1, none⟩ = some (.int .i64 y.h)) (first | assumption | go_keep) (first | (go_fit PY; rintro e wa ⟨rfl, ka⟩; have Ka : Hid (Kept Nil w wa) := (Kept.refl _ _).drew.trans ka; have q2 := cell_kept Ka.out (fun _ x => x) h2; have q3 := cell_kept Ka.out (fun _ x => x) h3; have q0 := cell_kept Ka.out (fun _ x => x) c0; have q1 := cell_kept Ka.out (fun _ x => x) c1))
  go_wp2
  go_ret
  exact ⟨rfl, Ka.out⟩
/-- How many stand ahead of the first that is such. -/
theorem findIdx_is {p : Bd → Bool} {ps : List Bd} {k : Nat} (hk : k ≤ ps.length) (h1 : ∀ i, (hi : i < ps.length) → i < k → p ps[i] = false) (h2 : ∀ i, (hi : i < ps.length) → k ≤ i → p ps[i] = true) : ps.findIdx p = k := by
  by_cases h : k < ps.length
  · exact (List.findIdx_eq h).2 ⟨h2 k h (Nat.le_refl _), fun j hj => h1 j (by omega) hj⟩
  · have e : k = ps.length := by omega
    subst e
    exact List.findIdx_eq_length.2 (fun x hx => by
      obtain ⟨j, hj, rfl⟩ := List.getElem_of_mem hx
      exact h1 j hj hj)
/-- From the first that is such on all are such. -/
def MonB (p : Bd → Bool) (ps : List Bd) : Prop := ∀ i j, (hi : i < ps.length) → (hj : j < ps.length) → i ≤ j → p ps[i] = true → p ps[j] = true
set_option maxRecDepth 100000 in
set_option maxHeartbeats 2000000 in
theorem count_any (N B c : Nat) (a : Addr) (cap : Value) (p : Bd → Bool) (ps : List Bd) (w : World) (h : BdRow B w (some a) ps) (hm : MonB p ps) (hl : (ps.length : Int) ≤ 4611686018427387903)
    (eg : ∀ (args : Array Value) (w : World), (callFunc N args).run Try.prog w = .ok (.enter N args) w)
    (PF : ∀ X, Kept Nil w X → ∀ x : Bd, Calls Try.prog N #[bdV x, cap] X fun r w' => r = .returned (.bool (p x)) ∧ Kept Nil X w') :
    Calls Try.prog 57 #[.slice (some a) ps.length c, .func (.func N) #[] #[cap]] w fun e w' => e = .returned (.int .i64 (ps.findIdx p)) ∧ Kept Nil w w' := by
  obtain ⟨W, hW⟩ : ∃ W, W = (w.alloc (.cells #[.slice (some a) ps.length c] 103)).alloc (.cells #[.func (.func N) #[] #[cap]] 131) := ⟨_, rfl⟩
  have KW : Hid (Kept Nil w W) := by rw [hW]; exact ((Kept.refl _ _).alloc _).alloc _
  have s1 : (w.alloc (.cells #[.slice (some a) ps.length c] 103)).heap.size = w.heap.size + 1 := by simp
  have h2 : Hid (W.cell? ⟨w.heap.size, 0, none⟩ = some (.slice (some a) ps.length c)) := by
    rw [hW]; exact blk_at (blk_past (blk_new w (.cells #[.slice (some a) ps.length c] 103)) _) 0 rfl
  have h3 : Hid (W.cell? ⟨w.heap.size + 1, 0, none⟩ = some (.func (.func N) #[] #[cap])) := by
    rw [hW, ← s1]; exact blk_at (blk_new _ (.cells #[.func (.func N) #[] #[cap]] 131)) 0 rfl
  have SE := search_any 77 ps.length (.pointer (some ⟨w.heap.size + 1, 0, none⟩)) (.pointer (some ⟨w.heap.size, 0, none⟩)) (fun i => match ps[i]? with | some x => p x | none => true) W hl (enters_of Try.func77 (by kernel_rfl) rfl)
    (fun i j hij hj hi => by
      rw [List.getElem?_eq_getElem hj]
      rw [List.getElem?_eq_getElem (by omega)] at hi
      exact hm i j (by omega) hj hij hi)
    (fun X kX i hi => by
      have := cntC_any N B w.heap.size (w.heap.size + 1) i c a cap p ps X (h.nil (KW.out.trans kX)) hi eg (cell_kept kX (fun _ x => x) h2.out) (cell_kept kX (fun _ x => x) h3.out) (fun Y kY x => PF Y ((KW.out.trans kX).trans kY) x)
      simpa only [List.getElem?_eq_getElem hi] using this)
  have hc := h2.out
  clear PF h hm s1
  go_enter Try.func57, Try.ntmps57
  go_wp2_with fail
  rw [← hW]
  clear hW
  go_fit SE
  rintro e w1 ⟨k, hk, rfl, p1, p2, k1⟩
  have HP : Hid (ps.findIdx p = k) := findIdx_is hk (fun i hi hik => by have := p1 i hik; simpa only [List.getElem?_eq_getElem hi] using this) (fun i hi hik => by have := p2 i hik hi; simpa only [List.getElem?_eq_getElem hi] using this)
  have K1 : Hid (Kept Nil w w1) := KW.out.trans k1
  clear k1 p1 p2 SE
  go_wp2
  go_ret
  exact ⟨by rw [HP.out]; rfl, K1.out⟩
end Go.Proofs.Ytmlncfnnldplgaa
