/-
  What the law makes of bits: nodes, and a configuration of them: rising lists of nodes, the learners none of the voters.
-/
import Derived.Test.YtopdgkebbdheiaaWTorn2
import Derived.Test.YtopdgkebbdheiaaWCfg7
namespace Go.Proofs.Ytopdgkebbdheiaa
open Go.RowKit

/-- Nodes, rising. -/
structure Nodes (ns : List Nat) : Prop where
  up : ns.Pairwise (· < ·)
  le : ∀ n ∈ ns, 1 ≤ n ∧ n ≤ 9
theorem rise_of {ns : List Nat} : ∀ (p : Int), ns.Pairwise (· < ·) → (∀ n ∈ ns, 1 ≤ n ∧ n ≤ 9 ∧ p < n) → rise p (intsOf ns) = true := by
  induction ns with
  | nil => intro p _ _; rfl
  | cons n ns ih =>
    intro p hp hn
    have h1 := hn n (by simp)
    have h2 := List.pairwise_cons.1 hp
    show (isNd (n : Int) && decide (p < (n : Int)) && rise (n : Int) (intsOf ns)) = true
    have h3 := ih (n : Int) h2.2 (fun m hm => by
      have a := h2.1 m hm
      have b := hn m (by simp [hm])
      exact ⟨b.1, b.2.1, by omega⟩)
    rw [h3, Bool.and_true, Bool.and_eq_true]
    refine ⟨?_, decide_eq_true h1.2.2⟩
    unfold isNd
    rw [decide_eq_true (by omega), decide_eq_true (by omega)]
    rfl
theorem Nodes.rise {ns : List Nat} (h : Nodes ns) : rise 0 (intsOf ns) = true := rise_of 0 h.up (fun n hn => by have := h.le n hn; omega)
theorem Nodes.snoc {ns : List Nat} {k : Nat} (h : Nodes ns) (hk : ∀ n ∈ ns, n < k) (h1 : 1 ≤ k) (h9 : k ≤ 9) : Nodes (ns ++ [k]) := by
  refine ⟨List.pairwise_append.2 ⟨h.up, List.pairwise_singleton _ _, fun a ha b hb => ?_⟩, fun n hn => ?_⟩
  · rw [List.mem_singleton.1 hb]; exact hk a ha
  · rcases List.mem_append.1 hn with hn | hn
    · exact h.le n hn
    · rw [List.mem_singleton.1 hn]; omega
theorem Nodes.nil : Nodes [] := ⟨List.Pairwise.nil, fun n hn => by simp at hn⟩
theorem Nodes.few {ns : List Nat} (h : Nodes ns) : ns.length ≤ 9 := by
  have := rise_few h.rise
  simpa [intsOf_len] using this.2.2

/-- What is handed out: nodes in a row of their own. -/
def NodesPost (w : World) (e : Ending) (w' : World) : Prop := ∃ ns ao c, e = .returned (.slice ao ns.length c) ∧ OwnNats w.heap.size w' ao c ns ∧ Nodes ns ∧ Kept Nil w w'

set_option maxRecDepth 100000 in
set_option maxHeartbeats 2000000 in
theorem nodes_any (z : Int) (w : World) : Calls Try.prog 34 #[.int .i64 z] w (NodesPost w) := by
  obtain ⟨i0, hi, hz0, hz1, hz2⟩ := info_parts Try.infoInt
  go_enter Try.func34, Try.ntmps34
  go_wp2
  go_loopw [3, 4] (fun v i wr => ∃ k : Nat, ∃ ns : List Nat, ∃ ao c, 1 ≤ k ∧ k ≤ 10 ∧ i = .int .i64 k ∧ v = .slice ao ns.length c ∧ Hid (OwnNats w.heap.size wr ao c ns) ∧ Hid (Nodes ns ∧ ∀ n ∈ ns, n < k) ∧ Hid (Kept Nil w wr)) (fun _ i _ => 10 - (intOf i).toNat)
  case atStart => exact ⟨1, [], none, 0, by omega, by omega, rfl, rfl, World.ownsRow_nil _ _ _ _, ⟨Nodes.nil, fun n hn => by simp at hn⟩, Kept.refl _ _⟩
  case round =>
    obtain ⟨k, ns, ao, c, hk1, hk10, rfl, rfl, HO, HN, HK⟩ := hrel
    by_cases h9 : k ≤ 9
    · have HLL : Hid (ns.length + 1 ≤ maxLen ∧ (ns.length + 1) * 8 ≤ 140737488355328) := by
        have := HN.out.1.few
        constructor
        · unfold maxLen; omega
        · omega
      have ho : wr.ownsRow w.heap.size 3 1 (.slice ao ns.length c) ns.length (natCells ns) := HO.out
      have HM : Hid (∀ n ∈ ns, n < k + 1) := fun n hn => by have := HN.out.2 n hn; omega
      have HS : Hid (Nodes (ns ++ [k])) := HN.out.1.snoc HN.out.2 hk1 h9
      go_wp2_with fail
      refine (pick_any _ 2 _ (by decide) (by decide)).mono ?_
      rintro e w1 ⟨rfl, rfl⟩
      go_wp2_with (first | (at_builtin; go_must (refine wpList_append_src _ rfl _ _ 22 22 rfl w.heap.size 3 i0 (.int .i64 0) 1 8 Try.underlying22 hi hz0 hz1 hz2 rfl _ _ _ rfl (ho.alloc _) (.slice (some ⟨w1.heap.size, 0, none⟩) 1 1) 1 [.int .i64 k] rfl (src_int _) HLL.out.1 HLL.out.2 (le_alloc HK.out.size _) ?_); intro ao' c' w2 ho' hg'; have HK2 : Hid (Kept Nil w w2) := (HK.out.alloc _).grown hg' (own_row ho); clear hg'))
      · go_roundw
        case rel => exact ⟨k + 1, ns ++ [k], ao', c', by omega, by omega, by go_num, by rw [List.length_append]; rfl, OwnNats.push ho', ⟨HS.out, fun n hn => by rcases List.mem_append.1 hn with hn | hn; exact HM.out n hn; rw [List.mem_singleton.1 hn]; omega⟩, HK2.out⟩
        case measure => simp [intOf]; omega
      · go_roundw
        case rel => exact ⟨k + 1, ns, ao, c, by omega, by omega, by go_num, rfl, HO.out, ⟨HN.out.1, HM.out⟩, HK.out⟩
        case measure => simp [intOf]; omega
    · go_wp2
      go_ret
      exact ⟨ns, ao, c, rfl, HO.out, HN.out.1, HK.out⟩

set_option maxRecDepth 100000 in
set_option maxHeartbeats 1000000 in
theorem keepHas_any (B cap : Nat) (ao : Option Addr) (zs : List Int) (z : Int) (w : World) (h : IntRow B w ao zs) (hl : (zs.length : Int) ≤ 9223372036854775807) :
    Calls Try.prog 37 #[.slice ao zs.length cap, .int .i64 z] w fun e w' => e = .returned (.bool (hasZ zs z)) ∧ w' = w := by
  have HR : Hid (IntRow B w ao zs) := h
  have HP : Hid (decide (0 ≤ pos z 0 zs) = hasZ zs z) := rfl
  clear h
  go_enter Try.func37, Try.ntmps37
  go_wp2
  go_loop [5] (fun i => ∃ k : Nat, k ≤ zs.length ∧ i = .int .i64 k ∧ Hid (pos z 0 zs = pos z k (zs.drop k))) (fun i => zs.length - (intOf i).toNat)
  case atStart => exact ⟨0, Nat.zero_le _, rfl, rfl⟩
  case round =>
    obtain ⟨k, hk, rfl, HI⟩ := hrel
    by_cases hlt : k < zs.length
    · obtain ⟨a, rfl, _, hcell⟩ := HR.out k hlt
      by_cases hz : zs[k] = z
      · have HF : Hid (hasZ zs z = true) := by show hasZ zs z = true; rw [← HP.out, HI.out, (pos_at hlt).trans (if_pos hz)]; simp
        rw [hz] at hcell
        clear hz HI HP
        go_wp2
        go_ret
        rw [HF.out]
        exact ⟨rfl, rfl⟩
      · have HF : Hid (pos z 0 zs = pos z (k + 1) (zs.drop (k + 1))) := HI.out.trans ((pos_at hlt).trans (if_neg hz))
        have hz2 : (zs[k] == z) = false := by simp; exact hz
        generalize zs[k] = y at *
        clear hz HI
        go_wp2
        go_round
        case rel => exact ⟨k + 1, by omega, by go_num, HF⟩
        case measure => simp [intOf]; omega
    · have HF : Hid (hasZ zs z = false) := by show hasZ zs z = false; rw [← HP.out, HI.out, List.drop_of_length_le (by omega)]; rfl
      go_wp2
      go_ret
      rw [HF.out]
      exact ⟨rfl, rfl⟩

end Go.Proofs.Ytopdgkebbdheiaa
