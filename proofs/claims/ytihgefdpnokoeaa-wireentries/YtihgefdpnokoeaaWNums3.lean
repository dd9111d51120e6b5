/-
  PutNumbers, and the document's; what is written of numbers is read again.
-/
import Derived.Test.YtihgefdpnokoeaaWNums2
namespace Go.Proofs.Ytihgefdpnokoeaa
open Go.RowKit

theorem rdTimes_enc : ∀ (ns : List Nat) (t : List UInt8), (∀ n ∈ ns, n ≤ maxNum) → rdTimes rdNum ns.length (encAll ns ++ t) = .ok (ns, t)
  | [], t, _ => rfl
  | n :: ns, t, h => by
    have e : encAll (n :: ns) ++ t = enc n ++ (encAll ns ++ t) := by simp [encAll]
    rw [e, List.length_cons]
    unfold rdTimes
    rw [rdNum_enc (h n (by simp))]
    simp only
    rw [rdTimes_enc ns t (fun m hm => h m (by simp [hm]))]

theorem own_ints {B : Nat} {w : World} {ao : Option Addr} {c : Nat} {ns : List Nat} (h : OwnNats B w ao c ns) (hn : ns ≠ []) :
    ∃ g cs, B ≤ g ∧ ao = some ⟨g, 0, none⟩ ∧ w.heap[g]? = some (.cells cs 3 (0, 0)) ∧ IntsAt w g (intsOf ns) := by
  obtain ⟨g, hB, rfl, ⟨cs, hg⟩, hc⟩ := h.shape hn
  refine ⟨g, cs, hB, rfl, hg, fun j hj => ?_⟩
  have hj' : j < ns.length := by simpa [intsOf] using hj
  rw [hc j hj']
  simp [intsOf, List.getD_eq_getElem?_getD, hj']

theorem wNumbers_nil (p : Addr) (ao : Option Addr) (c : Nat) (w : World) :
    Calls Try.prog 64 #[.pointer (some p), .slice ao 0 c] w fun e w' => e = .returned (.tuple #[]) ∧ w' = w := by
  go_enter Try.func64, Try.ntmps64
  go_wp2
  refine wp_loop_rounds 1 ?_
  rw [rounds_succ]
  go_wp2
  go_end0
  exact ⟨rfl, rfl⟩

/-- Numbers written out of a row, whatever it is. -/
theorem wNumbers_own (b B c : Nat) (ao : Option Addr) (ns : List Nat) (l : List UInt8) (w : World) (h : WInv b w l) (ho : OwnNats B w ao c ns) (hb : ∀ g, ao = some ⟨g, 0, none⟩ → g ≠ b)
    (hn : ∀ n ∈ ns, n ≤ 1099511627775) (hnl : ns.length ≤ 10000000) (hl : l.length ≤ 100000000000) :
    Calls Try.prog 64 #[.pointer (some ⟨b, 0, none⟩), .slice ao ns.length c] w fun e w' => e = .returned (.tuple #[]) ∧ WInv b w' (l ++ encAll ns) ∧ Kept (Wr b) w w' := by
  by_cases hnil : ns = []
  · subst hnil
    refine (wNumbers_nil _ ao c w).mono ?_
    rintro e w' ⟨rfl, rfl⟩
    exact ⟨rfl, by simpa [encAll] using h, .refl _ _⟩
  · obtain ⟨g, cs, _, rfl, hg, hi⟩ := own_ints ho hnil
    exact wNumbers_any b g c cs _ ns l w h hg (hb g rfl) hi hn hnl hl

theorem own_ne {B c : Nat} {w : World} {ao : Option Addr} {ns : List Nat} {b : Nat} (ho : OwnNats B w ao c ns) (hb : w.heap.size ≤ b) : ∀ g, ao = some ⟨g, 0, none⟩ → g ≠ b := by
  intro g hg
  have := (ho.lt g (by rw [hg]; rfl)).2
  omega

set_option maxRecDepth 100000 in
theorem putNumbers_any (B c : Nat) (ao : Option Addr) (ns : List Nat) (w : World) (ho : OwnNats B w ao c ns) (hn : ∀ n ∈ ns, n ≤ 1099511627775) (hnl : ns.length ≤ 1000000) :
    Calls Try.prog 18 #[.slice ao ns.length c] w fun e w' => e = .returned (.string (bs (encAll ns))) ∧ Kept Nil w w' := by
  have H := wNumbers_own w.heap.size B c ao ns [] _ (winv_new w) (ho.alloc _) (own_ne ho (Nat.le_refl _)) hn (by omega) (by simp)
  simp only [List.nil_append] at H
  clear ho hn hnl
  go_enter Try.func18, Try.ntmps18
  go_wp2_with (first | (go_at_call 64; go_must (refine H.mono ?_); rintro e w1 ⟨rfl, ⟨ao', c', hb, ho⟩, hk⟩; have h0 : w1.cell? ⟨w.heap.size, 0, none⟩ = some (.slice ao' (encAll ns).length c') := blk_cell hb 0; have hcv := conv_own ho))
  go_ret
  exact ⟨rfl, hk.newWr⟩

theorem encAll_snoc (ns : List Nat) (n : Nat) : encAll (ns ++ [n]) = encAll ns ++ enc n := by simp [encAll]

set_option maxRecDepth 100000 in
set_option maxHeartbeats 1000000 in
theorem refPutNumbers_any (B c : Nat) (ao : Option Addr) (ns : List Nat) (w : World) (ho : OwnNats B w ao c ns) (hn : ∀ n ∈ ns, n ≤ 1099511627775) (hnl : ns.length ≤ 1000000) :
    Calls Try.prog 17 #[.slice ao ns.length c] w fun e w' => e = .returned (.string (bs (encAll ns))) ∧ Kept Nil w w' := by
  have HN : Hid (∀ n ∈ ns, n ≤ 1099511627775) := hn
  have hnl' : (ns.length : Int) ≤ 1000000 := by omega
  have HO : Hid (OwnNats B w ao c ns) := ho
  have hap := bs_append
  clear hn ho hnl
  go_enter Try.func17, Try.ntmps17
  go_wp2
  go_loopw [3, 4] (fun s i wr => ∃ k : Nat, k ≤ ns.length ∧ i = .int .i64 k ∧ s = .string (bs (encAll (ns.take k))) ∧ Hid (Kept Nil w wr)) (fun _ i _ => ns.length - (intOf i).toNat)
  case atStart => exact ⟨0, Nat.zero_le _, rfl, rfl, Kept.refl _ _⟩
  case round =>
    obtain ⟨k, hk, rfl, rfl, HK⟩ := hrel
    by_cases hlt : k < ns.length
    · obtain ⟨g, _, rfl, ⟨cs, hg⟩, hc⟩ := HO.out.shape (fun e => by subst e; simp at hlt)
      have hcell : wr.cell? ⟨g, k, none⟩ = some (.int .i64 (ns[k] : Nat)) := by rw [HK.out.cell hg (fun x => x.elim), hc k hlt]
      have HE : Hid (encAll (ns.take k) ++ enc ns[k] = encAll (ns.take (k + 1))) := by
        show _ = _
        rw [List.take_succ_eq_append_getElem hlt, encAll_snoc]
      have hle := HN.out ns[k] (List.getElem_mem hlt)
      have hz1 : (bs (encAll (ns.take k))).size ≤ 6000000 := by
        rw [bs_size]
        have := encAll_len (ns.take k) (fun n hn => HN.out n (List.mem_of_mem_take hn))
        simp only [List.length_take] at this
        omega
      have hz2 : (bs (enc ns[k])).size ≤ 6 := by rw [bs_size]; exact enc_len6 hle
      have H := refNum_any ns[k] hle
      generalize ns[k] = x at hcell HE hle hz2 H
      have hle' : (x : Int) ≤ 1099511627775 := by omega
      clear hc hg hle HO
      generalize encAll (ns.take k) = s at HE hz1
      go_wp2_with (first | (go_at_call 63; go_must (refine (H _).mono ?_); rintro e w' ⟨rfl, hk'⟩; have HK' : Hid _ := HK.out.trans hk'; clear hk'))
      go_roundw
      case rel => exact ⟨k + 1, by omega, by go_num, by rw [← HE.out, ← bs_append], HK'.out⟩
      case measure => simp [intOf]; omega
    · rw [List.take_of_length_le (by omega)]
      go_wp2
      go_ret
      exact ⟨rfl, HK.out⟩

theorem src_own {B c : Nat} {w : World} {ao : Option Addr} {ns : List Nat} (h : OwnNats B w ao c ns) : Src Try.prog 1 31 (.slice ao ns.length c) ns.length (natCells ns) w := by
  by_cases hn : ns = []
  · subst hn
    rcases h.2 with ⟨hv, _⟩ | ⟨g, cap, cur, hv, _⟩
    · simp only [List.length_nil, Value.slice.injEq, true_and] at hv
      obtain ⟨rfl, rfl⟩ := hv
      exact Src.ofNil w Try.underlying31 0
    · simp only [Value.slice.injEq, true_and] at hv
      obtain ⟨rfl, rfl⟩ := hv
      exact Src.ofSlice w Try.underlying31 _ 0 c [] rfl (fun j u hj => by simp at hj) (fun u hu => by cases hu)
  · obtain ⟨g, _, rfl, _, hc⟩ := h.shape hn
    refine Src.ofSlice w Try.underlying31 _ ns.length c (natCells ns) (by simp [natCells]) ?_ ?_
    · intro j u hj
      have hj' : j < ns.length := by
        have := (List.getElem?_eq_some_iff.1 hj).1
        simpa [natCells] using this
      have e : (⟨g, 0, none⟩ : Addr).add j = ⟨g, j, none⟩ := by unfold Addr.add; split <;> simp_all
      rw [e, hc j hj']
      simpa [natCells, hj'] using hj
    · intro u hu
      obtain ⟨_, _, rfl⟩ := List.mem_map.1 hu
      rfl

/-- What the law makes of any number. -/
def small (z : Int) : Nat := (z.tmod 1099511627776).natAbs
theorem small_le (z : Int) : small z ≤ 1099511627775 := by
  unfold small
  rw [Int.natAbs_tmod]
  have : z.natAbs % (1099511627776 : Int).natAbs < (1099511627776 : Int).natAbs := Nat.mod_lt _ (by decide)
  have e : (1099511627776 : Int).natAbs = 1099511627776 := by decide
  omega
theorem small_pos {z : Int} (h : ¬ z.tmod 1099511627776 < 0) : z.tmod 1099511627776 = (small z : Nat) := by unfold small; omega
theorem small_neg {z : Int} (h : z.tmod 1099511627776 < 0) : -z.tmod 1099511627776 = (small z : Nat) := by unfold small; omega

theorem known_nums : getNums 2 [172, 2, 0] = ([300, 0], 0) := by
  refine getNums_ok ?_
  have e : encAll [300, 0] ++ [] = [172, 2, 0] := by
    simp only [encAll, List.flatMap_cons, List.flatMap_nil, List.append_nil]
    rw [enc_big (by decide), enc_small (n := 300 / 128) (by decide), enc_small (n := 0) (by decide)]
    rfl
  rw [← e]
  exact rdTimes_enc [300, 0] [] (by decide)

end Go.Proofs.Ytihgefdpnokoeaa
