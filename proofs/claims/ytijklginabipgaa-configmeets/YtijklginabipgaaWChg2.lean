/-
  A row of nodes with one more, with one less: config.with, config.without.
-/
import Derived.Test.YtijklginabipgaaWChg1
import Derived.Sort.OwnSortedInts
import Derived.Deep.DeepFit
namespace Go.Proofs.Ytijklginabipgaa
open Go.RowKit Go.Sort

theorem own_prefixI {B g n k cap : Nat} {e : TypeId} {w : World} {xs : List Value} (h : w.ownsRow B e 1 (.slice (some ⟨g, 0, none⟩) n cap) n xs) (hk : k ≤ n) : w.ownsRow B e 1 (.slice (some ⟨g, 0, none⟩) k cap) k (xs.take k) := by
  rcases h.2 with ⟨h1, _⟩ | ⟨g', cap', cur, hv, hb, hh, h1, h2, h3, h4⟩
  · simp at h1
  · simp only [Value.slice.injEq, Option.some.injEq, Addr.mk.injEq, true_and, and_true] at hv
    obtain ⟨rfl, rfl⟩ := hv
    have hx := h.1
    refine ⟨by simp; omega, .inr ⟨g, cap, cur, rfl, hb, hh, by omega, h2, h3, ?_⟩⟩
    rw [← h4, List.take_take]
    congr 1
    omega
theorem own_blockI {B n cap : Nat} {e : TypeId} {w : World} {ao : Option Addr} {xs : List Value} (h : w.ownsRow B e 1 (.slice ao n cap) n xs) (hn : 0 < n) : ∃ g cur, ao = some ⟨g, 0, none⟩ ∧ B ≤ g ∧ w.heap[g]? = some (.cells cur e (0, 0)) ∧ n ≤ cap ∧ cap ≤ maxLen ∧ cur.size = cap * 1 ∧ cur.toList.take n = xs := by
  rcases h.2 with ⟨_, h0⟩ | ⟨g', cap', cur, hv, hb, hh, h1, h2, h3, h4⟩
  · omega
  · simp only [Value.slice.injEq] at hv
    obtain ⟨rfl, _, rfl⟩ := hv
    exact ⟨g', cur, rfl, hb, hh, h1, h2, h3, by rw [Nat.mul_one] at h4; exact h4⟩
theorem own_le {B c : Nat} {w : World} {ao : Option Addr} {zs : List Int} (h : OwnInts B w ao c zs) : zs.length ≤ c ∧ c ≤ maxLen := by
  rcases h.2 with ⟨h1, h0⟩ | ⟨g, cap, cur, h1, hbg, hg, hnc, hcm, hcs, ht⟩
  · simp only [Value.slice.injEq] at h1
    obtain ⟨rfl, _, rfl⟩ := h1
    exact ⟨by omega, by unfold maxLen; omega⟩
  · simp only [Value.slice.injEq] at h1
    obtain ⟨rfl, _, rfl⟩ := h1
    exact ⟨hnc, hcm⟩
theorem OwnInts.alloc {B c : Nat} {w : World} {ao : Option Addr} {zs : List Int} (h : OwnInts B w ao c zs) (o : Obj) : OwnInts B (w.alloc o) ao c zs := World.ownsRow.alloc h o
theorem OwnInts.far {B c : Nat} {w w' : World} {ao : Option Addr} {zs : List Int} {r : Option Nat} (h : OwnInts B w ao c zs) (hg : w.grownBy w' r) (hr : ∀ g, (Value.slice ao zs.length c).ownBlock = some g → some g ≠ r) : OwnInts B w' ao c zs := by
  refine ⟨h.1, ?_⟩
  rcases h.2 with h1 | ⟨g, cap, cur, h1, hbg, hb, h2⟩
  · exact .inl h1
  · refine .inr ⟨g, cap, cur, h1, hbg, ?_, h2⟩
    rw [hg.block g (lt_of_block hb) (hr g (by rw [h1]; rfl))]
    exact hb

set_option maxRecDepth 100000 in
theorem bsearch_any (B c : Nat) (ao : Option Addr) (zs : List Int) (z : Int) (w : World) (h : OwnInts B w ao c zs) (hp : zs.Pairwise (· < ·)) (hs : zs.length ≤ 1000000) :
    Calls Try.prog 187 #[.slice ao zs.length c, .int .i64 z] w fun e w' => e = .returned (.tuple #[.int .i64 (lowZ z zs : Nat), .bool (zs.contains z)]) ∧ ∃ q, w' = w.drewN q := by
  cases hz : zs with
  | nil =>
    have C := Try.slices_BinarySearch_int_empty ao c z w
    refine C.mono ?_
    rintro e w' ⟨rfl, rfl⟩
    exact ⟨rfl, 0, rfl⟩
  | cons x t =>
    rw [← hz]
    obtain ⟨g, cur, rfl, _, hb, _, _, _, ht⟩ := own_blockI h (by rw [hz]; simp)
    have C := Try.slices_BinarySearch_int g 0 zs.length c zs z w (Nat.le_refl _) (by omega) (fun j hj => by
      rw [Nat.zero_add, blk_cell hb j]
      have := congrArg (fun l => l[j]?) ht
      simp only [List.getElem?_take, if_pos hj, Array.getElem?_toList] at this
      rw [this]
      simp [hj, List.getD_eq_getElem?_getD]) (by rw [List.take_length]; exact hp.imp (fun h => Int.le_of_lt h))
    rw [List.take_length] at C
    exact C

set_option maxRecDepth 100000 in
set_option maxHeartbeats 1000000 in
theorem with_any (B c : Nat) (ao : Option Addr) (zs : List Int) (z : Int) (w : World) (h : OwnInts B w ao c zs) (hB : B ≤ w.heap.size) (hp : zs.Pairwise (· < ·)) (hs : zs.length ≤ 1000000) :
    Calls Try.prog 133 #[.slice ao zs.length c, .int .i64 z] w (RowPost B ao zs.length c w (insZ z zs)) := by
  have BS := bsearch_any B c ao zs z w h hp hs
  have hlow := lowZ_le z zs
  have IN := fun q => insert_any B w.heap.size c (lowZ z zs) ao zs z ((w.drewN q).alloc (.cells #[.int .i64 z] 3)) (OwnInts.alloc (OwnInts.far h (grown_drewN (grown_refl w none) q) (fun g _ e => by cases e)) _) hlow (by simp; omega) hs (blk_new (w.drewN q) _) (fun e => by have := (World.ownsRow.lt h _ e).2; omega)
  have HE : Hid (insZ z zs = zs.take (lowZ z zs) ++ z :: zs.drop (lowZ z zs)) := rfl
  generalize lowZ z zs = i at *
  generalize zs.contains z = b at *
  generalize zs.take i ++ z :: zs.drop i = out at *
  clear h hp hlow
  go_enter Try.func133, Try.ntmps133
  go_wp2_with fail
  go_fit BS
  rintro e w1 ⟨rfl, q, rfl⟩
  go_wp2_with fail
  go_fit (IN q)
  rintro e w2 ⟨ao', c', rfl, o2, g2, l2⟩
  go_wp2
  go_ret
  rw [HE.out]
  exact ⟨ao', c', rfl, o2, grown_trans (grown_alloc (grown_drewN (grown_refl _ _) _) _) g2, fun g hg => by
    rcases l2 g hg with h | h
    · exact .inl h
    · exact .inr (by simp at h; omega)⟩

set_option maxRecDepth 100000 in
theorem withoutF_any (z x : Int) (C : Nat) (w : World) (hc : w.cell? ⟨C, 0, none⟩ = some (.int .i64 z)) :
    FnGives Try.prog 189 #[.pointer (some ⟨C, 0, none⟩)] #[.int .i64 x] (.bool (x == z)) w := by
  show Calls Try.prog 189 #[.int .i64 x, .pointer (some ⟨C, 0, none⟩)] w _
  go_enter Try.func189, Try.ntmps189
  go_wp2
  go_ret
  exact ⟨rfl, 0, rfl⟩

set_option maxRecDepth 100000 in
set_option maxHeartbeats 1000000 in
theorem delFunc_any (B c C : Nat) (ao : Option Addr) (zs : List Int) (z : Int) (w : World) (h : OwnInts B w ao c zs) (hC : w.heap[C]? = some (.cells #[.int .i64 z] 3 (0, 0))) (hne : (Value.slice ao zs.length c).ownBlock ≠ some C) (hs : zs.length ≤ 1000000) :
    Calls Try.prog 80 #[.slice ao zs.length c, .func (.func 189) #[] #[.pointer (some ⟨C, 0, none⟩)]] w (RowPost B ao zs.length c w (delZ z zs)) := by
  cases hz : zs with
  | nil =>
    subst hz
    have hI : Calls Try.prog 138 #[.slice ao 0 c, .func (.func 189) #[] #[.pointer (some ⟨C, 0, none⟩)]] w fun e w' => e = .returned (.int .i64 (-1)) ∧ w' = w := by
      go_enter Try.func138, Try.ntmps138
      go_wp2
      go_loop [8] (fun i => i = .int .i64 0) (fun _ => 0)
      case atStart => rfl
      case round =>
        subst hrel
        go_wp2
        go_ret
        exact ⟨rfl, rfl⟩
    have HO : Hid (OwnInts B w ao c []) := h
    clear h hne
    show Calls Try.prog 80 #[.slice ao 0 c, .func (.func 189) #[] #[.pointer (some ⟨C, 0, none⟩)]] w _
    go_enter Try.func80, Try.ntmps80
    go_wp2_with fail
    go_fit hI
    rintro e w1 ⟨rfl, rfl⟩
    go_wp2
    go_ret
    exact ⟨ao, c, rfl, HO.out, grown_refl _ _, fun g hg => .inl hg⟩
  | cons x t =>
    rw [← hz]
    obtain ⟨hle, hcm⟩ := own_le h
    obtain ⟨g, cur, rfl, hbg, hb, hn1, hn2, hn3, ht⟩ := own_blockI h (by rw [hz]; simp)
    have hgC : C ≠ g := fun e => hne (by rw [e]; rfl)
    have eg : ∀ args w, (callFunc 189 args).run Try.prog w = .ok (.enter 189 args) w := enters_of Try.func189 (by kernel_rfl) rfl
    have hcell : w.cell? ⟨C, 0, none⟩ = some (.int .i64 z) := blk_at hC 0 rfl
    have hCl := lt_of_block hC
    have hH := Go.holds_of_blockI hb ht
    have hp : PredAt Try.prog 189 #[.pointer (some ⟨C, 0, none⟩)] (Value.int .i64) (fun x => x == z) w := fun W x hbl => withoutF_any z x C W ((hbl.cell (p := ⟨C, 0, none⟩) hCl).trans hcell)
    have hpo : PredOver Try.prog 189 #[.pointer (some ⟨C, 0, none⟩)] (Value.int .i64) (fun x => x == z) g 0 zs.toArray.size w := fun n os dk x _ => withoutF_any z x C _ (by
      unfold sortWorld
      rw [cell?_grow _ _ _ (by show C < (putRow _ _ _ _ _).heap.size; rw [size_putRow]; exact hCl), cell?_putRow_other _ _ g 0 _ _ (Or.inl hgC)]
      exact hcell)
    have D := Try.slices_DeleteFunc (Value.int .i64) (fun _ => rfl) (fun x => x == z) 189 #[.pointer (some ⟨C, 0, none⟩)] eg 0 Try.zeroValue3 g 0 c zs.toArray w hp hpo hH (by simp; omega) (by simpa using hle)
    have e1 : (zs.toArray.toList.filter fun x => !(x == z)) = delZ z zs := by simp [delZ]
    have e2 : zs.toArray.size = zs.length := by simp
    rw [e1, e2] at D
    have hdl : (delZ z zs).length ≤ zs.length := List.length_filter_le _ _
    refine D.mono ?_
    rintro e w' ⟨rfl, q, rfl⟩
    have hfull : (delZ z zs ++ List.replicate (zs.length - (delZ z zs).length) (0 : Int)).length = zs.length := by simp; omega
    have own4 : (putRow (Value.int .i64) (Sort.ahead w q) g 0 (delZ z zs ++ List.replicate (zs.length - (delZ z zs).length) (0 : Int)).toArray).ownsRow B 3 1 (.slice (some ⟨g, 0, none⟩) (delZ z zs ++ List.replicate (zs.length - (delZ z zs).length) (0 : Int)).length c) (delZ z zs ++ List.replicate (zs.length - (delZ z zs).length) (0 : Int)).length ((delZ z zs ++ List.replicate (zs.length - (delZ z zs).length) (0 : Int)).map (Value.int .i64)) := by
      rw [← grow_empty (putRow _ _ _ _ _)]
      exact Go.ownsRow_sortedI rfl hbg hb (by rw [hfull]; exact hle) hcm hn3
    refine ⟨some ⟨g, 0, none⟩, c, rfl, ?_, ?_, fun g' hg' => .inl hg'⟩
    · have := own_prefixI own4 (k := (delZ z zs).length) (by simp)
      show World.ownsRow _ _ _ _ _ _ _
      simpa using this
    · rw [← grow_empty (putRow _ _ _ _ _)]
      exact Go.grownBy_sortedI _

set_option maxRecDepth 100000 in
set_option maxHeartbeats 1000000 in
theorem without_any (B c : Nat) (ao : Option Addr) (zs : List Int) (z : Int) (w : World) (h : OwnInts B w ao c zs) (hs : zs.length ≤ 1000000) :
    Calls Try.prog 134 #[.slice ao zs.length c, .int .i64 z] w (RowPost B ao zs.length c w (delZ z zs)) := by
  have hmf : ∀ (fn : Fn) (first cap : Array Value) (w : World), (Instr.makeFunc fn first cap).run Try.prog w = .ok (.func fn first cap) w := fun _ _ _ _ => rfl
  have D := delFunc_any B c w.heap.size ao zs z (w.alloc (.cells #[.int .i64 z] 3)) (OwnInts.alloc h _) (blk_new _ _) (fun e => by have := (World.ownsRow.lt h _ e).2; omega) hs
  clear h
  generalize delZ z zs = out at *
  go_enter Try.func134, Try.ntmps134
  go_wp2_with fail
  go_fit D
  rintro e w2 ⟨ao', c', rfl, o2, g2, l2⟩
  go_wp2
  go_ret
  exact ⟨ao', c', rfl, o2, grown_trans (grown_alloc (grown_refl _ _) _) g2, fun g hg => by
    rcases l2 g hg with h | h
    · exact .inl h
    · exact .inr (by simp at h; omega)⟩

end Go.Proofs.Ytijklginabipgaa
