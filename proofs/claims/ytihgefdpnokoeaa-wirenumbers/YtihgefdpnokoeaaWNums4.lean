/-
  The walk through the law of numbers: it answers true, whatever the list, the text and the count are.
-/
import Derived.Test.YtihgefdpnokoeaaWNums3
namespace Go.Proofs.Ytihgefdpnokoeaa
open Go.RowKit

theorem getNums_len (n : Nat) (l : List UInt8) : (getNums n l).1.length ≤ n := by
  unfold getNums
  split
  · rename_i h
    exact Nat.le_of_eq (rdTimes_len h)
  · exact Nat.zero_le _
  · exact Nat.zero_le _

theorem Kept.cellNil {w w' : World} (h : Kept Nil w w') {a : Addr} {v : Value} (hc : w.cell? a = some v) : w'.cell? a = some v := by
  have hlt := cell_lt hc
  rw [World.cell?_of_block (w := w) (by rw [h.block a.block _ (Array.getElem?_eq_getElem hlt) (fun x => x.elim), Array.getElem?_eq_getElem hlt])]
  exact hc

theorem small_snoc (zs : List Int) (k : Nat) (h : k < zs.length) : (zs.take (k + 1)).map small = (zs.take k).map small ++ [small zs[k]] := by
  rw [List.take_succ_eq_append_getElem h, List.map_append]
  rfl
theorem tmod_lo (z : Int) : -1099511627776 < z.tmod 1099511627776 := by have := small_le z; unfold small at this; omega
theorem tmod_hi (z : Int) : z.tmod 1099511627776 < 1099511627776 := by have := small_le z; unfold small at this; omega

set_option maxRecDepth 100000 in
set_option maxHeartbeats 4000000 in
theorem wireNumbers_walk (ao : Option Addr) (zs : List Int) (cap : Nat) (s : List UInt8) (count : Int) (w : World) (hs : s.length ≤ 140737488351232) (_hlen : (zs.length : Int) ≤ 9223372036854775807)
    (hc : ∀ j, (hj : j < zs.length) → ∃ a, ao = some a ∧ w.cell? (a.add j) = some (.int .i64 zs[j])) (hw1 : -9223372036854775808 ≤ count) (hw2 : count ≤ 9223372036854775807) :
    Calls Try.prog 4 #[.slice ao zs.length cap, .string (bs s), .int .i64 count] w fun e w' => e = .returned (.bool true) ∧ Kept Nil w w' := by
  obtain ⟨i0, hi, hz0, hz1, hz2⟩ := info_parts Try.infoInt
  have HC : Hid (∀ j, (hj : j < zs.length) → ∃ a, ao = some a ∧ w.cell? (a.add j) = some (.int .i64 zs[j])) := hc
  have L2 : Hid (s.length ≤ maxLen) := by show s.length ≤ maxLen; unfold maxLen; omega
  have HS : Hid (s.length ≤ 140737488351232) := hs
  have hzs : (bs s).size ≤ 140737488351232 := by rw [bs_size]; exact hs
  have G0 := getNumbers_any 2 [172, 2, 0] w (by decide)
  rw [known_nums, show bs [172, 2, 0] = ⟨#[172, 2, 0]⟩ from rfl] at G0
  clear hc hs
  go_enter Try.func4, Try.ntmps4
  go_wp2_with fail
  refine G0.mono ?_
  rintro e w0 ⟨ak, ck, rfl, hok, hkk⟩
  have HK0 : Hid (Kept Nil w w0) := hkk
  obtain ⟨gk, _, rfl, _, hck⟩ := hok.shape (by simp)
  have hk0 := hck 0 (by decide)
  have hk1 := hck 1 (by decide)
  simp only [List.getElem_cons_zero, List.getElem_cons_succ] at hk0 hk1
  clear hok hkk hck G0
  go_wp2
  go_loopw [9, 10] (fun v i wr => ∃ k : Nat, ∃ a1 c1, k ≤ zs.length ∧ k ≤ 16 ∧ i = .int .i64 k ∧ v = .slice a1 k c1 ∧ Hid (OwnNats w.heap.size wr a1 c1 ((zs.take k).map small)) ∧ Hid (Kept Nil w wr)) (fun _ i _ => 16 - (intOf i).toNat)
  case atStart => exact ⟨0, none, 0, Nat.zero_le _, Nat.zero_le _, rfl, rfl, World.ownsRow_nil _ _ _ _, HK0.out⟩
  case round =>
    obtain ⟨k, a1, c1, hk, hk16, rfl, rfl, HO, HK⟩ := hrel
    clear hk0 hk1 HK0
    by_cases hlt : k < zs.length ∧ k < 16
    · obtain ⟨hlt, hlt16⟩ := hlt
      obtain ⟨a, rfl, hcell⟩ := HC.out k hlt
      have hcell := HK.out.cellNil hcell
      have HP : Hid ((zs.take (k + 1)).map small = (zs.take k).map small ++ [small zs[k]]) := small_snoc zs k hlt
      have hlo := tmod_lo zs[k]
      have hhi := tmod_hi zs[k]
      have hsl : ((zs.take k).map small).length = k := by simp; omega
      have HLL : Hid (k + 1 ≤ maxLen ∧ (k + 1) * 8 ≤ 140737488355328) := by
        constructor
        · unfold maxLen; omega
        · omega
      have ho : wr.ownsRow w.heap.size 3 1 (.slice a1 k c1) k (natCells ((zs.take k).map small)) := by have := HO.out; unfold OwnNats at this; rwa [hsl] at this
      have hnp := @small_pos zs[k]
      have hnn := @small_neg zs[k]
      generalize small zs[k] = y at HP hnp hnn
      generalize zs[k] = z at *
      by_cases hneg : z.tmod 1099511627776 < 0
      · have hy := hnn hneg
        clear hnp hnn
        go_wp2_with (first | (at_builtin; go_must (refine wpList_append_src _ rfl _ _ 31 31 rfl w.heap.size 3 i0 (.int .i64 0) 1 8 Try.underlying31 hi hz0 hz1 hz2 rfl _ _ _ rfl (ho.alloc _) (.slice (some ⟨wr.heap.size, 0, none⟩) 1 1) 1 [.int .i64 y] rfl (by rw [← hy]; exact src_int _) HLL.out.1 HLL.out.2 (le_alloc HK.out.size _) ?_); intro ao' c' w1 ho' hg'; have HK1 : Hid (Kept Nil w w1) := (HK.out.alloc _).grown hg' (own_row ho); clear hg'))
        go_roundw
        case rel => exact ⟨k + 1, ao', c', by omega, by omega, by go_num, rfl, by show OwnNats _ _ _ _ _; rw [HP.out]; exact OwnNats.push (by rw [hsl]; exact ho'), HK1.out⟩
        case measure => simp [intOf]; omega
      · have hy := hnp hneg
        clear hnp hnn
        go_wp2_with (first | (at_builtin; go_must (refine wpList_append_src _ rfl _ _ 31 31 rfl w.heap.size 3 i0 (.int .i64 0) 1 8 Try.underlying31 hi hz0 hz1 hz2 rfl _ _ _ rfl (ho.alloc _) (.slice (some ⟨wr.heap.size, 0, none⟩) 1 1) 1 [.int .i64 y] rfl (by rw [← hy]; exact src_int _) HLL.out.1 HLL.out.2 (le_alloc HK.out.size _) ?_); intro ao' c' w1 ho' hg'; have HK1 : Hid (Kept Nil w w1) := (HK.out.alloc _).grown hg' (own_row ho); clear hg'))
        go_roundw
        case rel => exact ⟨k + 1, ao', c', by omega, by omega, by go_num, rfl, by show OwnNats _ _ _ _ _; rw [HP.out]; exact OwnNats.push (by rw [hsl]; exact ho'), HK1.out⟩
        case measure => simp [intOf]; omega
    · have hend : k < zs.length → (k : Int) = 16 := by omega
      obtain ⟨ns, hns⟩ : ∃ ns, ns = (zs.take k).map small := ⟨_, rfl⟩
      have hnl : ns.length = k := by rw [hns]; simp; omega
      have HN : Hid (∀ n ∈ ns, n ≤ 1099511627775) := by
        intro n hn
        rw [hns] at hn
        obtain ⟨z, _, rfl⟩ := List.mem_map.1 hn
        exact small_le z
      have ho : OwnNats w.heap.size wr a1 c1 ns := by rw [hns]; exact HO.out
      have hl16 : (ns.length : Int) ≤ 16 := by omega
      have hel := encAll_len ns HN.out
      have hze : (bs (encAll ns)).size ≤ 96 := by rw [bs_size]; omega
      have L3 : Hid ((encAll ns ++ s).length ≤ maxLen) := by
        show (encAll ns ++ s).length ≤ maxLen
        have := HS.out
        rw [List.length_append]; unfold maxLen; omega
      have HLL : Hid (0 + ns.length ≤ maxLen ∧ (0 + ns.length) * 8 ≤ 140737488355328) := by
        constructor
        · unfold maxLen; omega
        · omega
      have HB : Hid (getNums ns.length (encAll ns) = (ns, 0)) := by
        refine getNums_ok ?_
        have := rdTimes_enc ns [] HN.out
        rwa [List.append_nil] at this
      have hap := bs_append
      clear HO hlt hns hel HC
      subst hnl
      by_cases hkl : ns.length < zs.length
      · have h16 : (16 : Int) ≤ ns.length := by have := hend hkl; omega
        clear hend
        go_wp2_with fail
        refine (refPutNumbers_any _ c1 a1 ns _ ho HN.out (by omega)).mono ?_
        rintro e w1 ⟨rfl, hk1⟩
        have ho1 := own_kept ho hk1 (fun _ _ _ x => x.elim)
        have HK1 : Hid (Kept Nil w w1) := HK.out.trans hk1
        clear hk1 ho HK
        go_wp2_with (first | (at_builtin; go_must (refine wpList_append_src _ rfl _ _ 31 31 rfl w.heap.size 3 i0 (.int .i64 0) 1 8 Try.underlying31 hi hz0 hz1 hz2 rfl _ 0 [] rfl (World.ownsRow_nil _ _ _ _) (.slice a1 ns.length c1) ns.length (natCells ns) rfl (src_own ho1) HLL.out.1 HLL.out.2 HK1.out.size ?_); intro ao' c' w2 ho2 hg2; have HK2 : Hid (Kept Nil w w2) := HK1.out.grown hg2 (fun k e => by cases e); have ho1' : OwnNats w.heap.size w2 a1 c1 ns := World.ownsRow.kept ho1 hg2 (Classical.em _); rw [Nat.zero_add] at ho2; clear hg2 ho1))
        refine (putNumbers_any _ c' ao' ns _ ho2 HN.out (by omega)).mono ?_
        rintro e w3 ⟨rfl, hk3⟩
        have ho3 := own_kept ho1' hk3 (fun _ _ _ x => x.elim)
        have HK3 : Hid (Kept Nil w w3) := HK2.out.trans hk3
        clear hk3 ho1' ho2 HK1 HK2
        go_wp2_with fail
        refine (getNumbers_any ns.length (encAll ns) _ (by omega)).mono ?_
        rw [HB.out]
        rintro e w4 ⟨a4, c4, rfl, ho4, hk4⟩
        have ho5 := own_kept ho3 hk4 (fun _ _ _ x => x.elim)
        have HK4 : Hid (Kept Nil w w4) := HK3.out.trans hk4
        clear hk4 ho3 HK3
        go_wp2_with fail
        refine (sameInts_any _ _ a4 a1 c4 c1 ns ns _ ho4 ho5 (by omega) (by omega)).mono ?_
        rw [decide_eq_true rfl]
        rintro e w5 ⟨rfl, hk5⟩
        have HK5 : Hid (Kept Nil w w5) := HK4.out.trans hk5
        clear hk5 ho4 ho5 HK4
        by_cases hcnt : count < 0
        · clear hw1 hw2
          go_wp2_with fail
          refine (getNumbers_any ns.length (encAll ns ++ s) _ (by omega)).mono ?_
          rintro e w6 ⟨a6, c6, rfl, ho6, hk6⟩
          go_wp2_with fail
          refine (refGetNumbers_any ns.length (encAll ns ++ s) _ (by omega) L3.out).mono ?_
          rintro e w7 ⟨a7, c7, rfl, ho7, hk7⟩
          go_wp2_with fail
          refine (getNumbers_any ns.length s _ (by omega)).mono ?_
          rintro e w8 ⟨a8, c8, rfl, ho8, hk8⟩
          go_wp2_with fail
          refine (refGetNumbers_any ns.length s _ (by omega) L2.out).mono ?_
          rintro e w9 ⟨a9, c9, rfl, ho9, hk9⟩
          have HO6 : Hid _ := own_kept ho6 ((hk7.trans hk8).trans hk9) (fun _ _ _ x => x.elim)
          have HO7 : Hid _ := own_kept ho7 (hk8.trans hk9) (fun _ _ _ x => x.elim)
          have HO8 : Hid _ := own_kept ho8 hk9 (fun _ _ _ x => x.elim)
          have HO9 : Hid _ := ho9
          have HKx : Hid (Kept Nil w w9) := (((HK5.out.trans hk6).trans hk7).trans hk8).trans hk9
          have hg1 : ((getNums ns.length (encAll ns ++ s)).1.length : Int) ≤ 1000000 := by have := getNums_len ns.length (encAll ns ++ s); omega
          have hg2 : ((getNums ns.length s).1.length : Int) ≤ 1000000 := by have := getNums_len ns.length s; omega
          clear ho6 ho7 ho8 ho9 hk6 hk7 hk8 hk9
          generalize getNums ns.length (encAll ns ++ s) = r1 at HO6 HO7 hg1 ⊢
          generalize getNums ns.length s = r2 at HO8 HO9 hg2 ⊢
          go_wp2_with fail
          refine (sameInts_any _ _ a6 a7 c6 c7 r1.1 r1.1 _ HO6.out HO7.out hg1 hg1).mono ?_
          rw [decide_eq_true rfl]
          rintro e w10 ⟨rfl, hk10⟩
          go_wp2_with fail
          refine (sameInts_any _ _ a8 a9 c8 c9 r2.1 r2.1 _ (own_kept HO8.out hk10 (fun _ _ _ x => x.elim)) (own_kept HO9.out hk10 (fun _ _ _ x => x.elim)) hg2 hg2).mono ?_
          rw [decide_eq_true rfl]
          rintro e w11 ⟨rfl, hk11⟩
          have HKy : Hid (Kept Nil w w11) := (HKx.out.trans hk10).trans hk11
          clear hk10 hk11
          go_wp2
          go_ret
          exact ⟨rfl, HKy.out⟩
        · by_cases hcnt2 : 16 < count
          · clear hw1 hw2
            go_wp2_with fail
            refine (getNumbers_any ns.length (encAll ns ++ s) _ (by omega)).mono ?_
            rintro e w6 ⟨a6, c6, rfl, ho6, hk6⟩
            go_wp2_with fail
            refine (refGetNumbers_any ns.length (encAll ns ++ s) _ (by omega) L3.out).mono ?_
            rintro e w7 ⟨a7, c7, rfl, ho7, hk7⟩
            go_wp2_with fail
            refine (getNumbers_any ns.length s _ (by omega)).mono ?_
            rintro e w8 ⟨a8, c8, rfl, ho8, hk8⟩
            go_wp2_with fail
            refine (refGetNumbers_any ns.length s _ (by omega) L2.out).mono ?_
            rintro e w9 ⟨a9, c9, rfl, ho9, hk9⟩
            have HO6 : Hid _ := own_kept ho6 ((hk7.trans hk8).trans hk9) (fun _ _ _ x => x.elim)
            have HO7 : Hid _ := own_kept ho7 (hk8.trans hk9) (fun _ _ _ x => x.elim)
            have HO8 : Hid _ := own_kept ho8 hk9 (fun _ _ _ x => x.elim)
            have HO9 : Hid _ := ho9
            have HKx : Hid (Kept Nil w w9) := (((HK5.out.trans hk6).trans hk7).trans hk8).trans hk9
            have hg1 : ((getNums ns.length (encAll ns ++ s)).1.length : Int) ≤ 1000000 := by have := getNums_len ns.length (encAll ns ++ s); omega
            have hg2 : ((getNums ns.length s).1.length : Int) ≤ 1000000 := by have := getNums_len ns.length s; omega
            clear ho6 ho7 ho8 ho9 hk6 hk7 hk8 hk9
            generalize getNums ns.length (encAll ns ++ s) = r1 at HO6 HO7 hg1 ⊢
            generalize getNums ns.length s = r2 at HO8 HO9 hg2 ⊢
            go_wp2_with fail
            refine (sameInts_any _ _ a6 a7 c6 c7 r1.1 r1.1 _ HO6.out HO7.out hg1 hg1).mono ?_
            rw [decide_eq_true rfl]
            rintro e w10 ⟨rfl, hk10⟩
            go_wp2_with fail
            refine (sameInts_any _ _ a8 a9 c8 c9 r2.1 r2.1 _ (own_kept HO8.out hk10 (fun _ _ _ x => x.elim)) (own_kept HO9.out hk10 (fun _ _ _ x => x.elim)) hg2 hg2).mono ?_
            rw [decide_eq_true rfl]
            rintro e w11 ⟨rfl, hk11⟩
            have HKy : Hid (Kept Nil w w11) := (HKx.out.trans hk10).trans hk11
            clear hk10 hk11
            go_wp2
            go_ret
            exact ⟨rfl, HKy.out⟩
          · obtain ⟨cn, rfl⟩ : ∃ cn : Nat, count = cn := ⟨count.toNat, by omega⟩
            clear hw1 hw2
            go_wp2_with fail
            refine (getNumbers_any cn (encAll ns ++ s) _ (by omega)).mono ?_
            rintro e w6 ⟨a6, c6, rfl, ho6, hk6⟩
            go_wp2_with fail
            refine (refGetNumbers_any cn (encAll ns ++ s) _ (by omega) L3.out).mono ?_
            rintro e w7 ⟨a7, c7, rfl, ho7, hk7⟩
            go_wp2_with fail
            refine (getNumbers_any cn s _ (by omega)).mono ?_
            rintro e w8 ⟨a8, c8, rfl, ho8, hk8⟩
            go_wp2_with fail
            refine (refGetNumbers_any cn s _ (by omega) L2.out).mono ?_
            rintro e w9 ⟨a9, c9, rfl, ho9, hk9⟩
            have HO6 : Hid _ := own_kept ho6 ((hk7.trans hk8).trans hk9) (fun _ _ _ x => x.elim)
            have HO7 : Hid _ := own_kept ho7 (hk8.trans hk9) (fun _ _ _ x => x.elim)
            have HO8 : Hid _ := own_kept ho8 hk9 (fun _ _ _ x => x.elim)
            have HO9 : Hid _ := ho9
            have HKx : Hid (Kept Nil w w9) := (((HK5.out.trans hk6).trans hk7).trans hk8).trans hk9
            have hg1 : ((getNums cn (encAll ns ++ s)).1.length : Int) ≤ 1000000 := by have := getNums_len cn (encAll ns ++ s); omega
            have hg2 : ((getNums cn s).1.length : Int) ≤ 1000000 := by have := getNums_len cn s; omega
            clear ho6 ho7 ho8 ho9 hk6 hk7 hk8 hk9
            generalize getNums cn (encAll ns ++ s) = r1 at HO6 HO7 hg1 ⊢
            generalize getNums cn s = r2 at HO8 HO9 hg2 ⊢
            go_wp2_with fail
            refine (sameInts_any _ _ a6 a7 c6 c7 r1.1 r1.1 _ HO6.out HO7.out hg1 hg1).mono ?_
            rw [decide_eq_true rfl]
            rintro e w10 ⟨rfl, hk10⟩
            go_wp2_with fail
            refine (sameInts_any _ _ a8 a9 c8 c9 r2.1 r2.1 _ (own_kept HO8.out hk10 (fun _ _ _ x => x.elim)) (own_kept HO9.out hk10 (fun _ _ _ x => x.elim)) hg2 hg2).mono ?_
            rw [decide_eq_true rfl]
            rintro e w11 ⟨rfl, hk11⟩
            have HKy : Hid (Kept Nil w w11) := (HKx.out.trans hk10).trans hk11
            clear hk10 hk11
            go_wp2
            go_ret
            exact ⟨rfl, HKy.out⟩
      · have h16 : (zs.length : Int) ≤ ns.length := by omega
        clear hend
        go_wp2_with fail
        refine (refPutNumbers_any _ c1 a1 ns _ ho HN.out (by omega)).mono ?_
        rintro e w1 ⟨rfl, hk1⟩
        have ho1 := own_kept ho hk1 (fun _ _ _ x => x.elim)
        have HK1 : Hid (Kept Nil w w1) := HK.out.trans hk1
        clear hk1 ho HK
        go_wp2_with (first | (at_builtin; go_must (refine wpList_append_src _ rfl _ _ 31 31 rfl w.heap.size 3 i0 (.int .i64 0) 1 8 Try.underlying31 hi hz0 hz1 hz2 rfl _ 0 [] rfl (World.ownsRow_nil _ _ _ _) (.slice a1 ns.length c1) ns.length (natCells ns) rfl (src_own ho1) HLL.out.1 HLL.out.2 HK1.out.size ?_); intro ao' c' w2 ho2 hg2; have HK2 : Hid (Kept Nil w w2) := HK1.out.grown hg2 (fun k e => by cases e); have ho1' : OwnNats w.heap.size w2 a1 c1 ns := World.ownsRow.kept ho1 hg2 (Classical.em _); rw [Nat.zero_add] at ho2; clear hg2 ho1))
        refine (putNumbers_any _ c' ao' ns _ ho2 HN.out (by omega)).mono ?_
        rintro e w3 ⟨rfl, hk3⟩
        have ho3 := own_kept ho1' hk3 (fun _ _ _ x => x.elim)
        have HK3 : Hid (Kept Nil w w3) := HK2.out.trans hk3
        clear hk3 ho1' ho2 HK1 HK2
        go_wp2_with fail
        refine (getNumbers_any ns.length (encAll ns) _ (by omega)).mono ?_
        rw [HB.out]
        rintro e w4 ⟨a4, c4, rfl, ho4, hk4⟩
        have ho5 := own_kept ho3 hk4 (fun _ _ _ x => x.elim)
        have HK4 : Hid (Kept Nil w w4) := HK3.out.trans hk4
        clear hk4 ho3 HK3
        go_wp2_with fail
        refine (sameInts_any _ _ a4 a1 c4 c1 ns ns _ ho4 ho5 (by omega) (by omega)).mono ?_
        rw [decide_eq_true rfl]
        rintro e w5 ⟨rfl, hk5⟩
        have HK5 : Hid (Kept Nil w w5) := HK4.out.trans hk5
        clear hk5 ho4 ho5 HK4
        by_cases hcnt : count < 0
        · clear hw1 hw2
          go_wp2_with fail
          refine (getNumbers_any ns.length (encAll ns ++ s) _ (by omega)).mono ?_
          rintro e w6 ⟨a6, c6, rfl, ho6, hk6⟩
          go_wp2_with fail
          refine (refGetNumbers_any ns.length (encAll ns ++ s) _ (by omega) L3.out).mono ?_
          rintro e w7 ⟨a7, c7, rfl, ho7, hk7⟩
          go_wp2_with fail
          refine (getNumbers_any ns.length s _ (by omega)).mono ?_
          rintro e w8 ⟨a8, c8, rfl, ho8, hk8⟩
          go_wp2_with fail
          refine (refGetNumbers_any ns.length s _ (by omega) L2.out).mono ?_
          rintro e w9 ⟨a9, c9, rfl, ho9, hk9⟩
          have HO6 : Hid _ := own_kept ho6 ((hk7.trans hk8).trans hk9) (fun _ _ _ x => x.elim)
          have HO7 : Hid _ := own_kept ho7 (hk8.trans hk9) (fun _ _ _ x => x.elim)
          have HO8 : Hid _ := own_kept ho8 hk9 (fun _ _ _ x => x.elim)
          have HO9 : Hid _ := ho9
          have HKx : Hid (Kept Nil w w9) := (((HK5.out.trans hk6).trans hk7).trans hk8).trans hk9
          have hg1 : ((getNums ns.length (encAll ns ++ s)).1.length : Int) ≤ 1000000 := by have := getNums_len ns.length (encAll ns ++ s); omega
          have hg2 : ((getNums ns.length s).1.length : Int) ≤ 1000000 := by have := getNums_len ns.length s; omega
          clear ho6 ho7 ho8 ho9 hk6 hk7 hk8 hk9
          generalize getNums ns.length (encAll ns ++ s) = r1 at HO6 HO7 hg1 ⊢
          generalize getNums ns.length s = r2 at HO8 HO9 hg2 ⊢
          go_wp2_with fail
          refine (sameInts_any _ _ a6 a7 c6 c7 r1.1 r1.1 _ HO6.out HO7.out hg1 hg1).mono ?_
          rw [decide_eq_true rfl]
          rintro e w10 ⟨rfl, hk10⟩
          go_wp2_with fail
          refine (sameInts_any _ _ a8 a9 c8 c9 r2.1 r2.1 _ (own_kept HO8.out hk10 (fun _ _ _ x => x.elim)) (own_kept HO9.out hk10 (fun _ _ _ x => x.elim)) hg2 hg2).mono ?_
          rw [decide_eq_true rfl]
          rintro e w11 ⟨rfl, hk11⟩
          have HKy : Hid (Kept Nil w w11) := (HKx.out.trans hk10).trans hk11
          clear hk10 hk11
          go_wp2
          go_ret
          exact ⟨rfl, HKy.out⟩
        · by_cases hcnt2 : 16 < count
          · clear hw1 hw2
            go_wp2_with fail
            refine (getNumbers_any ns.length (encAll ns ++ s) _ (by omega)).mono ?_
            rintro e w6 ⟨a6, c6, rfl, ho6, hk6⟩
            go_wp2_with fail
            refine (refGetNumbers_any ns.length (encAll ns ++ s) _ (by omega) L3.out).mono ?_
            rintro e w7 ⟨a7, c7, rfl, ho7, hk7⟩
            go_wp2_with fail
            refine (getNumbers_any ns.length s _ (by omega)).mono ?_
            rintro e w8 ⟨a8, c8, rfl, ho8, hk8⟩
            go_wp2_with fail
            refine (refGetNumbers_any ns.length s _ (by omega) L2.out).mono ?_
            rintro e w9 ⟨a9, c9, rfl, ho9, hk9⟩
            have HO6 : Hid _ := own_kept ho6 ((hk7.trans hk8).trans hk9) (fun _ _ _ x => x.elim)
            have HO7 : Hid _ := own_kept ho7 (hk8.trans hk9) (fun _ _ _ x => x.elim)
            have HO8 : Hid _ := own_kept ho8 hk9 (fun _ _ _ x => x.elim)
            have HO9 : Hid _ := ho9
            have HKx : Hid (Kept Nil w w9) := (((HK5.out.trans hk6).trans hk7).trans hk8).trans hk9
            have hg1 : ((getNums ns.length (encAll ns ++ s)).1.length : Int) ≤ 1000000 := by have := getNums_len ns.length (encAll ns ++ s); omega
            have hg2 : ((getNums ns.length s).1.length : Int) ≤ 1000000 := by have := getNums_len ns.length s; omega
            clear ho6 ho7 ho8 ho9 hk6 hk7 hk8 hk9
            generalize getNums ns.length (encAll ns ++ s) = r1 at HO6 HO7 hg1 ⊢
            generalize getNums ns.length s = r2 at HO8 HO9 hg2 ⊢
            go_wp2_with fail
            refine (sameInts_any _ _ a6 a7 c6 c7 r1.1 r1.1 _ HO6.out HO7.out hg1 hg1).mono ?_
            rw [decide_eq_true rfl]
            rintro e w10 ⟨rfl, hk10⟩
            go_wp2_with fail
            refine (sameInts_any _ _ a8 a9 c8 c9 r2.1 r2.1 _ (own_kept HO8.out hk10 (fun _ _ _ x => x.elim)) (own_kept HO9.out hk10 (fun _ _ _ x => x.elim)) hg2 hg2).mono ?_
            rw [decide_eq_true rfl]
            rintro e w11 ⟨rfl, hk11⟩
            have HKy : Hid (Kept Nil w w11) := (HKx.out.trans hk10).trans hk11
            clear hk10 hk11
            go_wp2
            go_ret
            exact ⟨rfl, HKy.out⟩
          · obtain ⟨cn, rfl⟩ : ∃ cn : Nat, count = cn := ⟨count.toNat, by omega⟩
            clear hw1 hw2
            go_wp2_with fail
            refine (getNumbers_any cn (encAll ns ++ s) _ (by omega)).mono ?_
            rintro e w6 ⟨a6, c6, rfl, ho6, hk6⟩
            go_wp2_with fail
            refine (refGetNumbers_any cn (encAll ns ++ s) _ (by omega) L3.out).mono ?_
            rintro e w7 ⟨a7, c7, rfl, ho7, hk7⟩
            go_wp2_with fail
            refine (getNumbers_any cn s _ (by omega)).mono ?_
            rintro e w8 ⟨a8, c8, rfl, ho8, hk8⟩
            go_wp2_with fail
            refine (refGetNumbers_any cn s _ (by omega) L2.out).mono ?_
            rintro e w9 ⟨a9, c9, rfl, ho9, hk9⟩
            have HO6 : Hid _ := own_kept ho6 ((hk7.trans hk8).trans hk9) (fun _ _ _ x => x.elim)
            have HO7 : Hid _ := own_kept ho7 (hk8.trans hk9) (fun _ _ _ x => x.elim)
            have HO8 : Hid _ := own_kept ho8 hk9 (fun _ _ _ x => x.elim)
            have HO9 : Hid _ := ho9
            have HKx : Hid (Kept Nil w w9) := (((HK5.out.trans hk6).trans hk7).trans hk8).trans hk9
            have hg1 : ((getNums cn (encAll ns ++ s)).1.length : Int) ≤ 1000000 := by have := getNums_len cn (encAll ns ++ s); omega
            have hg2 : ((getNums cn s).1.length : Int) ≤ 1000000 := by have := getNums_len cn s; omega
            clear ho6 ho7 ho8 ho9 hk6 hk7 hk8 hk9
            generalize getNums cn (encAll ns ++ s) = r1 at HO6 HO7 hg1 ⊢
            generalize getNums cn s = r2 at HO8 HO9 hg2 ⊢
            go_wp2_with fail
            refine (sameInts_any _ _ a6 a7 c6 c7 r1.1 r1.1 _ HO6.out HO7.out hg1 hg1).mono ?_
            rw [decide_eq_true rfl]
            rintro e w10 ⟨rfl, hk10⟩
            go_wp2_with fail
            refine (sameInts_any _ _ a8 a9 c8 c9 r2.1 r2.1 _ (own_kept HO8.out hk10 (fun _ _ _ x => x.elim)) (own_kept HO9.out hk10 (fun _ _ _ x => x.elim)) hg2 hg2).mono ?_
            rw [decide_eq_true rfl]
            rintro e w11 ⟨rfl, hk11⟩
            have HKy : Hid (Kept Nil w w11) := (HKx.out.trans hk10).trans hk11
            clear hk10 hk11
            go_wp2
            go_ret
            exact ⟨rfl, HKy.out⟩

end Go.Proofs.Ytihgefdpnokoeaa
