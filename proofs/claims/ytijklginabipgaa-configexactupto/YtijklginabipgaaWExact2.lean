/-
  The document's Lost, Members, Votes.
-/
import Derived.Test.YtijklginabipgaaWExact1
namespace Go.Proofs.Ytijklginabipgaa
open Go.RowKit

set_option maxRecDepth 100000 in
set_option maxHeartbeats 1000000 in
theorem refVotes_any (B c1 c2 c3 : Nat) (a1 a2 a3 : Option Addr) (v n l : List Int) (z : Int) (w : World) (h : CfRows B w a1 a2 a3 v n l) (h1 : (v.length : Int) ≤ 9223372036854775807) (h2 : (n.length : Int) ≤ 9223372036854775807) :
    Calls Try.prog 27 #[.agg #[.slice a1 v.length c1, .slice a2 n.length c2, .slice a3 l.length c3], .int .i64 z] w fun e w' => e = .returned (.bool (vot v n z)) ∧ Kept Nil w w' := by
  obtain ⟨W, hW⟩ : ∃ W, W = w.alloc (.cells #[.slice a1 v.length c1, .slice a2 n.length c2, .slice a3 l.length c3] 24) := ⟨_, rfl⟩
  have KW : Hid (Kept Nil w W) := by rw [hW]; exact (Kept.refl _ _).alloc _
  have M1 := refHas_any B c1 a1 v z W (h.r1.nil KW.out) h1
  have M2 := refHas_any B c2 a2 n z W (h.r2.nil KW.out) h2
  have HB : Hid (W.heap[w.heap.size]? = some (.cells #[.slice a1 v.length c1, .slice a2 n.length c2, .slice a3 l.length c3] 24 (0, 0))) := by rw [hW]; exact blk_new _ _
  have q0 : W.cell? ⟨w.heap.size, 0, none⟩ = some (.slice a1 v.length c1) := blk_at HB.out 0 rfl
  have q1 : W.cell? ⟨w.heap.size, 1, none⟩ = some (.slice a2 n.length c2) := blk_at HB.out 1 rfl
  have HV : Hid (vot v n z = (hasZ v z || hasZ n z)) := rfl
  generalize hasZ v z = b1 at *
  generalize hasZ n z = b2 at *
  clear h h1 h2
  go_enter Try.func27, Try.ntmps27
  go_wp2_with fail
  rw [← hW]
  clear hW
  go_fit M1
  rintro e w1 ⟨rfl, rfl⟩
  go_wp2_with fail
  go_fit M2
  rintro e w1 ⟨rfl, rfl⟩
  cases b1 with
  | true =>
    go_wp2
    go_ret
    rw [HV.out]
    exact ⟨rfl, KW.out⟩
  | false =>
    go_wp2
    go_ret
    rw [HV.out]
    exact ⟨rfl, KW.out⟩

def memF (v n l : List Int) (k : Int) : Bool := hasZ v k || hasZ n k || hasZ l k
set_option maxRecDepth 100000 in
set_option maxHeartbeats 2000000 in
theorem refMembers_any (B c1 c2 c3 : Nat) (a1 a2 a3 : Option Addr) (v n l : List Int) (w : World) (h : CfRows B w a1 a2 a3 v n l) (h1 : (v.length : Int) ≤ 9223372036854775807) (h2 : (n.length : Int) ≤ 9223372036854775807) (h3 : (l.length : Int) ≤ 9223372036854775807) :
    Calls Try.prog 19 #[.agg #[.slice a1 v.length c1, .slice a2 n.length c2, .slice a3 l.length c3]] w (ClPost w (nineF (memF v n l) 9)) := by
  obtain ⟨i0, hi, hz0, hz1, hz2⟩ := info_parts Try.infoInt
  have HR : Hid (CfRows B w a1 a2 a3 v n l) := h
  obtain ⟨W, hW⟩ : ∃ W, W = w.alloc (.cells #[.slice a1 v.length c1, .slice a2 n.length c2, .slice a3 l.length c3] 24) := ⟨_, rfl⟩
  have KW : Hid (Kept Nil w W) := by rw [hW]; exact (Kept.refl _ _).alloc _
  have HBW : Hid (W.heap[w.heap.size]? = some (.cells #[.slice a1 v.length c1, .slice a2 n.length c2, .slice a3 l.length c3] 24 (0, 0))) := by rw [hW]; exact blk_new _ _
  clear h
  obtain ⟨out, HO9⟩ : ∃ out, Hid (out = nineF (memF v n l) 9) := ⟨_, rfl⟩
  rw [← HO9.out]
  go_enter Try.func19, Try.ntmps19
  go_wp2
  rw [← hW]
  clear hW
  go_loopw [3, 4] (fun u i wr => ∃ k : Nat, ∃ xs : List Int, ∃ ao' c', k ≤ 9 ∧ i = .int .i64 ((k : Int) + 1) ∧ u = .slice ao' xs.length c' ∧ Hid (xs = nineF (memF v n l) k) ∧ Hid (OwnInts (w.heap.size + 1) wr ao' c' xs) ∧ Hid (wr.heap[w.heap.size]? = some (.cells #[.slice a1 v.length c1, .slice a2 n.length c2, .slice a3 l.length c3] 24 (0, 0))) ∧ Hid (Kept Nil w wr)) (fun _ i _ => 10 - (intOf i).toNat)
  case atStart => exact ⟨0, [], none, 0, by omega, rfl, rfl, rfl, World.ownsRow_nil _ _ _ _, HBW.out, KW.out⟩
  case round =>
    obtain ⟨k, xs, ao1, d1, hk, rfl, rfl, HX, HO, HB, HK⟩ := hrel
    clear HBW KW
    by_cases h9 : k < 9
    · have hk9 : (k : Int) + 1 ≤ 9 := by omega
      have HLL : Hid (xs.length + 1 ≤ maxLen ∧ (xs.length + 1) * 8 ≤ 140737488355328) := by
        have := nineF_len (memF v n l) k
        rw [← HX.out] at this
        constructor
        · unfold maxLen; omega
        · omega
      have ho : wr.ownsRow (w.heap.size + 1) 3 1 (.slice ao1 xs.length d1) xs.length (xs.map (Value.int .i64)) := HO.out
      have HSZ : Hid (w.heap.size + 1 ≤ wr.heap.size) := lt_of_block HB.out
      have Q1 := refHas_any B c1 a1 v ((k : Int) + 1) wr (HR.out.nil HK.out).r1 h1
      have Q2 := refHas_any B c2 a2 n ((k : Int) + 1) wr (HR.out.nil HK.out).r2 h2
      have Q3 := refHas_any B c3 a3 l ((k : Int) + 1) wr (HR.out.nil HK.out).r3 h3
      have HY : Hid (memF v n l ((k : Int) + 1) = true → xs ++ [(k : Int) + 1] = nineF (memF v n l) (k + 1)) := fun hp => by rw [nineF_yes hp, HX.out]
      have HN : Hid (memF v n l ((k : Int) + 1) = false → xs = nineF (memF v n l) (k + 1)) := fun hp => by rw [nineF_no hp, HX.out]
      have HMF : Hid (memF v n l ((k : Int) + 1) = (hasZ v ((k : Int) + 1) || hasZ n ((k : Int) + 1) || hasZ l ((k : Int) + 1))) := rfl
      have HKX : Hid (Kept Nil w wr) := HK.out
      generalize hasZ v ((k : Int) + 1) = t1 at *
      generalize hasZ n ((k : Int) + 1) = t2 at *
      generalize hasZ l ((k : Int) + 1) = t3 at *
      have q0 : wr.cell? ⟨w.heap.size, 0, none⟩ = some (.slice a1 v.length c1) := blk_at HB.out 0 rfl
      have q1 : wr.cell? ⟨w.heap.size, 1, none⟩ = some (.slice a2 n.length c2) := blk_at HB.out 1 rfl
      have q2 : wr.cell? ⟨w.heap.size, 2, none⟩ = some (.slice a3 l.length c3) := blk_at HB.out 2 rfl
      clear HX
      go_wp2_with fail
      go_fit Q1
      rintro e w1 ⟨rfl, rfl⟩
      go_wp2_with fail
      go_fit Q2
      rintro e w1 ⟨rfl, rfl⟩
      go_wp2_with fail
      go_fit Q3
      rintro e w1 ⟨rfl, rfl⟩
      clear Q1 Q2 Q3
      cases hm : (t1 || t2 || t3) with
      | false =>
        have HN2 : Hid (xs = nineF (memF v n l) (k + 1)) := HN.out (HMF.out.trans hm)
        simp only [Bool.or_eq_false_iff] at hm
        obtain ⟨⟨rfl, rfl⟩, rfl⟩ := hm
        clear HY HN HMF
        go_wp2
        go_roundw
        case rel => exact ⟨k + 1, xs, ao1, d1, by omega, by go_num, rfl, HN2.out, HO.out, HB.out, HK.out⟩
        case measure => simp [intOf]; omega
      | true =>
        have HY2 : Hid (xs ++ [(k : Int) + 1] = nineF (memF v n l) (k + 1)) := HY.out (HMF.out.trans hm)
        clear HY HN HMF
        cases t1 with
        | true =>
          clear hm
          go_wp2_with (first | (at_builtin; go_must (refine wpList_append_src _ rfl _ _ 22 22 rfl (w.heap.size + 1) 3 i0 (.int .i64 0) 1 8 Try.underlying22 hi hz0 hz1 hz2 rfl _ _ _ rfl (World.ownsRow.alloc ho _) (.slice (some ⟨w1.heap.size, 0, none⟩) 1 1) 1 [.int .i64 ((k : Int) + 1)] rfl (src_int _) HLL.out.1 HLL.out.2 (le_alloc HSZ.out _) ?_); intro ao' c' w2 ho' hg'; have HK2 : Hid (Kept Nil w w2) := (HKX.out.alloc _).grown hg' (fun k hk => by have := own_row ho k hk; omega); have HB2 : Hid (w2.heap[w.heap.size]? = some (.cells #[.slice a1 v.length c1, .slice a2 n.length c2, .slice a3 l.length c3] 24 (0, 0))) := (hg'.block _ (by simp; have := lt_of_block HB.out; omega) (fun e => by have := (ho.lt _ e.symm).1; omega)).trans (blk_past HB.out _); clear hg'))
          go_roundw
          case rel => exact ⟨k + 1, xs ++ [(k : Int) + 1], ao', c', by omega, by go_num, by rw [List.length_append]; rfl, HY2.out, OwnInts.push ho', HB2.out, HK2.out⟩
          case measure => simp [intOf]; omega
        | false =>
          cases t2 with
          | true =>
            clear hm
            go_wp2_with (first | (at_builtin; go_must (refine wpList_append_src _ rfl _ _ 22 22 rfl (w.heap.size + 1) 3 i0 (.int .i64 0) 1 8 Try.underlying22 hi hz0 hz1 hz2 rfl _ _ _ rfl (World.ownsRow.alloc ho _) (.slice (some ⟨w1.heap.size, 0, none⟩) 1 1) 1 [.int .i64 ((k : Int) + 1)] rfl (src_int _) HLL.out.1 HLL.out.2 (le_alloc HSZ.out _) ?_); intro ao' c' w2 ho' hg'; have HK2 : Hid (Kept Nil w w2) := (HKX.out.alloc _).grown hg' (fun k hk => by have := own_row ho k hk; omega); have HB2 : Hid (w2.heap[w.heap.size]? = some (.cells #[.slice a1 v.length c1, .slice a2 n.length c2, .slice a3 l.length c3] 24 (0, 0))) := (hg'.block _ (by simp; have := lt_of_block HB.out; omega) (fun e => by have := (ho.lt _ e.symm).1; omega)).trans (blk_past HB.out _); clear hg'))
            go_roundw
            case rel => exact ⟨k + 1, xs ++ [(k : Int) + 1], ao', c', by omega, by go_num, by rw [List.length_append]; rfl, HY2.out, OwnInts.push ho', HB2.out, HK2.out⟩
            case measure => simp [intOf]; omega
          | false =>
            obtain rfl : t3 = true := by simpa using hm
            clear hm
            go_wp2_with (first | (at_builtin; go_must (refine wpList_append_src _ rfl _ _ 22 22 rfl (w.heap.size + 1) 3 i0 (.int .i64 0) 1 8 Try.underlying22 hi hz0 hz1 hz2 rfl _ _ _ rfl (World.ownsRow.alloc ho _) (.slice (some ⟨w1.heap.size, 0, none⟩) 1 1) 1 [.int .i64 ((k : Int) + 1)] rfl (src_int _) HLL.out.1 HLL.out.2 (le_alloc HSZ.out _) ?_); intro ao' c' w2 ho' hg'; have HK2 : Hid (Kept Nil w w2) := (HKX.out.alloc _).grown hg' (fun k hk => by have := own_row ho k hk; omega); have HB2 : Hid (w2.heap[w.heap.size]? = some (.cells #[.slice a1 v.length c1, .slice a2 n.length c2, .slice a3 l.length c3] 24 (0, 0))) := (hg'.block _ (by simp; have := lt_of_block HB.out; omega) (fun e => by have := (ho.lt _ e.symm).1; omega)).trans (blk_past HB.out _); clear hg'))
            go_roundw
            case rel => exact ⟨k + 1, xs ++ [(k : Int) + 1], ao', c', by omega, by go_num, by rw [List.length_append]; rfl, HY2.out, OwnInts.push ho', HB2.out, HK2.out⟩
            case measure => simp [intOf]; omega
    · obtain rfl : k = 9 := by omega
      have HE : Hid (out = xs) := HO9.out.trans HX.out.symm
      go_wp2
      go_ret
      rw [HE.out]
      exact ⟨ao1, d1, rfl, own_mono HO.out (Nat.le_succ _), HK.out⟩

set_option maxRecDepth 100000 in
set_option maxHeartbeats 2000000 in
theorem refLost_any (B c1 c2 c3 d : Nat) (a1 a2 a3 wo : Option Addr) (v n l hs : List Int) (w : World) (h : CfRows B w a1 a2 a3 v n l) (hh : IntRow B w wo hs) (h1 : (v.length : Int) ≤ 1048576) (h2 : (n.length : Int) ≤ 1048576) (h3 : (hs.length : Int) ≤ 9223372036854775807) :
    Calls Try.prog 25 #[.agg #[.slice a1 v.length c1, .slice a2 n.length c2, .slice a3 l.length c3], .slice wo hs.length d] w fun e w' => e = .returned (.bool (!quo v n (nineF (fun k => !hasZ hs k) 9))) ∧ Kept Nil w w' := by
  obtain ⟨i0, hi, hz0, hz1, hz2⟩ := info_parts Try.infoInt
  have HR : Hid (CfRows B w a1 a2 a3 v n l ∧ IntRow B w wo hs) := ⟨h, hh⟩
  obtain ⟨W, hW⟩ : ∃ W, W = w.alloc (.cells #[.slice a1 v.length c1, .slice a2 n.length c2, .slice a3 l.length c3] 24) := ⟨_, rfl⟩
  have KW : Hid (Kept Nil w W) := by rw [hW]; exact (Kept.refl _ _).alloc _
  have HBW : Hid (W.heap[w.heap.size]? = some (.cells #[.slice a1 v.length c1, .slice a2 n.length c2, .slice a3 l.length c3] 24 (0, 0))) := by rw [hW]; exact blk_new _ _
  clear h hh
  obtain ⟨out, HO9⟩ : ∃ out, Hid (out = nineF (fun k => !hasZ hs k) 9) := ⟨_, rfl⟩
  rw [← HO9.out]
  go_enter Try.func25, Try.ntmps25
  go_wp2
  rw [← hW]
  clear hW
  go_loopw [5, 6] (fun u i wr => ∃ k : Nat, ∃ xs : List Int, ∃ ao' c', k ≤ 9 ∧ i = .int .i64 ((k : Int) + 1) ∧ u = .slice ao' xs.length c' ∧ Hid (xs = nineF (fun k => !hasZ hs k) k) ∧ Hid (OwnInts (w.heap.size + 1) wr ao' c' xs) ∧ Hid (wr.heap[w.heap.size]? = some (.cells #[.slice a1 v.length c1, .slice a2 n.length c2, .slice a3 l.length c3] 24 (0, 0))) ∧ Hid (Kept Nil w wr)) (fun _ i _ => 10 - (intOf i).toNat)
  case atStart => exact ⟨0, [], none, 0, by omega, rfl, rfl, rfl, World.ownsRow_nil _ _ _ _, HBW.out, KW.out⟩
  case round =>
    obtain ⟨k, xs, ao1, d1, hk, rfl, rfl, HX, HO, HB, HK⟩ := hrel
    clear HBW KW
    by_cases h9 : k < 9
    · have hk9 : (k : Int) + 1 ≤ 9 := by omega
      have HLL : Hid (xs.length + 1 ≤ maxLen ∧ (xs.length + 1) * 8 ≤ 140737488355328) := by
        have := nineF_len (fun k => !hasZ hs k) k
        rw [← HX.out] at this
        constructor
        · unfold maxLen; omega
        · omega
      have ho : wr.ownsRow (w.heap.size + 1) 3 1 (.slice ao1 xs.length d1) xs.length (xs.map (Value.int .i64)) := HO.out
      have HSZ : Hid (w.heap.size + 1 ≤ wr.heap.size) := lt_of_block HB.out
      have Q1 := refHas_any B d wo hs ((k : Int) + 1) wr (HR.out.2.nil HK.out) h3
      have HY : Hid (hasZ hs ((k : Int) + 1) = false → xs ++ [(k : Int) + 1] = nineF (fun k => !hasZ hs k) (k + 1)) := fun hp => by rw [nineF_yes (by rw [hp]; rfl), HX.out]
      have HN : Hid (hasZ hs ((k : Int) + 1) = true → xs = nineF (fun k => !hasZ hs k) (k + 1)) := fun hp => by rw [nineF_no (by rw [hp]; rfl), HX.out]
      have HKX : Hid (Kept Nil w wr) := HK.out
      generalize hasZ hs ((k : Int) + 1) = t1 at *
      clear HX
      go_wp2_with fail
      go_fit Q1
      rintro e w1 ⟨rfl, rfl⟩
      clear Q1
      cases t1 with
      | true =>
        have HN2 : Hid (xs = nineF (fun k => !hasZ hs k) (k + 1)) := HN.out rfl
        clear HY HN
        go_wp2
        go_roundw
        case rel => exact ⟨k + 1, xs, ao1, d1, by omega, by go_num, rfl, HN2.out, HO.out, HB.out, HK.out⟩
        case measure => simp [intOf]; omega
      | false =>
        have HY2 : Hid (xs ++ [(k : Int) + 1] = nineF (fun k => !hasZ hs k) (k + 1)) := HY.out rfl
        clear HY HN
        go_wp2_with (first | (at_builtin; go_must (refine wpList_append_src _ rfl _ _ 22 22 rfl (w.heap.size + 1) 3 i0 (.int .i64 0) 1 8 Try.underlying22 hi hz0 hz1 hz2 rfl _ _ _ rfl (World.ownsRow.alloc ho _) (.slice (some ⟨w1.heap.size, 0, none⟩) 1 1) 1 [.int .i64 ((k : Int) + 1)] rfl (src_int _) HLL.out.1 HLL.out.2 (le_alloc HSZ.out _) ?_); intro ao' c' w2 ho' hg'; have HK2 : Hid (Kept Nil w w2) := (HKX.out.alloc _).grown hg' (fun k hk => by have := own_row ho k hk; omega); have HB2 : Hid (w2.heap[w.heap.size]? = some (.cells #[.slice a1 v.length c1, .slice a2 n.length c2, .slice a3 l.length c3] 24 (0, 0))) := (hg'.block _ (by simp; have := lt_of_block HB.out; omega) (fun e => by have := (ho.lt _ e.symm).1; omega)).trans (blk_past HB.out _); clear hg'))
        go_roundw
        case rel => exact ⟨k + 1, xs ++ [(k : Int) + 1], ao', c', by omega, by go_num, by rw [List.length_append]; rfl, HY2.out, OwnInts.push ho', HB2.out, HK2.out⟩
        case measure => simp [intOf]; omega
    · obtain rfl : k = 9 := by omega
      have HE : Hid (out = xs) := HO9.out.trans HX.out.symm
      have hx9 : xs.length ≤ 9 := by rw [HX.out]; exact nineF_len _ _
      have QQ := refQuorum_any wr.heap.size c1 c2 c3 d1 a1 a2 a3 ao1 v n l xs wr (HR.out.1.nil HK.out).full HO.out.row h1 h2 (by omega)
      have HF0 : Hid (quo v n out = quo v n xs) := by show _ = _; rw [HE.out]
      obtain ⟨b, HF⟩ : ∃ b, Hid (quo v n out = b) := ⟨_, rfl⟩
      rw [← HF0.out, HF.out] at QQ
      have q0 : wr.cell? ⟨w.heap.size, 0, none⟩ = some (.slice a1 v.length c1) := blk_at HB.out 0 rfl
      have q1 : wr.cell? ⟨w.heap.size, 1, none⟩ = some (.slice a2 n.length c2) := blk_at HB.out 1 rfl
      have q2 : wr.cell? ⟨w.heap.size, 2, none⟩ = some (.slice a3 l.length c3) := blk_at HB.out 2 rfl
      go_wp2_with fail
      go_fit QQ
      rintro e w3 ⟨rfl, k3⟩
      have K3 : Hid (Kept Nil w w3) := HK.out.trans k3
      clear k3 QQ
      go_wp2
      go_ret
      rw [HF.out]
      exact ⟨rfl, K3.out⟩

end Go.Proofs.Ytijklginabipgaa
