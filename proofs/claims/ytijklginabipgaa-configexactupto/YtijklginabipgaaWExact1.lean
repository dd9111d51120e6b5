/-
  The document's with, but, more, Quorum, Lost, Members, Votes.
-/
import Derived.Test.YtijklginabipgaaWChg9
namespace Go.Proofs.Ytijklginabipgaa
open Go.RowKit

/-- Of the numbers from 1 to k those that are such. -/
def nineF (p : Int → Bool) : Nat → List Int
  | 0 => []
  | k + 1 => nineF p k ++ if p ((k : Int) + 1) then [(k : Int) + 1] else []
theorem nineF_yes {p : Int → Bool} {k : Nat} (h : p ((k : Int) + 1) = true) : nineF p (k + 1) = nineF p k ++ [(k : Int) + 1] := by
  show _ ++ _ = _
  rw [if_pos h]
theorem nineF_no {p : Int → Bool} {k : Nat} (h : p ((k : Int) + 1) = false) : nineF p (k + 1) = nineF p k := by
  show _ ++ _ = _
  rw [if_neg (by rw [h]; decide), List.append_nil]
theorem mem_nineF {p : Int → Bool} {x : Int} : ∀ {k : Nat}, x ∈ nineF p k ↔ (1 ≤ x ∧ x ≤ k) ∧ p x = true
  | 0 => by simp [nineF]; intro h1 h2; omega
  | k + 1 => by
    rw [nineF, List.mem_append, mem_nineF]
    by_cases hp : p ((k : Int) + 1) = true
    · rw [if_pos hp, List.mem_singleton]
      constructor
      · rintro (h | h)
        · exact ⟨by omega, h.2⟩
        · subst h; exact ⟨by omega, hp⟩
      · rintro ⟨h1, h2⟩
        by_cases hx : x = (k : Int) + 1
        · exact .inr hx
        · exact .inl ⟨by omega, h2⟩
    · rw [if_neg hp]
      constructor
      · rintro (h | h)
        · exact ⟨by omega, h.2⟩
        · simp at h
      · rintro ⟨h1, h2⟩
        by_cases hx : x = (k : Int) + 1
        · subst hx; exact absurd h2 hp
        · exact .inl ⟨by omega, h2⟩
theorem nineF_up {p : Int → Bool} : ∀ {k : Nat}, (nineF p k).Pairwise (· < ·)
  | 0 => List.Pairwise.nil
  | k + 1 => by
    rw [nineF, List.pairwise_append]
    refine ⟨nineF_up, ?_, fun a ha b hb => ?_⟩
    · split <;> simp
    · have := (mem_nineF.1 ha).1
      split at hb
      · rw [List.mem_singleton.1 hb]; omega
      · simp at hb
theorem nineF_len (p : Int → Bool) : ∀ k : Nat, (nineF p k).length ≤ k
  | 0 => Nat.le_refl _
  | k + 1 => by
    have := nineF_len p k
    rw [nineF, List.length_append]
    split <;> simp <;> omega
/-- Two lists that rise and have the same numbers are the same. -/
theorem up_ext : ∀ {a b : List Int}, a.Pairwise (· < ·) → b.Pairwise (· < ·) → (∀ x, x ∈ a ↔ x ∈ b) → a = b
  | [], [], _, _, _ => rfl
  | [], y :: t, _, _, h => by have := (h y).2 List.mem_cons_self; simp at this
  | x :: s, [], _, _, h => by have := (h x).1 List.mem_cons_self; simp at this
  | x :: s, y :: t, ha, hb, h => by
    have h1 := List.pairwise_cons.1 ha
    have h2 := List.pairwise_cons.1 hb
    have hxy : x = y := by
      rcases List.mem_cons.1 ((h x).1 List.mem_cons_self) with e | e
      · exact e
      · rcases List.mem_cons.1 ((h y).2 List.mem_cons_self) with e' | e'
        · exact e'.symm
        · have := h2.1 x e; have := h1.1 y e'; omega
    subst hxy
    rw [up_ext h1.2 h2.2 (fun z => ?_)]
    constructor
    · intro hz
      rcases List.mem_cons.1 ((h z).1 (List.mem_cons_of_mem _ hz)) with e | e
      · subst e; have := h1.1 z hz; omega
      · exact e
    · intro hz
      rcases List.mem_cons.1 ((h z).2 (List.mem_cons_of_mem _ hz)) with e | e
      · subst e; have := h2.1 z hz; omega
      · exact e
theorem nineF_ins {l : List Int} {z : Int} (h : Up l) (hz : z ∉ l) (h1 : 1 ≤ z ∧ z ≤ 9) : nineF (fun k => hasZ l k || k == z) 9 = insZ z l := by
  refine up_ext nineF_up (insZ_up h.up hz) (fun x => ?_)
  rw [mem_nineF, mem_insZ, Bool.or_eq_true, hasZ_mem, beq_iff_eq]
  constructor
  · rintro ⟨_, h2 | h2⟩
    · exact .inr h2
    · exact .inl h2
  · rintro (h2 | h2)
    · exact ⟨by omega, .inr h2⟩
    · have := h.le x h2
      exact ⟨by omega, .inl h2⟩

set_option maxRecDepth 100000 in
set_option maxHeartbeats 2000000 in
theorem refWith_any (B cap : Nat) (ao : Option Addr) (zs : List Int) (z : Int) (w : World) (h : IntRow B w ao zs) (hl : (zs.length : Int) ≤ 1048576) :
    Calls Try.prog 68 #[.slice ao zs.length cap, .int .i64 z] w (ClPost w (nineF (fun k => hasZ zs k || k == z) 9)) := by
  obtain ⟨i0, hi, hz0, hz1, hz2⟩ := info_parts Try.infoInt
  have HR : Hid (IntRow B w ao zs) := h
  clear h
  obtain ⟨out, HO9⟩ : ∃ out, Hid (out = nineF (fun k => hasZ zs k || k == z) 9) := ⟨_, rfl⟩
  rw [← HO9.out]
  go_enter Try.func68, Try.ntmps68
  go_wp2
  go_loopw [5, 6] (fun u i wr => ∃ k : Nat, ∃ xs : List Int, ∃ ao' c', k ≤ 9 ∧ i = .int .i64 ((k : Int) + 1) ∧ u = .slice ao' xs.length c' ∧ Hid (xs = nineF (fun k => hasZ zs k || k == z) k) ∧ Hid (OwnInts w.heap.size wr ao' c' xs) ∧ Hid (Kept Nil w wr)) (fun _ i _ => 10 - (intOf i).toNat)
  case atStart => exact ⟨0, [], none, 0, by omega, rfl, rfl, rfl, World.ownsRow_nil _ _ _ _, Kept.refl _ _⟩
  case round =>
    obtain ⟨k, xs, ao1, c1, hk, rfl, rfl, HX, HO, HK⟩ := hrel
    by_cases h9 : k < 9
    · have hk9 : (k : Int) + 1 ≤ 9 := by omega
      have HLL : Hid (xs.length + 1 ≤ maxLen ∧ (xs.length + 1) * 8 ≤ 140737488355328) := by
        have := nineF_len (fun k => hasZ zs k || k == z) k
        rw [← HX.out] at this
        constructor
        · unfold maxLen; omega
        · omega
      have ho : wr.ownsRow w.heap.size 3 1 (.slice ao1 xs.length c1) xs.length (xs.map (Value.int .i64)) := HO.out
      have Q := refHas_any B cap ao zs ((k : Int) + 1) wr (HR.out.nil HK.out) (by omega)
      have HY : Hid ((hasZ zs ((k : Int) + 1) || ((k : Int) + 1 == z)) = true → xs ++ [(k : Int) + 1] = nineF (fun k => hasZ zs k || k == z) (k + 1)) := fun hp => by rw [nineF_yes hp, HX.out]
      have HN : Hid ((hasZ zs ((k : Int) + 1) || ((k : Int) + 1 == z)) = false → xs = nineF (fun k => hasZ zs k || k == z) (k + 1)) := fun hp => by rw [nineF_no hp, HX.out]
      have HKX : Hid (Kept Nil w wr) := HK.out
      generalize hasZ zs ((k : Int) + 1) = d at *
      cases d with
      | true =>
        have HY2 : Hid (xs ++ [(k : Int) + 1] = nineF (fun k => hasZ zs k || k == z) (k + 1)) := HY.out rfl
        clear HY HN HX
        go_wp2_with fail
        go_fit Q
        rintro e w1 ⟨rfl, rfl⟩
        go_wp2_with (first | (at_builtin; go_must (refine wpList_append_src _ rfl _ _ 22 22 rfl w.heap.size 3 i0 (.int .i64 0) 1 8 Try.underlying22 hi hz0 hz1 hz2 rfl _ _ _ rfl (World.ownsRow.alloc ho _) (.slice (some ⟨w1.heap.size, 0, none⟩) 1 1) 1 [.int .i64 ((k : Int) + 1)] rfl (src_int _) HLL.out.1 HLL.out.2 (le_alloc HKX.out.size _) ?_); intro ao' c' w2 ho' hg'; have HK2 : Hid (Kept Nil w w2) := (HKX.out.alloc _).grown hg' (own_row ho); clear hg'))
        go_roundw
        case rel => exact ⟨k + 1, xs ++ [(k : Int) + 1], ao', c', by omega, by go_num, by rw [List.length_append]; rfl, HY2.out, OwnInts.push ho', HK2.out⟩
        case measure => simp [intOf]; omega
      | false =>
        by_cases hkz : (k : Int) + 1 = z
        · have hb : (((k : Int) + 1) == z) = true := by simpa using hkz
          have HY2 : Hid (xs ++ [(k : Int) + 1] = nineF (fun k => hasZ zs k || k == z) (k + 1)) := HY.out hb
          clear HY HN HX hkz
          go_wp2_with fail
          go_fit Q
          rintro e w1 ⟨rfl, rfl⟩
          go_wp2_with (first | (at_builtin; go_must (refine wpList_append_src _ rfl _ _ 22 22 rfl w.heap.size 3 i0 (.int .i64 0) 1 8 Try.underlying22 hi hz0 hz1 hz2 rfl _ _ _ rfl (World.ownsRow.alloc ho _) (.slice (some ⟨w1.heap.size, 0, none⟩) 1 1) 1 [.int .i64 ((k : Int) + 1)] rfl (src_int _) HLL.out.1 HLL.out.2 (le_alloc HKX.out.size _) ?_); intro ao' c' w2 ho' hg'; have HK2 : Hid (Kept Nil w w2) := (HKX.out.alloc _).grown hg' (own_row ho); clear hg'))
          go_roundw
          case rel => exact ⟨k + 1, xs ++ [(k : Int) + 1], ao', c', by omega, by go_num, by rw [List.length_append]; rfl, HY2.out, OwnInts.push ho', HK2.out⟩
          case measure => simp [intOf]; omega
        · have hb : (((k : Int) + 1) == z) = false := by simpa using hkz
          have HN2 : Hid (xs = nineF (fun k => hasZ zs k || k == z) (k + 1)) := HN.out hb
          clear HY HN HX hkz
          go_wp2_with fail
          go_fit Q
          rintro e w1 ⟨rfl, rfl⟩
          go_wp2
          go_roundw
          case rel => exact ⟨k + 1, xs, ao1, c1, by omega, by go_num, rfl, HN2.out, HO.out, HK.out⟩
          case measure => simp [intOf]; omega
    · obtain rfl : k = 9 := by omega
      have HE : Hid (out = xs) := HO9.out.trans HX.out.symm
      go_wp2
      go_ret
      rw [HE.out]
      exact ⟨ao1, c1, rfl, HO.out, HK.out⟩

set_option maxRecDepth 100000 in
set_option maxHeartbeats 2000000 in
theorem refBut_any (B cap : Nat) (ao : Option Addr) (zs : List Int) (z : Int) (w : World) (h : IntRow B w ao zs) (hl : (zs.length : Int) ≤ 1048576) :
    Calls Try.prog 66 #[.slice ao zs.length cap, .int .i64 z] w (ClPost w (delZ z zs)) := by
  obtain ⟨i0, hi, hz0, hz1, hz2⟩ := info_parts Try.infoInt
  have HR : Hid (IntRow B w ao zs) := h
  clear h
  obtain ⟨out, HO9⟩ : ∃ out, Hid (out = delZ z zs) := ⟨_, rfl⟩
  rw [← HO9.out]
  go_enter Try.func66, Try.ntmps66
  go_wp2
  go_loopw [5, 6] (fun u i wr => ∃ k : Nat, ∃ xs : List Int, ∃ ao' c', k ≤ zs.length ∧ i = .int .i64 k ∧ u = .slice ao' xs.length c' ∧ Hid (xs = delZ z (zs.take k)) ∧ Hid (OwnInts w.heap.size wr ao' c' xs) ∧ Hid (Kept Nil w wr)) (fun _ i _ => zs.length - (intOf i).toNat)
  case atStart => exact ⟨0, [], none, 0, Nat.zero_le _, rfl, rfl, rfl, World.ownsRow_nil _ _ _ _, Kept.refl _ _⟩
  case round =>
    obtain ⟨k, xs, ao1, c1, hk, rfl, rfl, HX, HO, HK⟩ := hrel
    by_cases hlt : k < zs.length
    · obtain ⟨a, rfl, _, hcell⟩ := (HR.out.nil HK.out) k hlt
      have hca : ∀ o, (wr.alloc o).cell? (a.add k) = some (.int .i64 zs[k]) := fun o => by
        obtain ⟨a', e, _, hc⟩ := (HR.out.nil (HK.out.alloc o)) k hlt
        simp only [Option.some.injEq] at e
        subst e
        exact hc
      have hki : (k : Int) < zs.length := by omega
      have HLL : Hid (xs.length + 1 ≤ maxLen ∧ (xs.length + 1) * 8 ≤ 140737488355328) := by
        have h1 : (delZ z (zs.take k)).length ≤ (zs.take k).length := List.length_filter_le _ _
        rw [← HX.out, List.length_take] at h1
        constructor
        · unfold maxLen; omega
        · omega
      have ho : wr.ownsRow w.heap.size 3 1 (.slice ao1 xs.length c1) xs.length (xs.map (Value.int .i64)) := HO.out
      have HT : Hid (delZ z (zs.take (k + 1)) = delZ z (zs.take k) ++ if zs[k] = z then [] else [zs[k]]) := by
        show _ = _
        unfold delZ
        rw [List.take_succ_eq_append_getElem hlt, List.filter_append]
        by_cases hz : zs[k] = z
        · rw [if_pos hz]; simp [hz]
        · rw [if_neg hz]; simp [hz]
      have HKX : Hid (Kept Nil w wr) := HK.out
      generalize zs[k] = y at *
      by_cases hy : y = z
      · have hb : (y != z) = false := by simpa using hy
        have HN : Hid (xs = delZ z (zs.take (k + 1))) := by show _ = _; rw [HT.out, if_pos hy, List.append_nil]; exact HX.out
        clear hy HT HX
        go_wp2
        go_roundw
        case rel => exact ⟨k + 1, xs, ao1, c1, by omega, by go_num, rfl, HN.out, HO.out, HK.out⟩
        case measure => simp [intOf]; omega
      · have hb : (y != z) = true := by simpa using hy
        have HY : Hid (xs ++ [y] = delZ z (zs.take (k + 1))) := by show _ = _; rw [HT.out, if_neg hy, HX.out]
        clear hy HT HX
        go_wp2_with (first | (at_builtin; go_must (refine wpList_append_src _ rfl _ _ 22 22 rfl w.heap.size 3 i0 (.int .i64 0) 1 8 Try.underlying22 hi hz0 hz1 hz2 rfl _ _ _ rfl (World.ownsRow.alloc ho _) (.slice (some ⟨wr.heap.size, 0, none⟩) 1 1) 1 [.int .i64 y] rfl (src_int _) HLL.out.1 HLL.out.2 (le_alloc HKX.out.size _) ?_); intro ao' c' w2 ho' hg'; have HK2 : Hid (Kept Nil w w2) := (HKX.out.alloc _).grown hg' (own_row ho); clear hg'))
        go_roundw
        case rel => exact ⟨k + 1, xs ++ [y], ao', c', by omega, by go_num, by rw [List.length_append]; rfl, HY.out, OwnInts.push ho', HK2.out⟩
        case measure => simp [intOf]; omega
    · have HE : Hid (out = xs) := by show _ = _; rw [HO9.out, HX.out, List.take_of_length_le (by omega)]
      go_wp2
      go_ret
      rw [HE.out]
      exact ⟨ao1, c1, rfl, HO.out, HK.out⟩

set_option maxRecDepth 100000 in
set_option maxHeartbeats 1000000 in
theorem refMore_any (B c1 c2 : Nat) (a1 a2 : Option Addr) (vs hs : List Int) (w : World) (h1 : IntRow B w a1 vs) (h2 : IntRow B w a2 hs) (hl1 : (vs.length : Int) ≤ 1048576) (hl2 : (hs.length : Int) ≤ 9223372036854775807) :
    Calls Try.prog 77 #[.slice a1 vs.length c1, .slice a2 hs.length c2] w fun e w' => e = .returned (.bool (maj vs hs)) ∧ w' = w := by
  have HR : Hid (IntRow B w a1 vs ∧ IntRow B w a2 hs) := ⟨h1, h2⟩
  clear h1 h2
  go_enter Try.func77, Try.ntmps77
  go_wp2
  go_loop [5, 6] (fun v i => ∃ k : Nat, k ≤ vs.length ∧ i = .int .i64 k ∧ v = .int .i64 (cntIn (vs.take k) hs : Nat)) (fun _ i => vs.length - (intOf i).toNat)
  case atStart => exact ⟨0, Nat.zero_le _, rfl, rfl⟩
  case round =>
    obtain ⟨k, hk, rfl, rfl⟩ := hrel
    by_cases hlt : k < vs.length
    · obtain ⟨a, rfl, _, hcell⟩ := HR.out.1 k hlt
      have C := refHas_any B c2 a2 hs vs[k] w HR.out.2 hl2
      have hst := cntIn_succ hs hlt
      have hcl := cntIn_le (vs.take k) hs
      have hcl2 : (vs.take k).length ≤ vs.length := by rw [List.length_take]; omega
      have hki : (k : Int) < vs.length := by omega
      generalize vs[k] = z at *
      generalize cntIn (vs.take k) hs = n at *
      cases hz : hasZ hs z with
      | true =>
        rw [hz] at C hst
        simp only [if_true] at hst
        have HST : Hid (cntIn (vs.take (k + 1)) hs = n + 1) := hst
        clear hz hst
        go_wp2_with fail
        refine C.mono ?_
        rintro e w1 ⟨rfl, rfl⟩
        go_wp2
        go_round
        case rel => exact ⟨k + 1, by omega, by go_num, by rw [HST.out]; go_num⟩
        case measure => simp [intOf]; omega
      | false =>
        rw [hz] at C hst
        have HST : Hid (cntIn (vs.take (k + 1)) hs = n) := by show _ = _; simpa using hst
        clear hz hst
        go_wp2_with fail
        refine C.mono ?_
        rintro e w1 ⟨rfl, rfl⟩
        go_wp2
        go_round
        case rel => exact ⟨k + 1, by omega, by go_num, by rw [HST.out]⟩
        case measure => simp [intOf]; omega
    · obtain rfl : k = vs.length := by omega
      rw [List.take_length]
      have hcl := cntIn_le vs hs
      have HM : Hid (maj vs hs = decide ((vs.length : Int) < 2 * (cntIn vs hs : Nat))) := rfl
      generalize cntIn vs hs = n at *
      go_wp2
      go_ret
      rw [HM.out]
      exact ⟨rfl, rfl⟩

set_option maxRecDepth 100000 in
set_option maxHeartbeats 1000000 in
theorem refQuorum_any (B c1 c2 c3 d : Nat) (a1 a2 a3 ao : Option Addr) (v n l hs : List Int) (w : World) (h : CfRows B w a1 a2 a3 v n l) (hh : IntRow B w ao hs) (h1 : (v.length : Int) ≤ 1048576) (h2 : (n.length : Int) ≤ 1048576) (h3 : (hs.length : Int) ≤ 9223372036854775807) :
    Calls Try.prog 23 #[.agg #[.slice a1 v.length c1, .slice a2 n.length c2, .slice a3 l.length c3], .slice ao hs.length d] w fun e w' => e = .returned (.bool (quo v n hs)) ∧ Kept Nil w w' := by
  obtain ⟨W, hW⟩ : ∃ W, W = w.alloc (.cells #[.slice a1 v.length c1, .slice a2 n.length c2, .slice a3 l.length c3] 24) := ⟨_, rfl⟩
  have KW : Hid (Kept Nil w W) := by rw [hW]; exact (Kept.refl _ _).alloc _
  have M1 := refMore_any B c1 d a1 ao v hs W (h.r1.nil KW.out) (hh.nil KW.out) h1 h3
  have M2 := refMore_any B c2 d a2 ao n hs W (h.r2.nil KW.out) (hh.nil KW.out) h2 h3
  have HB : Hid (W.heap[w.heap.size]? = some (.cells #[.slice a1 v.length c1, .slice a2 n.length c2, .slice a3 l.length c3] 24 (0, 0))) := by rw [hW]; exact blk_new _ _
  have HV : Hid (quo v n hs = (maj v hs && (n.isEmpty || maj n hs))) := rfl
  obtain ⟨r, HRR⟩ : ∃ r, Hid (r = quo v n hs) := ⟨_, rfl⟩
  rw [← HRR.out]
  have q0 : W.cell? ⟨w.heap.size, 0, none⟩ = some (.slice a1 v.length c1) := blk_at HB.out 0 rfl
  have q1 : W.cell? ⟨w.heap.size, 1, none⟩ = some (.slice a2 n.length c2) := blk_at HB.out 1 rfl
  generalize maj v hs = b1 at *
  generalize maj n hs = b2 at *
  clear h hh h1 h2 h3
  go_enter Try.func23, Try.ntmps23
  go_wp2_with fail
  rw [← hW]
  clear hW
  go_fit M1
  rintro e w1 ⟨rfl, rfl⟩
  go_wp2_with fail
  go_fit M2
  rintro e w1 ⟨rfl, rfl⟩
  cases b1 with
  | false =>
    have HF : Hid (r = false) := by show r = _; rw [HRR.out, HV.out]; rfl
    go_wp2
    go_ret
    rw [HF.out]
    exact ⟨rfl, KW.out⟩
  | true =>
    by_cases hn : n = []
    · have hj : ((n.length : Int) == 0) = true := by rw [hn]; rfl
      have HF : Hid (r = true) := by show r = _; rw [HRR.out, HV.out, hn]; rfl
      clear hn
      go_wp2
      go_ret
      rw [HF.out]
      exact ⟨rfl, KW.out⟩
    · have hj : ((n.length : Int) == 0) = false := beq_eq_false_iff_ne.2 (by have := List.length_pos_iff.2 hn; omega)
      have HF : Hid (r = b2) := by
        show r = _
        rw [HRR.out, HV.out]
        cases n with
        | nil => exact absurd rfl hn
        | cons x t => simp
      clear hn
      go_wp2
      go_ret
      rw [HF.out]
      exact ⟨rfl, KW.out⟩

end Go.Proofs.Ytijklginabipgaa
