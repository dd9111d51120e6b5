/-
  The term of an index in a leader's log; a leader that goes back by the hints comes to where both logs are the same.
-/
import Derived.Test.YtopdgkebbdheiaaWMatch0
namespace Go.Proofs.Ytopdgkebbdheiaa
open Go.RowKit

theorem blk_set3 {w : World} {b g : Nat} {o : Obj} (h : w.heap[g]? = some o) (hne : g ≠ b) (u v z : Value) : (((w.setCell ⟨b, 0, none⟩ u).setCell ⟨b, 1, none⟩ v).setCell ⟨b, 2, none⟩ z).heap[g]? = some o := by
  have k : Kept (One b) w (((w.setCell ⟨b, 0, none⟩ u).setCell ⟨b, 1, none⟩ v).setCell ⟨b, 2, none⟩ z) := (((Kept.refl _ _).setCell (fun _ => rfl) _).setCell (fun _ => rfl) _).setCell (fun _ => rfl) _
  exact k.block _ _ h (fun x => hne x)

set_option maxRecDepth 100000 in
set_option maxHeartbeats 8000000 in
theorem returns_any {L O M : List En} {k : Nat} (hT : Two L O k) (hM : M = L.take k ++ O) (B c d p : Nat) (ao bo : Option Addr) (w : World) (h1 : EntRow B w ao M) (h2 : EntRow B w bo L) (hn : ao = none → M = [] ∧ c = 0) (hc : M.length ≤ c) (hl : M.length ≤ 1000) (hl2 : L.length ≤ 1000) (hp : p ≤ L.length) :
    Calls Try.prog 41 #[.agg #[.int .i64 0, .int .i64 0, .slice ao M.length c], .slice bo L.length d, .int .i64 p] w fun e w' => e = .returned (.bool true) ∧ Kept Nil w w' := by
  have HR : Hid (EntRow B w ao M ∧ EntRow B w bo L) := ⟨h1, h2⟩
  have TO := fun (q : Nat) w' (hk : Kept Nil w w') (hq : q ≤ L.length) => termOf_any B d q bo L w' (h2.nil hk) hq (by omega)
  have EX := fun (q : Nat) (t : Int) w' (hk : Kept Nil w w') (hq : q ≤ L.length) => extend_any B c 0 0 0 (q : Int) t ao none M [] w' (h1.nil hk) (fun j hj => by simp at hj) hn (fun _ => ⟨rfl, rfl⟩) (by omega) (by omega) (by simp) hc (by simp) (by omega) (fun e he => by simp at he)
  have HBN : Hid (_) := blk_new w (.cells #[.int .i64 0, .int .i64 0, .slice ao M.length c] 53)
  have HTT : Hid (Two L O k ∧ M = L.take k ++ O) := ⟨hT, hM⟩
  have hr1 := runs_le M M.length
  clear h1 h2 hT hM hn
  go_enter Try.func41, Try.ntmps41
  go_wp2
  go_loopw [7, 8] (fun v i wr => ∃ j : Nat, j ≤ M.length ∧ i = .int .i64 j ∧ v = .int .i64 (runs M j : Nat) ∧ Hid (Kept Nil w wr) ∧ Hid (wr.heap[w.heap.size]? = some (.cells #[.int .i64 0, .int .i64 0, .slice ao M.length c] 53 (0, 0)))) (fun _ i _ => M.length - (intOf i).toNat)
  case atStart => exact ⟨0, Nat.zero_le _, rfl, rfl, (Kept.refl _ _).alloc _, HBN.out⟩
  case round =>
    obtain ⟨j, hj, rfl, rfl, HK, HB⟩ := hrel
    obtain ⟨c0, c1, c2⟩ := lookB HB.out
    by_cases hlt : j < M.length
    · have hrj := runs_le M j
      have hlt' : (j : Int) < M.length := by omega
      by_cases h0 : j = 0
      · subst h0
        go_wp2
        go_quiet (fail)
        go_wp2
        go_roundw
        case rel => exact ⟨1, by omega, by go_num, by simp [runs], HK.out.drewN _, HB.out⟩
        case measure => simp [intOf]; omega
      · obtain ⟨q, rfl⟩ : ∃ q, j = q + 1 := ⟨j - 1, by omega⟩
        obtain ⟨a, rfl, t1⟩ := (HR.out.1.nil HK.out).tm hlt
        obtain ⟨a', ha', t2⟩ := (HR.out.1.nil HK.out).tm (show q < M.length by omega)
        obtain rfl : a = a' := by simpa using ha'
        have e1 : tmAt 0 M (q + 2) = M[q + 1].tm := tmAt_pos (by omega) (by omega)
        have e2 : tmAt 0 M (q + 1) = M[q].tm := tmAt_pos (by omega) (by omega)
        have hst : runs M (q + 2) = runs M (q + 1) + (if M[q + 1].tm ≠ M[q].tm then 1 else 0) := by
          rw [← e1, ← e2]
          show runs M (q + 1) + _ = _
          simp
        have hz : ((q : Int) + 1 == 0) = false := by simp; omega
        have hq' : (q : Int) < M.length := by omega
        rw [show ((q + 1 : Nat) : Int) = (q : Int) + 1 by omega] at *
        clear ha' e1 e2
        generalize M[q + 1].tm = x at *
        generalize M[q].tm = y at *
        generalize runs M (q + 1) = r at *
        by_cases hxy : x = y
        · have hxy' : (x == y) = true := by simpa using hxy
          have HST : Hid (runs M (q + 2) = r) := by show _ = _; rw [hst, if_neg (by simpa using hxy)]; rfl
          clear hst
          go_wp2
          go_quiet (fail)
          go_wp2
          go_roundw
          case rel => exact ⟨q + 2, by omega, by go_num, by rw [HST.out], HK.out.drewN _, HB.out⟩
          case measure => simp [intOf]; omega
        · have hxy' : (x == y) = false := by simpa using hxy
          have HST : Hid (runs M (q + 2) = r + 1) := by show _ = _; rw [hst, if_pos (by simpa using hxy)]
          clear hst
          go_wp2
          go_quiet (fail)
          go_wp2
          go_roundw
          case rel => exact ⟨q + 2, by omega, by go_num, by rw [HST.out]; go_num, HK.out.drewN _, HB.out⟩
          case measure => simp [intOf]; omega
    · obtain rfl : j = M.length := by omega
      clear HBN
      go_wp2
      go_loopw [2, 9] (fun v i ws => ∃ q j : Nat, v = .int .i64 q ∧ i = .int .i64 j ∧ q ≤ L.length ∧ j ≤ runs M M.length + 1 ∧ Hid (j + left M q ≤ runs M M.length + 1) ∧ Hid (Kept Nil w ws) ∧ Hid (ws.heap[w.heap.size]? = some (.cells #[.int .i64 0, .int .i64 0, .slice ao M.length c] 53 (0, 0)))) (fun _ i _ => runs M M.length + 2 - (intOf i).toNat)
      case atStart => exact ⟨p, 0, rfl, rfl, hp, by omega, (by show _ ≤ _; have := left_le M p; omega), HK.out, HB.out⟩
      case round =>
        obtain ⟨q, j, rfl, rfl, hq, hj, HJ, HK2, HB2⟩ := hrel
        clear HK HB c0 c1 c2
        obtain ⟨c0, c1, c2⟩ := lookB HB2.out
        have l2 := lt_of_block HB2.out
        obtain ⟨g0, g1, g2⟩ := lookB (blk_past (w := wr.drew) HB2.out (.cells #[.int .i64 0, .int .i64 0, .slice none 0 0] 53))
        have TQ := fun w' (hk : Kept Nil w w') => TO q w' hk hq
        have hj2 : (j : Int) ≤ (runs M M.length : Nat) + 1 := by omega
        by_cases hqk : q ≤ k
        · have e1 : ext 0 0 M q (tmAt 0 L q) [] = (M, (q : Int), 0, 0) := by
            rw [HTT.out.2]
            have := HTT.out.1.ext_within (p := q) (n := 0) (by omega)
            simpa using this
          have EQ := fun w' (hk : Kept Nil w w') => EX q (tmAt 0 L q) w' hk hq
          simp only [e1, List.length_nil] at EQ
          generalize tmAt 0 L q = t at *
          clear e1 TO EX
          go_wp2
          go_region_with (first | (go_at_call 40; go_must (refine (TQ _ (by first | exact HK2.out.drew | exact HK2.out.drew.alloc _)).mono ?_); rintro e w3 ⟨rfl, k3⟩; have K3 : Hid (Kept Nil w w3) := (by first | exact (HK2.out.drew).trans k3 | exact (HK2.out.drew.alloc _).trans k3); have B3 : Hid (w3.heap[w.heap.size]? = some (.cells #[.int .i64 0, .int .i64 0, .slice ao M.length c] 53 (0, 0))) := (by first | exact k3.block _ _ HB2.out (fun x => x.elim) | exact k3.block _ _ (blk_past HB2.out _) (fun x => x.elim)); (try (have Z3 : Hid (w3.heap[wr.heap.size]? = some (.cells #[.int .i64 0, .int .i64 0, .slice none 0 0] 53 (0, 0))) := k3.block _ _ (blk_new _ _) (fun x => x.elim))); obtain ⟨d0, d1, d2⟩ := lookB B3.out; have l3 := lt_of_block B3.out; obtain ⟨h0, h1, h2⟩ := lookB (blk_past B3.out (.cells #[.int .i64 0, .int .i64 0, .slice none 0 0] 53)); clear k3) | (go_at_call 38; go_must (refine (EQ _ (by first | exact K3.out | exact K3.out.alloc _)).mono ?_); rintro e w4 ⟨ao', c', rfl, _, k4⟩; have K4 : Hid (Kept Nil w w4) := (by first | exact K3.out.trans k4 | exact (K3.out.alloc _).trans k4); have B4 : Hid (w4.heap[w.heap.size]? = some (.cells #[.int .i64 0, .int .i64 0, .slice ao M.length c] 53 (0, 0))) := (by first | exact k4.block _ _ B3.out (fun x => x.elim) | exact k4.block _ _ (blk_past B3.out _) (fun x => x.elim)); (try (have Z4 : Hid (w4.heap[wr.heap.size]? = some (.cells #[.int .i64 0, .int .i64 0, .slice none 0 0] 53 (0, 0))) := k4.block _ _ Z3.out (fun x => x.elim); have Z4f0 := blk_free Z4.out 0; have Z4f1 := blk_free Z4.out 1; have Z4f2 := blk_free Z4.out 2; have Z4a0 := blk_at Z4.out 0 rfl; have Z4a1 := blk_at Z4.out 1 rfl; have Z4a2 := blk_at Z4.out 2 rfl)); (try (have Y4 : Hid (w4.heap[w3.heap.size]? = some (.cells #[.int .i64 0, .int .i64 0, .slice none 0 0] 53 (0, 0))) := k4.block _ _ (blk_new _ _) (fun x => x.elim); have Y4f0 := blk_free Y4.out 0; have Y4f1 := blk_free Y4.out 1; have Y4f2 := blk_free Y4.out 2; have Y4a0 := blk_at Y4.out 0 rfl; have Y4a1 := blk_at Y4.out 1 rfl; have Y4a2 := blk_at Y4.out 2 rfl)); obtain ⟨f0, f1, f2⟩ := lookB B4.out; clear k4))
          all_goals go_wp2
          all_goals
            go_ret
            refine ⟨rfl, ?_⟩
            first
              | exact K4.out.alloc _
              | exact ((K4.out.setNew K3.out.size _).setNew K3.out.size _).setNew K3.out.size _
              | exact ((K4.out.setNew HK2.out.size _).setNew HK2.out.size _).setNew HK2.out.size _
        · obtain ⟨q', hlook, hq', hleft⟩ := look_left M (p := q) (by omega)
          have e1 : ext 0 0 M q (tmAt 0 L q) [] = (M, 0, 0, (q' : Int) + 1) := by
            rw [show (q' : Int) + 1 = look 0 0 M q by rw [hlook]; omega, HTT.out.2]
            exact HTT.out.1.ext_not (by omega) hq []
          have EQ := fun w' (hk : Kept Nil w w') => EX q (tmAt 0 L q) w' hk hq
          simp only [e1, List.length_nil] at EQ
          generalize tmAt 0 L q = t at *
          have HLE : Hid (left M q' < left M q) := hleft
          have hz : ((q' : Int) + 1 == 0) = false := by simp; omega
          have hg : (q' : Int) + 1 ≤ q := by omega
          clear e1 TO EX hlook hleft hqk
          go_wp2
          go_region_with (first | (go_at_call 40; go_must (refine (TQ _ (by first | exact HK2.out.drew | exact HK2.out.drew.alloc _)).mono ?_); rintro e w3 ⟨rfl, k3⟩; have K3 : Hid (Kept Nil w w3) := (by first | exact (HK2.out.drew).trans k3 | exact (HK2.out.drew.alloc _).trans k3); have B3 : Hid (w3.heap[w.heap.size]? = some (.cells #[.int .i64 0, .int .i64 0, .slice ao M.length c] 53 (0, 0))) := (by first | exact k3.block _ _ HB2.out (fun x => x.elim) | exact k3.block _ _ (blk_past HB2.out _) (fun x => x.elim)); (try (have Z3 : Hid (w3.heap[wr.heap.size]? = some (.cells #[.int .i64 0, .int .i64 0, .slice none 0 0] 53 (0, 0))) := k3.block _ _ (blk_new _ _) (fun x => x.elim))); obtain ⟨d0, d1, d2⟩ := lookB B3.out; have l3 := lt_of_block B3.out; obtain ⟨h0, h1, h2⟩ := lookB (blk_past B3.out (.cells #[.int .i64 0, .int .i64 0, .slice none 0 0] 53)); clear k3) | (go_at_call 38; go_must (refine (EQ _ (by first | exact K3.out | exact K3.out.alloc _)).mono ?_); rintro e w4 ⟨ao', c', rfl, _, k4⟩; have K4 : Hid (Kept Nil w w4) := (by first | exact K3.out.trans k4 | exact (K3.out.alloc _).trans k4); have B4 : Hid (w4.heap[w.heap.size]? = some (.cells #[.int .i64 0, .int .i64 0, .slice ao M.length c] 53 (0, 0))) := (by first | exact k4.block _ _ B3.out (fun x => x.elim) | exact k4.block _ _ (blk_past B3.out _) (fun x => x.elim)); (try (have Z4 : Hid (w4.heap[wr.heap.size]? = some (.cells #[.int .i64 0, .int .i64 0, .slice none 0 0] 53 (0, 0))) := k4.block _ _ Z3.out (fun x => x.elim); have Z4f0 := blk_free Z4.out 0; have Z4f1 := blk_free Z4.out 1; have Z4f2 := blk_free Z4.out 2; have Z4a0 := blk_at Z4.out 0 rfl; have Z4a1 := blk_at Z4.out 1 rfl; have Z4a2 := blk_at Z4.out 2 rfl)); (try (have Y4 : Hid (w4.heap[w3.heap.size]? = some (.cells #[.int .i64 0, .int .i64 0, .slice none 0 0] 53 (0, 0))) := k4.block _ _ (blk_new _ _) (fun x => x.elim); have Y4f0 := blk_free Y4.out 0; have Y4f1 := blk_free Y4.out 1; have Y4f2 := blk_free Y4.out 2; have Y4a0 := blk_at Y4.out 0 rfl; have Y4a1 := blk_at Y4.out 1 rfl; have Y4a2 := blk_at Y4.out 2 rfl)); obtain ⟨f0, f1, f2⟩ := lookB B4.out; clear k4))
          all_goals go_wp2
          all_goals
            go_roundw
            case rel =>
              refine ⟨q', j + 1, rfl, by go_num, by omega, (by have h1 := left_pos M (p := q) (by omega); have h2 := HJ.out; omega), (by show _ ≤ _; have h1 := HLE.out; have h2 := HJ.out; omega), ?_, ?_⟩
              · first
                  | exact K4.out.alloc _
                  | exact ((K4.out.setNew K3.out.size _).setNew K3.out.size _).setNew K3.out.size _
                  | exact ((K4.out.setNew HK2.out.size _).setNew HK2.out.size _).setNew HK2.out.size _
              · first
                  | exact blk_past B4.out _
                  | exact blk_set3 B4.out (by omega) _ _ _
            case measure => simp [intOf]; omega

end Go.Proofs.Ytopdgkebbdheiaa
