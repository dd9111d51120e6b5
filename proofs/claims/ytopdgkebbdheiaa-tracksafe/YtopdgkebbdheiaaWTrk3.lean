/-
  What enough nodes have: Commit.
-/
import Derived.Test.YtopdgkebbdheiaaWTrk2
namespace Go.Proofs.Ytopdgkebbdheiaa
open Go.RowKit

/-- The greatest place above the commit that is good; else the commit. -/
def comDown (g : Nat → Bool) (com : Nat) : Nat → Nat
  | 0 => com
  | i + 1 => if i + 1 ≤ com then com else if g (i + 1) then i + 1 else comDown g com i
theorem comDown_le {g : Nat → Bool} {com i : Nat} (h : i ≤ com) : comDown g com i = com := by
  cases i with
  | zero => rfl
  | succ i => rw [comDown, if_pos h]
theorem comDown_yes {g : Nat → Bool} {com i : Nat} (h : com < i) (hg : g i = true) : comDown g com i = i := by
  cases i with
  | zero => omega
  | succ i => rw [comDown, if_neg (by omega), if_pos hg]
theorem comDown_no {g : Nat → Bool} {com i : Nat} (h : com < i) (hg : g i = false) : comDown g com i = comDown g com (i - 1) := by
  cases i with
  | zero => omega
  | succ i => rw [comDown, if_neg (by omega), if_neg (by rw [hg]; decide)]; rfl
theorem comDown_spec (g : Nat → Bool) (com : Nat) : ∀ i, (com ≤ comDown g com i) ∧ (comDown g com i = com ∨ (g (comDown g com i) = true ∧ com < comDown g com i ∧ comDown g com i ≤ i)) ∧ ∀ k, comDown g com i < k → com < k → k ≤ i → g k = false
  | 0 => ⟨Nat.le_refl _, .inl rfl, fun k _ h1 h2 => by omega⟩
  | i + 1 => by
    obtain ⟨h1, h2, h3⟩ := comDown_spec g com i
    by_cases hc : i + 1 ≤ com
    · rw [comDown_le hc]
      exact ⟨Nat.le_refl _, .inl rfl, fun k _ h1 h2 => by omega⟩
    · cases hg : g (i + 1) with
      | true =>
        rw [comDown_yes (by omega) hg]
        exact ⟨by omega, .inr ⟨hg, by omega, Nat.le_refl _⟩, fun k h1 _ h2 => by omega⟩
      | false =>
        rw [comDown_no (by omega) hg]
        simp only [Nat.add_sub_cancel]
        refine ⟨h1, ?_, fun k ha hb hc => ?_⟩
        · rcases h2 with h2 | ⟨h2, h4, h5⟩
          · exact .inl h2
          · exact .inr ⟨h2, h4, by omega⟩
        · by_cases hk : k = i + 1
          · rw [hk]; exact hg
          · exact h3 k ha hb (by omega)

def goodAt (v n : List Int) (ps : List Pg) (es : List En) (term : Int) (i : Nat) : Bool := (tmAt 0 es i == term) && quo v n (haveAt i ps)
theorem tAt_nat {es : List En} {j : Nat} (h : j ≤ es.length) : tAt 0 0 es ((es.length : Int) - j) = (tmAt 0 es (es.length - j), 0) := by
  unfold tAt
  rw [if_neg (by omega), if_neg (by omega), show ((es.length : Int) - j - 0).toNat = es.length - j by omega]

set_option maxRecDepth 100000 in
set_option maxHeartbeats 4000000 in
theorem commit_any (B c1 c2 c3 pc c com : Nat) (a1 a2 a3 po lo : Option Addr) (v n l : List Int) (ps : List Pg) (es : List En) (term : Int) (w : World) (h : CfRows B w a1 a2 a3 v n l) (hp : PgRow B w po ps) (he : EntRow B w lo es) (h1 : (v.length : Int) ≤ 1000000) (h2 : (n.length : Int) ≤ 1000000) (hl : ps.length ≤ 1000) (hle : es.length ≤ 1000) :
    Calls Try.prog 49 #[.agg #[.slice a1 v.length c1, .slice a2 n.length c2, .slice a3 l.length c3], .slice po ps.length pc, .agg #[.int .i64 0, .int .i64 0, .slice lo es.length c], .int .i64 term, .int .i64 com] w fun e w' => e = .returned (.int .i64 (comDown (goodAt v n ps es term) com es.length : Nat)) ∧ Kept Nil w w' := by
  have hmf : ∀ (fn : Fn) (first cap : Array Value) (w : World), (Instr.makeFunc fn first cap).run Try.prog w = .ok (.func fn first cap) w := fun _ _ _ _ => rfl
  have HR : Hid (CfRows B w a1 a2 a3 v n l ∧ PgRow B w po ps ∧ EntRow B w lo es) := ⟨h, hp, he⟩
  have L := fun w' (hk : Kept Nil w w') => last_any B c 0 0 lo es w' (he.nil hk) (by omega) (by omega)
  simp only [Int.zero_add] at L
  have HB0 : Hid (_) := blk_past (blk_new w (.cells #[.slice a1 v.length c1, .slice a2 n.length c2, .slice a3 l.length c3] 24)) (.cells #[.int .i64 0, .int .i64 0, .slice lo es.length c] 53)
  have HL0 : Hid (((w.alloc (.cells #[.slice a1 v.length c1, .slice a2 n.length c2, .slice a3 l.length c3] 24)).alloc (.cells #[.int .i64 0, .int .i64 0, .slice lo es.length c] 53)).heap[w.heap.size + 1]? = some (.cells #[.int .i64 0, .int .i64 0, .slice lo es.length c] 53 (0, 0))) := by
    have := blk_new (w.alloc (.cells #[.slice a1 v.length c1, .slice a2 n.length c2, .slice a3 l.length c3] 24)) (.cells #[.int .i64 0, .int .i64 0, .slice lo es.length c] 53)
    rwa [show (w.alloc (.cells #[.slice a1 v.length c1, .slice a2 n.length c2, .slice a3 l.length c3] 24)).heap.size = w.heap.size + 1 by simp] at this
  obtain ⟨g, hg⟩ : ∃ g, g = goodAt v n ps es term := ⟨_, rfl⟩
  have HG : Hid (g = goodAt v n ps es term) := hg
  rw [← hg]
  clear h hp he hg
  go_enter Try.func49, Try.ntmps49
  go_wp2_with fail
  refine (L _ (((Kept.refl _ _).alloc _).alloc _)).mono ?_
  rintro e w1 ⟨rfl, k1⟩
  have K1 : Hid (Kept Nil w w1) := (((Kept.refl _ _).alloc _).alloc _).trans k1
  have HB1 : Hid (w1.heap[w.heap.size]? = some (.cells #[.slice a1 v.length c1, .slice a2 n.length c2, .slice a3 l.length c3] 24 (0, 0))) := k1.block _ _ HB0.out (fun x => x.elim)
  have HL1 : Hid (w1.heap[w.heap.size + 1]? = some (.cells #[.int .i64 0, .int .i64 0, .slice lo es.length c] 53 (0, 0))) := k1.block _ _ HL0.out (fun x => x.elim)
  have s2 := blk_at HL1.out 2 rfl
  clear k1 L HB0 HL0
  go_wp2
  go_loopw [26] (fun i wr => ∃ j : Nat, j ≤ es.length ∧ i = .int .i64 j ∧ Hid (comDown g com es.length = comDown g com (es.length - j)) ∧ Hid (Kept Nil w wr) ∧ Hid (wr.heap[w.heap.size]? = some (.cells #[.slice a1 v.length c1, .slice a2 n.length c2, .slice a3 l.length c3] 24 (0, 0))) ∧ Hid (wr.heap[w.heap.size + 1]? = some (.cells #[.int .i64 0, .int .i64 0, .slice lo es.length c] 53 (0, 0)))) (fun i _ => es.length + 1 - (intOf i).toNat)
  case atStart => exact ⟨0, Nat.zero_le _, rfl, rfl, K1.out, HB1.out, HL1.out⟩
  case round =>
    obtain ⟨j, hj, rfl, HD, HK, HB, HL⟩ := hrel
    clear K1 HB1 HL1 s2
    have hj1 : (j : Int) < (es.length : Int) + 1 := by omega
    have q0 : ∀ o, (wr.alloc o).cell? ⟨w.heap.size + 1, 0, none⟩ = some (.int .i64 0) := fun o => blk_at (blk_past HL.out o) 0 rfl
    have q1 : ∀ o, (wr.alloc o).cell? ⟨w.heap.size + 1, 1, none⟩ = some (.int .i64 0) := fun o => blk_at (blk_past HL.out o) 1 rfl
    have q2 : ∀ o, (wr.alloc o).cell? ⟨w.heap.size + 1, 2, none⟩ = some (.slice lo es.length c) := fun o => blk_at (blk_past HL.out o) 2 rfl
    by_cases hcm : es.length - j ≤ com
    · have hcm1 : (es.length : Int) - j ≤ com := by omega
      have HF : Hid (comDown g com es.length = com) := HD.out.trans (comDown_le hcm)
      go_wp2
      go_ret
      rw [HF.out]
      exact ⟨rfl, HK.out.alloc _⟩
    · have hcm1 : ¬ (es.length : Int) - j ≤ com := by omega
      have T := fun w' (hk : Kept Nil w w') => termAt_any B c 0 0 ((es.length : Int) - j) lo es w' (HR.out.2.2.nil hk) (by omega) (by omega) (by omega)
      rw [tAt_nat hj] at T
      simp only [] at T
      have HGQ : Hid (g (es.length - j) = ((tmAt 0 es (es.length - j) == term) && quo v n (haveAt ((es.length : Int) - j) ps))) := by
        show _ = _
        rw [HG.out, show (es.length : Int) - j = ((es.length - j : Nat) : Int) by omega]
        rfl
      generalize tmAt 0 es (es.length - j) = t at *
      by_cases ht : t = term
      · have hne : (t != term) = false := by simp [ht]
        have E := fun C w' (hk : Kept Nil w w') (hb : w'.heap[C]? = some (.cells #[.int .i64 ((es.length : Int) - j)] 3 (0, 0))) => enough_any B C c1 c2 c3 pc a1 a2 a3 po v n l ps ((es.length : Int) - j) w' (HR.out.1.nil hk) (HR.out.2.1.nil hk) hb h1 h2 hl
        cases hb : quo v n (haveAt ((es.length : Int) - j) ps) with
        | true =>
          simp only [hb] at E
          have HF : Hid (comDown g com es.length = es.length - j) := HD.out.trans (comDown_yes (by omega) (by rw [HGQ.out, hb, ht]; simp))
          clear hb ht HGQ HD
          go_wp2_with fail
          refine (T _ (HK.out.alloc _)).mono ?_
          rintro e w2 ⟨rfl, k2⟩
          have K2 : Hid (Kept Nil w w2) := (HK.out.alloc _).trans k2
          have B2 : Hid (_) := k2.block _ _ (blk_past HB.out _) (fun x => x.elim)
          have C2 : Hid (w2.heap[wr.heap.size]? = some (.cells #[.int .i64 ((es.length : Int) - j)] 3 (0, 0))) := k2.block _ _ (blk_new _ _) (fun x => x.elim)
          have r0 := blk_at B2.out 0 rfl
          have r1 := blk_at B2.out 1 rfl
          have r2 := blk_at B2.out 2 rfl
          clear k2 T
          go_wp2_with fail
          refine (E _ _ K2.out C2.out).mono ?_
          rintro e w3 ⟨rfl, k3⟩
          have K3 : Hid (Kept Nil w w3) := K2.out.trans k3
          have r3 : w3.cell? ⟨wr.heap.size, 0, none⟩ = some (.int .i64 ((es.length : Int) - j)) := blk_at (k3.block _ _ C2.out (fun x => x.elim)) 0 rfl
          clear k3 E
          go_wp2
          go_ret
          rw [HF.out, show ((es.length - j : Nat) : Int) = (es.length : Int) - j by omega]
          exact ⟨rfl, K3.out⟩
        | false =>
          simp only [hb] at E
          have HF : Hid (comDown g com es.length = comDown g com (es.length - (j + 1))) := HD.out.trans ((comDown_no (by omega) (by rw [HGQ.out, hb]; simp)).trans (by rw [Nat.sub_sub]))
          clear hb ht HGQ HD
          go_wp2_with fail
          refine (T _ (HK.out.alloc _)).mono ?_
          rintro e w2 ⟨rfl, k2⟩
          have K2 : Hid (Kept Nil w w2) := (HK.out.alloc _).trans k2
          have B2 : Hid (_) := k2.block _ _ (blk_past HB.out _) (fun x => x.elim)
          have L2 : Hid (_) := k2.block _ _ (blk_past HL.out _) (fun x => x.elim)
          have C2 : Hid (w2.heap[wr.heap.size]? = some (.cells #[.int .i64 ((es.length : Int) - j)] 3 (0, 0))) := k2.block _ _ (blk_new _ _) (fun x => x.elim)
          have r0 := blk_at B2.out 0 rfl
          have r1 := blk_at B2.out 1 rfl
          have r2 := blk_at B2.out 2 rfl
          clear k2 T
          go_wp2_with fail
          refine (E _ _ K2.out C2.out).mono ?_
          rintro e w3 ⟨rfl, k3⟩
          have K3 : Hid (Kept Nil w w3) := K2.out.trans k3
          have B3 : Hid (_) := k3.block _ _ B2.out (fun x => x.elim)
          have L3 : Hid (_) := k3.block _ _ L2.out (fun x => x.elim)
          clear k3 E r0 r1 r2
          go_wp2
          go_roundw
          case rel => exact ⟨j + 1, by omega, by go_num, HF.out, K3.out, B3.out, L3.out⟩
          case measure => simp [intOf]; omega
      · have hne : (t != term) = true := by simpa using ht
        have HF : Hid (comDown g com es.length = comDown g com (es.length - (j + 1))) := HD.out.trans ((comDown_no (by omega) (by rw [HGQ.out, show (t == term) = false by simpa using ht]; rfl)).trans (by rw [Nat.sub_sub]))
        clear ht HGQ HD
        go_wp2_with fail
        refine (T _ (HK.out.alloc _)).mono ?_
        rintro e w2 ⟨rfl, k2⟩
        have K2 : Hid (Kept Nil w w2) := (HK.out.alloc _).trans k2
        have B2 : Hid (_) := k2.block _ _ (blk_past HB.out _) (fun x => x.elim)
        have L2 : Hid (_) := k2.block _ _ (blk_past HL.out _) (fun x => x.elim)
        clear k2 T
        go_wp2
        go_roundw
        case rel => exact ⟨j + 1, by omega, by go_num, HF.out, K2.out, B2.out, L2.out⟩
        case measure => simp [intOf]; omega

end Go.Proofs.Ytopdgkebbdheiaa
