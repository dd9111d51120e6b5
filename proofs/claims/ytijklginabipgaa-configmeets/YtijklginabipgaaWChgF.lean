/-
  config.Finish; do two lists share a node of a third?
-/
import Derived.Test.YtijklginabipgaaWChgB
namespace Go.Proofs.Ytijklginabipgaa
open Go.RowKit

/-- A change's end, plainly. -/
def finZ (v n l : List Int) : Except Int (List Int × List Int × List Int) := if isCfg v n l = true ∧ 0 < n.length then .ok (n, [], l) else .error 8

set_option maxRecDepth 100000 in
set_option maxHeartbeats 4000000 in
theorem finish_any (B c1 c2 c3 : Nat) (a1 a2 a3 : Option Addr) (v n l : List Int) (w : World) (o1 : OwnInts B w a1 c1 v) (o2 : OwnInts B w a2 c2 n) (o3 : OwnInts B w a3 c3 l) :
    Calls Try.prog 15 #[.agg #[.slice a1 v.length c1, .slice a2 n.length c2, .slice a3 l.length c3]] w (BegPost w (finZ v n l)) := by
  have hl1 : (v.length : Int) ≤ 9223372036854775807 := by have := own_le o1; unfold maxLen at this; omega
  have hl2 : (n.length : Int) ≤ 9223372036854775807 := by have := own_le o2; unfold maxLen at this; omega
  have hl3 : (l.length : Int) ≤ 9223372036854775807 := by have := own_le o3; unfold maxLen at this; omega
  obtain ⟨r, HR⟩ : ∃ r, Hid (r = finZ v n l) := ⟨_, rfl⟩
  rw [← HR.out]
  have HO : Hid (OwnInts B w a1 c1 v ∧ OwnInts B w a2 c2 n ∧ OwnInts B w a3 c3 l) := ⟨o1, o2, o3⟩
  obtain ⟨W, hW⟩ : ∃ W, W = (w.alloc (.cells #[.slice a1 v.length c1, .slice a2 n.length c2, .slice a3 l.length c3] 24)).alloc (.cells #[.slice none 0 0, .slice none 0 0, .slice none 0 0] 24) := ⟨_, rfl⟩
  have KW : Hid (Kept Nil w W) := by rw [hW]; exact ((Kept.refl _ _).alloc _).alloc _
  have HC : Hid (W.heap[w.heap.size]? = some (.cells #[.slice a1 v.length c1, .slice a2 n.length c2, .slice a3 l.length c3] 24 (0, 0))) := by rw [hW]; exact blk_past (blk_new _ _) _
  have HN : Hid (W.heap[w.heap.size + 1]? = some (.cells #[.slice none 0 0, .slice none 0 0, .slice none 0 0] 24 (0, 0))) := by
    have := blk_new (w.alloc (.cells #[.slice a1 v.length c1, .slice a2 n.length c2, .slice a3 l.length c3] 24)) (.cells #[.slice none 0 0, .slice none 0 0, .slice none 0 0] 24)
    rw [show (w.alloc (.cells #[.slice a1 v.length c1, .slice a2 n.length c2, .slice a3 l.length c3] 24)).heap.size = w.heap.size + 1 by simp] at this
    rw [hW]
    exact this
  have V := valid_any W.heap.size c1 c2 c3 a1 a2 a3 v n l W ⟨(o1.kept KW.out).row, (o2.kept KW.out).row, (o3.kept KW.out).row⟩ hl1 hl2 hl3
  have J := fun (x : World) => joint_any c1 c2 c3 a1 a2 a3 v.length n.length l.length x
  clear o1 o2 o3
  cases hc : isCfg v n l with
  | false =>
    rw [hc] at V
    have HE : Hid (r = .error 8) := HR.out.trans (if_neg (fun h => by rw [hc] at h; cases h.1))
    clear hc HR J
    go_enter Try.func15, Try.ntmps15
    go_wp2_with fail
    rw [← hW]
    clear hW
    go_fit V
    rintro e w1 ⟨rfl, k1⟩
    have K1 : Hid (Kept Nil w w1) := KW.out.trans k1
    have C1 : Hid (w1.heap[w.heap.size]? = some (.cells #[.slice a1 v.length c1, .slice a2 n.length c2, .slice a3 l.length c3] 24 (0, 0))) := k1.block _ _ HC.out (fun x => x.elim)
    have N1 : Hid (w1.heap[w.heap.size + 1]? = some (.cells #[.slice none 0 0, .slice none 0 0, .slice none 0 0] 24 (0, 0))) := k1.block _ _ HN.out (fun x => x.elim)
    clear k1 V HC HN KW
    have g0 : w1.cell? ⟨w.heap.size + 1, 0, none⟩ = some (.slice none 0 0) := blk_at N1.out 0 rfl
    have f0 : w1.frozen? ⟨w.heap.size + 1, 0, none⟩ = false := blk_free N1.out 0
    have g1 : w1.cell? ⟨w.heap.size + 1, 1, none⟩ = some (.slice none 0 0) := blk_at N1.out 1 rfl
    have f1 : w1.frozen? ⟨w.heap.size + 1, 1, none⟩ = false := blk_free N1.out 1
    have g2 : w1.cell? ⟨w.heap.size + 1, 2, none⟩ = some (.slice none 0 0) := blk_at N1.out 2 rfl
    have f2 : w1.frozen? ⟨w.heap.size + 1, 2, none⟩ = false := blk_free N1.out 2
    go_wp2
    refine bodyPost_ret (v := .tuple #[.agg #[.slice none 0 0, .slice none 0 0, .slice none 0 0], .int .i64 8]) (by simp [results, Try.results15, go_sem, g0, g1, g2]) rfl ?_
    exact .inl ⟨8, HE.out, rfl, ((K1.out.setNew (Nat.le_succ _) _).setNew (Nat.le_succ _) _).setNew (Nat.le_succ _) _⟩
  | true =>
    rw [hc] at V
    have hcf := (isCfg_iff _ _ _).1 hc
    by_cases hj : 0 < n.length
    · have HE : Hid (r = .ok (n, [], l)) := HR.out.trans (if_pos ⟨hc, hj⟩)
      rw [decide_eq_true hj] at J
      have hn9 := up_len hcf.2.2.1
      have hl9 := up_len hcf.2.2.2.1
      clear hc HR hj hcf
      go_enter Try.func15, Try.ntmps15
      go_wp2_with fail
      rw [← hW]
      clear hW
      go_fit V
      rintro e w1 ⟨rfl, k1⟩
      have K1 : Hid (Kept Nil w w1) := KW.out.trans k1
      have C1 : Hid (w1.heap[w.heap.size]? = some (.cells #[.slice a1 v.length c1, .slice a2 n.length c2, .slice a3 l.length c3] 24 (0, 0))) := k1.block _ _ HC.out (fun x => x.elim)
      have N1 : Hid (w1.heap[w.heap.size + 1]? = some (.cells #[.slice none 0 0, .slice none 0 0, .slice none 0 0] 24 (0, 0))) := k1.block _ _ HN.out (fun x => x.elim)
      clear k1 V HC HN KW
      have q0 : w1.cell? ⟨w.heap.size, 0, none⟩ = some (.slice a1 v.length c1) := blk_at C1.out 0 rfl
      have q1 : w1.cell? ⟨w.heap.size, 1, none⟩ = some (.slice a2 n.length c2) := blk_at C1.out 1 rfl
      have q2 : w1.cell? ⟨w.heap.size, 2, none⟩ = some (.slice a3 l.length c3) := blk_at C1.out 2 rfl
      go_wp2_with fail
      go_fit (J w1)
      rintro e w2 ⟨rfl, k2⟩
      have K2 : Hid (Kept Nil w w2) := K1.out.trans k2
      have C2 : Hid (w2.heap[w.heap.size]? = some (.cells #[.slice a1 v.length c1, .slice a2 n.length c2, .slice a3 l.length c3] 24 (0, 0))) := k2.block _ _ C1.out (fun x => x.elim)
      have N2 : Hid (w2.heap[w.heap.size + 1]? = some (.cells #[.slice none 0 0, .slice none 0 0, .slice none 0 0] 24 (0, 0))) := k2.block _ _ N1.out (fun x => x.elim)
      clear k2 J K1 C1 N1 q0 q1 q2
      have g0 : w2.cell? ⟨w.heap.size + 1, 0, none⟩ = some (.slice none 0 0) := blk_at N2.out 0 rfl
      have f0 : w2.frozen? ⟨w.heap.size + 1, 0, none⟩ = false := blk_free N2.out 0
      have g1 : w2.cell? ⟨w.heap.size + 1, 1, none⟩ = some (.slice none 0 0) := blk_at N2.out 1 rfl
      have f1 : w2.frozen? ⟨w.heap.size + 1, 1, none⟩ = false := blk_free N2.out 1
      have g2 : w2.cell? ⟨w.heap.size + 1, 2, none⟩ = some (.slice none 0 0) := blk_at N2.out 2 rfl
      have f2 : w2.frozen? ⟨w.heap.size + 1, 2, none⟩ = false := blk_free N2.out 2
      have q0 : w2.cell? ⟨w.heap.size, 0, none⟩ = some (.slice a1 v.length c1) := blk_at C2.out 0 rfl
      have q1 : w2.cell? ⟨w.heap.size, 1, none⟩ = some (.slice a2 n.length c2) := blk_at C2.out 1 rfl
      have q2 : w2.cell? ⟨w.heap.size, 2, none⟩ = some (.slice a3 l.length c3) := blk_at C2.out 2 rfl
      have X1 := clone_any B c2 a2 n w2.drew (HO.out.2.1.kept (K2.out.drew)) (by omega)
      have X2 := fun (x : World) (hx : Kept Nil w x) => clone_any B c3 a3 l x (HO.out.2.2.kept hx) (by omega)
      have sD : w2.drew.cell? ⟨w.heap.size, 1, none⟩ = some (.slice a2 n.length c2) ∧ w2.drew.cell? ⟨w.heap.size, 2, none⟩ = some (.slice a3 l.length c3) := ⟨q1, q2⟩
      go_wp2
      go_region_held3 (fun w' => w'.cell? ⟨w.heap.size, 1, none⟩ = some (.slice a2 n.length c2) ∧ w'.cell? ⟨w.heap.size, 2, none⟩ = some (.slice a3 l.length c3)) (first | assumption | go_keep) (first | (go_at_call 63; first | (go_fit X1; rintro e wa ⟨b1, d1, rfl, oA, kA⟩; have PA : Hid (Kept Nil w2 wa) := (Kept.refl _ _).drew.trans kA; have OA : Hid (OwnInts w2.heap.size wa b1 d1 n) := oA; have CA : Hid (wa.heap[w.heap.size]? = some (.cells #[.slice a1 v.length c1, .slice a2 n.length c2, .slice a3 l.length c3] 24 (0, 0))) := kA.block _ _ C2.out (fun x => x.elim); have sA : wa.cell? ⟨w.heap.size, 1, none⟩ = some (.slice a2 n.length c2) ∧ wa.cell? ⟨w.heap.size, 2, none⟩ = some (.slice a3 l.length c3) := ⟨blk_at CA.out 1 rfl, blk_at CA.out 2 rfl⟩; clear oA kA) | (go_fit (X2 wa (K2.out.trans PA.out)); rintro e wb ⟨b3, d3, rfl, oB, kB⟩; have PB : Hid (Kept Nil wa wb) := kB; have OB : Hid (OwnInts wa.heap.size wb b3 d3 l) := oB; have CB : Hid (wb.heap[w.heap.size]? = some (.cells #[.slice a1 v.length c1, .slice a2 n.length c2, .slice a3 l.length c3] 24 (0, 0))) := kB.block _ _ CA.out (fun x => x.elim); have sB : wb.cell? ⟨w.heap.size, 1, none⟩ = some (.slice a2 n.length c2) ∧ wb.cell? ⟨w.heap.size, 2, none⟩ = some (.slice a3 l.length c3) := ⟨blk_at CB.out 1 rfl, blk_at CB.out 2 rfl⟩; have NB : Hid (wb.heap[w.heap.size + 1]? = some (.cells #[.slice none 0 0, .slice none 0 0, .slice none 0 0] 24 (0, 0))) := kB.block _ _ (PA.out.block _ _ N2.out (fun x => x.elim)) (fun x => x.elim); have j0 : wb.cell? ⟨w.heap.size + 1, 0, none⟩ = some (.slice none 0 0) := blk_at NB.out 0 rfl; have j1 : wb.cell? ⟨w.heap.size + 1, 1, none⟩ = some (.slice none 0 0) := blk_at NB.out 1 rfl; have j2 : wb.cell? ⟨w.heap.size + 1, 2, none⟩ = some (.slice none 0 0) := blk_at NB.out 2 rfl; have i0 : wb.frozen? ⟨w.heap.size + 1, 0, none⟩ = false := blk_free NB.out 0; have i1 : wb.frozen? ⟨w.heap.size + 1, 1, none⟩ = false := blk_free NB.out 1; have i2 : wb.frozen? ⟨w.heap.size + 1, 2, none⟩ = false := blk_free NB.out 2; clear oB kB)))
      all_goals
        go_wp2
        refine bodyPost_ret (v := .tuple #[.agg #[.slice b1 n.length d1, .slice none 0 0, .slice b3 l.length d3], .int .i64 0]) (by simp [results, Try.results15, go_sem, j0, j1, j2]) rfl ?_
        have hlt2 := lt_of_block N2.out
        have hz1 := PA.out.size
        have hz2 := K2.out.size
        have OA2 : OwnInts w2.heap.size wb b1 d1 n := OA.out.kept PB.out
        have OB2 : OwnInts w2.heap.size wb b3 d3 l := own_mono OB.out hz1
        have hne : ∀ {ao c zs}, OwnInts w2.heap.size wb ao c zs → (Value.slice ao zs.length c).ownBlock ≠ some (w.heap.size + 1) := fun {ao c zs} ho e => by have := (World.ownsRow.lt ho _ e).1; omega
        have hmv : ∀ {ao c zs} (u0 u1 u2 : Value), OwnInts w2.heap.size wb ao c zs → OwnInts w.heap.size (((wb.setCell ⟨w.heap.size + 1, 0, none⟩ u0).setCell ⟨w.heap.size + 1, 1, none⟩ u1).setCell ⟨w.heap.size + 1, 2, none⟩ u2) ao c zs := fun {ao c zs} u0 u1 u2 ho => own_mono (own_setNe (own_setNe (own_setNe ho (hne ho) _) (hne ho) _) (hne ho) _) hz2
        exact .inr ⟨n, [], l, HE.out, b1, none, b3, d1, 0, d3, rfl, ⟨hmv _ _ _ OA2, World.ownsRow_nil _ _ _ _, hmv _ _ _ OB2, fun g _ h => by simp [Value.ownBlock] at h, fun g h1 h2 => by have := (World.ownsRow.lt OA.out _ h1).2; have := (World.ownsRow.lt OB.out _ h2).1; omega, fun g h => by simp [Value.ownBlock] at h⟩, ((((K2.out.trans PA.out).trans PB.out).setNew (Nat.le_succ _) _).setNew (Nat.le_succ _) _).setNew (Nat.le_succ _) _⟩
    · have HE : Hid (r = .error 8) := HR.out.trans (if_neg (fun h => hj h.2))
      rw [decide_eq_false hj] at J
      clear hc HR hj hcf
      go_enter Try.func15, Try.ntmps15
      go_wp2_with fail
      rw [← hW]
      clear hW
      go_fit V
      rintro e w1 ⟨rfl, k1⟩
      have K1 : Hid (Kept Nil w w1) := KW.out.trans k1
      have C1 : Hid (w1.heap[w.heap.size]? = some (.cells #[.slice a1 v.length c1, .slice a2 n.length c2, .slice a3 l.length c3] 24 (0, 0))) := k1.block _ _ HC.out (fun x => x.elim)
      have N1 : Hid (w1.heap[w.heap.size + 1]? = some (.cells #[.slice none 0 0, .slice none 0 0, .slice none 0 0] 24 (0, 0))) := k1.block _ _ HN.out (fun x => x.elim)
      clear k1 V HC HN KW
      have q0 : w1.cell? ⟨w.heap.size, 0, none⟩ = some (.slice a1 v.length c1) := blk_at C1.out 0 rfl
      have q1 : w1.cell? ⟨w.heap.size, 1, none⟩ = some (.slice a2 n.length c2) := blk_at C1.out 1 rfl
      have q2 : w1.cell? ⟨w.heap.size, 2, none⟩ = some (.slice a3 l.length c3) := blk_at C1.out 2 rfl
      go_wp2_with fail
      go_fit (J w1)
      rintro e w2 ⟨rfl, k2⟩
      have K2 : Hid (Kept Nil w w2) := K1.out.trans k2
      have C2 : Hid (w2.heap[w.heap.size]? = some (.cells #[.slice a1 v.length c1, .slice a2 n.length c2, .slice a3 l.length c3] 24 (0, 0))) := k2.block _ _ C1.out (fun x => x.elim)
      have N2 : Hid (w2.heap[w.heap.size + 1]? = some (.cells #[.slice none 0 0, .slice none 0 0, .slice none 0 0] 24 (0, 0))) := k2.block _ _ N1.out (fun x => x.elim)
      clear k2 J K1 C1 N1 q0 q1 q2
      have g0 : w2.cell? ⟨w.heap.size + 1, 0, none⟩ = some (.slice none 0 0) := blk_at N2.out 0 rfl
      have f0 : w2.frozen? ⟨w.heap.size + 1, 0, none⟩ = false := blk_free N2.out 0
      have g1 : w2.cell? ⟨w.heap.size + 1, 1, none⟩ = some (.slice none 0 0) := blk_at N2.out 1 rfl
      have f1 : w2.frozen? ⟨w.heap.size + 1, 1, none⟩ = false := blk_free N2.out 1
      have g2 : w2.cell? ⟨w.heap.size + 1, 2, none⟩ = some (.slice none 0 0) := blk_at N2.out 2 rfl
      have f2 : w2.frozen? ⟨w.heap.size + 1, 2, none⟩ = false := blk_free N2.out 2
      go_wp2
      refine bodyPost_ret (v := .tuple #[.agg #[.slice none 0 0, .slice none 0 0, .slice none 0 0], .int .i64 8]) (by simp [results, Try.results15, go_sem, g0, g1, g2]) rfl ?_
      exact .inl ⟨8, HE.out, rfl, ((K2.out.setNew (Nat.le_succ _) _).setNew (Nat.le_succ _) _).setNew (Nat.le_succ _) _⟩

theorem meetZ_at {a b m : List Int} {k : Nat} (h : k < a.length) : meetZ (a.drop k) b m = (hasZ b a[k] && hasZ m a[k] || meetZ (a.drop (k + 1)) b m) := by
  unfold meetZ
  rw [List.drop_eq_getElem_cons h, List.any_cons]

set_option maxRecDepth 100000 in
set_option maxHeartbeats 2000000 in
theorem meet_any (B1 B2 B3 c1 c2 c3 : Nat) (a1 a2 a3 : Option Addr) (a b m : List Int) (w : World) (h1 : IntRow B1 w a1 a) (h2 : IntRow B2 w a2 b) (h3 : IntRow B3 w a3 m) (hl1 : (a.length : Int) ≤ 1000000) (hl2 : (b.length : Int) ≤ 1000000) (hl3 : (m.length : Int) ≤ 1000000) :
    Calls Try.prog 35 #[.slice a1 a.length c1, .slice a2 b.length c2, .slice a3 m.length c3] w fun e w' => e = .returned (.bool (meetZ a b m)) ∧ Kept Nil w w' := by
  have HR : Hid (IntRow B1 w a1 a ∧ IntRow B2 w a2 b ∧ IntRow B3 w a3 m) := ⟨h1, h2, h3⟩
  clear h1 h2 h3
  go_enter Try.func35, Try.ntmps35
  go_wp2
  go_loopw [7] (fun i wr => ∃ k : Nat, k ≤ a.length ∧ i = .int .i64 k ∧ Hid (meetZ a b m = meetZ (a.drop k) b m) ∧ Hid (Kept Nil w wr)) (fun i _ => a.length - (intOf i).toNat)
  case atStart => exact ⟨0, Nat.zero_le _, rfl, rfl, Kept.refl _ _⟩
  case round =>
    obtain ⟨k, hk, rfl, HI, HK⟩ := hrel
    by_cases hlt : k < a.length
    · obtain ⟨x, rfl, _, hcell⟩ := (HR.out.1.nil HK.out) k hlt
      have Q1 := keepHas_any B2 c2 a2 b a[k] wr (HR.out.2.1.nil HK.out) (by omega)
      have Q2 := keepHas_any B3 c3 a3 m a[k] wr (HR.out.2.2.nil HK.out) (by omega)
      have HA : Hid (meetZ a b m = (hasZ b a[k] && hasZ m a[k] || meetZ (a.drop (k + 1)) b m)) := HI.out.trans (meetZ_at hlt)
      have hki : (k : Int) < a.length := by omega
      generalize a[k] = z at *
      generalize hasZ b z = d1 at *
      generalize hasZ m z = d2 at *
      clear HI
      cases d1 with
      | true =>
        cases d2 with
        | true =>
          have HX : Hid (meetZ a b m = true) := by show _ = _; rw [HA.out]; rfl
          go_wp2_with fail
          go_fit Q1
          rintro e w1 ⟨rfl, rfl⟩
          go_wp2_with fail
          go_fit Q2
          rintro e w1 ⟨rfl, rfl⟩
          go_wp2
          go_ret
          rw [HX.out]
          exact ⟨rfl, HK.out⟩
        | false =>
          have HX : Hid (meetZ a b m = meetZ (a.drop (k + 1)) b m) := by show _ = _; rw [HA.out]; rfl
          go_wp2_with fail
          go_fit Q1
          rintro e w1 ⟨rfl, rfl⟩
          go_wp2_with fail
          go_fit Q2
          rintro e w1 ⟨rfl, rfl⟩
          go_wp2
          go_roundw
          case rel => exact ⟨k + 1, by omega, by go_num, HX.out, HK.out⟩
          case measure => simp [intOf]; omega
      | false =>
        have HX : Hid (meetZ a b m = meetZ (a.drop (k + 1)) b m) := by show _ = _; rw [HA.out]; rfl
        go_wp2_with fail
        go_fit Q1
        rintro e w1 ⟨rfl, rfl⟩
        go_wp2_with fail
        go_fit Q2
        rintro e w1 ⟨rfl, rfl⟩
        go_wp2
        go_roundw
        case rel => exact ⟨k + 1, by omega, by go_num, HX.out, HK.out⟩
        case measure => simp [intOf]; omega
    · have HX : Hid (meetZ a b m = false) := by show _ = _; rw [HI.out, List.drop_of_length_le (by omega)]; rfl
      go_wp2
      go_ret
      rw [HX.out]
      exact ⟨rfl, HK.out⟩

end Go.Proofs.Ytijklginabipgaa
