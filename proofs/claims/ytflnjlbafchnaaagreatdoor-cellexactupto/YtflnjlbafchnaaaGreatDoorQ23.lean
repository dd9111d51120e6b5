/-
  Joined: WCx7, WKv13.
-/
import Derived.Test.YtflnjlbafchnaaaGreatDoorQ21
import Derived.Test.YtflnjlbafchnaaaGreatDoorQ22
import Derived.Test.YtflnjlbafchnaaaGreatDoorQ09
import Derived.Deep.DeepCutAuto
import Derived.Deep.LoopGhost
/-
  Cells: Take where it looks (the document's).
-/
namespace Go.Proofs.YtflnjlbafchnaaaGreatDoor
open Go.RowKit

set_option maxRecDepth 100000 in
set_option maxHeartbeats 1000000 in
theorem jtake4 (w : World) (b : Nat) (j : Jb) (K : Jk) (h : JdAt w b j K) (hp : j.ph = 4) (r : Rr) (ko : Option Addr) (kc : Nat) (hl : (r.v.length : Int) ≤ 4611686018427387904) :
    Calls Tryz.prog 33 #[.pointer (some ⟨b, 0, none⟩), rrV r ko kc] w (JdPost w b (j.answer r)) := by
  obtain ⟨W, hW⟩ : ∃ W, W = w.alloc (.cells #[.int .i64 r.kd, .string (bs r.v), .int .i64 r.n, .slice ko r.ks.length kc] 50) := ⟨_, rfl⟩
  obtain ⟨A, HAe⟩ : ∃ A, Hid (A = w.heap.size) := ⟨_, rfl⟩
  have KW : Hid (Kept Nil w W) := by rw [hW]; exact (Kept.refl _ _).alloc _
  have HA : Hid (W.heap[A]? = some (.cells #[.int .i64 r.kd, .string (bs r.v), .int .i64 r.n, .slice ko r.ks.length kc] 50 (0, 0))) := by rw [hW, HAe.out]; exact blk_new _ _
  have HJ : Hid (JdAt W b j K) := h.kept KW.out
  have hlb : b < W.heap.size := lt_of_block HJ.out
  have hlA : A < W.heap.size := lt_of_block HA.out
  have hbA : b ≠ A := by rw [HAe.out]; have := lt_of_block h; omega
  have hAb : A ≠ b := fun e => hbA e.symm
  have a0 : W.cell? ⟨A, 0, none⟩ = some (.int .i64 r.kd) := blk_at HA.out 0 rfl
  have a1 : W.cell? ⟨A, 1, none⟩ = some (.string (bs r.v)) := blk_at HA.out 1 rfl
  have a2 : W.cell? ⟨A, 2, none⟩ = some (.int .i64 r.n) := blk_at HA.out 2 rfl
  have a3 : W.cell? ⟨A, 3, none⟩ = some (.slice ko r.ks.length kc) := blk_at HA.out 3 rfl
  have q9 : W.cell? ⟨b, 9, none⟩ = some (.int .i64 j.sn.g) := blk_at HJ.out 9 rfl
  have q6 : W.cell? ⟨b, 6, none⟩ = some (.int .i64 5) := by
    have e : W.cell? ⟨b, 6, none⟩ = some (.int .i64 ((j.ph : Int) + 1)) := blk_at HJ.out 6 rfl
    rw [hp] at e
    exact e
  have f6 : W.frozen? ⟨b, 6, none⟩ = false := blk_free HJ.out 6
  have f9 : W.frozen? ⟨b, 9, none⟩ = false := blk_free HJ.out 9
  obtain ⟨u, Hu⟩ : ∃ u, Hid (u = j.answer r) := ⟨_, rfl⟩
  rw [← Hu.out]
  have HU : Hid (u = j.hasLooked r) := by show _ = _; rw [Hu.out]; unfold Jb.answer; rw [hp]; rfl
  clear h Hu hp
  unfold rrV
  by_cases c5 : 5 < r.kd
  · have HU2 : Hid (u = j) := by show _ = _; rw [HU.out]; exact if_pos c5
    obtain ⟨Y, hY⟩ : ∃ Y, Y = W := ⟨_, rfl⟩
    have HY : Hid ((∃ K, JdAt Y b u K) ∧ Kept (One b) w Y) := by rw [hY, HU2.out]; exact ⟨⟨_, HJ.out⟩, (kept_oneN KW.out)⟩
    clear HU2 HU
    go_enter Tryz.func33, Tryz.ntmps33
    go_upto_region 1 with fail
    rw [← hW, ← HAe.out]
    clear hW
    go_wp2
    rw [← hY]
    go_end0
    exact ⟨rfl, HY.out⟩
  · obtain ⟨c, Hc⟩ : ∃ c, Hid (c = sawC j.sn.g r) := ⟨_, rfl⟩
    obtain ⟨vv, Hv⟩ : ∃ v, Hid (v = versR r) := ⟨_, rfl⟩
    have y5 : ¬ (5 : Int) < r.kd := c5
    have SC : ∀ Y, Calls Tryz.prog 95 #[.int .i64 j.sn.g, .agg #[.int .i64 r.kd, .string (bs r.v), .int .i64 r.n, .slice ko r.ks.length kc]] Y fun e w' => e = .returned (.tuple #[.agg #[.int .i64 c.s, .int .i64 c.h, .int .i64 c.g, .int .i64 c.n, .string (bs c.v)], .int .i64 vv]) ∧ Kept Nil Y w' := fun Y => by
      rw [Hc.out, Hv.out]
      exact refSeenCell_any j.sn.g r ko kc hl Y
    go_enter Tryz.func33, Tryz.ntmps33
    go_upto_region 1 with fail
    rw [← hW, ← HAe.out]
    clear hW
    go_upto_region 19 with fail
    have SS : ∀ X, Kept Nil W X → (X.cell? ⟨b, 9, none⟩ = some (.int .i64 j.sn.g) ∧ X.cell? ⟨A, 0, none⟩ = some (.int .i64 r.kd) ∧ X.cell? ⟨A, 1, none⟩ = some (.string (bs r.v)) ∧ X.cell? ⟨A, 2, none⟩ = some (.int .i64 r.n) ∧ X.cell? ⟨A, 3, none⟩ = some (.slice ko r.ks.length kc)) := fun X kX =>
      ⟨blk_at (HJ.out.kept kX) 9 rfl, blk_at (kX.block _ _ HA.out (fun x => x.elim)) 0 rfl, blk_at (kX.block _ _ HA.out (fun x => x.elim)) 1 rfl, blk_at (kX.block _ _ HA.out (fun x => x.elim)) 2 rfl, blk_at (kX.block _ _ HA.out (fun x => x.elim)) 3 rfl⟩
    have hsz0 : W.heap.size ≤ W.heap.size := Nat.le_refl _
    have SG : ∀ X, Kept (fun q _ => W.heap.size ≤ q) W X → (X.cell? ⟨b, 9, none⟩ = some (.int .i64 j.sn.g) ∧ X.cell? ⟨A, 0, none⟩ = some (.int .i64 r.kd) ∧ X.cell? ⟨A, 1, none⟩ = some (.string (bs r.v)) ∧ X.cell? ⟨A, 2, none⟩ = some (.int .i64 r.n) ∧ X.cell? ⟨A, 3, none⟩ = some (.slice ko r.ks.length kc)) := fun X kX =>
      ⟨blk_at (kX.block _ _ HJ.out (fun x => absurd (show W.heap.size ≤ b from x) (by omega))) 9 rfl, blk_at (kX.block _ _ HA.out (fun x => absurd (show W.heap.size ≤ A from x) (by omega))) 0 rfl, blk_at (kX.block _ _ HA.out (fun x => absurd (show W.heap.size ≤ A from x) (by omega))) 1 rfl, blk_at (kX.block _ _ HA.out (fun x => absurd (show W.heap.size ≤ A from x) (by omega))) 2 rfl, blk_at (kX.block _ _ HA.out (fun x => absurd (show W.heap.size ≤ A from x) (by omega))) 3 rfl⟩
    go_region_held3 (fun w' => w'.cell? ⟨b, 9, none⟩ = some (.int .i64 j.sn.g) ∧ w'.cell? ⟨A, 0, none⟩ = some (.int .i64 r.kd) ∧ w'.cell? ⟨A, 1, none⟩ = some (.string (bs r.v)) ∧ w'.cell? ⟨A, 2, none⟩ = some (.int .i64 r.n) ∧ w'.cell? ⟨A, 3, none⟩ = some (.slice ko r.ks.length kc)) (first | (with_reducible assumption) | (refine SG _ ?_; repeat (first | (with_reducible exact KaG.out) | (with_reducible exact Kept.refl _ _) | (with_reducible refine Kept.drew ?_) | (with_reducible refine Kept.alloc ?_ _) | (with_reducible refine Kept.setCell ?_ (fun _ => ?_) _) | (first | exact Nat.le_refl _ | exact hsz)))) (first | (go_at_call 95; go_must (go_fit (SC _)); rintro _ wa ⟨rfl, ka⟩; have Ka : Hid (Kept Nil W wa) := Kept.trans (by repeat (first | exact Kept.refl _ _ | refine Kept.drew ?_ | refine Kept.alloc ?_ _)) ka; have sa := SS wa Ka.out; have hsz : W.heap.size ≤ wa.heap.size := Ka.out.size; have KaG : Hid (Kept (fun q _ => W.heap.size ≤ q) W wa) := Ka.out.mono (fun _ _ x => x.elim); (try (have P0 : Hid (wa.heap[W.heap.size]? = some (.cells #[.int .i64 0, .int .i64 0, .int .i64 0, .int .i64 0, .string ⟨#[]⟩] 140 (0, 0))) := ka.block _ _ (by first | exact blk_new W _ | exact blk_new W.drew _) (fun x => x); have P0c0 : wa.cell? ⟨W.heap.size, 0, none⟩ = some (.int .i64 0) := blk_at P0.out 0 rfl; have P0f0 := blk_free P0.out 0; have P0c1 : wa.cell? ⟨W.heap.size, 1, none⟩ = some (.int .i64 0) := blk_at P0.out 1 rfl; have P0f1 := blk_free P0.out 1; have P0c2 : wa.cell? ⟨W.heap.size, 2, none⟩ = some (.int .i64 0) := blk_at P0.out 2 rfl; have P0f2 := blk_free P0.out 2; have P0c3 : wa.cell? ⟨W.heap.size, 3, none⟩ = some (.int .i64 0) := blk_at P0.out 3 rfl; have P0f3 := blk_free P0.out 3; have P0c4 : wa.cell? ⟨W.heap.size, 4, none⟩ = some (.string ⟨#[]⟩) := blk_at P0.out 4 rfl; have P0f4 := blk_free P0.out 4; have P0l : W.heap.size < wa.heap.size := lt_of_block P0.out; have P0b : b ≠ W.heap.size := Nat.ne_of_lt hlb; have P0d : W.heap.size ≠ b := Nat.ne_of_gt hlb; have P0a : A ≠ W.heap.size := Nat.ne_of_lt hlA; have P0e : W.heap.size ≠ A := Nat.ne_of_gt hlA)); clear ka))
    · obtain ⟨X, hX⟩ : ∃ X, X = wa.alloc (.cells #[.int .i64 c.s, .int .i64 c.h, .int .i64 c.g, .int .i64 c.n, .string (bs c.v)] 140) := ⟨_, rfl⟩
      obtain ⟨D, hD⟩ : ∃ D, Hid (D = wa.heap.size) := ⟨_, rfl⟩
      have HX : Hid (CcAt X D c.s c.h c.g c.n c.v ∧ JdAt X b j K ∧ Kept (One b) w X ∧ b ≠ D) := by
        rw [hX, hD.out]
        exact ⟨blk_new _ _, (HJ.out.kept (Ka.out.alloc _)), kept_oneN (KW.out.trans (Ka.out.alloc _)), by omega⟩
      rw [← hX, ← hD.out]
      clear hX
      have HJX : Hid (JdAt X b j K) := HX.out.2.1
      have d1 : X.cell? ⟨D, 1, none⟩ = some (.int .i64 c.h) := blk_at HX.out.1 1 rfl
      have hbD : b ≠ D := HX.out.2.2.2
      have hDb : D ≠ b := fun e => hbD e.symm
      obtain ⟨Z, hZ⟩ : ∃ Z, Z = (X.setCell ⟨b, 18, none⟩ (.int .i64 vv)).setCell ⟨b, 6, none⟩ (.int .i64 7) := ⟨_, rfl⟩
      have HZ : Hid (JdAt Z b { j with sp := vv, ph := 6 } K ∧ Kept (One b) w Z) := by rw [hZ]; exact ⟨(HJX.out.s18 vv).s6 6, (HX.out.2.2.1.setCell (p := ⟨b, 18, none⟩) (fun _ => rfl) _).setCell (p := ⟨b, 6, none⟩) (fun _ => rfl) _⟩
      have x18 : X.cell? ⟨b, 18, none⟩ = some (.int .i64 j.sp) := blk_at HJX.out 18 rfl
      have y18 : X.frozen? ⟨b, 18, none⟩ = false := blk_free HJX.out 18
      have x6 : X.cell? ⟨b, 6, none⟩ = some (.int .i64 ((j.ph : Int) + 1)) := blk_at HJX.out 6 rfl
      have y6 : X.frozen? ⟨b, 6, none⟩ = false := blk_free HJX.out 6
      have DZ : Hid (Z.cell? ⟨D, 1, none⟩ = some (.int .i64 c.h)) := by rw [hZ]; exact blk_at ((((Kept.refl _ _).setCell (p := ⟨b, 18, none⟩) (fun _ => rfl) _).setCell (p := ⟨b, 6, none⟩) (fun _ => rfl) _ : Kept (One b) X _).block _ _ HX.out.1 (fun e => hDb e)) 1 rfl
      clear HX q9 q6 f9 f6 a0 a1 a2 a3
      go_wp2
      go_upto_region 22 with fail
      rw [← hZ]
      clear hZ d1 x18 y18 x6 y6
      have d1 := DZ.out
      have z8 : Z.cell? ⟨b, 8, none⟩ = some (.int .i64 j.sn.h) := blk_at HZ.out.1 8 rfl
      have z6 : Z.cell? ⟨b, 6, none⟩ = some (.int .i64 7) := blk_at HZ.out.1 6 rfl
      have v6 : Z.frozen? ⟨b, 6, none⟩ = false := blk_free HZ.out.1 6
      by_cases lt : c.h < j.sn.h
      · have e0 : (c.h : Int) < j.sn.h := by omega
        have HU2 : Hid (u = { j with sp := vv, ph := 5 }) := by show _ = _; rw [HU.out]; unfold Jb.hasLooked; rw [if_neg (show ¬ 5 < r.kd by omega), ← Hc.out, ← Hv.out, if_pos lt]
        clear lt
        go_region
        all_goals
          go_wp2
          go_end0
          exact ⟨rfl, ⟨_, by rw [HU2.out]; exact (JdAt.drew HZ.out.1).s6 5⟩, (HZ.out.2.drew).setCell (p := ⟨b, 6, none⟩) (fun _ => rfl) _⟩
      · have e0 : ¬ (c.h : Int) < j.sn.h := by omega
        have HU2 : Hid (u = { j with sp := vv, ph := 6 }) := by show _ = _; rw [HU.out]; unfold Jb.hasLooked; rw [if_neg (show ¬ 5 < r.kd by omega), ← Hc.out, ← Hv.out, if_neg lt]
        clear lt
        go_region
        all_goals
          go_wp2
          go_end0
          exact ⟨rfl, ⟨_, by rw [HU2.out]; exact JdAt.drew HZ.out.1⟩, HZ.out.2.drew⟩
    · obtain ⟨X, hX⟩ : ∃ X, X = (((((wa.setCell ⟨W.heap.size, 0, none⟩ (.int .i64 c.s)).setCell ⟨W.heap.size, 1, none⟩ (.int .i64 c.h)).setCell ⟨W.heap.size, 2, none⟩ (.int .i64 c.g)).setCell ⟨W.heap.size, 3, none⟩ (.int .i64 c.n)).setCell ⟨W.heap.size, 4, none⟩ (.string (bs c.v))) := ⟨_, rfl⟩
      obtain ⟨D, hD⟩ : ∃ D, Hid (D = W.heap.size) := ⟨_, rfl⟩
      have HX : Hid (CcAt X D c.s c.h c.g c.n c.v ∧ JdAt X b j K ∧ Kept (One b) w X ∧ b ≠ D) := by
        have P1 : CcAt wa W.heap.size 0 0 0 0 [] := P0.out
        have kk : Kept Nil W X := by rw [hX]; exact (((((Ka.out.setNew (p := ⟨W.heap.size, 0, none⟩) (Nat.le_refl _) _).setNew (p := ⟨W.heap.size, 1, none⟩) (Nat.le_refl _) _).setNew (p := ⟨W.heap.size, 2, none⟩) (Nat.le_refl _) _).setNew (p := ⟨W.heap.size, 3, none⟩) (Nat.le_refl _) _).setNew (p := ⟨W.heap.size, 4, none⟩) (Nat.le_refl _) _)
        rw [hX, hD.out]
        rw [hX] at kk
        exact ⟨((((P1.s0 c.s).s1 c.h).s2 c.g).s3 c.n).s4 c.v, HJ.out.kept kk, kept_oneN (KW.out.trans kk), by omega⟩
      rw [← hX, ← hD.out]
      clear hX P0c0 P0c1 P0c2 P0c3 P0c4 P0f0 P0f1 P0f2 P0f3 P0f4
      have HJX : Hid (JdAt X b j K) := HX.out.2.1
      have d1 : X.cell? ⟨D, 1, none⟩ = some (.int .i64 c.h) := blk_at HX.out.1 1 rfl
      have hbD : b ≠ D := HX.out.2.2.2
      have hDb : D ≠ b := fun e => hbD e.symm
      obtain ⟨Z, hZ⟩ : ∃ Z, Z = (X.setCell ⟨b, 18, none⟩ (.int .i64 vv)).setCell ⟨b, 6, none⟩ (.int .i64 7) := ⟨_, rfl⟩
      have HZ : Hid (JdAt Z b { j with sp := vv, ph := 6 } K ∧ Kept (One b) w Z) := by rw [hZ]; exact ⟨(HJX.out.s18 vv).s6 6, (HX.out.2.2.1.setCell (p := ⟨b, 18, none⟩) (fun _ => rfl) _).setCell (p := ⟨b, 6, none⟩) (fun _ => rfl) _⟩
      have x18 : X.cell? ⟨b, 18, none⟩ = some (.int .i64 j.sp) := blk_at HJX.out 18 rfl
      have y18 : X.frozen? ⟨b, 18, none⟩ = false := blk_free HJX.out 18
      have x6 : X.cell? ⟨b, 6, none⟩ = some (.int .i64 ((j.ph : Int) + 1)) := blk_at HJX.out 6 rfl
      have y6 : X.frozen? ⟨b, 6, none⟩ = false := blk_free HJX.out 6
      have DZ : Hid (Z.cell? ⟨D, 1, none⟩ = some (.int .i64 c.h)) := by rw [hZ]; exact blk_at ((((Kept.refl _ _).setCell (p := ⟨b, 18, none⟩) (fun _ => rfl) _).setCell (p := ⟨b, 6, none⟩) (fun _ => rfl) _ : Kept (One b) X _).block _ _ HX.out.1 (fun e => hDb e)) 1 rfl
      clear HX q9 q6 f9 f6 a0 a1 a2 a3
      go_wp2
      go_upto_region 22 with fail
      rw [← hZ]
      clear hZ d1 x18 y18 x6 y6
      have d1 := DZ.out
      have z8 : Z.cell? ⟨b, 8, none⟩ = some (.int .i64 j.sn.h) := blk_at HZ.out.1 8 rfl
      have z6 : Z.cell? ⟨b, 6, none⟩ = some (.int .i64 7) := blk_at HZ.out.1 6 rfl
      have v6 : Z.frozen? ⟨b, 6, none⟩ = false := blk_free HZ.out.1 6
      by_cases lt : c.h < j.sn.h
      · have e0 : (c.h : Int) < j.sn.h := by omega
        have HU2 : Hid (u = { j with sp := vv, ph := 5 }) := by show _ = _; rw [HU.out]; unfold Jb.hasLooked; rw [if_neg (show ¬ 5 < r.kd by omega), ← Hc.out, ← Hv.out, if_pos lt]
        clear lt
        go_region
        all_goals
          go_wp2
          go_end0
          exact ⟨rfl, ⟨_, by rw [HU2.out]; exact (JdAt.drew HZ.out.1).s6 5⟩, (HZ.out.2.drew).setCell (p := ⟨b, 6, none⟩) (fun _ => rfl) _⟩
      · have e0 : ¬ (c.h : Int) < j.sn.h := by omega
        have HU2 : Hid (u = { j with sp := vv, ph := 6 }) := by show _ = _; rw [HU.out]; unfold Jb.hasLooked; rw [if_neg (show ¬ 5 < r.kd by omega), ← Hc.out, ← Hv.out, if_neg lt]
        clear lt
        go_region
        all_goals
          go_wp2
          go_end0
          exact ⟨rfl, ⟨_, by rw [HU2.out]; exact JdAt.drew HZ.out.1⟩, HZ.out.2.drew⟩
end Go.Proofs.YtflnjlbafchnaaaGreatDoor

/-
  kv: the document's get and put.
-/
namespace Go.Proofs.YtflnjlbafchnaaaGreatDoor
open Go.RowKit

theorem src_kv {w : World} (z : Pr) : Src Tryz.prog 3 55 (.slice (some ⟨w.heap.size, 0, none⟩) 1 1) 1 [.string (bs z.k), .string (bs z.v), .int .i64 z.n] (w.alloc (.cells #[.string (bs z.k), .string (bs z.v), .int .i64 z.n] 63)) := by
  refine Src.ofSlice _ Tryz.underlying55 _ 1 1 _ rfl ?_ ?_
  · intro j u hj
    match j, hj with
    | 0, hj | 1, hj | 2, hj =>
      simp at hj
      subst hj
      simp [Addr.add]
  · intro u hu
    simp at hu
    rcases hu with rfl | rfl | rfl <;> rfl

set_option maxRecDepth 100000 in
set_option maxHeartbeats 1000000 in
theorem refGet_any (B c : Nat) (ao : Option Addr) (ps : List Pr) (key : List UInt8) (w : World) (h : PairRow B w ao ps) (hs : Srt ps) (hl : (ps.length : Int) ≤ 9223372036854775807) :
    Calls Tryz.prog 132 #[.slice ao ps.length c, .string (bs key)] w fun e w' => e = .returned (.int .i64 (getP key ps)) ∧ w' = w := by
  have HR : Hid (PairRow B w ao ps) := h
  have HS : Hid (Srt ps) := hs
  have ht := bs_toList
  clear h hs
  go_enter Tryz.func132, Tryz.ntmps132
  go_wp2
  go_loopw [5] (fun i wr => ∃ k : Nat, k ≤ ps.length ∧ i = .int .i64 k ∧ Hid (∀ j, (hj : j < ps.length) → j < k → ps[j].k ≠ key) ∧ wr = w) (fun i _ => ps.length - (intOf i).toNat)
  case atStart => exact ⟨0, Nat.zero_le _, rfl, fun j _ h => by omega, rfl⟩
  case round =>
    obtain ⟨k, hk, rfl, HN, rfl⟩ := hrel
    by_cases hlt : k < ps.length
    · obtain ⟨a, rfl, hb, hc0, hc1, hc2, _, _⟩ := HR.out k hlt
      have hki : (k : Int) < ps.length := by omega
      obtain ⟨y, HY⟩ : ∃ y : List UInt8, Hid (y = ps[k].k) := ⟨ps[k].k, (rfl : ps[k].k = ps[k].k)⟩
      rw [← HY.out] at hc0
      by_cases he : y = key
      · subst he
        go_wp2
        go_ret
        exact ⟨by rw [getP_hit HS.out hlt HY.out.symm]; rfl, rfl⟩
      · have heb : (y == key) = false := beq_eq_false_iff_ne.2 he
        have HNE : Hid (y ≠ key) := he
        go_wp2
        go_roundw
        case rel => exact ⟨k + 1, by omega, by go_num, fun j hj hjk => (by
          by_cases e : j = k
          · subst e; rw [← HY.out]; exact HNE.out
          · exact HN.out j hj (by omega)), trivial⟩
        case measure => simp [intOf]; omega
    · obtain rfl : k = ps.length := by omega
      go_wp2
      go_ret
      exact ⟨by rw [getP_miss (fun j hj => HN.out j hj hj)]; rfl, rfl⟩

/-- What the document's call leaves: the pairs that came, or new ones; a result; all else as it was. -/
def RefApPost (w : World) (ao : Option Addr) (c : Nat) (ps PS : List Pr) (r : Rr) (e : Ending) (w' : World) : Prop :=
  ∃ ao' c' ko kc, e = .returned (.tuple #[.slice ao' PS.length c', rrV r ko kc]) ∧ ((PS = ps ∧ ao' = ao ∧ c' = c) ∨ OwnP w.heap.size w' ao' c' PS) ∧ OwnK w.heap.size w' ko kc r.ks ∧ Kept Nil w w'
theorem room_no {ps : List Pr} {n : Int} {x : List UInt8} (h : roomB ps.length n x = false) (key : List UInt8) (i : Nat) : putP key x n i ps = ps ∧ putRr x n ps.length = ⟨4, [], 0, []⟩ := ⟨if_pos h, if_pos h⟩
theorem room_yes {ps : List Pr} {n : Int} {x : List UInt8} (h : roomB ps.length n x = true) (key : List UInt8) (i : Nat) : putP key x n i ps = (if n = 0 then insP i ⟨key, x, n + 1⟩ ps else ps.set i ⟨key, x, n + 1⟩) ∧ putRr x n ps.length = ⟨1, [], n + 1, []⟩ := ⟨if_neg (by rw [h]; simp), if_neg (by rw [h]; simp)⟩
set_option maxRecDepth 100000 in
set_option maxHeartbeats 4000000 in
theorem refPutN_any (B c : Nat) (ao : Option Addr) (ps : List Pr) (key val : List UInt8) (w : World) (h : PairRow B w ao ps) (hok : pairsOk ps = true) (hrm : roomB ps.length (spotN key ps) val = false) :
    Calls Tryz.prog 133 #[.slice ao ps.length c, .string (bs key), .string (bs val)] w (RefApPost w ao c ps (putP key val (spotN key ps) (lowP key ps) ps) (putRr val (spotN key ps) ps.length)) := by
  obtain ⟨i0, hi, hz0, hz1, hz2⟩ := info_parts Tryz.infoPr
  obtain ⟨hl32, hsrt, hpr⟩ := pairs_ok hok
  obtain ⟨s1, s2, s3, _⟩ := spot_ok hok key
  obtain ⟨W, hW⟩ : ∃ W, W = w.alloc (.cells #[.int .i64 0, .string ⟨#[]⟩, .int .i64 0, .slice none 0 0] 50) := ⟨_, rfl⟩
  have KW : Hid (Kept Nil w W) := by rw [hW]; exact (Kept.refl _ _).alloc _
  have HN9 : Hid (W.heap[w.heap.size]? = some (.cells #[.int .i64 0, .string ⟨#[]⟩, .int .i64 0, .slice none 0 0] 50 (0, 0))) := by rw [hW]; exact blk_new _ _
  have HPW : Hid (New w w.heap.size) := Nat.le_refl _
  have HR : Hid (PairRow B W ao ps) := h.nil KW.out
  have GET := refGet_any B c ao ps key W HR.out hsrt (by omega)
  have hds : (bs val).size = val.length := bs_size _
  obtain ⟨n, HNn⟩ : ∃ n, Hid (n = spotN key ps) := ⟨_, rfl⟩
  rw [← HNn.out] at s1 s2 s3 hrm ⊢
  obtain ⟨PS, HPS⟩ : ∃ PS, Hid (PS = putP key val n (lowP key ps) ps) := ⟨_, rfl⟩
  obtain ⟨RR, HRR⟩ : ∃ RR, Hid (RR = putRr val n ps.length) := ⟨_, rfl⟩
  rw [← HPS.out, ← HRR.out]
  have HSrt : Hid (Srt ps) := hsrt
  have hpi : (ps.length : Int) ≤ 32 := by omega
  clear h hsrt
  have HE : Hid (PS = ps ∧ RR = ⟨4, [], 0, []⟩) := ⟨by rw [HPS.out]; exact (room_no hrm key _).1, by rw [HRR.out]; exact (room_no hrm key 0).2⟩
  by_cases h64 : val.length ≤ 64
  · have h64i : (val.length : Int) ≤ 64 := by omega
    cases ht : isThere key ps with
    | true =>
      obtain ⟨hlow, _, _, e3⟩ := there_at ht
      have hn0 : n ≠ 0 := s2.2 ht
      have hmx : n = 1099511627775 := by
        have hb := (prOk_iff (hpr _ (List.getElem_mem hlow))).2.2.2.2
        rw [← e3, ← HNn.out] at hb
        unfold roomB at hrm
        simp [hn0, h64] at hrm
        omega
      have hg : getP key ps = (lowP key ps : Int) := by unfold getP; rw [ht]; rfl
      rw [hg] at GET
      obtain ⟨a, rfl, _, _, _, hc2, _, _⟩ := HR.out (lowP key ps) hlow
      rw [← e3, ← HNn.out, hmx] at hc2
      have hki : ((lowP key ps : Nat) : Int) < ps.length := by omega
      generalize lowP key ps = q at *
      go_enter Tryz.func133, Tryz.ntmps133
      go_wp2_with fail
      rw [← hW]
      generalize w.heap.size = pr at *
      clear hW
      go_fit GET
      rintro _ W ⟨rfl, rfl⟩
      have r0 : W.cell? ⟨pr, 0, none⟩ = some (.int .i64 0) := blk_at HN9.out 0 rfl
      have r1 : W.cell? ⟨pr, 1, none⟩ = some (.string ⟨#[]⟩) := blk_at HN9.out 1 rfl
      have r2 : W.cell? ⟨pr, 2, none⟩ = some (.int .i64 0) := blk_at HN9.out 2 rfl
      have r3 : W.cell? ⟨pr, 3, none⟩ = some (.slice none 0 0) := blk_at HN9.out 3 rfl
      have z0 : W.frozen? ⟨pr, 0, none⟩ = false := blk_free HN9.out 0
      have z1 : W.frozen? ⟨pr, 1, none⟩ = false := blk_free HN9.out 1
      have z2 : W.frozen? ⟨pr, 2, none⟩ = false := blk_free HN9.out 2
      have z3 : W.frozen? ⟨pr, 3, none⟩ = false := blk_free HN9.out 3
      obtain ⟨V, hV⟩ : ∃ V, V = (((W.setCell ⟨pr, 0, none⟩ (.int .i64 4)).setCell ⟨pr, 1, none⟩ (.string ⟨#[]⟩)).setCell ⟨pr, 2, none⟩ (.int .i64 0)).setCell ⟨pr, 3, none⟩ (.slice none 0 0) := ⟨_, rfl⟩
      have HV : Hid (V.heap[pr]? = some (.cells #[.int .i64 4, .string ⟨#[]⟩, .int .i64 0, .slice none 0 0] 50 (0, 0)) ∧ Kept Nil w V) := by
        rw [hV]
        exact ⟨blk_set (blk_set (blk_set (blk_set HN9.out 0 _) 1 _) 2 _) 3 _, (((KW.out.setNew (p := ⟨pr, 0, none⟩) HPW.out _).setNew (p := ⟨pr, 1, none⟩) HPW.out _).setNew (p := ⟨pr, 2, none⟩) HPW.out _).setNew (p := ⟨pr, 3, none⟩) HPW.out _⟩
      go_wp2
      rw [← hV]
      clear hV r0 r1 r2 r3
      have j0 := blk_at HV.out.1 0 rfl
      have j1 := blk_at HV.out.1 1 rfl
      have j2 := blk_at HV.out.1 2 rfl
      have j3 := blk_at HV.out.1 3 rfl
      exact bodyPost_ret (v := .tuple #[.slice (some a) ps.length c, rrV ⟨4, [], 0, []⟩ none 0]) (by simp [results, Tryz.results133, go_sem, j0, j1, j2, j3, rrV, bs]) rfl ⟨some a, c, none, 0, by rw [HE.out.1, HE.out.2], by rw [HE.out.1]; exact .inl ⟨rfl, rfl, rfl⟩, by rw [HE.out.2]; exact OwnK.nil _ _, HV.out.2⟩
    | false =>
      have hn0 : n = 0 := by
        by_cases e : n = 0
        · exact e
        · rw [s2.1 e] at ht; cases ht
      have hmx : ps.length = 32 := by
        unfold roomB at hrm
        simp [hn0, h64] at hrm
        exact hrm
      have hmb : ((ps.length : Int) == 32) = true := by rw [beq_iff_eq]; omega
      clear hmx hrm
      have hg : getP key ps = -1 := by unfold getP; rw [ht]; rfl
      rw [hg] at GET
      go_enter Tryz.func133, Tryz.ntmps133
      go_wp2_with fail
      rw [← hW]
      generalize w.heap.size = pr at *
      clear hW
      go_fit GET
      rintro _ W ⟨rfl, rfl⟩
      have r0 : W.cell? ⟨pr, 0, none⟩ = some (.int .i64 0) := blk_at HN9.out 0 rfl
      have r1 : W.cell? ⟨pr, 1, none⟩ = some (.string ⟨#[]⟩) := blk_at HN9.out 1 rfl
      have r2 : W.cell? ⟨pr, 2, none⟩ = some (.int .i64 0) := blk_at HN9.out 2 rfl
      have r3 : W.cell? ⟨pr, 3, none⟩ = some (.slice none 0 0) := blk_at HN9.out 3 rfl
      have z0 : W.frozen? ⟨pr, 0, none⟩ = false := blk_free HN9.out 0
      have z1 : W.frozen? ⟨pr, 1, none⟩ = false := blk_free HN9.out 1
      have z2 : W.frozen? ⟨pr, 2, none⟩ = false := blk_free HN9.out 2
      have z3 : W.frozen? ⟨pr, 3, none⟩ = false := blk_free HN9.out 3
      obtain ⟨V, hV⟩ : ∃ V, V = (((W.setCell ⟨pr, 0, none⟩ (.int .i64 4)).setCell ⟨pr, 1, none⟩ (.string ⟨#[]⟩)).setCell ⟨pr, 2, none⟩ (.int .i64 0)).setCell ⟨pr, 3, none⟩ (.slice none 0 0) := ⟨_, rfl⟩
      have HV : Hid (V.heap[pr]? = some (.cells #[.int .i64 4, .string ⟨#[]⟩, .int .i64 0, .slice none 0 0] 50 (0, 0)) ∧ Kept Nil w V) := by
        rw [hV]
        exact ⟨blk_set (blk_set (blk_set (blk_set HN9.out 0 _) 1 _) 2 _) 3 _, (((KW.out.setNew (p := ⟨pr, 0, none⟩) HPW.out _).setNew (p := ⟨pr, 1, none⟩) HPW.out _).setNew (p := ⟨pr, 2, none⟩) HPW.out _).setNew (p := ⟨pr, 3, none⟩) HPW.out _⟩
      go_wp2
      rw [← hV]
      clear hV r0 r1 r2 r3
      have j0 := blk_at HV.out.1 0 rfl
      have j1 := blk_at HV.out.1 1 rfl
      have j2 := blk_at HV.out.1 2 rfl
      have j3 := blk_at HV.out.1 3 rfl
      exact bodyPost_ret (v := .tuple #[.slice ao ps.length c, rrV ⟨4, [], 0, []⟩ none 0]) (by simp [results, Tryz.results133, go_sem, j0, j1, j2, j3, rrV, bs]) rfl ⟨ao, c, none, 0, by rw [HE.out.1, HE.out.2], by rw [HE.out.1]; exact .inl ⟨rfl, rfl, rfl⟩, by rw [HE.out.2]; exact OwnK.nil _ _, HV.out.2⟩
  · have h64i : ¬ (val.length : Int) ≤ 64 := by omega
    go_enter Tryz.func133, Tryz.ntmps133
    go_wp2_with fail
    rw [← hW]
    generalize w.heap.size = pr at *
    clear hW
    go_fit GET
    rintro _ W ⟨rfl, rfl⟩
    have r0 : W.cell? ⟨pr, 0, none⟩ = some (.int .i64 0) := blk_at HN9.out 0 rfl
    have r1 : W.cell? ⟨pr, 1, none⟩ = some (.string ⟨#[]⟩) := blk_at HN9.out 1 rfl
    have r2 : W.cell? ⟨pr, 2, none⟩ = some (.int .i64 0) := blk_at HN9.out 2 rfl
    have r3 : W.cell? ⟨pr, 3, none⟩ = some (.slice none 0 0) := blk_at HN9.out 3 rfl
    have z0 : W.frozen? ⟨pr, 0, none⟩ = false := blk_free HN9.out 0
    have z1 : W.frozen? ⟨pr, 1, none⟩ = false := blk_free HN9.out 1
    have z2 : W.frozen? ⟨pr, 2, none⟩ = false := blk_free HN9.out 2
    have z3 : W.frozen? ⟨pr, 3, none⟩ = false := blk_free HN9.out 3
    obtain ⟨V, hV⟩ : ∃ V, V = (((W.setCell ⟨pr, 0, none⟩ (.int .i64 4)).setCell ⟨pr, 1, none⟩ (.string ⟨#[]⟩)).setCell ⟨pr, 2, none⟩ (.int .i64 0)).setCell ⟨pr, 3, none⟩ (.slice none 0 0) := ⟨_, rfl⟩
    have HV : Hid (V.heap[pr]? = some (.cells #[.int .i64 4, .string ⟨#[]⟩, .int .i64 0, .slice none 0 0] 50 (0, 0)) ∧ Kept Nil w V) := by
      rw [hV]
      exact ⟨blk_set (blk_set (blk_set (blk_set HN9.out 0 _) 1 _) 2 _) 3 _, (((KW.out.setNew (p := ⟨pr, 0, none⟩) HPW.out _).setNew (p := ⟨pr, 1, none⟩) HPW.out _).setNew (p := ⟨pr, 2, none⟩) HPW.out _).setNew (p := ⟨pr, 3, none⟩) HPW.out _⟩
    go_wp2
    rw [← hV]
    clear hV r0 r1 r2 r3
    have j0 := blk_at HV.out.1 0 rfl
    have j1 := blk_at HV.out.1 1 rfl
    have j2 := blk_at HV.out.1 2 rfl
    have j3 := blk_at HV.out.1 3 rfl
    exact bodyPost_ret (v := .tuple #[.slice ao ps.length c, rrV ⟨4, [], 0, []⟩ none 0]) (by simp [results, Tryz.results133, go_sem, j0, j1, j2, j3, rrV, bs]) rfl ⟨ao, c, none, 0, by rw [HE.out.1, HE.out.2], by rw [HE.out.1]; exact .inl ⟨rfl, rfl, rfl⟩, by rw [HE.out.2]; exact OwnK.nil _ _, HV.out.2⟩

end Go.Proofs.YtflnjlbafchnaaaGreatDoor
