/-
  SessionOnce: the walk.
-/
import Derived.Test.YtilolhjlokfkeaaWSo2
import Derived.Test.YtilolhjlokfkeaaWTorn2
import Derived.Deep.DeepCutAuto
namespace Go.Proofs.Ytilolhjlokfkeaa
open Go.RowKit

theorem conv_oneS (w : World) (t : Nat) (ht : t < 256) :
    (convert 81 9 (.slice (some ⟨w.heap.size, 0, none⟩) 1 1)).run Try.prog (w.alloc (.cells #[.int .u8 t] 5)) = .ok (.string (bs [UInt8.ofNat t])) (w.alloc (.cells #[.int .u8 t] 5)) := by
  refine run_convert_bytes_back _ 81 9 5 ⟨w.heap.size, 0, none⟩ 1 [UInt8.ofNat t] Try.underlying81 Try.underlying5 Try.underlying9 ?_
  intro j hj
  obtain rfl : j = 0 := by simpa using hj
  have := blk_at (blk_new w (.cells #[.int .u8 t] 5)) 0 rfl
  simp [Addr.add, this]
  omega

theorem so_stale2 {k : Nat} {v : List UInt8} {nu : Int} (d : UInt8) (ix : Int) (hk : k ≤ 60) (hv : v.length ≤ 64) (h0 : 0 ≤ nu) (h1 : nu ≤ k) : sesT (pk (k + 1) v) [sk (k + 1)] 0 5 nu 5 [107] [d] 0 0 ix = (pk (k + 1) v, [sk (k + 1)], 0, ⟨6, [], 0, []⟩) := so_stale d ix hk hv h0 h1
theorem so_gap2 {k : Nat} {v : List UInt8} {nu : Int} (d : UInt8) (ix : Int) (hk : k ≤ 60) (hv : v.length ≤ 64) (h0 : (k : Int) + 3 ≤ nu) (h1 : nu ≤ 1099511627775) : sesT (pk (k + 1) v) [sk (k + 1)] 0 5 nu 5 [107] [d] 0 0 ix = (pk (k + 1) v, [sk (k + 1)], 0, ⟨7, [], 0, []⟩) := so_gap d ix hk hv h0 h1

set_option maxRecDepth 100000 in
set_option maxHeartbeats 40000000 in
theorem sessionOnce_any (B tc gc : Nat) (tb gb : Option Addr) (ts gs : List Int) (w : World) (ht : IntRow B w tb ts) (hg : IntRow B w gb gs) (hlt : (ts.length : Int) ≤ 9223372036854775807) (hlg : (gs.length : Int) ≤ 9223372036854775807) :
    Calls Try.prog 8 #[.slice tb ts.length tc, .slice gb gs.length gc] w fun e w' => e = .returned (.bool true) ∧ Kept Nil w w' := by
  have R0 := ses_any w.heap.size 0 0 0 0 0 0 0 0 5 [] [] none none [] [] w (fun j hj => absurd hj (by simp)) (fun j hj => absurd hj (by simp)) (fun _ => ⟨rfl, rfl⟩) (fun _ => ⟨rfl, rfl⟩) (by simp) (by simp) (Nat.le_refl _) (by unfold maxLen; simp) (by unfold maxLen; simp)
  rw [show sesT [] (([] : List Se).map Se.s) 0 0 0 0 [] [] 0 0 5 = (pk 0 [], [sk 0], 0, ⟨1, [], 5, []⟩) from so_first] at R0
  have HT : Hid (IntRow B w tb ts) := ht
  have HG : Hid (IntRow B w gb gs) := hg
  clear ht hg
  by_cases hbig : 16384 < ts.length ∨ 16384 < gs.length
  · by_cases h3 : 16384 < ts.length
    · have h3i : (16384 : Int) < ts.length := by omega
      clear R0
      go_enter Try.func8, Try.ntmps8
      go_wp2
      go_ret
      exact ⟨rfl, Kept.refl _ _⟩
    · have h3i : ¬ (16384 : Int) < ts.length := by omega
      have h4i : (16384 : Int) < gs.length := by omega
      clear R0
      go_enter Try.func8, Try.ntmps8
      go_wp2
      go_ret
      exact ⟨rfl, Kept.refl _ _⟩
  · have h1 : ¬ (ts.length : Int) > 16384 := by omega
    have h2 : ¬ (gs.length : Int) > 16384 := by omega
    have h1b : decide ((16384 : Int) < ts.length) = false := decide_eq_false (by omega)
    have h2b : decide ((16384 : Int) < gs.length) = false := decide_eq_false (by omega)
    go_enter Try.func8, Try.ntmps8
    go_wp2_with fail
    go_fit R0
    rintro _ w1 ⟨a1, c1, a2, c2, xs, ko, kc, rfl, m1, o1, e1, s1, _, _, kk⟩
    unfold rrV
    dsimp only
    obtain ⟨W2, hW2⟩ : ∃ W2, W2 = (w1.alloc (.cells #[.slice a1 (pk 0 []).length c1, .slice a2 xs.length c2, .int .i64 0] 70)).alloc (.cells #[.int .i64 1, .string (bs []), .int .i64 5, .slice ko 0 kc] 55) := ⟨_, rfl⟩
    obtain ⟨A5, H5⟩ : ∃ A5, Hid (A5 = w1.heap.size) := ⟨_, rfl⟩
    obtain ⟨A6, H6⟩ : ∃ A6, Hid (A6 = w1.heap.size + 1) := ⟨_, rfl⟩
    have K12 : Hid (Kept Nil w1 W2) := by rw [hW2]; exact ((Kept.refl _ _).alloc _).alloc _
    have B5 : Hid (W2.heap[A5]? = some (.cells #[.slice a1 (pk 0 []).length c1, .slice a2 xs.length c2, .int .i64 0] 70 (0, 0))) := by rw [hW2, H5.out]; exact blk_past (blk_new _ _) _
    have B6 : Hid (W2.heap[A6]? = some (.cells #[.int .i64 1, .string (bs []), .int .i64 5, .slice ko 0 kc] 55 (0, 0))) := by
      rw [hW2, H6.out]
      have := blk_new (w1.alloc (.cells #[.slice a1 (pk 0 []).length c1, .slice a2 xs.length c2, .int .i64 0] 70)) (.cells #[.int .i64 1, .string (bs []), .int .i64 5, .slice ko 0 kc] 55)
      show _ = _
      simpa using this
    have HOT0 : Hid (OT w W2 A5 (pk 0 []) [sk 0] a1 a2 c1 c2 xs) := ⟨B5.out, o1.kept K12.out, e1.kept K12.out, (OwnKs.kept s1 K12.out), m1, kk.trans K12.out, by rw [H5.out]; exact kk.size⟩
    have HNE : Hid (A5 ≠ A6 ∧ w.heap.size ≤ A6) := by
      have h1 := H5.out
      have h2 := H6.out
      have h3 := kk.size
      exact ⟨by omega, by omega⟩
    go_upto_region 4 with fail
    rw [← hW2, ← H6.out, ← H5.out]
    clear hW2 m1 o1 e1 s1 kk K12 R0
    have x0 : W2.cell? ⟨A6, 0, none⟩ = some (.int .i64 1) := blk_at B6.out 0 rfl
    have x2 : W2.cell? ⟨A6, 2, none⟩ = some (.int .i64 5) := blk_at B6.out 2 rfl
    go_wp2_with fail
    clear x0 x2
    go_loopg [7, 8] (ts.length + 1) (fun g s7 s8 wr => ∃ k : Nat, ∃ v : List UInt8, ∃ a1 a2 c1 c2 xs, ∃ b0 b1 b2 b3 : Value, k ≤ ts.length ∧ k ≤ 60 ∧ g = ts.length + 1 - k ∧ s7 = .string (bs v) ∧ s8 = .int .i64 k ∧ Hid (v.length = k) ∧ Hid (OT w wr A5 (pk k v) [sk k] a1 a2 c1 c2 xs) ∧ Hid (wr.heap[A6]? = some (.cells #[b0, b1, b2, b3] 55 (0, 0))))
    case atStart => exact ⟨0, [], a1, a2, c1, c2, xs, _, _, _, _, Nat.zero_le _, by omega, rfl, rfl, rfl, rfl, HOT0.out, B6.out⟩
    case round =>
      obtain ⟨k, v, a1, a2, c1, c2, xs, b0, b1, b2, b3, hkt, hk60, rfl, rfl, rfl, HVL, HOT, B6r⟩ := hrel
      rename World => wr
      clear HOT0 B6 B5 H5 H6
      by_cases hlt : k < ts.length ∧ k < 60
      · obtain ⟨hlt1, hlt2⟩ := hlt
        have hi1 : (k : Int) < ts.length := by omega
        have hi2 : (k : Int) < 60 := by omega
        obtain ⟨a, rfl, _, hcell⟩ := (HT.out.nil HOT.out.kept) k hlt1
        obtain ⟨t, HTt⟩ : ∃ t, Hid (t = ts[k]) := ⟨_, (rfl : ts[k] = ts[k])⟩
        rw [← HTt.out] at hcell
        obtain ⟨x, hx⟩ : ∃ x : Nat, t % 26 = (x : Int) := ⟨(t % 26).toNat, by have := Int.emod_nonneg t (show (26 : Int) ≠ 0 by omega); omega⟩
        have hx26 : (x : Int) < 26 := by rw [← hx]; exact Int.emod_lt_of_pos t (by decide)
        have PK := fun w' => pick_any t 26 w' (by decide) (by decide)
        rw [hx] at PK
        clear hx
        go_wp2_with fail
        go_fit (PK _)
        rintro _ w9 ⟨rfl, h9⟩
        rw [h9]
        clear h9 PK
        have hcv := conv_oneS wr (97 + x) (by omega)
        rw [show ((97 + x : Nat) : Int) = 97 + (x : Int) by omega] at hcv
        generalize UInt8.ofNat (97 + x) = b at hcv
        obtain ⟨D1, hD1⟩ : ∃ D1, D1 = wr.alloc (.cells #[.int .u8 (97 + (x : Int))] 5) := ⟨_, rfl⟩
        have KD1 : Hid (Kept Nil wr D1) := by rw [hD1]; exact (Kept.refl _ _).alloc _
        go_upto_region 11 with fail
        rw [← hD1]
        clear hD1 hcv
        obtain ⟨X, hX⟩ : ∃ X, X = (D1.alloc (.cells #[.int .i64 5, .int .i64 ((k : Int) + 1), .int .i64 5, .string ⟨#[107]⟩, .string (bs [b]), .int .i64 0, .int .i64 0] 75)).alloc (.cells #[.int .i64 0, .string ⟨#[]⟩, .int .i64 0, .slice none 0 0] 55) := ⟨_, rfl⟩
        obtain ⟨A10, H10⟩ : ∃ A10, Hid (A10 = D1.heap.size) := ⟨_, rfl⟩
        obtain ⟨A11, H11e⟩ : ∃ A11, Hid (A11 = D1.heap.size + 1) := ⟨_, rfl⟩
        have KDX : Hid (Kept Nil D1 X) := by rw [hX]; exact ((Kept.refl _ _).alloc _).alloc _
        have B10 : Hid (X.heap[A10]? = some (.cells #[.int .i64 5, .int .i64 ((k : Int) + 1), .int .i64 5, .string (bs [107]), .string (bs [b]), .int .i64 0, .int .i64 0] 75 (0, 0))) := by rw [hX, H10.out]; exact blk_past (blk_new _ _) _
        have B11 : Hid (X.heap[A11]? = some (.cells #[.int .i64 0, .string ⟨#[]⟩, .int .i64 0, .slice none 0 0] 55 (0, 0))) := by
          rw [hX, H11e.out]
          have := blk_new (D1.alloc (.cells #[.int .i64 5, .int .i64 ((k : Int) + 1), .int .i64 5, .string ⟨#[107]⟩, .string (bs [b]), .int .i64 0, .int .i64 0] 75)) (.cells #[.int .i64 0, .string ⟨#[]⟩, .int .i64 0, .slice none 0 0] 55)
          show _ = _
          simpa using this
        have KX : Hid (Kept Nil wr X) := KD1.out.trans KDX.out
        have HOX : Hid (OT w X A5 (pk k v) [sk k] a1 a2 c1 c2 xs) := HOT.out.next KX.out
        have B6x : Hid (X.heap[A6]? = some (.cells #[b0, b1, b2, b3] 55 (0, 0))) := KX.out.block _ _ B6r.out (fun x => x.elim)
        have HD9 : Hid (A5 < D1.heap.size ∧ A6 < D1.heap.size ∧ w.heap.size ≤ D1.heap.size) := ⟨Nat.lt_of_lt_of_le (lt_of_block HOT.out.blk) KD1.out.size, Nat.lt_of_lt_of_le (lt_of_block B6r.out) KD1.out.size, Nat.le_trans HOT.out.kept.size KD1.out.size⟩
        have H11 : Hid (A5 ≠ A11 ∧ w.heap.size ≤ A11) := by
          have h1 := HD9.out
          have h2 := H11e.out
          exact ⟨by omega, by omega⟩
        have HQ5 : Hid ((A10 ≠ A5 ∧ A10 ≠ A11) ∧ (A10 ≠ A5 ∧ A10 ≠ A6) ∧ (A6 ≠ A5 ∧ A6 ≠ A11) ∧ (A11 ≠ A5 ∧ A11 ≠ A6)) := by
          have h1 := HD9.out
          have h2 := H11e.out
          have h3 := H10.out
          have h4 := HNE.out.1
          exact ⟨⟨by omega, by omega⟩, ⟨by omega, by omega⟩, ⟨by omega, by omega⟩, ⟨by omega, by omega⟩⟩
        have hk1 : IntKind.i64.wrap ((k : Int) + 1) = (k : Int) + 1 := by rw [IntKind.wrap_i64]; omega
        go_upto_region 13 with fail
        rw [← hX, ← H11e.out, ← H10.out]
        clear hX H10 H11e KD1 KDX KX HD9 HOT B6r
        have RN := HOX.out.run (by omega) (by have := HVL.out; omega) ((k : Int) + 1) b (10 + (k : Int))
        rw [so_next b _ (by omega) HVL.out] at RN
        have p0 : X.cell? ⟨A5, 0, none⟩ = some (.slice a1 (pk k v).length c1) := blk_at HOX.out.blk 0 rfl
        have p1 : X.cell? ⟨A5, 1, none⟩ = some (.slice a2 xs.length c2) := blk_at HOX.out.blk 1 rfl
        have p2 : X.cell? ⟨A5, 2, none⟩ = some (.int .i64 0) := blk_at HOX.out.blk 2 rfl
        have q0 : X.cell? ⟨A10, 0, none⟩ = some (.int .i64 5) := blk_at B10.out 0 rfl
        have q1 : X.cell? ⟨A10, 1, none⟩ = some (.int .i64 ((k : Int) + 1)) := blk_at B10.out 1 rfl
        have q2 : X.cell? ⟨A10, 2, none⟩ = some (.int .i64 5) := blk_at B10.out 2 rfl
        have q3 : X.cell? ⟨A10, 3, none⟩ = some (.string (bs [107])) := blk_at B10.out 3 rfl
        have q4 : X.cell? ⟨A10, 4, none⟩ = some (.string (bs [b])) := blk_at B10.out 4 rfl
        have q5 : X.cell? ⟨A10, 5, none⟩ = some (.int .i64 0) := blk_at B10.out 5 rfl
        have q6 : X.cell? ⟨A10, 6, none⟩ = some (.int .i64 0) := blk_at B10.out 6 rfl
        go_wp2_with fail
        go_fit RN
        rintro _ Y ⟨a1', c1', a2', c2', xs', ko, kc, rfl, m9, o9, e9, s9, _, _, k9⟩
        unfold rrV
        dsimp only
        have HSZ : Hid (w.heap.size ≤ X.heap.size) := HOX.out.kept.size
        have KY : Hid (Kept Nil w Y) := HOX.out.kept.trans k9
        have BT : Hid (Y.heap[A5]? = some (.cells #[.slice a1 (pk k v).length c1, .slice a2 xs.length c2, .int .i64 0] 70 (0, 0))) := k9.block _ _ HOX.out.blk (fun x => x.elim)
        have BR : Hid (Y.heap[A11]? = some (.cells #[.int .i64 0, .string ⟨#[]⟩, .int .i64 0, .slice none 0 0] 55 (0, 0))) := k9.block _ _ B11.out (fun x => x.elim)
        have B10Y : Hid (Y.heap[A10]? = some (.cells #[.int .i64 5, .int .i64 ((k : Int) + 1), .int .i64 5, .string (bs [107]), .string (bs [b]), .int .i64 0, .int .i64 0] 75 (0, 0))) := k9.block _ _ B10.out (fun x => x.elim)
        have B6xY : Hid (Y.heap[A6]? = some (.cells #[b0, b1, b2, b3] 55 (0, 0))) := k9.block _ _ B6x.out (fun x => x.elim)
        obtain ⟨V, hV⟩ : ∃ V, V = ((((((Y.setCell ⟨A5, 0, none⟩ (.slice a1' (pk (k + 1) (v ++ [b])).length c1')).setCell ⟨A5, 1, none⟩ (.slice a2' xs'.length c2')).setCell ⟨A5, 2, none⟩ (.int .i64 0)).setCell ⟨A11, 0, none⟩ (.int .i64 1)).setCell ⟨A11, 1, none⟩ (.string (bs []))).setCell ⟨A11, 2, none⟩ (.int .i64 ((k : Int) + 1))).setCell ⟨A11, 3, none⟩ (.slice ko 0 kc) := ⟨_, rfl⟩
        have hBR3 : Hid ((((Y.setCell ⟨A5, 0, none⟩ (.slice a1' (pk (k + 1) (v ++ [b])).length c1')).setCell ⟨A5, 1, none⟩ (.slice a2' xs'.length c2')).setCell ⟨A5, 2, none⟩ (.int .i64 0)).heap[A11]? = some (.cells #[.int .i64 0, .string ⟨#[]⟩, .int .i64 0, .slice none 0 0] 55 (0, 0))) := blk_other (a := ⟨A5, 2, none⟩) (blk_other (a := ⟨A5, 1, none⟩) (blk_other (a := ⟨A5, 0, none⟩) BR.out H11.out.1.symm _) H11.out.1.symm _) H11.out.1.symm _
        have HOT2 : Hid (OT w V A5 (pk (k + 1) (v ++ [b])) [sk (k + 1)] a1' a2' c1' c2' xs') := by
          rw [hV]
          exact (ot_put BT.out (own_mono o9 HSZ.out) (own_mono e9 HSZ.out) (fun e he => own_mono (s9 e he) HSZ.out) m9 KY.out HOX.out.new).res hBR3.out H11.out.2 _ _ _ _
        have BR2 : Hid (V.heap[A11]? = some (.cells #[.int .i64 1, .string (bs []), .int .i64 ((k : Int) + 1), .slice ko 0 kc] 55 (0, 0))) := by rw [hV]; exact blk_set (blk_set (blk_set (blk_set hBR3.out 0 _) 1 _) 2 _) 3 _
        have B102 : Hid (V.heap[A10]? = some (.cells #[.int .i64 5, .int .i64 ((k : Int) + 1), .int .i64 5, .string (bs [107]), .string (bs [b]), .int .i64 0, .int .i64 0] 75 (0, 0))) := by rw [hV]; exact (blk_other (a := ⟨A11, 3, none⟩) (blk_other (a := ⟨A11, 2, none⟩) (blk_other (a := ⟨A11, 1, none⟩) (blk_other (a := ⟨A11, 0, none⟩) (blk_other (a := ⟨A5, 2, none⟩) (blk_other (a := ⟨A5, 1, none⟩) (blk_other (a := ⟨A5, 0, none⟩) B10Y.out HQ5.out.1.1 _) HQ5.out.1.1 _) HQ5.out.1.1 _) HQ5.out.1.2 _) HQ5.out.1.2 _) HQ5.out.1.2 _) HQ5.out.1.2 _)
        have B6x2 : Hid (V.heap[A6]? = some (.cells #[b0, b1, b2, b3] 55 (0, 0))) := by rw [hV]; exact (blk_other (a := ⟨A11, 3, none⟩) (blk_other (a := ⟨A11, 2, none⟩) (blk_other (a := ⟨A11, 1, none⟩) (blk_other (a := ⟨A11, 0, none⟩) (blk_other (a := ⟨A5, 2, none⟩) (blk_other (a := ⟨A5, 1, none⟩) (blk_other (a := ⟨A5, 0, none⟩) B6xY.out HQ5.out.2.2.1.1 _) HQ5.out.2.2.1.1 _) HQ5.out.2.2.1.1 _) HQ5.out.2.2.1.2 _) HQ5.out.2.2.1.2 _) HQ5.out.2.2.1.2 _) HQ5.out.2.2.1.2 _)
        have r0 : Y.cell? ⟨A5, 0, none⟩ = some (.slice a1 (pk k v).length c1) := blk_at BT.out 0 rfl
        have r1 : Y.cell? ⟨A5, 1, none⟩ = some (.slice a2 xs.length c2) := blk_at BT.out 1 rfl
        have r2 : Y.cell? ⟨A5, 2, none⟩ = some (.int .i64 0) := blk_at BT.out 2 rfl
        have z0 : Y.frozen? ⟨A5, 0, none⟩ = false := blk_free BT.out 0
        have z1 : Y.frozen? ⟨A5, 1, none⟩ = false := blk_free BT.out 1
        have z2 : Y.frozen? ⟨A5, 2, none⟩ = false := blk_free BT.out 2
        have s0 : Y.cell? ⟨A11, 0, none⟩ = some (.int .i64 0) := blk_at BR.out 0 rfl
        have s1 : Y.cell? ⟨A11, 1, none⟩ = some (.string ⟨#[]⟩) := blk_at BR.out 1 rfl
        have s2 : Y.cell? ⟨A11, 2, none⟩ = some (.int .i64 0) := blk_at BR.out 2 rfl
        have s3 : Y.cell? ⟨A11, 3, none⟩ = some (.slice none 0 0) := blk_at BR.out 3 rfl
        have y0 : Y.frozen? ⟨A11, 0, none⟩ = false := blk_free BR.out 0
        have y1 : Y.frozen? ⟨A11, 1, none⟩ = false := blk_free BR.out 1
        have y2 : Y.frozen? ⟨A11, 2, none⟩ = false := blk_free BR.out 2
        have y3 : Y.frozen? ⟨A11, 3, none⟩ = false := blk_free BR.out 3
        clear RN p0 p1 p2 q0 q1 q2 q3 q4 q5 q6 m9 o9 e9 s9 k9
        have hne : A5 ≠ A11 := H11.out.1
        have hne' : A11 ≠ A5 := fun e => hne e.symm
        go_upto_region 14 with fail
        rw [← hV]
        clear hV r0 r1 r2 z0 z1 z2 s0 s1 s2 s3 y0 y1 y2 y3 hne hne' BT BR hBR3 KY HSZ HOX B11 B10 B6x B10Y B6xY
        obtain ⟨v2, HV2⟩ : ∃ v2, Hid (v2 = v ++ [b]) := ⟨_, rfl⟩
        have HVL2 : Hid (v2.length = k + 1) := by show _ = _; rw [HV2.out, List.length_append, HVL.out]; rfl
        rw [← HV2.out] at HOT2
        have hsum : ∀ w' : World, (Op.stringOp .add (bs v) (bs [b])).run Try.prog w' = .ok (.string (bs v2)) w' := fun w' => by rw [HV2.out, run_string_add_sum w' (bs v) (bs [b]) (by rw [bs_size, bs_size]; have := HVL.out; simp; omega), bs_append]
        have g0 : V.cell? ⟨A11, 0, none⟩ = some (.int .i64 1) := blk_at BR2.out 0 rfl
        have g2 : V.cell? ⟨A11, 2, none⟩ = some (.int .i64 ((k : Int) + 1)) := blk_at BR2.out 2 rfl
        go_upto_region 17 with fail
        clear hsum g0 g2 BR2 H11
        obtain ⟨p, hp⟩ : ∃ p : Nat, t % 3 = (p : Int) := ⟨(t % 3).toNat, by have := Int.emod_nonneg t (show (3 : Int) ≠ 0 by omega); omega⟩
        have hp3 : (p : Int) < 3 := by rw [← hp]; exact Int.emod_lt_of_pos t (by decide)
        have PK3 := fun w' => pick_any t 3 w' (by decide) (by decide)
        rw [hp] at PK3
        clear hp hcell
        go_wp2_with fail
        go_loopg [12] (p + 2) (fun n s12 wz => ∃ j : Nat, ∃ a1 a2 c1 c2 xs, ∃ b0 b1 b2 b3 : Value, j ≤ p + 1 ∧ n = p + 2 - j ∧ s12 = .int .i64 j ∧ Hid (OT w wz A5 (pk (k + 1) v2) [sk (k + 1)] a1 a2 c1 c2 xs) ∧ Hid (wz.heap[A6]? = some (.cells #[b0, b1, b2, b3] 55 (0, 0))) ∧ Hid (wz.heap[A10]? = some (.cells #[.int .i64 5, .int .i64 ((k : Int) + 1), .int .i64 5, .string (bs [107]), .string (bs [b]), .int .i64 0, .int .i64 0] 75 (0, 0))))
        case atStart => exact ⟨0, a1', a2', c1', c2', xs', b0, b1, b2, b3, Nat.zero_le _, rfl, rfl, HOT2.out, B6x2.out, B102.out⟩
        case round =>
          obtain ⟨j, a1, a2, c1, c2, xs, b0, b1, b2, b3, hj, rfl, rfl, HOZ, B6z, B10⟩ := hrel
          rename World => wz
          clear HOT2 B6x2 B102
          obtain ⟨a', ha', _, hcell⟩ := (HT.out.nil HOZ.out.kept) k hlt1
          cases ha'
          rw [← HTt.out] at hcell
          go_wp2_with fail
          go_fit (PK3 _)
          rintro _ w9 ⟨rfl, h9⟩
          rw [h9]
          clear h9 hcell
          by_cases hjp : j ≤ p
          · have hjpi : (j : Int) ≤ (p : Int) := by omega
            go_upto_region 20 with fail
            have RN := HOZ.out.run (by omega) (by rw [HVL2.out]; omega) ((k : Int) + 1) b (20 + (k : Int))
            rw [so_again b _ (by omega) (by rw [HVL2.out]; omega)] at RN
            have p0 : wz.cell? ⟨A5, 0, none⟩ = some (.slice a1 (pk (k + 1) v2).length c1) := blk_at HOZ.out.blk 0 rfl
            have p1 : wz.cell? ⟨A5, 1, none⟩ = some (.slice a2 xs.length c2) := blk_at HOZ.out.blk 1 rfl
            have p2 : wz.cell? ⟨A5, 2, none⟩ = some (.int .i64 0) := blk_at HOZ.out.blk 2 rfl
            have q0 : wz.cell? ⟨A10, 0, none⟩ = some (.int .i64 5) := blk_at B10.out 0 rfl
            have q1 : wz.cell? ⟨A10, 1, none⟩ = some (.int .i64 ((k : Int) + 1)) := blk_at B10.out 1 rfl
            have q2 : wz.cell? ⟨A10, 2, none⟩ = some (.int .i64 5) := blk_at B10.out 2 rfl
            have q3 : wz.cell? ⟨A10, 3, none⟩ = some (.string (bs [107])) := blk_at B10.out 3 rfl
            have q4 : wz.cell? ⟨A10, 4, none⟩ = some (.string (bs [b])) := blk_at B10.out 4 rfl
            have q5 : wz.cell? ⟨A10, 5, none⟩ = some (.int .i64 0) := blk_at B10.out 5 rfl
            have q6 : wz.cell? ⟨A10, 6, none⟩ = some (.int .i64 0) := blk_at B10.out 6 rfl
            go_wp2_with fail
            go_fit RN
            rintro _ Y2 ⟨a1', c1', a2', c2', xs', ko, kc, rfl, m9, o9, e9, s9, _, _, k9⟩
            unfold rrV
            dsimp only
            have HSZ : Hid (w.heap.size ≤ wz.heap.size) := HOZ.out.kept.size
            have KY : Hid (Kept Nil w Y2) := HOZ.out.kept.trans k9
            have BT : Hid (Y2.heap[A5]? = some (.cells #[.slice a1 (pk (k + 1) v2).length c1, .slice a2 xs.length c2, .int .i64 0] 70 (0, 0))) := k9.block _ _ HOZ.out.blk (fun x => x.elim)
            have BR : Hid (Y2.heap[A6]? = some (.cells #[b0, b1, b2, b3] 55 (0, 0))) := k9.block _ _ B6z.out (fun x => x.elim)
            have B10Y : Hid (Y2.heap[A10]? = some (.cells #[.int .i64 5, .int .i64 ((k : Int) + 1), .int .i64 5, .string (bs [107]), .string (bs [b]), .int .i64 0, .int .i64 0] 75 (0, 0))) := k9.block _ _ B10.out (fun x => x.elim)
            obtain ⟨V2, hV⟩ : ∃ V, V = ((((((Y2.setCell ⟨A5, 0, none⟩ (.slice a1' (pk (k + 1) v2).length c1')).setCell ⟨A5, 1, none⟩ (.slice a2' xs'.length c2')).setCell ⟨A5, 2, none⟩ (.int .i64 0)).setCell ⟨A6, 0, none⟩ (.int .i64 1)).setCell ⟨A6, 1, none⟩ (.string (bs []))).setCell ⟨A6, 2, none⟩ (.int .i64 ((k : Int) + 1))).setCell ⟨A6, 3, none⟩ (.slice ko 0 kc) := ⟨_, rfl⟩
            have hBR3 : Hid ((((Y2.setCell ⟨A5, 0, none⟩ (.slice a1' (pk (k + 1) v2).length c1')).setCell ⟨A5, 1, none⟩ (.slice a2' xs'.length c2')).setCell ⟨A5, 2, none⟩ (.int .i64 0)).heap[A6]? = some (.cells #[b0, b1, b2, b3] 55 (0, 0))) := blk_other (a := ⟨A5, 2, none⟩) (blk_other (a := ⟨A5, 1, none⟩) (blk_other (a := ⟨A5, 0, none⟩) BR.out HNE.out.1.symm _) HNE.out.1.symm _) HNE.out.1.symm _
            have HOT2 : Hid (OT w V2 A5 (pk (k + 1) v2) [sk (k + 1)] a1' a2' c1' c2' xs') := by
              rw [hV]
              exact (ot_put BT.out (own_mono o9 HSZ.out) (own_mono e9 HSZ.out) (fun e he => own_mono (s9 e he) HSZ.out) m9 KY.out HOZ.out.new).res hBR3.out HNE.out.2 _ _ _ _
            have BR2 : Hid (V2.heap[A6]? = some (.cells #[.int .i64 1, .string (bs []), .int .i64 ((k : Int) + 1), .slice ko 0 kc] 55 (0, 0))) := by rw [hV]; exact blk_set (blk_set (blk_set (blk_set hBR3.out 0 _) 1 _) 2 _) 3 _
            have B102 : Hid (V2.heap[A10]? = some (.cells #[.int .i64 5, .int .i64 ((k : Int) + 1), .int .i64 5, .string (bs [107]), .string (bs [b]), .int .i64 0, .int .i64 0] 75 (0, 0))) := by rw [hV]; exact (blk_other (a := ⟨A6, 3, none⟩) (blk_other (a := ⟨A6, 2, none⟩) (blk_other (a := ⟨A6, 1, none⟩) (blk_other (a := ⟨A6, 0, none⟩) (blk_other (a := ⟨A5, 2, none⟩) (blk_other (a := ⟨A5, 1, none⟩) (blk_other (a := ⟨A5, 0, none⟩) B10Y.out HQ5.out.2.1.1 _) HQ5.out.2.1.1 _) HQ5.out.2.1.1 _) HQ5.out.2.1.2 _) HQ5.out.2.1.2 _) HQ5.out.2.1.2 _) HQ5.out.2.1.2 _)
            have r0 : Y2.cell? ⟨A5, 0, none⟩ = some (.slice a1 (pk (k + 1) v2).length c1) := blk_at BT.out 0 rfl
            have r1 : Y2.cell? ⟨A5, 1, none⟩ = some (.slice a2 xs.length c2) := blk_at BT.out 1 rfl
            have r2 : Y2.cell? ⟨A5, 2, none⟩ = some (.int .i64 0) := blk_at BT.out 2 rfl
            have z0 : Y2.frozen? ⟨A5, 0, none⟩ = false := blk_free BT.out 0
            have z1 : Y2.frozen? ⟨A5, 1, none⟩ = false := blk_free BT.out 1
            have z2 : Y2.frozen? ⟨A5, 2, none⟩ = false := blk_free BT.out 2
            have s0 : Y2.cell? ⟨A6, 0, none⟩ = some (b0) := blk_at BR.out 0 rfl
            have s1 : Y2.cell? ⟨A6, 1, none⟩ = some (b1) := blk_at BR.out 1 rfl
            have s2 : Y2.cell? ⟨A6, 2, none⟩ = some (b2) := blk_at BR.out 2 rfl
            have s3 : Y2.cell? ⟨A6, 3, none⟩ = some (b3) := blk_at BR.out 3 rfl
            have y0 : Y2.frozen? ⟨A6, 0, none⟩ = false := blk_free BR.out 0
            have y1 : Y2.frozen? ⟨A6, 1, none⟩ = false := blk_free BR.out 1
            have y2 : Y2.frozen? ⟨A6, 2, none⟩ = false := blk_free BR.out 2
            have y3 : Y2.frozen? ⟨A6, 3, none⟩ = false := blk_free BR.out 3
            clear RN p0 p1 p2 q0 q1 q2 q3 q4 q5 q6 m9 o9 e9 s9 k9
            have hne : A5 ≠ A6 := HNE.out.1
            have hne' : A6 ≠ A5 := fun e => hne e.symm
            go_upto_region 21 with fail
            rw [← hV]
            clear hV r0 r1 r2 z0 z1 z2 s0 s1 s2 s3 y0 y1 y2 y3 hne hne' BT BR hBR3 KY HSZ HOZ B6z B10 B10Y
            have g0 : V2.cell? ⟨A6, 0, none⟩ = some (.int .i64 1) := blk_at BR2.out 0 rfl
            have g2 : V2.cell? ⟨A6, 2, none⟩ = some (.int .i64 ((k : Int) + 1)) := blk_at BR2.out 2 rfl
            go_wp2
            go_roundg (p + 2 - (j + 1))
            case measure => omega
            case rel => exact ⟨j + 1, a1', a2', c1', c2', xs', _, _, _, _, by omega, rfl, by go_num, HOT2.out, BR2.out, B102.out⟩
          · have hjpi : ¬ (j : Int) ≤ (p : Int) := by omega
            go_upto_if 111 with fail
            go_cut [13] (fun s13 wc => ∃ a1 a2 c1 c2 xs, ∃ b0 b1 b2 b3 : Value, Hid (OT w wc A5 (pk (k + 1) v2) [sk (k + 1)] a1 a2 c1 c2 xs) ∧ Hid (wc.heap[A6]? = some (.cells #[b0, b1, b2, b3] 55 (0, 0))))
            case first =>
              by_cases hgk : k < gs.length
              · have hgi : (k : Int) < gs.length := by omega
                have hgb : decide ((k : Int) < gs.length) = true := decide_eq_true hgi
                obtain ⟨ga, rfl, _, hgc⟩ := (HG.out.nil HOZ.out.kept) k hgk
                obtain ⟨z, HZz⟩ : ∃ z, Hid (z = gs[k]) := ⟨_, (rfl : gs[k] = gs[k])⟩
                rw [← HZz.out] at hgc
                obtain ⟨o, ho⟩ : ∃ o : Nat, z % ((k : Int) + 1) = (o : Int) := ⟨(z % ((k : Int) + 1)).toNat, by have := Int.emod_nonneg z (show ((k : Int) + 1) ≠ 0 by omega); omega⟩
                have hok : (o : Int) < (k : Int) + 1 := by rw [← ho]; exact Int.emod_lt_of_pos z (by omega)
                have PKO := fun w' => pick_any z ((k : Int) + 1) w' (by omega) (by omega)
                rw [ho] at PKO
                clear ho
                obtain ⟨f, hf⟩ : ∃ f : Nat, z % 1000 = (f : Int) := ⟨(z % 1000).toNat, by have := Int.emod_nonneg z (show (1000 : Int) ≠ 0 by omega); omega⟩
                have hf1 : (f : Int) < 1000 := by rw [← hf]; exact Int.emod_lt_of_pos z (by decide)
                have PKF := fun w' => pick_any z 1000 w' (by decide) (by decide)
                rw [hf] at PKF
                clear hf PK3
                try rw [hgb]
                go_wp2_with fail
                go_fit (PKO _)
                rintro _ w9 ⟨rfl, h9⟩
                rw [h9]
                clear h9 hgc PKO
                go_upto_region 25 with fail
                have q2' : wz.cell? ⟨A10, 2, none⟩ = some (.int .i64 5) := blk_at B10.out 2 rfl
                have q3' : wz.cell? ⟨A10, 3, none⟩ = some (.string (bs [107])) := blk_at B10.out 3 rfl
                have q4' : wz.cell? ⟨A10, 4, none⟩ = some (.string (bs [b])) := blk_at B10.out 4 rfl
                have q5' : wz.cell? ⟨A10, 5, none⟩ = some (.int .i64 0) := blk_at B10.out 5 rfl
                have RN := HOZ.out.run (by omega) (by rw [HVL2.out]; omega) ((o : Nat) : Int) b 30
                rw [so_stale2 b _ (by omega) (by rw [HVL2.out]; omega) (by omega) (by omega)] at RN
                have p0 : wz.cell? ⟨A5, 0, none⟩ = some (.slice a1 (pk (k + 1) v2).length c1) := blk_at HOZ.out.blk 0 rfl
                have p1 : wz.cell? ⟨A5, 1, none⟩ = some (.slice a2 xs.length c2) := blk_at HOZ.out.blk 1 rfl
                have p2 : wz.cell? ⟨A5, 2, none⟩ = some (.int .i64 0) := blk_at HOZ.out.blk 2 rfl
                go_wp2_with fail
                go_fit RN
                rintro _ Y3 ⟨a1', c1', a2', c2', xs', ko, kc, rfl, m9, o9, e9, s9, _, _, k9⟩
                unfold rrV
                dsimp only
                have HSZ : Hid (w.heap.size ≤ wz.heap.size) := HOZ.out.kept.size
                have KY : Hid (Kept Nil w Y3) := HOZ.out.kept.trans k9
                have BT : Hid (Y3.heap[A5]? = some (.cells #[.slice a1 (pk (k + 1) v2).length c1, .slice a2 xs.length c2, .int .i64 0] 70 (0, 0))) := k9.block _ _ HOZ.out.blk (fun x => x.elim)
                have BR : Hid (Y3.heap[A6]? = some (.cells #[b0, b1, b2, b3] 55 (0, 0))) := k9.block _ _ B6z.out (fun x => x.elim)
                have B10Y : Hid (Y3.heap[A10]? = some (.cells #[.int .i64 5, .int .i64 ((k : Int) + 1), .int .i64 5, .string (bs [107]), .string (bs [b]), .int .i64 0, .int .i64 0] 75 (0, 0))) := k9.block _ _ B10.out (fun x => x.elim)
                obtain ⟨V3, hV⟩ : ∃ V, V = ((((((Y3.setCell ⟨A5, 0, none⟩ (.slice a1' (pk (k + 1) v2).length c1')).setCell ⟨A5, 1, none⟩ (.slice a2' xs'.length c2')).setCell ⟨A5, 2, none⟩ (.int .i64 0)).setCell ⟨A6, 0, none⟩ (.int .i64 6)).setCell ⟨A6, 1, none⟩ (.string (bs []))).setCell ⟨A6, 2, none⟩ (.int .i64 0)).setCell ⟨A6, 3, none⟩ (.slice ko 0 kc) := ⟨_, rfl⟩
                have hBR3 : Hid ((((Y3.setCell ⟨A5, 0, none⟩ (.slice a1' (pk (k + 1) v2).length c1')).setCell ⟨A5, 1, none⟩ (.slice a2' xs'.length c2')).setCell ⟨A5, 2, none⟩ (.int .i64 0)).heap[A6]? = some (.cells #[b0, b1, b2, b3] 55 (0, 0))) := blk_other (a := ⟨A5, 2, none⟩) (blk_other (a := ⟨A5, 1, none⟩) (blk_other (a := ⟨A5, 0, none⟩) BR.out HNE.out.1.symm _) HNE.out.1.symm _) HNE.out.1.symm _
                have HOT2 : Hid (OT w V3 A5 (pk (k + 1) v2) [sk (k + 1)] a1' a2' c1' c2' xs') := by
                  rw [hV]
                  exact (ot_put BT.out (own_mono o9 HSZ.out) (own_mono e9 HSZ.out) (fun e he => own_mono (s9 e he) HSZ.out) m9 KY.out HOZ.out.new).res hBR3.out HNE.out.2 _ _ _ _
                have BR2 : Hid (V3.heap[A6]? = some (.cells #[.int .i64 6, .string (bs []), .int .i64 0, .slice ko 0 kc] 55 (0, 0))) := by rw [hV]; exact blk_set (blk_set (blk_set (blk_set hBR3.out 0 _) 1 _) 2 _) 3 _
                have B102 : Hid (V3.heap[A10]? = some (.cells #[.int .i64 5, .int .i64 ((k : Int) + 1), .int .i64 5, .string (bs [107]), .string (bs [b]), .int .i64 0, .int .i64 0] 75 (0, 0))) := by rw [hV]; exact (blk_other (a := ⟨A6, 3, none⟩) (blk_other (a := ⟨A6, 2, none⟩) (blk_other (a := ⟨A6, 1, none⟩) (blk_other (a := ⟨A6, 0, none⟩) (blk_other (a := ⟨A5, 2, none⟩) (blk_other (a := ⟨A5, 1, none⟩) (blk_other (a := ⟨A5, 0, none⟩) B10Y.out HQ5.out.2.1.1 _) HQ5.out.2.1.1 _) HQ5.out.2.1.1 _) HQ5.out.2.1.2 _) HQ5.out.2.1.2 _) HQ5.out.2.1.2 _) HQ5.out.2.1.2 _)
                have r0 : Y3.cell? ⟨A5, 0, none⟩ = some (.slice a1 (pk (k + 1) v2).length c1) := blk_at BT.out 0 rfl
                have r1 : Y3.cell? ⟨A5, 1, none⟩ = some (.slice a2 xs.length c2) := blk_at BT.out 1 rfl
                have r2 : Y3.cell? ⟨A5, 2, none⟩ = some (.int .i64 0) := blk_at BT.out 2 rfl
                have z0 : Y3.frozen? ⟨A5, 0, none⟩ = false := blk_free BT.out 0
                have z1 : Y3.frozen? ⟨A5, 1, none⟩ = false := blk_free BT.out 1
                have z2 : Y3.frozen? ⟨A5, 2, none⟩ = false := blk_free BT.out 2
                have s0 : Y3.cell? ⟨A6, 0, none⟩ = some (b0) := blk_at BR.out 0 rfl
                have s1 : Y3.cell? ⟨A6, 1, none⟩ = some (b1) := blk_at BR.out 1 rfl
                have s2 : Y3.cell? ⟨A6, 2, none⟩ = some (b2) := blk_at BR.out 2 rfl
                have s3 : Y3.cell? ⟨A6, 3, none⟩ = some (b3) := blk_at BR.out 3 rfl
                have y0 : Y3.frozen? ⟨A6, 0, none⟩ = false := blk_free BR.out 0
                have y1 : Y3.frozen? ⟨A6, 1, none⟩ = false := blk_free BR.out 1
                have y2 : Y3.frozen? ⟨A6, 2, none⟩ = false := blk_free BR.out 2
                have y3 : Y3.frozen? ⟨A6, 3, none⟩ = false := blk_free BR.out 3
                clear RN p0 p1 p2  m9 o9 e9 s9 k9
                have hne : A5 ≠ A6 := HNE.out.1
                have hne' : A6 ≠ A5 := fun e => hne e.symm
                go_upto_region 26 with fail
                rw [← hV]
                clear hV r0 r1 r2 z0 z1 z2 s0 s1 s2 s3 y0 y1 y2 y3 hne hne' BT BR hBR3 KY HSZ HOZ B6z B10 B10Y
                clear q2' q3' q4' q5'
                have g0 : V3.cell? ⟨A6, 0, none⟩ = some (.int .i64 6) := blk_at BR2.out 0 rfl
                go_upto_region 28 with fail
                clear g0
                obtain ⟨ga', ea', _, hgc⟩ := (HG.out.nil HOT2.out.kept) k hgk
                cases ea'
                rw [← HZz.out] at hgc
                have HOD : Hid (OT w V3.drew A5 (pk (k + 1) v2) [sk (k + 1)] a1' a2' c1' c2' xs') := HOT2.out.next (Kept.refl _ _).drew
                have RN := HOD.out.run (by omega) (by rw [HVL2.out]; omega) ((k : Int) + 3 + (f : Int)) b 31
                rw [so_gap2 b _ (by omega) (by rw [HVL2.out]; omega) (by omega) (by omega)] at RN
                have p0 : V3.cell? ⟨A5, 0, none⟩ = some (.slice a1' (pk (k + 1) v2).length c1') := blk_at HOT2.out.blk 0 rfl
                have p1 : V3.cell? ⟨A5, 1, none⟩ = some (.slice a2' xs'.length c2') := blk_at HOT2.out.blk 1 rfl
                have p2 : V3.cell? ⟨A5, 2, none⟩ = some (.int .i64 0) := blk_at HOT2.out.blk 2 rfl
                have q2 : V3.cell? ⟨A10, 2, none⟩ = some (.int .i64 5) := blk_at B102.out 2 rfl
                have q3 : V3.cell? ⟨A10, 3, none⟩ = some (.string (bs [107])) := blk_at B102.out 3 rfl
                have q4 : V3.cell? ⟨A10, 4, none⟩ = some (.string (bs [b])) := blk_at B102.out 4 rfl
                have q5 : V3.cell? ⟨A10, 5, none⟩ = some (.int .i64 0) := blk_at B102.out 5 rfl
                have hw3 : IntKind.i64.wrap ((k : Int) + 3) = (k : Int) + 3 := by rw [IntKind.wrap_i64]; omega
                have hw4 : IntKind.i64.wrap ((k : Int) + 3 + (f : Int)) = (k : Int) + 3 + (f : Int) := by rw [IntKind.wrap_i64]; omega
                have hne : A5 ≠ A6 := HNE.out.1
                have hne' : A6 ≠ A5 := fun e => hne e.symm
                go_region_with (first | (go_at_call 35; go_fit (PKF _); rintro e w9 ⟨rfl, h9⟩; rw [h9]; clear h9) | (go_at_call 46; go_fit RN; rintro e Y4 ⟨a1n, c1n, a2n, c2n, xsn, kon, kcn, rfl, m9, o9, e9, s9, _, _, k9⟩; unfold rrV; dsimp only; have K9 : Hid (Kept Nil V3 Y4) := (Kept.refl _ _).drew.trans k9; have HM9 : Hid (xsn.map Se.s = [sk (k + 1)]) := m9; have HO9 : Hid (OwnP V3.heap.size Y4 a1n c1n (pk (k + 1) v2)) := o9; have HE9 : Hid (OwnE V3.heap.size Y4 a2n c2n xsn) := e9; have HS9 : Hid (OwnKs V3.heap.size Y4 xsn) := s9; have BT : Hid (Y4.heap[A5]? = some (.cells #[.slice a1' (pk (k + 1) v2).length c1', .slice a2' xs'.length c2', .int .i64 0] 70 (0, 0))) := K9.out.block _ _ HOT2.out.blk (fun x => x.elim); have BR : Hid (Y4.heap[A6]? = some (.cells #[.int .i64 6, .string (bs []), .int .i64 0, .slice ko 0 kc] 55 (0, 0))) := K9.out.block _ _ BR2.out (fun x => x.elim); have r0 : Y4.cell? ⟨A5, 0, none⟩ = some (.slice a1' (pk (k + 1) v2).length c1') := blk_at BT.out 0 rfl; have r1 : Y4.cell? ⟨A5, 1, none⟩ = some (.slice a2' xs'.length c2') := blk_at BT.out 1 rfl; have r2 : Y4.cell? ⟨A5, 2, none⟩ = some (.int .i64 0) := blk_at BT.out 2 rfl; have z0 : Y4.frozen? ⟨A5, 0, none⟩ = false := blk_free BT.out 0; have z1 : Y4.frozen? ⟨A5, 1, none⟩ = false := blk_free BT.out 1; have z2 : Y4.frozen? ⟨A5, 2, none⟩ = false := blk_free BT.out 2; have s0 : Y4.cell? ⟨A6, 0, none⟩ = some (.int .i64 6) := blk_at BR.out 0 rfl; have s1 : Y4.cell? ⟨A6, 1, none⟩ = some (.string (bs [])) := blk_at BR.out 1 rfl; have s2 : Y4.cell? ⟨A6, 2, none⟩ = some (.int .i64 0) := blk_at BR.out 2 rfl; have s3 : Y4.cell? ⟨A6, 3, none⟩ = some (.slice ko 0 kc) := blk_at BR.out 3 rfl; have y0 : Y4.frozen? ⟨A6, 0, none⟩ = false := blk_free BR.out 0; have y1 : Y4.frozen? ⟨A6, 1, none⟩ = false := blk_free BR.out 1; have y2 : Y4.frozen? ⟨A6, 2, none⟩ = false := blk_free BR.out 2; have y3 : Y4.frozen? ⟨A6, 3, none⟩ = false := blk_free BR.out 3; clear m9 o9 e9 s9 k9))
                all_goals
                  obtain ⟨V4, hV⟩ : ∃ V, V = ((((((Y4.setCell ⟨A5, 0, none⟩ (.slice a1n (pk (k + 1) v2).length c1n)).setCell ⟨A5, 1, none⟩ (.slice a2n xsn.length c2n)).setCell ⟨A5, 2, none⟩ (.int .i64 0)).setCell ⟨A6, 0, none⟩ (.int .i64 7)).setCell ⟨A6, 1, none⟩ (.string (bs []))).setCell ⟨A6, 2, none⟩ (.int .i64 0)).setCell ⟨A6, 3, none⟩ (.slice kon 0 kcn) := ⟨_, rfl⟩
                  have HSZ : Hid (w.heap.size ≤ V3.heap.size) := HOT2.out.kept.size
                  have KY : Hid (Kept Nil w Y4) := HOT2.out.kept.trans K9.out
                  have hBR3 : Hid ((((Y4.setCell ⟨A5, 0, none⟩ (.slice a1n (pk (k + 1) v2).length c1n)).setCell ⟨A5, 1, none⟩ (.slice a2n xsn.length c2n)).setCell ⟨A5, 2, none⟩ (.int .i64 0)).heap[A6]? = some (.cells #[.int .i64 6, .string (bs []), .int .i64 0, .slice ko 0 kc] 55 (0, 0))) := blk_other (a := ⟨A5, 2, none⟩) (blk_other (a := ⟨A5, 1, none⟩) (blk_other (a := ⟨A5, 0, none⟩) BR.out HNE.out.1.symm _) HNE.out.1.symm _) HNE.out.1.symm _
                  have HOT3 : Hid (OT w V4 A5 (pk (k + 1) v2) [sk (k + 1)] a1n a2n c1n c2n xsn) := by
                    rw [hV]
                    exact (ot_put BT.out (own_mono HO9.out HSZ.out) (own_mono HE9.out HSZ.out) (fun e he => own_mono (HS9.out e he) HSZ.out) HM9.out KY.out HOT2.out.new).res hBR3.out HNE.out.2 _ _ _ _
                  have BR3 : Hid (V4.heap[A6]? = some (.cells #[.int .i64 7, .string (bs []), .int .i64 0, .slice kon 0 kcn] 55 (0, 0))) := by rw [hV]; exact blk_set (blk_set (blk_set (blk_set hBR3.out 0 _) 1 _) 2 _) 3 _
                  go_upto_region 29 with fail
                  rw [← hV]
                  clear hV r0 r1 r2 z0 z1 z2 s0 s1 s2 s3 y0 y1 y2 y3 BT BR hBR3 KY HSZ
                  have g0 : V4.cell? ⟨A6, 0, none⟩ = some (.int .i64 7) := blk_at BR3.out 0 rfl
                  go_wp2
                  go_meet
                  exact ⟨a1n, a2n, c1n, c2n, xsn, _, _, _, _, HOT3.out, BR3.out⟩
              · have hgi : ¬ (k : Int) < gs.length := by omega
                have hgb : decide ((k : Int) < gs.length) = false := decide_eq_false hgi
                try rw [hgb]
                go_wp2
                go_meet
                exact ⟨a1, a2, c1, c2, xs, b0, b1, b2, b3, HOZ.out, B6z.out⟩
            case rest =>
              obtain ⟨a1, a2, c1, c2, xs, b0, b1, b2, b3, HOW, B6w⟩ := hcut
              rename World => wv
              clear HOZ B6z B10 PK3
              have e1 : pk (k + 1) v2 = [⟨[107], v2, ((k + 1 : Nat) : Int)⟩] := rfl
              have HOP := HOW.out.op
              have h5 := HOW.out.blk
              rw [e1] at HOP h5
              obtain ⟨g, ea, _, _, hcs⟩ := HOP.cells (by simp)
              obtain ⟨_, k1, k2⟩ := hcs 0 (by simp)
              subst ea
              clear hcs HOP
              simp only [Nat.zero_mul, Nat.zero_add, List.getElem_cons_zero] at k1 k2
              have p0 : wv.cell? ⟨A5, 0, none⟩ = some (.slice (some ⟨g, 0, none⟩) 1 c1) := blk_at h5 0 rfl
              have hkk : ((k + 1 : Nat) : Int) = (k : Int) + 1 := by omega
              rw [hkk] at k2
              clear h5
              go_wp2
              go_roundg (ts.length + 1 - (k + 1))
              case measure => omega
              case rel => exact ⟨k + 1, v2, some ⟨g, 0, none⟩, a2, c1, c2, xs, b0, b1, b2, b3, by omega, by omega, rfl, rfl, by go_num, HVL2.out, HOW.out, B6w.out⟩
      · have hend : decide ((k : Int) < ts.length) = false ∨ decide ((k : Int) < 60) = false := by
          by_cases h9 : k < ts.length
          · exact .inr (decide_eq_false (by omega))
          · exact .inl (decide_eq_false (by omega))
        by_cases h9 : (k : Int) < ts.length
        · have h10 : ¬ (k : Int) < 60 := by omega
          go_wp2
          go_ret
          exact ⟨rfl, HOT.out.kept⟩
        · go_wp2
          go_ret
          exact ⟨rfl, HOT.out.kept⟩

end Go.Proofs.Ytilolhjlokfkeaa
