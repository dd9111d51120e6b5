/-
  Transactions: read (the program): what a key says.
-/
import Derived.Test.YtgkacepcggjfkaaGreatDoorWTx1
import Derived.Test.YtgkacepcggjfkaaGreatDoorWOld
namespace Go.Proofs.YtgkacepcggjfkaaGreatDoor
open Go.RowKit

def HdPost (w : World) (h : Hd) (e : Ending) (w' : World) : Prop := e = .returned (.agg #[.int .i64 h.n, .int .i64 h.b, .int .i64 h.t]) ∧ Kept Nil w w'
set_option maxRecDepth 100000 in
set_option maxHeartbeats 2000000 in
theorem read_any (l : List UInt8) (hl : l.length < 4294967281) (w : World) (hL : LD w) :
    Calls Tryz.prog 72 #[.string (bs l)] w (HdPost w (hdOf l)) := by
  obtain ⟨h, HH⟩ : ∃ h, Hid (h = hdOf l) := ⟨_, rfl⟩
  rw [← HH.out]
  obtain ⟨W, hW⟩ : ∃ W, W = w.alloc (.cells #[.int .i64 0, .int .i64 0, .int .i64 0] 104) := ⟨_, rfl⟩
  obtain ⟨A, HAe⟩ : ∃ A, Hid (A = w.heap.size) := ⟨_, rfl⟩
  have HAw : Hid (w.heap.size ≤ A) := by show _ ≤ _; rw [HAe.out]; exact Nat.le_refl _
  have KW : Hid (Kept Nil w W) := by rw [hW]; exact (Kept.refl _ _).alloc _
  have HAW : Hid (W.heap[A]? = some (.cells #[.int .i64 0, .int .i64 0, .int .i64 0] 104 (0, 0))) := by rw [hW, HAe.out]; exact blk_new _ _
  have SP := split_any l hl W (hL.kept KW.out)
  obtain ⟨W1, hW1⟩ : ∃ W1, W1 = W.alloc (.cells ((pcs l).map fun x => Value.string (bs x)).toArray 9) := ⟨_, rfl⟩
  obtain ⟨N, HN⟩ : ∃ N, Hid (N = W.heap.size) := ⟨_, rfl⟩
  obtain ⟨k, HK⟩ : ∃ k, Hid (k = (pcs l).length) := ⟨_, rfl⟩
  rw [← hW1, ← HN.out, ← HK.out] at SP
  have K1 : Hid (Kept Nil w W1) := by rw [hW1]; exact KW.out.alloc _
  have K10 : Hid (Kept Nil W1 W1) := Kept.refl _ _
  have HL1 : Hid (LD W1) := hL.kept K1.out
  have HA0 : Hid (W1.heap[A]? = some (.cells #[.int .i64 0, .int .i64 0, .int .i64 0] 104 (0, 0))) := by rw [hW1]; exact blk_past HAW.out _
  have HP : Hid (W1.heap[N]? = some (.cells ((pcs l).map fun x => Value.string (bs x)).toArray 9 (0, 0))) := by rw [hW1, HN.out]; exact blk_new _ _
  obtain ⟨x, rest, hp⟩ : ∃ x rest, pcs l = x :: rest := by
    cases h : pcs l with
    | nil => exact absurd h (pcs_ne l)
    | cons x rest => exact ⟨x, rest, rfl⟩
  have HPC : Hid (pcs l = x :: rest) := hp
  have HLx : Hid (x.length ≤ 281474976710656) := by
    have := pcs_len l x (by rw [hp]; simp)
    show _ ≤ _
    omega
  have q0 : W1.cell? ⟨N, 0, none⟩ = some (.string (bs x)) := blk_at HP.out 0 (by rw [hp]; rfl)
  have hk1 : 1 ≤ k := by rw [HK.out, hp]; simp
  have hk2 : k ≤ 9000000000000000000 := by
    have h1 := count_pcs l
    have h2 := Lib.count_le l [32]
    have h3 := HK.out
    omega
  have HLl : Hid (l.length ≤ 281474976710656) := by show _ ≤ _; omega
  clear hp HAW hL hl
  have RN := readNumber_any x 0 999999999 HLx.out W1 (HL1.out.kept K10.out)
  obtain ⟨b0, Hb0⟩ : ∃ b0 : Bool, Hid (b0 = isNumB 0 999999999 x (Lib.atoiAll x)) := ⟨_, rfl⟩
  rw [← Hb0.out] at RN
  go_enter Tryz.func72, Tryz.ntmps72
  go_wp2_with fail
  rw [← hW, ← HAe.out]
  clear hW hW1
  go_fit SP
  clear SP
  rintro _ wq ⟨rfl, hwq⟩
  rw [hwq]
  clear hwq wq
  go_wp2_with fail
  go_fit RN
  rintro _ w2 ⟨v0, rfl, hv0, kw2⟩
  have K2 : Hid (Kept Nil w w2) := K1.out.trans kw2
  have K20 : Hid (Kept Nil W1 w2) := K10.out.trans kw2
  have Hv0 : Hid (Lib.atoiAll x = .ok v0 ∨ b0 = false) := hv0
  clear RN kw2 hv0
  cases b0 with
  | false =>
    obtain rfl : h = Hd.no := HH.out.trans (hdOf_bad0 HPC.out (amt_zero Hb0.out.symm))
    have BR : w2.heap[A]? = some (.cells #[.int .i64 0, .int .i64 0, .int .i64 0] 104 (0, 0)) := K20.out.block _ _ HA0.out (fun x => x.elim)
    have r0 : w2.cell? ⟨A, 0, none⟩ = some (.int .i64 0) := blk_at BR 0 rfl
    have z0 : w2.frozen? ⟨A, 0, none⟩ = false := blk_free BR 0
    have r1 : w2.cell? ⟨A, 1, none⟩ = some (.int .i64 0) := blk_at BR 1 rfl
    have z1 : w2.frozen? ⟨A, 1, none⟩ = false := blk_free BR 1
    have r2 : w2.cell? ⟨A, 2, none⟩ = some (.int .i64 0) := blk_at BR 2 rfl
    have z2 : w2.frozen? ⟨A, 2, none⟩ = false := blk_free BR 2
    obtain ⟨V, hV⟩ : ∃ V, V = ((w2.setCell ⟨A, 0, none⟩ (.int .i64 0)).setCell ⟨A, 1, none⟩ (.int .i64 0)).setCell ⟨A, 2, none⟩ (.int .i64 0) := ⟨_, rfl⟩
    have HV : Hid (V.heap[A]? = some (.cells #[.int .i64 0, .int .i64 0, .int .i64 0] 104 (0, 0)) ∧ Kept Nil w V) := by rw [hV]; exact ⟨blk_set (blk_set (blk_set BR 0 _) 1 _) 2 _, ((K2.out.setNew (p := ⟨A, 0, none⟩) HAw.out _).setNew (p := ⟨A, 1, none⟩) HAw.out _).setNew (p := ⟨A, 2, none⟩) HAw.out _⟩
    clear BR
    go_wp2
    rw [← hV]
    clear hV r0 r1 r2
    have j0 := blk_at HV.out.1 0 rfl
    have j1 := blk_at HV.out.1 1 rfl
    have j2 := blk_at HV.out.1 2 rfl
    exact bodyPost_ret (v := .agg #[.int .i64 0, .int .i64 0, .int .i64 0]) (by simp [results, Tryz.results72, go_sem, j0, j1, j2]) rfl ⟨rfl, HV.out.2⟩
  | true =>
    obtain ⟨n, rfl, hn⟩ := amt_true Hb0.out.symm (Hv0.out.resolve_right (by decide))
    have HNn : Hid (amt MA x = some n) := hn
    clear hn
    by_cases c1 : k = 1
    · have HPx : Hid (pcs l = [x]) := by
        have h1 := HK.out
        have h2 := HPC.out
        show _ = _
        rw [c1, h2] at h1
        cases rest with
        | nil => exact h2
        | cons _ _ => simp at h1
      obtain rfl : h = ⟨n, 0, 0⟩ := HH.out.trans (hdOf_one HPx.out HNn.out)
      subst c1
      have BR : w2.heap[A]? = some (.cells #[.int .i64 0, .int .i64 0, .int .i64 0] 104 (0, 0)) := K20.out.block _ _ HA0.out (fun x => x.elim)
      have r0 : w2.cell? ⟨A, 0, none⟩ = some (.int .i64 0) := blk_at BR 0 rfl
      have z0 : w2.frozen? ⟨A, 0, none⟩ = false := blk_free BR 0
      have r1 : w2.cell? ⟨A, 1, none⟩ = some (.int .i64 0) := blk_at BR 1 rfl
      have z1 : w2.frozen? ⟨A, 1, none⟩ = false := blk_free BR 1
      have r2 : w2.cell? ⟨A, 2, none⟩ = some (.int .i64 0) := blk_at BR 2 rfl
      have z2 : w2.frozen? ⟨A, 2, none⟩ = false := blk_free BR 2
      obtain ⟨V, hV⟩ : ∃ V, V = ((w2.setCell ⟨A, 0, none⟩ (.int .i64 n)).setCell ⟨A, 1, none⟩ (.int .i64 0)).setCell ⟨A, 2, none⟩ (.int .i64 0) := ⟨_, rfl⟩
      have HV : Hid (V.heap[A]? = some (.cells #[.int .i64 n, .int .i64 0, .int .i64 0] 104 (0, 0)) ∧ Kept Nil w V) := by rw [hV]; exact ⟨blk_set (blk_set (blk_set BR 0 _) 1 _) 2 _, ((K2.out.setNew (p := ⟨A, 0, none⟩) HAw.out _).setNew (p := ⟨A, 1, none⟩) HAw.out _).setNew (p := ⟨A, 2, none⟩) HAw.out _⟩
      clear BR
      go_wp2
      rw [← hV]
      clear hV r0 r1 r2
      have j0 := blk_at HV.out.1 0 rfl
      have j1 := blk_at HV.out.1 1 rfl
      have j2 := blk_at HV.out.1 2 rfl
      exact bodyPost_ret (v := .agg #[.int .i64 n, .int .i64 0, .int .i64 0]) (by simp [results, Tryz.results72, go_sem, j0, j1, j2]) rfl ⟨rfl, HV.out.2⟩
    · by_cases c3 : k = 3
      · obtain ⟨y, z, hyz⟩ : ∃ y z, pcs l = [x, y, z] := by
          have h1 := HK.out
          have h2 := HPC.out
          rw [c3, h2] at h1
          match rest, h2, h1 with
          | [y, z], h2, _ => exact ⟨y, z, h2⟩
          | [], _, h1 => simp at h1
          | [_], _, h1 => simp at h1
          | _ :: _ :: _ :: _, _, h1 => simp at h1
        have HYZ : Hid (pcs l = [x, y, z]) := hyz
        have BP : w2.heap[N]? = some (.cells ((pcs l).map fun x => Value.string (bs x)).toArray 9 (0, 0)) := K20.out.block _ _ HP.out (fun x => x.elim)
        have q1 : w2.cell? ⟨N, 1, none⟩ = some (.string (bs y)) := blk_at BP 1 (by rw [hyz]; rfl)
        have HLy : Hid (y.length ≤ 281474976710656) := Nat.le_trans (pcs_len l y (by rw [hyz]; simp)) HLl.out
        have HLz : Hid (z.length ≤ 281474976710656) := Nat.le_trans (pcs_len l z (by rw [hyz]; simp)) HLl.out
        clear BP hyz
        subst c3
        have RN1 := readNumber_any y 1 999 HLy.out w2 (HL1.out.kept K20.out)
        obtain ⟨b1, Hb1⟩ : ∃ b1 : Bool, Hid (b1 = isNumB 1 999 y (Lib.atoiAll y)) := ⟨_, rfl⟩
        rw [← Hb1.out] at RN1
        go_wp2_with fail
        go_fit RN1
        rintro _ w3 ⟨v1, rfl, hv1, kw3⟩
        have K3 : Hid (Kept Nil w w3) := K2.out.trans kw3
        have K30 : Hid (Kept Nil W1 w3) := K20.out.trans kw3
        have Hv1 : Hid (Lib.atoiAll y = .ok v1 ∨ b1 = false) := hv1
        clear RN1 kw3 hv1
        have q2 : w3.cell? ⟨N, 2, none⟩ = some (.string (bs z)) := blk_at (K30.out.block _ _ HP.out (fun x => x.elim)) 2 (by rw [HYZ.out]; rfl)
        have RN2 := readNumber_any z 0 999999999 HLz.out w3 (HL1.out.kept K30.out)
        obtain ⟨b2, Hb2⟩ : ∃ b2 : Bool, Hid (b2 = isNumB 0 999999999 z (Lib.atoiAll z)) := ⟨_, rfl⟩
        rw [← Hb2.out] at RN2
        go_wp2_with fail
        go_fit RN2
        rintro _ w4 ⟨v2, rfl, hv2, kw4⟩
        have K4 : Hid (Kept Nil w w4) := K3.out.trans kw4
        have K40 : Hid (Kept Nil W1 w4) := K30.out.trans kw4
        have Hv2 : Hid (Lib.atoiAll z = .ok v2 ∨ b2 = false) := hv2
        clear RN2 kw4 hv2
        cases b1 with
        | false =>
          obtain rfl : h = Hd.no := HH.out.trans (hdOf_bad1 HYZ.out Hb1.out.symm)
          have BR : w4.heap[A]? = some (.cells #[.int .i64 0, .int .i64 0, .int .i64 0] 104 (0, 0)) := K40.out.block _ _ HA0.out (fun x => x.elim)
          have r0 : w4.cell? ⟨A, 0, none⟩ = some (.int .i64 0) := blk_at BR 0 rfl
          have z0 : w4.frozen? ⟨A, 0, none⟩ = false := blk_free BR 0
          have r1 : w4.cell? ⟨A, 1, none⟩ = some (.int .i64 0) := blk_at BR 1 rfl
          have z1 : w4.frozen? ⟨A, 1, none⟩ = false := blk_free BR 1
          have r2 : w4.cell? ⟨A, 2, none⟩ = some (.int .i64 0) := blk_at BR 2 rfl
          have z2 : w4.frozen? ⟨A, 2, none⟩ = false := blk_free BR 2
          obtain ⟨V, hV⟩ : ∃ V, V = ((w4.setCell ⟨A, 0, none⟩ (.int .i64 0)).setCell ⟨A, 1, none⟩ (.int .i64 0)).setCell ⟨A, 2, none⟩ (.int .i64 0) := ⟨_, rfl⟩
          have HV : Hid (V.heap[A]? = some (.cells #[.int .i64 0, .int .i64 0, .int .i64 0] 104 (0, 0)) ∧ Kept Nil w V) := by rw [hV]; exact ⟨blk_set (blk_set (blk_set BR 0 _) 1 _) 2 _, ((K4.out.setNew (p := ⟨A, 0, none⟩) HAw.out _).setNew (p := ⟨A, 1, none⟩) HAw.out _).setNew (p := ⟨A, 2, none⟩) HAw.out _⟩
          clear BR
          go_wp2
          rw [← hV]
          clear hV r0 r1 r2
          have j0 := blk_at HV.out.1 0 rfl
          have j1 := blk_at HV.out.1 1 rfl
          have j2 := blk_at HV.out.1 2 rfl
          exact bodyPost_ret (v := .agg #[.int .i64 0, .int .i64 0, .int .i64 0]) (by simp [results, Tryz.results72, go_sem, j0, j1, j2]) rfl ⟨rfl, HV.out.2⟩
        | true =>
          cases b2 with
          | false =>
            obtain rfl : h = Hd.no := HH.out.trans (hdOf_bad2 HYZ.out (amt_zero Hb2.out.symm))
            have BR : w4.heap[A]? = some (.cells #[.int .i64 0, .int .i64 0, .int .i64 0] 104 (0, 0)) := K40.out.block _ _ HA0.out (fun x => x.elim)
            have r0 : w4.cell? ⟨A, 0, none⟩ = some (.int .i64 0) := blk_at BR 0 rfl
            have z0 : w4.frozen? ⟨A, 0, none⟩ = false := blk_free BR 0
            have r1 : w4.cell? ⟨A, 1, none⟩ = some (.int .i64 0) := blk_at BR 1 rfl
            have z1 : w4.frozen? ⟨A, 1, none⟩ = false := blk_free BR 1
            have r2 : w4.cell? ⟨A, 2, none⟩ = some (.int .i64 0) := blk_at BR 2 rfl
            have z2 : w4.frozen? ⟨A, 2, none⟩ = false := blk_free BR 2
            obtain ⟨V, hV⟩ : ∃ V, V = ((w4.setCell ⟨A, 0, none⟩ (.int .i64 0)).setCell ⟨A, 1, none⟩ (.int .i64 0)).setCell ⟨A, 2, none⟩ (.int .i64 0) := ⟨_, rfl⟩
            have HV : Hid (V.heap[A]? = some (.cells #[.int .i64 0, .int .i64 0, .int .i64 0] 104 (0, 0)) ∧ Kept Nil w V) := by rw [hV]; exact ⟨blk_set (blk_set (blk_set BR 0 _) 1 _) 2 _, ((K4.out.setNew (p := ⟨A, 0, none⟩) HAw.out _).setNew (p := ⟨A, 1, none⟩) HAw.out _).setNew (p := ⟨A, 2, none⟩) HAw.out _⟩
            clear BR
            go_wp2
            rw [← hV]
            clear hV r0 r1 r2
            have j0 := blk_at HV.out.1 0 rfl
            have j1 := blk_at HV.out.1 1 rfl
            have j2 := blk_at HV.out.1 2 rfl
            exact bodyPost_ret (v := .agg #[.int .i64 0, .int .i64 0, .int .i64 0]) (by simp [results, Tryz.results72, go_sem, j0, j1, j2]) rfl ⟨rfl, HV.out.2⟩
          | true =>
            obtain ⟨t, rfl, ht⟩ := amt_true Hb2.out.symm (Hv2.out.resolve_right (by decide))
            obtain ⟨b, rfl, he⟩ := hdOf_three HYZ.out HNn.out Hb1.out.symm (Hv1.out.resolve_right (by decide)) ht
            obtain rfl : h = ⟨n, b, t⟩ := HH.out.trans he
            clear ht he
            have BR : w4.heap[A]? = some (.cells #[.int .i64 0, .int .i64 0, .int .i64 0] 104 (0, 0)) := K40.out.block _ _ HA0.out (fun x => x.elim)
            have r0 : w4.cell? ⟨A, 0, none⟩ = some (.int .i64 0) := blk_at BR 0 rfl
            have z0 : w4.frozen? ⟨A, 0, none⟩ = false := blk_free BR 0
            have r1 : w4.cell? ⟨A, 1, none⟩ = some (.int .i64 0) := blk_at BR 1 rfl
            have z1 : w4.frozen? ⟨A, 1, none⟩ = false := blk_free BR 1
            have r2 : w4.cell? ⟨A, 2, none⟩ = some (.int .i64 0) := blk_at BR 2 rfl
            have z2 : w4.frozen? ⟨A, 2, none⟩ = false := blk_free BR 2
            obtain ⟨V, hV⟩ : ∃ V, V = ((w4.setCell ⟨A, 0, none⟩ (.int .i64 n)).setCell ⟨A, 1, none⟩ (.int .i64 b)).setCell ⟨A, 2, none⟩ (.int .i64 t) := ⟨_, rfl⟩
            have HV : Hid (V.heap[A]? = some (.cells #[.int .i64 n, .int .i64 b, .int .i64 t] 104 (0, 0)) ∧ Kept Nil w V) := by rw [hV]; exact ⟨blk_set (blk_set (blk_set BR 0 _) 1 _) 2 _, ((K4.out.setNew (p := ⟨A, 0, none⟩) HAw.out _).setNew (p := ⟨A, 1, none⟩) HAw.out _).setNew (p := ⟨A, 2, none⟩) HAw.out _⟩
            clear BR
            go_wp2
            rw [← hV]
            clear hV r0 r1 r2
            have j0 := blk_at HV.out.1 0 rfl
            have j1 := blk_at HV.out.1 1 rfl
            have j2 := blk_at HV.out.1 2 rfl
            exact bodyPost_ret (v := .agg #[.int .i64 n, .int .i64 b, .int .i64 t]) (by simp [results, Tryz.results72, go_sem, j0, j1, j2]) rfl ⟨rfl, HV.out.2⟩
      · obtain rfl : h = Hd.no := HH.out.trans (hdOf_len HPC.out (by rw [← HK.out]; exact c1) (by rw [← HK.out]; exact c3))
        have BR : w2.heap[A]? = some (.cells #[.int .i64 0, .int .i64 0, .int .i64 0] 104 (0, 0)) := K20.out.block _ _ HA0.out (fun x => x.elim)
        have r0 : w2.cell? ⟨A, 0, none⟩ = some (.int .i64 0) := blk_at BR 0 rfl
        have z0 : w2.frozen? ⟨A, 0, none⟩ = false := blk_free BR 0
        have r1 : w2.cell? ⟨A, 1, none⟩ = some (.int .i64 0) := blk_at BR 1 rfl
        have z1 : w2.frozen? ⟨A, 1, none⟩ = false := blk_free BR 1
        have r2 : w2.cell? ⟨A, 2, none⟩ = some (.int .i64 0) := blk_at BR 2 rfl
        have z2 : w2.frozen? ⟨A, 2, none⟩ = false := blk_free BR 2
        obtain ⟨V, hV⟩ : ∃ V, V = ((w2.setCell ⟨A, 0, none⟩ (.int .i64 0)).setCell ⟨A, 1, none⟩ (.int .i64 0)).setCell ⟨A, 2, none⟩ (.int .i64 0) := ⟨_, rfl⟩
        have HV : Hid (V.heap[A]? = some (.cells #[.int .i64 0, .int .i64 0, .int .i64 0] 104 (0, 0)) ∧ Kept Nil w V) := by rw [hV]; exact ⟨blk_set (blk_set (blk_set BR 0 _) 1 _) 2 _, ((K2.out.setNew (p := ⟨A, 0, none⟩) HAw.out _).setNew (p := ⟨A, 1, none⟩) HAw.out _).setNew (p := ⟨A, 2, none⟩) HAw.out _⟩
        clear BR
        go_wp2
        rw [← hV]
        clear hV r0 r1 r2
        have j0 := blk_at HV.out.1 0 rfl
        have j1 := blk_at HV.out.1 1 rfl
        have j2 := blk_at HV.out.1 2 rfl
        exact bodyPost_ret (v := .agg #[.int .i64 0, .int .i64 0, .int .i64 0]) (by simp [results, Tryz.results72, go_sem, j0, j1, j2]) rfl ⟨rfl, HV.out.2⟩
end Go.Proofs.YtgkacepcggjfkaaGreatDoor
