/-
  Joined: WTx2, WTx3, WTx4, WTxR, WCeM.
-/
import Derived.Test.YtflnjlbafchnaaaGreatDoorR03
import Derived.Test.YtflnjlbafchnaaaGreatDoorR01
import Derived.Deep.RegionHeld3
import Derived.Laws.IdiomStrings
import Derived.Lib.CutLaws
/-
  Transactions: read (the program): what a key says.
-/
namespace Go.Proofs.YtflnjlbafchnaaaGreatDoor
open Go.RowKit

def HdPost (w : World) (h : Hd) (e : Ending) (w' : World) : Prop := e = .returned (.agg #[.int .i64 h.n, .int .i64 h.b, .int .i64 h.t]) ∧ Kept Nil w w'
set_option maxRecDepth 100000 in
set_option maxHeartbeats 2000000 in
theorem read_any (l : List UInt8) (hl : l.length < 4294967281) (w : World) (hL : LD w) :
    Calls Tryz.prog 72 #[.string (bs l)] w (HdPost w (hdOf l)) := by
  obtain ⟨h, HH⟩ : ∃ h, Hid (h = hdOf l) := ⟨_, rfl⟩
  rw [← HH.out]
  obtain ⟨W, hW⟩ : ∃ W, W = w.alloc (.cells #[.int .i64 0, .int .i64 0, .int .i64 0] 104) := ⟨_, rfl⟩
  obtain ⟨A, HAe⟩ : ∃ A, Hid (A = w.heap.size) := ⟨_, rfl⟩
  have HAw : Hid (w.heap.size ≤ A) := by show _ ≤ _; rw [HAe.out]; exact Nat.le_refl _
  have KW : Hid (Kept Nil w W) := by rw [hW]; exact (Kept.refl _ _).alloc _
  have HAW : Hid (W.heap[A]? = some (.cells #[.int .i64 0, .int .i64 0, .int .i64 0] 104 (0, 0))) := by rw [hW, HAe.out]; exact blk_new _ _
  have SP := split_any l hl W (hL.kept KW.out)
  obtain ⟨W1, hW1⟩ : ∃ W1, W1 = W.alloc (.cells ((pcs l).map fun x => Value.string (bs x)).toArray 9) := ⟨_, rfl⟩
  obtain ⟨N, HN⟩ : ∃ N, Hid (N = W.heap.size) := ⟨_, rfl⟩
  obtain ⟨k, HK⟩ : ∃ k, Hid (k = (pcs l).length) := ⟨_, rfl⟩
  rw [← hW1, ← HN.out, ← HK.out] at SP
  have K1 : Hid (Kept Nil w W1) := by rw [hW1]; exact KW.out.alloc _
  have K10 : Hid (Kept Nil W1 W1) := Kept.refl _ _
  have HL1 : Hid (LD W1) := hL.kept K1.out
  have HA0 : Hid (W1.heap[A]? = some (.cells #[.int .i64 0, .int .i64 0, .int .i64 0] 104 (0, 0))) := by rw [hW1]; exact blk_past HAW.out _
  have HP : Hid (W1.heap[N]? = some (.cells ((pcs l).map fun x => Value.string (bs x)).toArray 9 (0, 0))) := by rw [hW1, HN.out]; exact blk_new _ _
  obtain ⟨x, rest, hp⟩ : ∃ x rest, pcs l = x :: rest := by
    cases h : pcs l with
    | nil => exact absurd h (pcs_ne l)
    | cons x rest => exact ⟨x, rest, rfl⟩
  have HPC : Hid (pcs l = x :: rest) := hp
  have HLx : Hid (x.length ≤ 281474976710656) := by
    have := pcs_len l x (by rw [hp]; simp)
    show _ ≤ _
    omega
  have q0 : W1.cell? ⟨N, 0, none⟩ = some (.string (bs x)) := blk_at HP.out 0 (by rw [hp]; rfl)
  have hk1 : 1 ≤ k := by rw [HK.out, hp]; simp
  have hk2 : k ≤ 9000000000000000000 := by
    have h1 := count_pcs l
    have h2 := Lib.count_le l [32]
    have h3 := HK.out
    omega
  have HLl : Hid (l.length ≤ 281474976710656) := by show _ ≤ _; omega
  clear hp HAW hL hl
  have RN := readNumber_any x 0 999999999 HLx.out W1 (HL1.out.kept K10.out)
  obtain ⟨b0, Hb0⟩ : ∃ b0 : Bool, Hid (b0 = isNumB 0 999999999 x (Lib.atoiAll x)) := ⟨_, rfl⟩
  rw [← Hb0.out] at RN
  go_enter Tryz.func72, Tryz.ntmps72
  go_wp2_with fail
  rw [← hW, ← HAe.out]
  clear hW hW1
  go_fit SP
  clear SP
  rintro _ wq ⟨rfl, hwq⟩
  rw [hwq]
  clear hwq wq
  go_wp2_with fail
  go_fit RN
  rintro _ w2 ⟨v0, rfl, hv0, kw2⟩
  have K2 : Hid (Kept Nil w w2) := K1.out.trans kw2
  have K20 : Hid (Kept Nil W1 w2) := K10.out.trans kw2
  have Hv0 : Hid (Lib.atoiAll x = .ok v0 ∨ b0 = false) := hv0
  clear RN kw2 hv0
  cases b0 with
  | false =>
    obtain rfl : h = Hd.no := HH.out.trans (hdOf_bad0 HPC.out (amt_zero Hb0.out.symm))
    have BR : w2.heap[A]? = some (.cells #[.int .i64 0, .int .i64 0, .int .i64 0] 104 (0, 0)) := K20.out.block _ _ HA0.out (fun x => x.elim)
    have r0 : w2.cell? ⟨A, 0, none⟩ = some (.int .i64 0) := blk_at BR 0 rfl
    have z0 : w2.frozen? ⟨A, 0, none⟩ = false := blk_free BR 0
    have r1 : w2.cell? ⟨A, 1, none⟩ = some (.int .i64 0) := blk_at BR 1 rfl
    have z1 : w2.frozen? ⟨A, 1, none⟩ = false := blk_free BR 1
    have r2 : w2.cell? ⟨A, 2, none⟩ = some (.int .i64 0) := blk_at BR 2 rfl
    have z2 : w2.frozen? ⟨A, 2, none⟩ = false := blk_free BR 2
    obtain ⟨V, hV⟩ : ∃ V, V = ((w2.setCell ⟨A, 0, none⟩ (.int .i64 0)).setCell ⟨A, 1, none⟩ (.int .i64 0)).setCell ⟨A, 2, none⟩ (.int .i64 0) := ⟨_, rfl⟩
    have HV : Hid (V.heap[A]? = some (.cells #[.int .i64 0, .int .i64 0, .int .i64 0] 104 (0, 0)) ∧ Kept Nil w V) := by rw [hV]; exact ⟨blk_set (blk_set (blk_set BR 0 _) 1 _) 2 _, ((K2.out.setNew (p := ⟨A, 0, none⟩) HAw.out _).setNew (p := ⟨A, 1, none⟩) HAw.out _).setNew (p := ⟨A, 2, none⟩) HAw.out _⟩
    clear BR
    go_wp2
    rw [← hV]
    clear hV r0 r1 r2
    have j0 := blk_at HV.out.1 0 rfl
    have j1 := blk_at HV.out.1 1 rfl
    have j2 := blk_at HV.out.1 2 rfl
    exact bodyPost_ret (v := .agg #[.int .i64 0, .int .i64 0, .int .i64 0]) (by simp [results, Tryz.results72, go_sem, j0, j1, j2]) rfl ⟨rfl, HV.out.2⟩
  | true =>
    obtain ⟨n, rfl, hn⟩ := amt_true Hb0.out.symm (Hv0.out.resolve_right (by decide))
    have HNn : Hid (amt MA x = some n) := hn
    clear hn
    by_cases c1 : k = 1
    · have HPx : Hid (pcs l = [x]) := by
        have h1 := HK.out
        have h2 := HPC.out
        show _ = _
        rw [c1, h2] at h1
        cases rest with
        | nil => exact h2
        | cons _ _ => simp at h1
      obtain rfl : h = ⟨n, 0, 0⟩ := HH.out.trans (hdOf_one HPx.out HNn.out)
      subst c1
      have BR : w2.heap[A]? = some (.cells #[.int .i64 0, .int .i64 0, .int .i64 0] 104 (0, 0)) := K20.out.block _ _ HA0.out (fun x => x.elim)
      have r0 : w2.cell? ⟨A, 0, none⟩ = some (.int .i64 0) := blk_at BR 0 rfl
      have z0 : w2.frozen? ⟨A, 0, none⟩ = false := blk_free BR 0
      have r1 : w2.cell? ⟨A, 1, none⟩ = some (.int .i64 0) := blk_at BR 1 rfl
      have z1 : w2.frozen? ⟨A, 1, none⟩ = false := blk_free BR 1
      have r2 : w2.cell? ⟨A, 2, none⟩ = some (.int .i64 0) := blk_at BR 2 rfl
      have z2 : w2.frozen? ⟨A, 2, none⟩ = false := blk_free BR 2
      obtain ⟨V, hV⟩ : ∃ V, V = ((w2.setCell ⟨A, 0, none⟩ (.int .i64 n)).setCell ⟨A, 1, none⟩ (.int .i64 0)).setCell ⟨A, 2, none⟩ (.int .i64 0) := ⟨_, rfl⟩
      have HV : Hid (V.heap[A]? = some (.cells #[.int .i64 n, .int .i64 0, .int .i64 0] 104 (0, 0)) ∧ Kept Nil w V) := by rw [hV]; exact ⟨blk_set (blk_set (blk_set BR 0 _) 1 _) 2 _, ((K2.out.setNew (p := ⟨A, 0, none⟩) HAw.out _).setNew (p := ⟨A, 1, none⟩) HAw.out _).setNew (p := ⟨A, 2, none⟩) HAw.out _⟩
      clear BR
      go_wp2
      rw [← hV]
      clear hV r0 r1 r2
      have j0 := blk_at HV.out.1 0 rfl
      have j1 := blk_at HV.out.1 1 rfl
      have j2 := blk_at HV.out.1 2 rfl
      exact bodyPost_ret (v := .agg #[.int .i64 n, .int .i64 0, .int .i64 0]) (by simp [results, Tryz.results72, go_sem, j0, j1, j2]) rfl ⟨rfl, HV.out.2⟩
    · by_cases c3 : k = 3
      · obtain ⟨y, z, hyz⟩ : ∃ y z, pcs l = [x, y, z] := by
          have h1 := HK.out
          have h2 := HPC.out
          rw [c3, h2] at h1
          match rest, h2, h1 with
          | [y, z], h2, _ => exact ⟨y, z, h2⟩
          | [], _, h1 => simp at h1
          | [_], _, h1 => simp at h1
          | _ :: _ :: _ :: _, _, h1 => simp at h1
        have HYZ : Hid (pcs l = [x, y, z]) := hyz
        have BP : w2.heap[N]? = some (.cells ((pcs l).map fun x => Value.string (bs x)).toArray 9 (0, 0)) := K20.out.block _ _ HP.out (fun x => x.elim)
        have q1 : w2.cell? ⟨N, 1, none⟩ = some (.string (bs y)) := blk_at BP 1 (by rw [hyz]; rfl)
        have HLy : Hid (y.length ≤ 281474976710656) := Nat.le_trans (pcs_len l y (by rw [hyz]; simp)) HLl.out
        have HLz : Hid (z.length ≤ 281474976710656) := Nat.le_trans (pcs_len l z (by rw [hyz]; simp)) HLl.out
        clear BP hyz
        subst c3
        have RN1 := readNumber_any y 1 999 HLy.out w2 (HL1.out.kept K20.out)
        obtain ⟨b1, Hb1⟩ : ∃ b1 : Bool, Hid (b1 = isNumB 1 999 y (Lib.atoiAll y)) := ⟨_, rfl⟩
        rw [← Hb1.out] at RN1
        go_wp2_with fail
        go_fit RN1
        rintro _ w3 ⟨v1, rfl, hv1, kw3⟩
        have K3 : Hid (Kept Nil w w3) := K2.out.trans kw3
        have K30 : Hid (Kept Nil W1 w3) := K20.out.trans kw3
        have Hv1 : Hid (Lib.atoiAll y = .ok v1 ∨ b1 = false) := hv1
        clear RN1 kw3 hv1
        have q2 : w3.cell? ⟨N, 2, none⟩ = some (.string (bs z)) := blk_at (K30.out.block _ _ HP.out (fun x => x.elim)) 2 (by rw [HYZ.out]; rfl)
        have RN2 := readNumber_any z 0 999999999 HLz.out w3 (HL1.out.kept K30.out)
        obtain ⟨b2, Hb2⟩ : ∃ b2 : Bool, Hid (b2 = isNumB 0 999999999 z (Lib.atoiAll z)) := ⟨_, rfl⟩
        rw [← Hb2.out] at RN2
        go_wp2_with fail
        go_fit RN2
        rintro _ w4 ⟨v2, rfl, hv2, kw4⟩
        have K4 : Hid (Kept Nil w w4) := K3.out.trans kw4
        have K40 : Hid (Kept Nil W1 w4) := K30.out.trans kw4
        have Hv2 : Hid (Lib.atoiAll z = .ok v2 ∨ b2 = false) := hv2
        clear RN2 kw4 hv2
        cases b1 with
        | false =>
          obtain rfl : h = Hd.no := HH.out.trans (hdOf_bad1 HYZ.out Hb1.out.symm)
          have BR : w4.heap[A]? = some (.cells #[.int .i64 0, .int .i64 0, .int .i64 0] 104 (0, 0)) := K40.out.block _ _ HA0.out (fun x => x.elim)
          have r0 : w4.cell? ⟨A, 0, none⟩ = some (.int .i64 0) := blk_at BR 0 rfl
          have z0 : w4.frozen? ⟨A, 0, none⟩ = false := blk_free BR 0
          have r1 : w4.cell? ⟨A, 1, none⟩ = some (.int .i64 0) := blk_at BR 1 rfl
          have z1 : w4.frozen? ⟨A, 1, none⟩ = false := blk_free BR 1
          have r2 : w4.cell? ⟨A, 2, none⟩ = some (.int .i64 0) := blk_at BR 2 rfl
          have z2 : w4.frozen? ⟨A, 2, none⟩ = false := blk_free BR 2
          obtain ⟨V, hV⟩ : ∃ V, V = ((w4.setCell ⟨A, 0, none⟩ (.int .i64 0)).setCell ⟨A, 1, none⟩ (.int .i64 0)).setCell ⟨A, 2, none⟩ (.int .i64 0) := ⟨_, rfl⟩
          have HV : Hid (V.heap[A]? = some (.cells #[.int .i64 0, .int .i64 0, .int .i64 0] 104 (0, 0)) ∧ Kept Nil w V) := by rw [hV]; exact ⟨blk_set (blk_set (blk_set BR 0 _) 1 _) 2 _, ((K4.out.setNew (p := ⟨A, 0, none⟩) HAw.out _).setNew (p := ⟨A, 1, none⟩) HAw.out _).setNew (p := ⟨A, 2, none⟩) HAw.out _⟩
          clear BR
          go_wp2
          rw [← hV]
          clear hV r0 r1 r2
          have j0 := blk_at HV.out.1 0 rfl
          have j1 := blk_at HV.out.1 1 rfl
          have j2 := blk_at HV.out.1 2 rfl
          exact bodyPost_ret (v := .agg #[.int .i64 0, .int .i64 0, .int .i64 0]) (by simp [results, Tryz.results72, go_sem, j0, j1, j2]) rfl ⟨rfl, HV.out.2⟩
        | true =>
          cases b2 with
          | false =>
            obtain rfl : h = Hd.no := HH.out.trans (hdOf_bad2 HYZ.out (amt_zero Hb2.out.symm))
            have BR : w4.heap[A]? = some (.cells #[.int .i64 0, .int .i64 0, .int .i64 0] 104 (0, 0)) := K40.out.block _ _ HA0.out (fun x => x.elim)
            have r0 : w4.cell? ⟨A, 0, none⟩ = some (.int .i64 0) := blk_at BR 0 rfl
            have z0 : w4.frozen? ⟨A, 0, none⟩ = false := blk_free BR 0
            have r1 : w4.cell? ⟨A, 1, none⟩ = some (.int .i64 0) := blk_at BR 1 rfl
            have z1 : w4.frozen? ⟨A, 1, none⟩ = false := blk_free BR 1
            have r2 : w4.cell? ⟨A, 2, none⟩ = some (.int .i64 0) := blk_at BR 2 rfl
            have z2 : w4.frozen? ⟨A, 2, none⟩ = false := blk_free BR 2
            obtain ⟨V, hV⟩ : ∃ V, V = ((w4.setCell ⟨A, 0, none⟩ (.int .i64 0)).setCell ⟨A, 1, none⟩ (.int .i64 0)).setCell ⟨A, 2, none⟩ (.int .i64 0) := ⟨_, rfl⟩
            have HV : Hid (V.heap[A]? = some (.cells #[.int .i64 0, .int .i64 0, .int .i64 0] 104 (0, 0)) ∧ Kept Nil w V) := by rw [hV]; exact ⟨blk_set (blk_set (blk_set BR 0 _) 1 _) 2 _, ((K4.out.setNew (p := ⟨A, 0, none⟩) HAw.out _).setNew (p := ⟨A, 1, none⟩) HAw.out _).setNew (p := ⟨A, 2, none⟩) HAw.out _⟩
            clear BR
            go_wp2
            rw [← hV]
            clear hV r0 r1 r2
            have j0 := blk_at HV.out.1 0 rfl
            have j1 := blk_at HV.out.1 1 rfl
            have j2 := blk_at HV.out.1 2 rfl
            exact bodyPost_ret (v := .agg #[.int .i64 0, .int .i64 0, .int .i64 0]) (by simp [results, Tryz.results72, go_sem, j0, j1, j2]) rfl ⟨rfl, HV.out.2⟩
          | true =>
            obtain ⟨t, rfl, ht⟩ := amt_true Hb2.out.symm (Hv2.out.resolve_right (by decide))
            obtain ⟨b, rfl, he⟩ := hdOf_three HYZ.out HNn.out Hb1.out.symm (Hv1.out.resolve_right (by decide)) ht
            obtain rfl : h = ⟨n, b, t⟩ := HH.out.trans he
            clear ht he
            have BR : w4.heap[A]? = some (.cells #[.int .i64 0, .int .i64 0, .int .i64 0] 104 (0, 0)) := K40.out.block _ _ HA0.out (fun x => x.elim)
            have r0 : w4.cell? ⟨A, 0, none⟩ = some (.int .i64 0) := blk_at BR 0 rfl
            have z0 : w4.frozen? ⟨A, 0, none⟩ = false := blk_free BR 0
            have r1 : w4.cell? ⟨A, 1, none⟩ = some (.int .i64 0) := blk_at BR 1 rfl
            have z1 : w4.frozen? ⟨A, 1, none⟩ = false := blk_free BR 1
            have r2 : w4.cell? ⟨A, 2, none⟩ = some (.int .i64 0) := blk_at BR 2 rfl
            have z2 : w4.frozen? ⟨A, 2, none⟩ = false := blk_free BR 2
            obtain ⟨V, hV⟩ : ∃ V, V = ((w4.setCell ⟨A, 0, none⟩ (.int .i64 n)).setCell ⟨A, 1, none⟩ (.int .i64 b)).setCell ⟨A, 2, none⟩ (.int .i64 t) := ⟨_, rfl⟩
            have HV : Hid (V.heap[A]? = some (.cells #[.int .i64 n, .int .i64 b, .int .i64 t] 104 (0, 0)) ∧ Kept Nil w V) := by rw [hV]; exact ⟨blk_set (blk_set (blk_set BR 0 _) 1 _) 2 _, ((K4.out.setNew (p := ⟨A, 0, none⟩) HAw.out _).setNew (p := ⟨A, 1, none⟩) HAw.out _).setNew (p := ⟨A, 2, none⟩) HAw.out _⟩
            clear BR
            go_wp2
            rw [← hV]
            clear hV r0 r1 r2
            have j0 := blk_at HV.out.1 0 rfl
            have j1 := blk_at HV.out.1 1 rfl
            have j2 := blk_at HV.out.1 2 rfl
            exact bodyPost_ret (v := .agg #[.int .i64 n, .int .i64 b, .int .i64 t]) (by simp [results, Tryz.results72, go_sem, j0, j1, j2]) rfl ⟨rfl, HV.out.2⟩
      · obtain rfl : h = Hd.no := HH.out.trans (hdOf_len HPC.out (by rw [← HK.out]; exact c1) (by rw [← HK.out]; exact c3))
        have BR : w2.heap[A]? = some (.cells #[.int .i64 0, .int .i64 0, .int .i64 0] 104 (0, 0)) := K20.out.block _ _ HA0.out (fun x => x.elim)
        have r0 : w2.cell? ⟨A, 0, none⟩ = some (.int .i64 0) := blk_at BR 0 rfl
        have z0 : w2.frozen? ⟨A, 0, none⟩ = false := blk_free BR 0
        have r1 : w2.cell? ⟨A, 1, none⟩ = some (.int .i64 0) := blk_at BR 1 rfl
        have z1 : w2.frozen? ⟨A, 1, none⟩ = false := blk_free BR 1
        have r2 : w2.cell? ⟨A, 2, none⟩ = some (.int .i64 0) := blk_at BR 2 rfl
        have z2 : w2.frozen? ⟨A, 2, none⟩ = false := blk_free BR 2
        obtain ⟨V, hV⟩ : ∃ V, V = ((w2.setCell ⟨A, 0, none⟩ (.int .i64 0)).setCell ⟨A, 1, none⟩ (.int .i64 0)).setCell ⟨A, 2, none⟩ (.int .i64 0) := ⟨_, rfl⟩
        have HV : Hid (V.heap[A]? = some (.cells #[.int .i64 0, .int .i64 0, .int .i64 0] 104 (0, 0)) ∧ Kept Nil w V) := by rw [hV]; exact ⟨blk_set (blk_set (blk_set BR 0 _) 1 _) 2 _, ((K2.out.setNew (p := ⟨A, 0, none⟩) HAw.out _).setNew (p := ⟨A, 1, none⟩) HAw.out _).setNew (p := ⟨A, 2, none⟩) HAw.out _⟩
        clear BR
        go_wp2
        rw [← hV]
        clear hV r0 r1 r2
        have j0 := blk_at HV.out.1 0 rfl
        have j1 := blk_at HV.out.1 1 rfl
        have j2 := blk_at HV.out.1 2 rfl
        exact bodyPost_ret (v := .agg #[.int .i64 0, .int .i64 0, .int .i64 0]) (by simp [results, Tryz.results72, go_sem, j0, j1, j2]) rfl ⟨rfl, HV.out.2⟩
end Go.Proofs.YtflnjlbafchnaaaGreatDoor

/-
  Transactions: the small functions of the program: said, settled, the keys, a Get.
-/
namespace Go.Proofs.YtflnjlbafchnaaaGreatDoor
open Go.RowKit

/-- The value that a result tells. -/
def saidR (r : Rr) : List UInt8 := if r.kd = 1 then r.v else []
def kKey (k : List UInt8) : List UInt8 := 107 :: k
def tKey (n : Nat) : List UInt8 := 116 :: Lib.decDigits n
def Hd.settled (h : Hd) (d : Bool) : Nat := if d = true ∧ 0 < h.b then h.t else h.n

set_option maxRecDepth 100000 in
set_option maxHeartbeats 1000000 in
theorem said_any (r : Rr) (ko : Option Addr) (kc : Nat) (w : World) :
    Calls Tryz.prog 73 #[rrV r ko kc] w fun e w' => e = .returned (.string (bs (saidR r))) ∧ Kept Nil w w' := by
  obtain ⟨s, HS⟩ : ∃ s, Hid (s = saidR r) := ⟨_, rfl⟩
  rw [← HS.out]
  obtain ⟨kd, v, n, ks⟩ := r
  unfold rrV
  by_cases c : kd = 1
  · obtain rfl : s = v := by rw [HS.out]; unfold saidR; simp [c]
    subst c
    go_enter Tryz.func73, Tryz.ntmps73
    go_wp2
    go_ret
    exact ⟨rfl, (Kept.refl _ _).alloc _⟩
  · obtain rfl : s = [] := by rw [HS.out]; unfold saidR; simp [c]
    go_enter Tryz.func73, Tryz.ntmps73
    go_wp2
    go_ret
    exact ⟨rfl, (Kept.refl _ _).alloc _⟩

set_option maxRecDepth 100000 in
set_option maxHeartbeats 1000000 in
theorem settled_any (h : Hd) (d : Bool) (w : World) :
    Calls Tryz.prog 54 #[.agg #[.int .i64 h.n, .int .i64 h.b, .int .i64 h.t], .bool d] w fun e w' => e = .returned (.int .i64 (h.settled d)) ∧ Kept Nil w w' := by
  obtain ⟨s, HS⟩ : ∃ s, Hid (s = h.settled d) := ⟨_, rfl⟩
  rw [← HS.out]
  obtain ⟨n, b, t⟩ := h
  cases d with
  | false =>
    obtain rfl : s = n := by rw [HS.out]; unfold Hd.settled; simp
    go_enter Tryz.func54, Tryz.ntmps54
    go_wp2
    go_ret
    exact ⟨rfl, (Kept.refl _ _).alloc _⟩
  | true =>
    by_cases c : 0 < b
    · obtain rfl : s = t := by rw [HS.out]; unfold Hd.settled; simp [c]
      have c' : (0 : Int) < (b : Int) := by omega
      go_enter Tryz.func54, Tryz.ntmps54
      go_wp2
      go_ret
      exact ⟨rfl, (Kept.refl _ _).alloc _⟩
    · obtain rfl : s = n := by rw [HS.out]; unfold Hd.settled; simp [c]
      have c' : ¬ (0 : Int) < (b : Int) := by omega
      go_enter Tryz.func54, Tryz.ntmps54
      go_wp2
      go_ret
      exact ⟨rfl, (Kept.refl _ _).alloc _⟩

set_option maxRecDepth 100000 in
set_option maxHeartbeats 1000000 in
theorem amountKey_any (k : List UInt8) (hk : k.length ≤ 140737488355328) (w : World) :
    Calls Tryz.prog 75 #[.string (bs k)] w fun e w' => e = .returned (.string (bs (kKey k))) ∧ w' = w := by
  have he : (⟨#[107]⟩ : ByteArray) ++ bs k = bs (kKey k) := bs_append [107] k
  have hz : (bs k).size = k.length := bs_size k
  go_enter Tryz.func75, Tryz.ntmps75
  go_wp2
  go_ret
  exact ⟨rfl, rfl⟩

set_option maxRecDepth 100000 in
set_option maxHeartbeats 1000000 in
theorem recordKey_any (n : Nat) (hn : n ≤ 999999999) (w : World) (hL : LD w) :
    Calls Tryz.prog 49 #[.int .i64 n] w fun e w' => e = .returned (.string (bs (tKey n))) ∧ Kept Nil w w' := by
  have he : (⟨#[116]⟩ : ByteArray) ++ bs (Lib.decDigits n) = bs (tKey n) := bs_append [116] _
  have hz : (bs (Lib.decDigits n)).size ≤ 9 := by rw [bs_size]; exact digits_len9 hn
  have IT := itoa_any n (by omega) (by omega) w hL
  rw [itoa_nat] at IT
  go_enter Tryz.func49, Tryz.ntmps49
  go_wp2_with fail
  go_fit IT
  rintro _ w1 ⟨rfl, k1⟩
  have K1 : Hid (Kept Nil w w1) := k1
  clear k1
  go_wp2
  go_ret
  exact ⟨rfl, K1.out⟩

set_option maxRecDepth 100000 in
set_option maxHeartbeats 1000000 in
theorem getCommand_any (k : List UInt8) (w : World) :
    Calls Tryz.prog 50 #[.string (bs k)] w fun e w' => e = .returned (.agg #[.int .i64 2, .string (bs k), .string (bs []), .int .i64 0]) ∧ Kept Nil w w' := by
  go_enter Tryz.func50, Tryz.ntmps50
  go_wp2
  exact bodyPost_ret (v := .agg #[.int .i64 2, .string (bs k), .string (bs []), .int .i64 0]) (by simp [results, Tryz.results50, go_sem, bs]) rfl ⟨rfl, (Kept.refl _ _).alloc _⟩
end Go.Proofs.YtflnjlbafchnaaaGreatDoor

/-
  Transactions: get, Number (the program).
-/
namespace Go.Proofs.YtflnjlbafchnaaaGreatDoor
open Go.RowKit

/-- What a map says of a key; a key's number in it. -/
def tells (ps : List Pr) (key : List UInt8) : List UInt8 := saidR (apR 2 key [] 0 ps)
end Go.Proofs.YtflnjlbafchnaaaGreatDoor

/-
  Transactions: the document's decimal and amount.
-/
namespace Go.Proofs.YtflnjlbafchnaaaGreatDoor
open Go.RowKit

set_option maxRecDepth 100000 in
set_option maxHeartbeats 1000000 in
theorem refDecimal_any : ∀ (n : Nat), n ≤ 9223372036854775807 → ∀ (w : World), Calls Tryz.prog 55 #[.int .i64 n] w fun e w' => e = .returned (.string (bs (Lib.decDigits n))) ∧ Kept Nil w w' := fun n => by
  induction n using Nat.strongRecOn with
  | ind n ih =>
    intro hn w
    have hr : Int.tmod (n : Int) 10 = ((n % 10 : Nat) : Int) := rfl
    have hq : Int.tdiv (n : Int) 10 = ((n / 10 : Nat) : Int) := rfl
    have hm : n % 10 < 10 := Nat.mod_lt _ (by omega)
    obtain ⟨d, HDe⟩ : ∃ d, Hid (d = n % 10) := ⟨_, rfl⟩
    rw [← HDe.out] at hr hm
    obtain ⟨y, HY⟩ : ∃ y : UInt8, Hid (y = UInt8.ofNat (48 + d)) := ⟨_, rfl⟩
    have hcv : (convert 159 9 (.slice (some ⟨w.heap.size, 0, none⟩) 1 1)).run Tryz.prog (w.alloc (.cells #[.int .u8 (48 + (d : Int))] 5)) = .ok (.string (bs [y])) (w.alloc (.cells #[.int .u8 (48 + (d : Int))] 5)) := by
      refine run_convert_bytes_back _ _ _ _ ⟨w.heap.size, 0, none⟩ 1 [y] Tryz.underlying159 Tryz.underlying5 Tryz.underlying9 ?_
      intro j hj
      obtain rfl : j = 0 := by simp at hj; omega
      rw [HY.out]
      show (w.alloc (.cells #[.int .u8 (48 + (d : Int))] 5)).cell? ⟨w.heap.size, 0, none⟩ = _
      simp
      omega
    by_cases c : n < 10
    · have he : Lib.decDigits n = [y] := by
        rw [decDigits_small c, HY.out, HDe.out, Nat.mod_eq_of_lt c]
      rw [he]
      have c' : (n : Int) < 10 := by omega
      clear ih
      go_enter Tryz.func55, Tryz.ntmps55
      go_wp2
      go_ret
      exact ⟨rfl, (Kept.refl _ _).alloc _⟩
    · have he : bs (Lib.decDigits (n / 10)) ++ bs [y] = bs (Lib.decDigits n) := by
        rw [bs_append, HY.out, HDe.out]
        conv => rhs; rw [Lib.decDigits, dif_neg c]
      have hl1 : (bs (Lib.decDigits (n / 10))).size ≤ 9223372036854775800 := by
        rw [bs_size, Lib.decDigits_length]
        exact nDig_le _
      have hl2 : (bs [y]).size = 1 := rfl
      have c' : ¬ (n : Int) < 10 := by omega
      have IH := ih (n / 10) (by omega) (by omega) (w.alloc (.cells #[.int .u8 (48 + (d : Int))] 5))
      clear ih
      go_enter Tryz.func55, Tryz.ntmps55
      go_wp2_with fail
      go_fit IH
      rintro _ w1 ⟨rfl, k1⟩
      have K1 : Hid (Kept Nil w w1) := ((Kept.refl _ _).alloc _).trans k1
      clear k1 IH hcv
      go_wp2
      go_ret
      exact ⟨rfl, K1.out⟩

theorem amtGo_at {most x k : Nat} {l : List UInt8} (h : k < l.length) : amtGo most x (l.drop k) = if 48 ≤ l[k].toNat ∧ l[k].toNat ≤ 57 ∧ x ≤ most then amtGo most (10 * x + (l[k].toNat - 48)) (l.drop (k + 1)) else none := by
  rw [List.drop_eq_getElem_cons h]
  rfl
set_option maxRecDepth 100000 in
set_option maxHeartbeats 2000000 in
theorem refAmount_any (l : List UInt8) (most : Nat) (hl : l.length ≤ maxLen) (hm : most ≤ 999999999) (w : World) :
    Calls Tryz.prog 110 #[.string (bs l), .int .i64 most] w fun e w' => e = .returned (.int .i64 (amtZ most l)) ∧ w' = w := by
  unfold maxLen at hl
  have hsz := bs_size l
  obtain ⟨z, HZ⟩ : ∃ z, Hid (z = amtZ most l) := ⟨_, rfl⟩
  rw [← HZ.out]
  go_enter Tryz.func110, Tryz.ntmps110
  go_wp2
  go_loop [5, 6] (fun n i => ∃ k x : Nat, k ≤ l.length ∧ i = .int .i64 k ∧ n = .int .i64 x ∧ x ≤ 10000000000 ∧ Hid (amtGo most 0 l = amtGo most x (l.drop k))) (fun _ i => l.length - (intOf i).toNat)
  case atStart => exact ⟨0, 0, Nat.zero_le _, rfl, rfl, by omega, rfl⟩
  case round =>
    obtain ⟨k, x, hk, rfl, rfl, hx, HA⟩ := hrel
    by_cases hlt : k < l.length
    · have HB : Hid (amtGo most 0 l = if 48 ≤ l[k].toNat ∧ l[k].toNat ≤ 57 ∧ x ≤ most then amtGo most (10 * x + (l[k].toNat - 48)) (l.drop (k + 1)) else none) := HA.out.trans (amtGo_at hlt)
      obtain ⟨c, hcl⟩ : ∃ c, l[k] = c := ⟨_, rfl⟩
      have hat : ∀ h, (bs l)[k]'h = c := fun h => (bs_at l k h).trans hcl
      rw [hcl] at HB
      clear hcl HA
      have hc := c.toNat_lt
      by_cases c1 : c.toNat < 48
      · obtain rfl : z = -1 := HZ.out.trans (amtGo_none (HB.out.trans (if_neg (by omega))))
        go_wp2
        go_ret
        exact ⟨rfl, rfl⟩
      · by_cases c2 : 57 < c.toNat
        · obtain rfl : z = -1 := HZ.out.trans (amtGo_none (HB.out.trans (if_neg (by omega))))
          go_wp2
          go_ret
          exact ⟨rfl, rfl⟩
        · by_cases c3 : most < x
          · obtain rfl : z = -1 := HZ.out.trans (amtGo_none (HB.out.trans (if_neg (by omega))))
            go_wp2
            go_ret
            exact ⟨rfl, rfl⟩
          · have HC : Hid (amtGo most 0 l = amtGo most (10 * x + (c.toNat - 48)) (l.drop (k + 1))) := HB.out.trans (if_pos ⟨by omega, by omega, by omega⟩)
            clear HB
            go_wp2
            go_round
            case rel => exact ⟨k + 1, 10 * x + (c.toNat - 48), by omega, by go_num, by go_num, by omega, HC⟩
            case measure => simp [intOf]; omega
    · have HC : Hid (amtGo most 0 l = some x) := by
        have := HA.out
        rw [List.drop_of_length_le (by omega)] at this
        exact this
      have HD : Hid (z = if l = [] ∨ most < x ∨ (l[0]? = some 48 ∧ 1 < l.length) then -1 else (x : Int)) := HZ.out.trans (amtGo_some HC.out)
      clear HA HC
      by_cases e0 : l = []
      · obtain rfl : z = -1 := HD.out.trans (if_pos (.inl e0))
        have hne : ((bs l).toList == ([] : List UInt8)) = true := by rw [bs_toList, e0]; rfl
        clear e0 HD
        go_wp2
        go_ret
        exact ⟨rfl, rfl⟩
      · have hne : ((bs l).toList == ([] : List UInt8)) = false := by
          rw [bs_toList]
          cases l with
          | nil => exact absurd rfl e0
          | cons _ _ => rfl
        have hpos : 0 < l.length := List.length_pos_iff.2 e0
        obtain ⟨c, hcl⟩ : ∃ c, l[0] = c := ⟨_, rfl⟩
        have hat : ∀ h, (bs l)[0]'h = c := fun h => (bs_at l 0 h).trans hcl
        have HC0 : Hid (l[0]? = some c) := by show _ = _; rw [List.getElem?_eq_getElem hpos, hcl]
        clear hcl
        by_cases c1 : most < x
        · obtain rfl : z = -1 := HD.out.trans (if_pos (.inr (.inl c1)))
          go_wp2
          go_ret
          exact ⟨rfl, rfl⟩
        · by_cases c2 : c = 48
          · subst c2
            by_cases c3 : 1 < l.length
            · obtain rfl : z = -1 := HD.out.trans (if_pos (.inr (.inr ⟨HC0.out, c3⟩)))
              go_wp2
              go_ret
              exact ⟨rfl, rfl⟩
            · obtain rfl : z = x := HD.out.trans (if_neg (by rintro (h | h | h); exact e0 h; exact c1 h; exact c3 h.2))
              go_wp2
              go_ret
              exact ⟨rfl, rfl⟩
          · obtain rfl : z = x := HD.out.trans (if_neg (by
              rintro (h | h | h)
              · exact e0 h
              · exact c1 h
              · rw [HC0.out] at h
                exact c2 (Option.some.inj h.1)))
            have c2' : ((c.toNat : Int) == 48) = false := by
              have : c.toNat ≠ 48 := fun e => c2 (by rw [← UInt8.toNat_inj]; exact e)
              simp
              omega
            go_wp2
            go_ret
            exact ⟨rfl, rfl⟩
end Go.Proofs.YtflnjlbafchnaaaGreatDoor

/-
  Cells, plainly: what a cell says, the text that says it, what a text says.
-/
namespace Go.Proofs.YtflnjlbafchnaaaGreatDoor
open Go.Lib

/-- A cell: the value and version of its key (none: version 0), what it says (0 here, 1 moving, 2 gone), how often the key was handed over, to which group. -/
structure Ce where
  v : List UInt8
  n : Nat
  s : Nat
  h : Nat
  g : Nat
def wHere : List UInt8 := [104, 101, 114, 101]
def wMov : List UInt8 := [109, 111, 118, 105, 110, 103]
def wGon : List UInt8 := [103, 111, 110, 101]
def cw (s : Nat) : List UInt8 := if s = 0 then wHere else if s = 1 then wMov else wGon
def sayOf (w : List UInt8) : Option Nat := if w = wHere then some 0 else if w = wMov then some 1 else if w = wGon then some 2 else none
def ceTail (v : List UInt8) (n : Nat) : List UInt8 := if v = [] ∧ n = 0 then [] else 32 :: (decDigits n ++ 32 :: 61 :: v)
def ceTxt (c : Ce) : List UInt8 := cw c.s ++ 32 :: (decDigits c.h ++ ((if c.s = 0 then [] else 32 :: decDigits c.g) ++ ceTail c.v c.n))
structure Ce.Ok (c : Ce) : Prop where
  v : c.v.length ≤ 32
  n : c.n ≤ 999999
  vn : c.n = 0 → c.v = []
  s : c.s ≤ 2
  h : c.h ≤ 999999
  g0 : c.s = 0 → c.g = 0
  g1 : c.s ≠ 0 → 1 ≤ c.g ∧ c.g ≤ 4
  gone : c.s = 2 → c.n = 0
/-- The numbers that stand in a cell that says this, from where to where each. -/
def ceSpec (s : Nat) (full : Bool) : List (Nat × Nat) := (0, 999999) :: ((if s = 0 then [] else [(1, 4)]) ++ (if full = true then [(1, 999999)] else []))
def ceRd : List (List UInt8) → List (Nat × Nat) → Option (List Nat)
  | [], [] => some []
  | w :: ws, (a, b) :: r => match amt b w with
    | some v => if a ≤ v then (ceRd ws r).map (fun l => v :: l) else none
    | none => none
  | _, _ => none
def mkCe (v : List UInt8) (s : Nat) : List Nat → Ce
  | [h] => ⟨v, 0, s, h, 0⟩
  | [h, x] => if s = 0 then ⟨v, x, s, h, 0⟩ else ⟨v, 0, s, h, x⟩
  | [h, g, n] => ⟨v, n, s, h, g⟩
  | _ => ⟨v, 0, s, 0, 0⟩
/-- What a text says, by its parts: the pieces ahead of the mark, the value, whether there is one. -/
def ceBy (ps : List (List UInt8)) (v : List UInt8) (full : Bool) : Option Ce :=
  match ps with
  | [] => none
  | w :: ws => match sayOf w with
    | none => none
    | some s => if (full = true ∧ s = 2) ∨ 32 < v.length then none else (ceRd ws (ceSpec s full)).map (mkCe v s)
def ceOf (l : List UInt8) : Option Ce := ceBy (pcs (cut l [32, 61]).1) (cut l [32, 61]).2.1 (cut l [32, 61]).2.2

theorem sayOf_some {w : List UInt8} {s : Nat} (h : sayOf w = some s) : s ≤ 2 ∧ w = cw s := by
  unfold sayOf at h
  split at h
  · cases h; rename_i e; exact ⟨by omega, e⟩
  · split at h
    · cases h; rename_i e; exact ⟨by omega, e⟩
    · split at h
      · cases h; rename_i e; exact ⟨by omega, e⟩
      · cases h
theorem ceRd_cons {w : List UInt8} {ws : List (List UInt8)} {a b : Nat} {r : List (Nat × Nat)} {l : List Nat} (h : ceRd (w :: ws) ((a, b) :: r) = some l) : ∃ v m, l = v :: m ∧ amt b w = some v ∧ a ≤ v ∧ ceRd ws r = some m := by
  unfold ceRd at h
  split at h
  · rename_i v hv
    split at h
    · rename_i ha
      cases hr : ceRd ws r with
      | none => rw [hr] at h; cases h
      | some m => rw [hr] at h; cases h; exact ⟨v, m, rfl, hv, ha, rfl⟩
    · cases h
  · cases h
/-- What is read may be. -/
theorem ceBy_ok {ps : List (List UInt8)} {v : List UInt8} {full : Bool} {c : Ce} (hv0 : full = false → v = []) (h : ceBy ps v full = some c) : c.Ok := by
  unfold ceBy at h
  split at h
  · cases h
  · rename_i w ws
    split at h
    · cases h
    · rename_i s hs
      split at h
      · cases h
      · rename_i hc
        simp only [not_or] at hc
        obtain ⟨hc1, hc2⟩ := hc
        have hs2 := (sayOf_some hs).1
        cases hr : ceRd ws (ceSpec s full) with
        | none => rw [hr] at h; cases h
        | some l =>
          rw [hr] at h
          simp only [Option.map_some, Option.some.injEq] at h
          subst h
          unfold ceSpec at hr
          cases ws with
          | nil => cases hr
          | cons w1 ws =>
            obtain ⟨h1, m, rfl, a1, b1, hr1⟩ := ceRd_cons hr
            have c1 := (amt_some a1).1
            by_cases s0 : s = 0
            · rw [if_pos s0, List.nil_append] at hr1
              cases full with
              | false =>
                obtain rfl := hv0 rfl
                cases ws with
                | nil => cases hr1; exact ⟨by simp [mkCe], by simp [mkCe], fun _ => rfl, by simp [mkCe]; omega, c1, fun _ => rfl, fun e => absurd (show s = 0 from s0) e, fun _ => rfl⟩
                | cons _ _ => cases hr1
              | true =>
                cases ws with
                | nil => cases hr1
                | cons w2 ws =>
                  obtain ⟨n1, m2, rfl, a2, b2, hr2⟩ := ceRd_cons hr1
                  have c2 := (amt_some a2).1
                  cases ws with
                  | nil =>
                    cases hr2
                    have e : mkCe v s [h1, n1] = ⟨v, n1, s, h1, 0⟩ := if_pos s0
                    rw [e]
                    exact ⟨by show v.length ≤ 32; omega, c2, fun e => by simp only at e; omega, by show s ≤ 2; omega, c1, fun _ => rfl, fun e => absurd s0 e, fun e => by simp only at e; omega⟩
                  | cons _ _ => cases hr2
            · rw [if_neg s0] at hr1
              cases ws with
              | nil => cases hr1
              | cons w2 ws =>
                obtain ⟨g1, m2, rfl, a2, b2, hr2⟩ := ceRd_cons hr1
                have c2 := (amt_some a2).1
                cases full with
                | false =>
                  obtain rfl := hv0 rfl
                  cases ws with
                  | nil =>
                    cases hr2
                    have e : mkCe [] s [h1, g1] = ⟨[], 0, s, h1, g1⟩ := if_neg s0
                    rw [e]
                    exact ⟨by simp, by simp, fun _ => rfl, by show s ≤ 2; omega, c1, fun e => absurd e s0, fun _ => ⟨b2, c2⟩, fun _ => rfl⟩
                  | cons _ _ => cases hr2
                | true =>
                  cases ws with
                  | nil => cases hr2
                  | cons w3 ws =>
                    obtain ⟨n1, m3, rfl, a3, b3, hr3⟩ := ceRd_cons hr2
                    have c3 := (amt_some a3).1
                    cases ws with
                    | nil =>
                      cases hr3
                      exact ⟨by show v.length ≤ 32; omega, c3, fun e => by simp only [mkCe] at e; omega, by show s ≤ 2; omega, c1, fun e => absurd e s0, fun _ => ⟨b2, c2⟩, fun e => absurd ⟨rfl, e⟩ hc1⟩
                    | cons _ _ => cases hr3
theorem cut_false {l : List UInt8} (h : (cut l [32, 61]).2.2 = false) : (cut l [32, 61]).2.1 = [] ∧ (cut l [32, 61]).1 = l := by
  unfold cut at h ⊢
  split at h
  · cases h
  · rename_i hc
    rw [if_neg hc]
    exact ⟨rfl, rfl⟩
theorem ceOf_ok {l : List UInt8} {c : Ce} (h : ceOf l = some c) : c.Ok := ceBy_ok (fun e => (cut_false e).1) h
end Go.Proofs.YtflnjlbafchnaaaGreatDoor
