/-
  Joined: WTxS, WCd2, WCd3, WCx1, WCg1, WCx2, WCx6.
-/
import Derived.Test.YtflnjlbafchnaaaGreatDoorR04
import Derived.Test.YtflnjlbafchnaaaGreatDoorR01
import Derived.Test.YtflnjlbafchnaaaGreatDoorR07
import Derived.Deep.DeepCutAuto
import Derived.Deep.DeepFit
import Derived.BigQuiet
import Derived.BigRegion
/-
  Transactions: the document's heldOf: what a key says.
-/
namespace Go.Proofs.YtflnjlbafchnaaaGreatDoor
open Go.RowKit

theorem bs_sub (l : List UInt8) (a b : Nat) : (bs l).extract a b = bs ((l.drop a).take (b - a)) := by
  apply ByteArray.ext; simp [bs]
theorem hdOf_full {l x y z : List UInt8} {n b t : Nat} (hp : pcs l = [x, y, z]) (h1 : amt MA x = some n) (h2 : amt MT y = some b) (hb : 1 ≤ b) (h3 : amt MA z = some t) : hdOf l = ⟨n, b, t⟩ := by
  unfold hdOf
  rw [hp]
  show hd3 x y z = _
  unfold hd3
  rw [h1, h2, h3]
  simp only
  rw [if_pos hb]
theorem hdOf_low {l x y z : List UInt8} (hp : pcs l = [x, y, z]) (h : amtZ MT y < 1) : hdOf l = Hd.no := by
  unfold hdOf
  rw [hp]
  show hd3 x y z = _
  unfold hd3
  split
  · rename_i h1 h2 h3
    rw [amtZ_some h2] at h
    rw [if_neg (by omega)]
  · rfl
theorem pcs_next {l : List UInt8} {fr k : Nat} (hk : k < l.length) (hf : fr ≤ k) (hb : ∀ x ∈ (l.drop fr).take (k - fr), x ≠ 32) (h : l[k] = 32) : pcs (l.drop fr) = (l.drop fr).take (k - fr) :: pcs (l.drop (k + 1)) := by
  have : l.drop fr = (l.drop fr).take (k - fr) ++ 32 :: l.drop (k + 1) := by
    conv => lhs; rw [← List.take_append_drop (k - fr) (l.drop fr)]
    rw [List.drop_drop, show fr + (k - fr) = k by omega, List.drop_eq_getElem_cons hk, h]
  conv => lhs; rw [this]
  exact pcs_app hb _
theorem pcs_more {l : List UInt8} {fr k : Nat} (hk : k < l.length) (hf : fr ≤ k) (hb : ∀ x ∈ (l.drop fr).take (k - fr), x ≠ 32) (h : l[k] ≠ 32) : ∀ x ∈ (l.drop fr).take (k + 1 - fr), x ≠ 32 := by
  intro x hx
  have e : (l.drop fr).take (k + 1 - fr) = (l.drop fr).take (k - fr) ++ [l[k]] := by
    rw [show k + 1 - fr = (k - fr) + 1 by omega, List.take_succ_eq_append_getElem (by rw [List.length_drop]; omega)]
    congr 2
    rw [List.getElem_drop]
    congr 1
    omega
  rw [e] at hx
  rcases List.mem_append.1 hx with hx | hx
  · exact hb x hx
  · simp at hx
    rw [hx]
    exact h
theorem OwnK.at {B c : Nat} {w : World} {ao : Option Addr} {ks : List (List UInt8)} (h : OwnK B w ao c ks) (hne : 0 < ks.length) : ∃ g, ao = some ⟨g, 0, none⟩ ∧ g < w.heap.size ∧ ∀ j, (hj : j < ks.length) → w.cell? ⟨g, j, none⟩ = some (.string (bs ks[j])) := by
  rcases h.2 with ⟨h1, _⟩ | ⟨g, cap, cur, hv, hb, hh, h1, h2, h3, h4⟩
  · simp at h1
    rw [h1.2.1] at hne
    simp at hne
  · simp only [Value.slice.injEq] at hv
    refine ⟨g, hv.1, lt_of_block hh, fun j hj => ?_⟩
    have h0 := blk_cell hh (i := j)
    rw [h0]
    have := congrArg (fun l => l[j]?) h4
    simp only [List.getElem?_take, if_pos (show j < ks.length * 1 by omega), Array.getElem?_toList] at this
    rw [this]
    simp [kyCells, hj]
set_option maxRecDepth 100000 in
set_option maxHeartbeats 4000000 in
theorem refHeldOf_any (l : List UInt8) (hl : l.length ≤ 1048576) (w : World) :
    Calls Tryz.prog 65 #[.string (bs l)] w (HdPost w (hdOf l)) := by
  obtain ⟨h, HH⟩ : ∃ h, Hid (h = hdOf l) := ⟨_, rfl⟩
  rw [← HH.out]
  obtain ⟨i0, hi0, hz⟩ := Option.map_eq_some_iff.1 Tryz.infoSt
  simp only [Prod.mk.injEq] at hz
  obtain ⟨hz0, hz1, hz2⟩ := hz
  have hsz := bs_size l
  obtain ⟨W, hW⟩ : ∃ W, W = w.alloc (.cells #[.int .i64 0, .int .i64 0, .int .i64 0] 43) := ⟨_, rfl⟩
  obtain ⟨A, HAe⟩ : ∃ A, Hid (A = w.heap.size) := ⟨_, rfl⟩
  have HAw : Hid (w.heap.size ≤ A) := by show _ ≤ _; rw [HAe.out]; exact Nat.le_refl _
  have KW : Hid (Kept Nil w W) := by rw [hW]; exact (Kept.refl _ _).alloc _
  have HA0 : Hid (W.heap[A]? = some (.cells #[.int .i64 0, .int .i64 0, .int .i64 0] 43 (0, 0))) := by rw [hW, HAe.out]; exact blk_new _ _
  have HLl : Hid (l.length ≤ 1048576) := hl
  go_enter Tryz.func65, Tryz.ntmps65
  go_wp2
  rw [← hW, ← HAe.out]
  clear hW
  go_loopw [3, 4, 5] (fun s3 s4 s5 wr => ∃ k fr : Nat, ∃ D : List (List UInt8), ∃ ao c, k ≤ l.length + 1 ∧ s5 = .int .i64 k ∧ s3 = .int .i64 fr ∧ s4 = .slice ao D.length c ∧ D.length ≤ k ∧ fr ≤ k ∧ Hid (OwnK W.heap.size wr ao c D) ∧ Hid (Kept Nil W wr) ∧ Hid ((k ≤ l.length ∧ pcs l = D ++ pcs (l.drop fr) ∧ ∀ x ∈ (l.drop fr).take (k - fr), x ≠ 32) ∨ (k = l.length + 1 ∧ pcs l = D))) (fun _ _ i _ => l.length + 1 - (intOf i).toNat)
  case atStart => exact ⟨0, 0, [], none, 0, Nat.zero_le _, rfl, rfl, rfl, Nat.le_refl _, Nat.le_refl _, World.ownsRow_nil _ _ _ _, Kept.refl _ _, .inl ⟨Nat.zero_le _, rfl, by simp⟩⟩
  case round =>
    obtain ⟨k, fr, D, ao, c, hk, rfl, rfl, rfl, hD, hf, HOk, HKr, HI⟩ := hrel
    by_cases hle : k ≤ l.length
    · have HJ : Hid (pcs l = D ++ pcs (l.drop fr) ∧ ∀ x ∈ (l.drop fr).take (k - fr), x ≠ 32) := by
        rcases HI.out with h | h
        · exact h.2
        · exact absurd hle (by have := h.1; omega)
      clear HI
      obtain ⟨z, HZ⟩ : ∃ z, Hid (z = (l.drop fr).take (k - fr)) := ⟨_, rfl⟩
      have hex : (bs l).extract fr k = bs z := by rw [HZ.out]; exact bs_sub l fr k
      rename World => wr
      by_cases heq : k = l.length
      · have HP : Hid (pcs l = D ++ [z]) := by
          show _ = _
          have h1 : z = l.drop fr := by rw [HZ.out, List.take_of_length_le (by rw [List.length_drop]; omega)]
          have h2 := HJ.out.2
          rw [← HZ.out] at h2
          rw [HJ.out.1, ← h1, pcs_one h2]
        have hb2 : ((k : Int) == (l.length : Int)) = true := by simp [heq]
        have HEQ : Hid (k = l.length) := heq
        clear heq
        have HSRC : Hid (Src Tryz.prog 1 48 (.slice (some ⟨wr.heap.size, 0, none⟩) 1 1) 1 [.string (bs z)] (wr.alloc (.cells #[.string (bs z)] 9))) := src_ky z
        have HLL : Hid (D.length + 1 ≤ maxLen ∧ (D.length + 1) * 16 ≤ 140737488355328) := by constructor <;> (try unfold maxLen) <;> omega
        have HOO : Hid (wr.ownsRow W.heap.size 9 1 (.slice ao D.length c) D.length (kyCells D)) := HOk.out
        have hWl : W.heap.size ≤ wr.heap.size := HKr.out.size
        go_wp2_with (at_builtin; go_must (refine wpList_append_src _ rfl _ _ 48 48 rfl W.heap.size 9 i0 (.string ⟨#[]⟩) 1 16 Tryz.underlying48 hi0 hz0 hz1 hz2 rfl _ _ _ rfl (World.ownsRow.alloc HOO.out _) (.slice (some ⟨wr.heap.size, 0, none⟩) 1 1) 1 [.string (bs z)] rfl HSRC.out HLL.out.1 HLL.out.2 (le_alloc hWl _) ?_); intro ao' c' w4 ho' hg'; have HO4 : Hid (w4.ownsRow W.heap.size 9 1 (.slice ao' (D.length + 1) c') (D.length + 1) (kyCells D ++ [.string (bs z)])) := ho'; have HK4 : Hid (Kept Nil W w4) := (HKr.out.alloc _).grown hg' (fun q hq => own_row HOO.out q hq); clear ho' hg')
        go_roundw
        case rel => exact ⟨k + 1, k + 1, D ++ [z], ao', c', by omega, by go_num, by go_num, by rw [List.length_append]; rfl, by rw [List.length_append]; simp; omega, by omega, by show OwnK _ _ _ _ _; unfold OwnK; rw [kyCells_snoc, List.length_append]; exact HO4.out, HK4.out, .inr ⟨by have := HEQ.out; omega, HP.out⟩⟩
        case measure => simp [intOf]; omega
      · have hlt : k < l.length := by omega
        have hb2 : ((k : Int) == (l.length : Int)) = false := by simp; omega
        obtain ⟨ch, hcl⟩ : ∃ ch, l[k] = ch := ⟨_, rfl⟩
        have hat : ∀ h, (bs l)[k]'h = ch := fun h => (bs_at l k h).trans hcl
        by_cases hsp : ch = 32
        · have HP : Hid (pcs l = (D ++ [z]) ++ pcs (l.drop (k + 1))) := by
            show _ = _
            rw [HJ.out.1, pcs_next hlt hf HJ.out.2 (hcl.trans hsp), ← HZ.out, List.append_assoc]
            rfl
          subst hsp
          clear hcl
          have HSRC : Hid (Src Tryz.prog 1 48 (.slice (some ⟨wr.heap.size, 0, none⟩) 1 1) 1 [.string (bs z)] (wr.alloc (.cells #[.string (bs z)] 9))) := src_ky z
          have HLL : Hid (D.length + 1 ≤ maxLen ∧ (D.length + 1) * 16 ≤ 140737488355328) := by constructor <;> (try unfold maxLen) <;> omega
          have HOO : Hid (wr.ownsRow W.heap.size 9 1 (.slice ao D.length c) D.length (kyCells D)) := HOk.out
          have hWl : W.heap.size ≤ wr.heap.size := HKr.out.size
          go_wp2_with (at_builtin; go_must (refine wpList_append_src _ rfl _ _ 48 48 rfl W.heap.size 9 i0 (.string ⟨#[]⟩) 1 16 Tryz.underlying48 hi0 hz0 hz1 hz2 rfl _ _ _ rfl (World.ownsRow.alloc HOO.out _) (.slice (some ⟨wr.heap.size, 0, none⟩) 1 1) 1 [.string (bs z)] rfl HSRC.out HLL.out.1 HLL.out.2 (le_alloc hWl _) ?_); intro ao' c' w4 ho' hg'; have HO4 : Hid (w4.ownsRow W.heap.size 9 1 (.slice ao' (D.length + 1) c') (D.length + 1) (kyCells D ++ [.string (bs z)])) := ho'; have HK4 : Hid (Kept Nil W w4) := (HKr.out.alloc _).grown hg' (fun q hq => own_row HOO.out q hq); clear ho' hg')
          go_roundw
          case rel => exact ⟨k + 1, k + 1, D ++ [z], ao', c', by omega, by go_num, by go_num, by rw [List.length_append]; rfl, by rw [List.length_append]; simp; omega, by omega, by show OwnK _ _ _ _ _; unfold OwnK; rw [kyCells_snoc, List.length_append]; exact HO4.out, HK4.out, .inl ⟨by omega, HP.out, by simp⟩⟩
          case measure => simp [intOf]; omega
        · have HP : Hid (∀ x ∈ (l.drop fr).take (k + 1 - fr), x ≠ 32) := pcs_more hlt hf HJ.out.2 (by rw [hcl]; exact hsp)
          have hsp' : ((ch.toNat : Int) == 32) = false := by
            have : ch.toNat ≠ 32 := fun e => hsp (by rw [← UInt8.toNat_inj]; exact e)
            simp
            omega
          clear hcl
          go_wp2
          go_roundw
          case rel => exact ⟨k + 1, fr, D, ao, c, by omega, by go_num, rfl, rfl, by omega, by omega, HOk.out, HKr.out, .inl ⟨by omega, HJ.out.1, HP.out⟩⟩
          case measure => simp [intOf]; omega
    · have HP : Hid (pcs l = D) := by
        rcases HI.out with h | h
        · exact absurd h.1 hle
        · exact h.2
      rename World => wr
      have hDp : 0 < D.length := by
        rw [← HP.out]
        exact List.length_pos_iff.2 (pcs_ne l)
      obtain ⟨g, rfl, hgl, hcs⟩ := HOk.out.at hDp
      obtain ⟨x, rest, hx⟩ : ∃ x rest, D = x :: rest := by
        cases D with
        | nil => simp at hDp
        | cons x rest => exact ⟨x, rest, rfl⟩
      have HX : Hid (D = x :: rest) := hx
      have HC : Hid (∀ j, (hj : j < D.length) → wr.cell? ⟨g, j, none⟩ = some (.string (bs D[j]))) := hcs
      have HM : Hid (∀ y ∈ D, y.length ≤ maxLen) := fun y hy => by
        have h1 := pcs_len l y (by rw [HP.out]; exact hy)
        have h2 := HLl.out
        unfold maxLen
        omega
      have q0 : wr.cell? ⟨g, 0, none⟩ = some (.string (bs x)) := by
        have := hcs 0 hDp
        simpa [hx] using this
      clear hcs hx HI HOk
      have AM := refAmount_any x 999999999 (HM.out x (by rw [HX.out]; simp)) (by decide) wr
      obtain ⟨v0, HV0⟩ : ∃ v0, Hid (v0 = amtZ MA x) := ⟨_, rfl⟩
      rw [show amtZ 999999999 x = v0 from HV0.out.symm] at AM
      have hwr : A < wr.heap.size := lt_of_block (HKr.out.block _ _ HA0.out (fun x => x.elim))
      go_wp2_with fail
      go_fit AM
      clear AM
      rintro _ wq ⟨rfl, hwq⟩
      rw [hwq]
      clear hwq wq
      cases ha : amt MA x with
      | none =>
        obtain rfl : h = Hd.no := HH.out.trans (hdOf_bad0 (HP.out.trans HX.out) ha)
        obtain rfl : v0 = -1 := HV0.out.trans (amtZ_none ha)
        clear ha
        have BR : wr.heap[A]? = some (.cells #[.int .i64 0, .int .i64 0, .int .i64 0] 43 (0, 0)) := HKr.out.block _ _ HA0.out (fun x => x.elim)
        have hlt : A < wr.heap.size := lt_of_block BR
        have r0 : wr.cell? ⟨A, 0, none⟩ = some (.int .i64 0) := blk_at BR 0 rfl
        have z0 : wr.frozen? ⟨A, 0, none⟩ = false := blk_free BR 0
        have r1 : wr.cell? ⟨A, 1, none⟩ = some (.int .i64 0) := blk_at BR 1 rfl
        have z1 : wr.frozen? ⟨A, 1, none⟩ = false := blk_free BR 1
        have r2 : wr.cell? ⟨A, 2, none⟩ = some (.int .i64 0) := blk_at BR 2 rfl
        have z2 : wr.frozen? ⟨A, 2, none⟩ = false := blk_free BR 2
        obtain ⟨V, hV⟩ : ∃ V, V = ((wr.setCell ⟨A, 0, none⟩ (.int .i64 0)).setCell ⟨A, 1, none⟩ (.int .i64 0)).setCell ⟨A, 2, none⟩ (.int .i64 0) := ⟨_, rfl⟩
        have HV : Hid (V.heap[A]? = some (.cells #[.int .i64 0, .int .i64 0, .int .i64 0] 43 (0, 0)) ∧ Kept Nil w V) := by rw [hV]; exact ⟨blk_set (blk_set (blk_set BR 0 _) 1 _) 2 _, (((KW.out.trans HKr.out).setNew (p := ⟨A, 0, none⟩) HAw.out _).setNew (p := ⟨A, 1, none⟩) HAw.out _).setNew (p := ⟨A, 2, none⟩) HAw.out _⟩
        clear BR
        go_wp2
        rw [← hV]
        clear hV r0 r1 r2 z0 z1 z2 hlt
        have j0 : ∀ o, (V.alloc o).cell? ⟨A, 0, none⟩ = some (.int .i64 0) := fun o => blk_at (blk_past HV.out.1 o) 0 rfl
        have j1 : ∀ o, (V.alloc o).cell? ⟨A, 1, none⟩ = some (.int .i64 0) := fun o => blk_at (blk_past HV.out.1 o) 1 rfl
        have j2 : ∀ o, (V.alloc o).cell? ⟨A, 2, none⟩ = some (.int .i64 0) := fun o => blk_at (blk_past HV.out.1 o) 2 rfl
        exact bodyPost_ret (v := .agg #[.int .i64 0, .int .i64 0, .int .i64 0]) (by simp [results, Tryz.results65, go_sem, j0, j1, j2]) rfl ⟨rfl, HV.out.2.alloc _⟩
      | some n =>
        obtain rfl : v0 = n := HV0.out.trans (amtZ_some ha)
        have HN : Hid (amt MA x = some n) := ha
        clear ha
        have hn0 : decide ((n : Int) < 0) = false := decide_eq_false (by omega)
        by_cases c1 : D.length = 1
        · obtain rfl : h = ⟨n, 0, 0⟩ := HH.out.trans (hdOf_one (by
            have h2 := HX.out
            rw [HP.out]
            rw [h2] at c1
            cases rest with
            | nil => exact h2
            | cons _ _ => simp at c1) HN.out)
          have BR : wr.heap[A]? = some (.cells #[.int .i64 0, .int .i64 0, .int .i64 0] 43 (0, 0)) := HKr.out.block _ _ HA0.out (fun x => x.elim)
          have hlt : A < wr.heap.size := lt_of_block BR
          have r0 : wr.cell? ⟨A, 0, none⟩ = some (.int .i64 0) := blk_at BR 0 rfl
          have z0 : wr.frozen? ⟨A, 0, none⟩ = false := blk_free BR 0
          have r1 : wr.cell? ⟨A, 1, none⟩ = some (.int .i64 0) := blk_at BR 1 rfl
          have z1 : wr.frozen? ⟨A, 1, none⟩ = false := blk_free BR 1
          have r2 : wr.cell? ⟨A, 2, none⟩ = some (.int .i64 0) := blk_at BR 2 rfl
          have z2 : wr.frozen? ⟨A, 2, none⟩ = false := blk_free BR 2
          obtain ⟨V, hV⟩ : ∃ V, V = ((wr.setCell ⟨A, 0, none⟩ (.int .i64 n)).setCell ⟨A, 1, none⟩ (.int .i64 0)).setCell ⟨A, 2, none⟩ (.int .i64 0) := ⟨_, rfl⟩
          have HV : Hid (V.heap[A]? = some (.cells #[.int .i64 n, .int .i64 0, .int .i64 0] 43 (0, 0)) ∧ Kept Nil w V) := by rw [hV]; exact ⟨blk_set (blk_set (blk_set BR 0 _) 1 _) 2 _, (((KW.out.trans HKr.out).setNew (p := ⟨A, 0, none⟩) HAw.out _).setNew (p := ⟨A, 1, none⟩) HAw.out _).setNew (p := ⟨A, 2, none⟩) HAw.out _⟩
          clear BR
          go_wp2
          rw [← hV]
          clear hV r0 r1 r2 z0 z1 z2 hlt
          have j0 : ∀ o, (V.alloc o).cell? ⟨A, 0, none⟩ = some (.int .i64 n) := fun o => blk_at (blk_past HV.out.1 o) 0 rfl
          have j1 : ∀ o, (V.alloc o).cell? ⟨A, 1, none⟩ = some (.int .i64 0) := fun o => blk_at (blk_past HV.out.1 o) 1 rfl
          have j2 : ∀ o, (V.alloc o).cell? ⟨A, 2, none⟩ = some (.int .i64 0) := fun o => blk_at (blk_past HV.out.1 o) 2 rfl
          exact bodyPost_ret (v := .agg #[.int .i64 n, .int .i64 0, .int .i64 0]) (by simp [results, Tryz.results65, go_sem, j0, j1, j2]) rfl ⟨rfl, HV.out.2.alloc _⟩
        · by_cases c3 : D.length = 3
          · obtain ⟨y, z, hyz⟩ : ∃ y z, D = [x, y, z] := by
              have h2 := HX.out
              rw [h2] at c3
              match rest, h2, c3 with
              | [y, z], h2, _ => exact ⟨y, z, h2⟩
              | [], _, h1 => simp at h1
              | [_], _, h1 => simp at h1
              | _ :: _ :: _ :: _, _, h1 => simp at h1
            have HYZ : Hid (D = [x, y, z]) := hyz
            have HPZ : Hid (pcs l = [x, y, z]) := HP.out.trans hyz
            have q1 : wr.cell? ⟨g, 1, none⟩ = some (.string (bs y)) := by
              have := HC.out 1 (by omega)
              simpa [hyz] using this
            have q2 : wr.cell? ⟨g, 2, none⟩ = some (.string (bs z)) := by
              have := HC.out 2 (by omega)
              simpa [hyz] using this
            clear hyz
            have b1 : ((D.length : Int) != 1) = true := by rw [c3]; rfl
            have b3 : ((D.length : Int) != 3) = false := by rw [c3]; rfl
            have b4 : ((D.length : Int) == 3) = true := by rw [c3]; rfl
            have l1 : 1 < D.length := by omega
            have l2 : 2 < D.length := by omega
            clear c3 c1 hDp
            have A1 := fun X => refAmount_any y 999 (HM.out y (by rw [HYZ.out]; simp)) (by decide) X
            have A2 := fun X => refAmount_any z 999999999 (HM.out z (by rw [HYZ.out]; simp)) (by decide) X
            obtain ⟨v1, HV1⟩ : ∃ v1, Hid (v1 = amtZ MT y) := ⟨_, rfl⟩
            obtain ⟨v2, HV2⟩ : ∃ v2, Hid (v2 = amtZ MA z) := ⟨_, rfl⟩
            rw [show amtZ 999 y = v1 from HV1.out.symm] at A1
            rw [show amtZ 999999999 z = v2 from HV2.out.symm] at A2
            go_wp2_with fail
            go_fit (A1 _)
            clear A1
            rintro _ wq ⟨rfl, hwq⟩
            rw [hwq]
            clear hwq wq
            go_wp2_with fail
            go_fit (A2 _)
            clear A2
            rintro _ wq ⟨rfl, hwq⟩
            rw [hwq]
            clear hwq wq
            by_cases c4 : v1 < 1
            · obtain rfl : h = Hd.no := HH.out.trans (hdOf_low HPZ.out (by rw [← HV1.out]; exact c4))
              have BR : wr.heap[A]? = some (.cells #[.int .i64 0, .int .i64 0, .int .i64 0] 43 (0, 0)) := HKr.out.block _ _ HA0.out (fun x => x.elim)
              have hlt : A < wr.heap.size := lt_of_block BR
              have r0 : wr.cell? ⟨A, 0, none⟩ = some (.int .i64 0) := blk_at BR 0 rfl
              have z0 : wr.frozen? ⟨A, 0, none⟩ = false := blk_free BR 0
              have r1 : wr.cell? ⟨A, 1, none⟩ = some (.int .i64 0) := blk_at BR 1 rfl
              have z1 : wr.frozen? ⟨A, 1, none⟩ = false := blk_free BR 1
              have r2 : wr.cell? ⟨A, 2, none⟩ = some (.int .i64 0) := blk_at BR 2 rfl
              have z2 : wr.frozen? ⟨A, 2, none⟩ = false := blk_free BR 2
              obtain ⟨V, hV⟩ : ∃ V, V = ((wr.setCell ⟨A, 0, none⟩ (.int .i64 0)).setCell ⟨A, 1, none⟩ (.int .i64 0)).setCell ⟨A, 2, none⟩ (.int .i64 0) := ⟨_, rfl⟩
              have HV : Hid (V.heap[A]? = some (.cells #[.int .i64 0, .int .i64 0, .int .i64 0] 43 (0, 0)) ∧ Kept Nil w V) := by rw [hV]; exact ⟨blk_set (blk_set (blk_set BR 0 _) 1 _) 2 _, (((KW.out.trans HKr.out).setNew (p := ⟨A, 0, none⟩) HAw.out _).setNew (p := ⟨A, 1, none⟩) HAw.out _).setNew (p := ⟨A, 2, none⟩) HAw.out _⟩
              clear BR
              go_wp2
              rw [← hV]
              clear hV r0 r1 r2 z0 z1 z2 hlt
              have j0 : ∀ o, (V.alloc o).cell? ⟨A, 0, none⟩ = some (.int .i64 0) := fun o => blk_at (blk_past HV.out.1 o) 0 rfl
              have j1 : ∀ o, (V.alloc o).cell? ⟨A, 1, none⟩ = some (.int .i64 0) := fun o => blk_at (blk_past HV.out.1 o) 1 rfl
              have j2 : ∀ o, (V.alloc o).cell? ⟨A, 2, none⟩ = some (.int .i64 0) := fun o => blk_at (blk_past HV.out.1 o) 2 rfl
              exact bodyPost_ret (v := .agg #[.int .i64 0, .int .i64 0, .int .i64 0]) (by simp [results, Tryz.results65, go_sem, j0, j1, j2]) rfl ⟨rfl, HV.out.2.alloc _⟩
            · obtain ⟨b, hb1, hb2⟩ : ∃ b : Nat, v1 = b ∧ amt MT y = some b := by
                cases hy : amt MT y with
                | none => rw [HV1.out, amtZ_none hy] at c4; omega
                | some b => exact ⟨b, by rw [HV1.out, amtZ_some hy], rfl⟩
              subst hb1
              have HB : Hid (amt MT y = some b) := hb2
              clear hb2
              cases hz : amt MA z with
              | none =>
                obtain rfl : h = Hd.no := HH.out.trans (hdOf_bad2 HPZ.out hz)
                obtain rfl : v2 = -1 := HV2.out.trans (amtZ_none hz)
                clear hz
                have BR : wr.heap[A]? = some (.cells #[.int .i64 0, .int .i64 0, .int .i64 0] 43 (0, 0)) := HKr.out.block _ _ HA0.out (fun x => x.elim)
                have hlt : A < wr.heap.size := lt_of_block BR
                have r0 : wr.cell? ⟨A, 0, none⟩ = some (.int .i64 0) := blk_at BR 0 rfl
                have z0 : wr.frozen? ⟨A, 0, none⟩ = false := blk_free BR 0
                have r1 : wr.cell? ⟨A, 1, none⟩ = some (.int .i64 0) := blk_at BR 1 rfl
                have z1 : wr.frozen? ⟨A, 1, none⟩ = false := blk_free BR 1
                have r2 : wr.cell? ⟨A, 2, none⟩ = some (.int .i64 0) := blk_at BR 2 rfl
                have z2 : wr.frozen? ⟨A, 2, none⟩ = false := blk_free BR 2
                obtain ⟨V, hV⟩ : ∃ V, V = ((wr.setCell ⟨A, 0, none⟩ (.int .i64 0)).setCell ⟨A, 1, none⟩ (.int .i64 0)).setCell ⟨A, 2, none⟩ (.int .i64 0) := ⟨_, rfl⟩
                have HV : Hid (V.heap[A]? = some (.cells #[.int .i64 0, .int .i64 0, .int .i64 0] 43 (0, 0)) ∧ Kept Nil w V) := by rw [hV]; exact ⟨blk_set (blk_set (blk_set BR 0 _) 1 _) 2 _, (((KW.out.trans HKr.out).setNew (p := ⟨A, 0, none⟩) HAw.out _).setNew (p := ⟨A, 1, none⟩) HAw.out _).setNew (p := ⟨A, 2, none⟩) HAw.out _⟩
                clear BR
                go_wp2
                rw [← hV]
                clear hV r0 r1 r2 z0 z1 z2 hlt
                have j0 : ∀ o, (V.alloc o).cell? ⟨A, 0, none⟩ = some (.int .i64 0) := fun o => blk_at (blk_past HV.out.1 o) 0 rfl
                have j1 : ∀ o, (V.alloc o).cell? ⟨A, 1, none⟩ = some (.int .i64 0) := fun o => blk_at (blk_past HV.out.1 o) 1 rfl
                have j2 : ∀ o, (V.alloc o).cell? ⟨A, 2, none⟩ = some (.int .i64 0) := fun o => blk_at (blk_past HV.out.1 o) 2 rfl
                exact bodyPost_ret (v := .agg #[.int .i64 0, .int .i64 0, .int .i64 0]) (by simp [results, Tryz.results65, go_sem, j0, j1, j2]) rfl ⟨rfl, HV.out.2.alloc _⟩
              | some t =>
                obtain rfl : v2 = t := HV2.out.trans (amtZ_some hz)
                obtain rfl : h = ⟨n, b, t⟩ := HH.out.trans (hdOf_full HPZ.out HN.out HB.out (by omega) hz)
                clear hz
                have ht0 : decide ((t : Int) < 0) = false := decide_eq_false (by omega)
                have BR : wr.heap[A]? = some (.cells #[.int .i64 0, .int .i64 0, .int .i64 0] 43 (0, 0)) := HKr.out.block _ _ HA0.out (fun x => x.elim)
                have hlt : A < wr.heap.size := lt_of_block BR
                have r0 : wr.cell? ⟨A, 0, none⟩ = some (.int .i64 0) := blk_at BR 0 rfl
                have z0 : wr.frozen? ⟨A, 0, none⟩ = false := blk_free BR 0
                have r1 : wr.cell? ⟨A, 1, none⟩ = some (.int .i64 0) := blk_at BR 1 rfl
                have z1 : wr.frozen? ⟨A, 1, none⟩ = false := blk_free BR 1
                have r2 : wr.cell? ⟨A, 2, none⟩ = some (.int .i64 0) := blk_at BR 2 rfl
                have z2 : wr.frozen? ⟨A, 2, none⟩ = false := blk_free BR 2
                obtain ⟨V, hV⟩ : ∃ V, V = ((wr.setCell ⟨A, 0, none⟩ (.int .i64 n)).setCell ⟨A, 1, none⟩ (.int .i64 b)).setCell ⟨A, 2, none⟩ (.int .i64 t) := ⟨_, rfl⟩
                have HV : Hid (V.heap[A]? = some (.cells #[.int .i64 n, .int .i64 b, .int .i64 t] 43 (0, 0)) ∧ Kept Nil w V) := by rw [hV]; exact ⟨blk_set (blk_set (blk_set BR 0 _) 1 _) 2 _, (((KW.out.trans HKr.out).setNew (p := ⟨A, 0, none⟩) HAw.out _).setNew (p := ⟨A, 1, none⟩) HAw.out _).setNew (p := ⟨A, 2, none⟩) HAw.out _⟩
                clear BR
                go_wp2
                rw [← hV]
                clear hV r0 r1 r2 z0 z1 z2 hlt
                have j0 : ∀ o, (V.alloc o).cell? ⟨A, 0, none⟩ = some (.int .i64 n) := fun o => blk_at (blk_past HV.out.1 o) 0 rfl
                have j1 : ∀ o, (V.alloc o).cell? ⟨A, 1, none⟩ = some (.int .i64 b) := fun o => blk_at (blk_past HV.out.1 o) 1 rfl
                have j2 : ∀ o, (V.alloc o).cell? ⟨A, 2, none⟩ = some (.int .i64 t) := fun o => blk_at (blk_past HV.out.1 o) 2 rfl
                exact bodyPost_ret (v := .agg #[.int .i64 n, .int .i64 b, .int .i64 t]) (by simp [results, Tryz.results65, go_sem, j0, j1, j2]) rfl ⟨rfl, HV.out.2.alloc _⟩
          · obtain rfl : h = Hd.no := HH.out.trans (hdOf_len (HP.out.trans HX.out) (by rw [HP.out]; exact c1) (by rw [HP.out]; exact c3))
            have b1 : ((D.length : Int) != 1) = true := by simp; omega
            have b3 : ((D.length : Int) != 3) = true := by simp; omega
            have BR : wr.heap[A]? = some (.cells #[.int .i64 0, .int .i64 0, .int .i64 0] 43 (0, 0)) := HKr.out.block _ _ HA0.out (fun x => x.elim)
            have hlt : A < wr.heap.size := lt_of_block BR
            have r0 : wr.cell? ⟨A, 0, none⟩ = some (.int .i64 0) := blk_at BR 0 rfl
            have z0 : wr.frozen? ⟨A, 0, none⟩ = false := blk_free BR 0
            have r1 : wr.cell? ⟨A, 1, none⟩ = some (.int .i64 0) := blk_at BR 1 rfl
            have z1 : wr.frozen? ⟨A, 1, none⟩ = false := blk_free BR 1
            have r2 : wr.cell? ⟨A, 2, none⟩ = some (.int .i64 0) := blk_at BR 2 rfl
            have z2 : wr.frozen? ⟨A, 2, none⟩ = false := blk_free BR 2
            obtain ⟨V, hV⟩ : ∃ V, V = ((wr.setCell ⟨A, 0, none⟩ (.int .i64 0)).setCell ⟨A, 1, none⟩ (.int .i64 0)).setCell ⟨A, 2, none⟩ (.int .i64 0) := ⟨_, rfl⟩
            have HV : Hid (V.heap[A]? = some (.cells #[.int .i64 0, .int .i64 0, .int .i64 0] 43 (0, 0)) ∧ Kept Nil w V) := by rw [hV]; exact ⟨blk_set (blk_set (blk_set BR 0 _) 1 _) 2 _, (((KW.out.trans HKr.out).setNew (p := ⟨A, 0, none⟩) HAw.out _).setNew (p := ⟨A, 1, none⟩) HAw.out _).setNew (p := ⟨A, 2, none⟩) HAw.out _⟩
            clear BR
            go_wp2
            rw [← hV]
            clear hV r0 r1 r2 z0 z1 z2 hlt
            have j0 : ∀ o, (V.alloc o).cell? ⟨A, 0, none⟩ = some (.int .i64 0) := fun o => blk_at (blk_past HV.out.1 o) 0 rfl
            have j1 : ∀ o, (V.alloc o).cell? ⟨A, 1, none⟩ = some (.int .i64 0) := fun o => blk_at (blk_past HV.out.1 o) 1 rfl
            have j2 : ∀ o, (V.alloc o).cell? ⟨A, 2, none⟩ = some (.int .i64 0) := fun o => blk_at (blk_past HV.out.1 o) 2 rfl
            exact bodyPost_ret (v := .agg #[.int .i64 0, .int .i64 0, .int .i64 0]) (by simp [results, Tryz.results65, go_sem, j0, j1, j2]) rfl ⟨rfl, HV.out.2.alloc _⟩
end Go.Proofs.YtflnjlbafchnaaaGreatDoor

/-
  Cells: a word, a number (the document's).
-/
namespace Go.Proofs.YtflnjlbafchnaaaGreatDoor
open Go.RowKit

end Go.Proofs.YtflnjlbafchnaaaGreatDoor

/-
  Cells: what a text says (the document's CellOf).
-/
namespace Go.Proofs.YtflnjlbafchnaaaGreatDoor
open Go.RowKit

def CcAt (X : World) (C : Nat) (s h g n : Int) (v : List UInt8) : Prop := X.heap[C]? = some (.cells #[.int .i64 s, .int .i64 h, .int .i64 g, .int .i64 n, .string (bs v)] 140 (0, 0))
theorem CcAt.s0 {X : World} {C : Nat} {s h g n : Int} {v : List UInt8} (a : CcAt X C s h g n v) (x : Int) : CcAt (X.setCell ⟨C, 0, none⟩ (.int .i64 x)) C x h g n v := blk_set a 0 _
theorem CcAt.s1 {X : World} {C : Nat} {s h g n : Int} {v : List UInt8} (a : CcAt X C s h g n v) (x : Int) : CcAt (X.setCell ⟨C, 1, none⟩ (.int .i64 x)) C s x g n v := blk_set a 1 _
theorem CcAt.s2 {X : World} {C : Nat} {s h g n : Int} {v : List UInt8} (a : CcAt X C s h g n v) (x : Int) : CcAt (X.setCell ⟨C, 2, none⟩ (.int .i64 x)) C s h x n v := blk_set a 2 _
theorem CcAt.s3 {X : World} {C : Nat} {s h g n : Int} {v : List UInt8} (a : CcAt X C s h g n v) (x : Int) : CcAt (X.setCell ⟨C, 3, none⟩ (.int .i64 x)) C s h g x v := blk_set a 3 _
theorem CcAt.s4 {X : World} {C : Nat} {s h g n : Int} {v : List UInt8} (a : CcAt X C s h g n v) (x : List UInt8) : CcAt (X.setCell ⟨C, 4, none⟩ (.string (bs x))) C s h g n x := blk_set a 4 _
theorem CcAt.all {X : World} {C : Nat} {s h g n : Int} {v : List UInt8} (a : CcAt X C s h g n v) (s' h' g' n' : Int) (v' : List UInt8) : CcAt (((((X.setCell ⟨C, 0, none⟩ (.int .i64 s')).setCell ⟨C, 1, none⟩ (.int .i64 h')).setCell ⟨C, 2, none⟩ (.int .i64 g')).setCell ⟨C, 3, none⟩ (.int .i64 n')).setCell ⟨C, 4, none⟩ (.string (bs v'))) C s' h' g' n' v' := ((((a.s0 _).s1 _).s2 _).s3 _).s4 _
theorem CcAt.off {X : World} {C D : Nat} {s h g n : Int} {v : List UInt8} (a : CcAt X C s h g n v) (hD : D ≠ C) (i : Nat) (x : Value) : CcAt (X.setCell ⟨D, i, none⟩ x) C s h g n v :=
  ((Kept.refl (One D) X).setCell (p := ⟨D, i, none⟩) (fun _ => rfl) x).block _ _ a (fun e => hD (Eq.symm e))
/-- The two blocks of its own. -/
structure Cc2 (w X : World) (R C : Nat) (s h g n : Int) (v : List UInt8) : Prop where
  r : CcAt X R 0 0 0 0 []
  c : CcAt X C s h g n v
  kw : Kept Nil w X
  rw : w.heap.size ≤ R
  cw : w.heap.size ≤ C
  ne : R ≠ C
variable {w X : World} {R C : Nat} {s h g n : Int} {v : List UInt8}
theorem Cc2.s1 (a : Cc2 w X R C s h g n v) (x : Int) : Cc2 w (X.setCell ⟨C, 1, none⟩ (.int .i64 x)) R C s x g n v := ⟨a.r.off a.ne.symm 1 _, a.c.s1 x, a.kw.setNew (p := ⟨C, 1, none⟩) a.cw _, a.rw, a.cw, a.ne⟩
theorem Cc2.s2 (a : Cc2 w X R C s h g n v) (x : Int) : Cc2 w (X.setCell ⟨C, 2, none⟩ (.int .i64 x)) R C s h x n v := ⟨a.r.off a.ne.symm 2 _, a.c.s2 x, a.kw.setNew (p := ⟨C, 2, none⟩) a.cw _, a.rw, a.cw, a.ne⟩
theorem Cc2.s3 (a : Cc2 w X R C s h g n v) (x : Int) : Cc2 w (X.setCell ⟨C, 3, none⟩ (.int .i64 x)) R C s h g x v := ⟨a.r.off a.ne.symm 3 _, a.c.s3 x, a.kw.setNew (p := ⟨C, 3, none⟩) a.cw _, a.rw, a.cw, a.ne⟩
theorem Cc2.s4 (a : Cc2 w X R C s h g n v) (x : List UInt8) : Cc2 w (X.setCell ⟨C, 4, none⟩ (.string (bs x))) R C s h g n x := ⟨a.r.off a.ne.symm 4 _, a.c.s4 x, a.kw.setNew (p := ⟨C, 4, none⟩) a.cw _, a.rw, a.cw, a.ne⟩
end Go.Proofs.YtflnjlbafchnaaaGreatDoor

/-
  Cells: CellText (the document's).
-/
namespace Go.Proofs.YtflnjlbafchnaaaGreatDoor
open Go.RowKit

end Go.Proofs.YtflnjlbafchnaaaGreatDoor

/-
  Cells: a job in memory; follow, end, endWith, hasPut, hasRoom, hasPrepared, hasSealed (the program).
-/
namespace Go.Proofs.YtflnjlbafchnaaaGreatDoor
open Go.RowKit

/-- Where the lists lie that its results have (they are empty). -/
structure Jk where
  ro : Option Addr
  rc : Nat
  eo : Option Addr
  ec : Nat
/-- The program keeps none. -/
structure Jn extends Jk where
  hr : ro = none ∧ rc = 0
  he : eo = none ∧ ec = 0
def JbAt (w : World) (b : Nat) (j : Jb) (K : Jn) : Prop := w.heap[b]? = some (.cells #[.int .i64 j.kd, .string (bs j.k), .string (bs j.v), .int .i64 j.m, .int .i64 j.tg, .int .i64 j.st, .int .i64 j.at', .int .i64 j.rs.kd, .string (bs j.rs.v), .int .i64 j.rs.n, .slice K.ro j.rs.ks.length K.rc, .int .i64 j.ph, .string (bs j.sn.v), .int .i64 j.sn.n, .int .i64 j.sn.s, .int .i64 j.sn.h, .int .i64 j.sn.g, .int .i64 j.sv, .string (bs j.nx.v), .int .i64 j.nx.n, .int .i64 j.nx.s, .int .i64 j.nx.h, .int .i64 j.nx.g, .int .i64 j.re.kd, .string (bs j.re.v), .int .i64 j.re.n, .slice K.eo j.re.ks.length K.ec, .int .i64 j.sp, .bool j.ow] 135 (0, 0))
theorem JbAt.kept {w w' : World} {b : Nat} {j : Jb} {K : Jn} (h : JbAt w b j K) (k : Kept Nil w w') : JbAt w' b j K := k.block _ _ h (fun x => x)
theorem JbAt.keptX {X : Nat → Obj → Prop} {w w' : World} {b : Nat} {j : Jb} {K : Jn} (h : JbAt w b j K) (k : Kept X w w') (hX : ∀ o, ¬ X b o) : JbAt w' b j K := k.block _ _ h (hX _)
theorem JbAt.s5 {w : World} {b : Nat} {j : Jb} {K : Jn} (h : JbAt w b j K) (x : Nat) : JbAt (w.setCell ⟨b, 5, none⟩ (.int .i64 x)) b { j with st := x } K := blk_set h 5 _
theorem JbAt.s8 {w : World} {b : Nat} {j : Jb} {K : Jn} (h : JbAt w b j K) (x : List UInt8) : JbAt (w.setCell ⟨b, 8, none⟩ (.string (bs x))) b { j with rs := { j.rs with v := x } } K := blk_set h 8 _
theorem JbAt.s9 {w : World} {b : Nat} {j : Jb} {K : Jn} (h : JbAt w b j K) (x : Int) : JbAt (w.setCell ⟨b, 9, none⟩ (.int .i64 x)) b { j with rs := { j.rs with n := x } } K := blk_set h 9 _
theorem JbAt.s11 {w : World} {b : Nat} {j : Jb} {K : Jn} (h : JbAt w b j K) (x : Nat) : JbAt (w.setCell ⟨b, 11, none⟩ (.int .i64 x)) b { j with ph := x } K := blk_set h 11 _
theorem JbAt.s10 {w : World} {b : Nat} {j : Jb} {K : Jn} (h : JbAt w b j K) (o : Option Addr) (c : Nat) (ks : List (List UInt8)) (hn : o = none ∧ c = 0) : JbAt (w.setCell ⟨b, 10, none⟩ (.slice o ks.length c)) b { j with rs := { j.rs with ks := ks } } { K with ro := o, rc := c, hr := hn } := blk_set h 10 _
theorem JbAt.drew {w : World} {b : Nat} {j : Jb} {K : Jn} (h : JbAt w b j K) : JbAt w.drew b j K := h
end Go.Proofs.YtflnjlbafchnaaaGreatDoor

/-
  Cells: the document's job in memory; ends, Status, writes (the document's).
-/
namespace Go.Proofs.YtflnjlbafchnaaaGreatDoor
open Go.RowKit

def JdAt (w : World) (b : Nat) (j : Jb) (K : Jk) : Prop := w.heap[b]? = some (.cells #[.int .i64 j.at', .int .i64 j.tg, .int .i64 j.kd, .string (bs j.k), .string (bs j.v), .int .i64 j.m, .int .i64 ((j.ph : Int) + 1), .int .i64 j.sn.s, .int .i64 j.sn.h, .int .i64 j.sn.g, .int .i64 j.sn.n, .string (bs j.sn.v), .int .i64 j.nx.s, .int .i64 j.nx.h, .int .i64 j.nx.g, .int .i64 j.nx.n, .string (bs j.nx.v), .int .i64 j.sv, .int .i64 j.sp, .bool j.ow, .int .i64 j.st, .int .i64 j.rs.kd, .string (bs j.rs.v), .int .i64 j.rs.n, .slice K.ro j.rs.ks.length K.rc, .int .i64 j.re.kd, .string (bs j.re.v), .int .i64 j.re.n, .slice K.eo j.re.ks.length K.ec] 142 (0, 0))
theorem JdAt.kept {w w' : World} {b : Nat} {j : Jb} {K : Jk} (h : JdAt w b j K) (k : Kept Nil w w') : JdAt w' b j K := k.block _ _ h (fun x => x)
theorem JdAt.keptX {X : Nat → Obj → Prop} {w w' : World} {b : Nat} {j : Jb} {K : Jk} (h : JdAt w b j K) (k : Kept X w w') (hX : ∀ o, ¬ X b o) : JdAt w' b j K := k.block _ _ h (hX _)
theorem JdAt.drew {w : World} {b : Nat} {j : Jb} {K : Jk} (h : JdAt w b j K) : JdAt w.drew b j K := h
theorem JdAt.s0 {w : World} {b : Nat} {j : Jb} {K : Jk} (h : JdAt w b j K) (x : Nat) : JdAt (w.setCell ⟨b, 0, none⟩ (.int .i64 x)) b { j with at' := x } K := blk_set h 0 _
theorem JdAt.s8 {w : World} {b : Nat} {j : Jb} {K : Jk} (h : JdAt w b j K) (x : Nat) : JdAt (w.setCell ⟨b, 8, none⟩ (.int .i64 x)) b { j with sn := { j.sn with h := x } } K := blk_set h 8 _
theorem JdAt.s9 {w : World} {b : Nat} {j : Jb} {K : Jk} (h : JdAt w b j K) (x : Nat) : JdAt (w.setCell ⟨b, 9, none⟩ (.int .i64 x)) b { j with sn := { j.sn with g := x } } K := blk_set h 9 _
theorem JdAt.s10 {w : World} {b : Nat} {j : Jb} {K : Jk} (h : JdAt w b j K) (x : Nat) : JdAt (w.setCell ⟨b, 10, none⟩ (.int .i64 x)) b { j with sn := { j.sn with n := x } } K := blk_set h 10 _
theorem JdAt.s11 {w : World} {b : Nat} {j : Jb} {K : Jk} (h : JdAt w b j K) (x : List UInt8) : JdAt (w.setCell ⟨b, 11, none⟩ (.string (bs x))) b { j with sn := { j.sn with v := x } } K := blk_set h 11 _
end Go.Proofs.YtflnjlbafchnaaaGreatDoor

/-
  Cells: Take in the phases that see no cell (the document's).
-/
namespace Go.Proofs.YtflnjlbafchnaaaGreatDoor
open Go.RowKit

end Go.Proofs.YtflnjlbafchnaaaGreatDoor
