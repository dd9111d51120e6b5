/-
  world.Act: cut.
-/
import Derived.Test.YtnmkccdcgmajgaaWAct5
import Derived.Deep.DeepCutAuto
import Derived.Deep.RegionHeld3
import Derived.Deep.DeepFit
import Derived.BigRegion
namespace Go.Proofs.Ytnmkccdcgmajgaa
open Go.RowKit

set_option maxRecDepth 100000 in
set_option maxHeartbeats 4000000 in
theorem act_cut (B c : Nat) (ao : Option Addr) (fs : List Fi) (nm tn dt : List UInt8) (sz : Int) (w : World) (h : OwnFs B w ao c fs) (hl : (fs.length : Int) ≤ 1099511627775) (hdl : ∀ f ∈ fs, f.2.length ≤ 1099511627776) :
    Calls Try.prog 51 #[.slice ao fs.length c, .agg #[.int .i64 6, .string (bs nm), .string (bs tn), .string (bs dt), .int .i64 sz]] w fun e w' => ∃ ao' c', e = .returned (.slice ao' (actZ fs 6 nm tn dt sz).length c') ∧ OwnFs w.heap.size w' ao' c' (actZ fs 6 nm tn dt sz) ∧ Kept Nil w w' := by
  obtain ⟨W, hW⟩ : ∃ W, W = w.alloc (.cells #[.int .i64 6, .string (bs nm), .string (bs tn), .string (bs dt), .int .i64 sz] 86) := ⟨_, rfl⟩
  have KW : Hid (Kept Nil w W) := by rw [hW]; exact (Kept.refl _ _).alloc _
  have HB : Hid (W.heap[w.heap.size]? = some (.cells #[.int .i64 6, .string (bs nm), .string (bs tn), .string (bs dt), .int .i64 sz] 86 (0, 0))) := by rw [hW]; exact blk_new _ _
  have CL := cloneF_any B c ao fs W (h.kept KW.out) (by omega)
  obtain ⟨gs, HGS⟩ : ∃ x : List Fi, Hid (x = actZ fs 6 nm tn dt sz) := ⟨_, rfl⟩
  rw [← HGS.out]
  clear h
  go_enter Try.func51, Try.ntmps51
  go_wp2_with fail
  rw [← hW]
  clear hW
  go_fit CL
  rintro e w1 ⟨a1, c1, rfl, o1, k1⟩
  have HO1 : Hid (OwnFs W.heap.size w1 a1 c1 fs) := o1
  have K1 : Hid (Kept Nil W w1) := k1
  have HB1 : Hid (w1.heap[w.heap.size]? = some (.cells #[.int .i64 6, .string (bs nm), .string (bs tn), .string (bs dt), .int .i64 sz] 86 (0, 0))) := k1.block _ _ HB.out (fun x => x.elim)
  have q1 : w1.cell? ⟨w.heap.size, 1, none⟩ = some (.string (bs nm)) := blk_at HB1.out 1 rfl
  have PL := place_any w1.heap.size c1 a1 fs nm w1 o1.row (by omega)
  clear o1 k1 CL
  go_wp2_with fail
  go_fit PL
  rintro e w2 ⟨rfl, k2⟩
  have HO2 : Hid (OwnFs W.heap.size w2 a1 c1 fs) := HO1.out.kept k2
  have K2 : Hid (Kept Nil W w2) := K1.out.trans k2
  have HB2 : Hid (w2.heap[w.heap.size]? = some (.cells #[.int .i64 6, .string (bs nm), .string (bs tn), .string (bs dt), .int .i64 sz] 86 (0, 0))) := k2.block _ _ HB1.out (fun x => x.elim)
  have HWW : Hid (w.heap.size ≤ W.heap.size) := KW.out.size
  clear k2 PL q1 HO1 K1 HB1
  have q0 : w2.cell? ⟨w.heap.size, 0, none⟩ = some (.int .i64 6) := blk_at HB2.out 0 rfl
  have q1 : w2.cell? ⟨w.heap.size, 1, none⟩ = some (.string (bs nm)) := blk_at HB2.out 1 rfl
  have q2 : w2.cell? ⟨w.heap.size, 2, none⟩ = some (.string (bs tn)) := blk_at HB2.out 2 rfl
  have q3 : w2.cell? ⟨w.heap.size, 3, none⟩ = some (.string (bs dt)) := blk_at HB2.out 3 rfl
  have q4 : w2.cell? ⟨w.heap.size, 4, none⟩ = some (.int .i64 sz) := blk_at HB2.out 4 rfl
  rcases plc_cases (isF nm) fs with ⟨ep, _⟩ | ⟨k, hk, ep, _, _⟩
  · have HGE : Hid (gs = fs) := by
      show gs = fs
      rw [HGS.out]
      unfold actZ
      simp [ep]
    have HO3 : Hid (OwnFs w.heap.size w2 a1 c1 fs) := HO2.out.mono HWW.out
    have K3 : Hid (Kept Nil w w2) := KW.out.trans K2.out
    rw [ep]
    go_wp2
    go_ret
    rw [HGE.out]
    exact ⟨a1, c1, rfl, HO3.out, K3.out⟩
  · have HGE : Hid (gs = fs.set k (fs[k].1, fs[k].2.take sz.toNat)) := by
      show gs = _
      rw [HGS.out]
      unfold actZ datAt
      have hk0 : ¬ ((k : Int) < 0) := by omega
      simp [ep, hk0, hk]
    rw [ep]
    obtain ⟨g, rfl, hBg, hgw, hcs⟩ := HO2.out.cells (by omega)
    obtain ⟨d0, d1, z0, z1⟩ := hcs k hk
    have hki : (k : Int) < fs.length := by omega
    have hdk := hdl fs[k] (List.getElem_mem hk)
    have hdi : ((bs fs[k].2).size : Int) ≤ 1099511627776 := by rw [bs_size]; omega
    have hds : (bs fs[k].2).size = fs[k].2.length := bs_size _
    clear hcs
    have sD : w2.drew.cell? ⟨w.heap.size, 4, none⟩ = some (.int .i64 sz) ∧ w2.drew.cell? ⟨g, k * 2 + 1, none⟩ = some (.string (bs fs[k].2)) := ⟨q4, d1⟩
    by_cases h0 : sz ≤ 0
    · have hl0 : (0 : Int) ≤ (bs fs[k].2).size := by omega
      have HO3 : Hid (OwnFs w.heap.size (w2.setCell ⟨g, k * 2 + 1, none⟩ (.string (bs (fs[k].2.take 0)))) (some ⟨g, 0, none⟩) c1 (fs.set k (fs[k].1, fs[k].2.take 0))) := (HO2.out.set1 hk _).mono HWW.out
      have HE : Hid (fs[k].2.take 0 = fs[k].2.take (sz).toNat) := by show _ = _; rw [show sz.toNat = 0 by omega]
      have HBT : Hid ((bs fs[k].2).extract 0 0 = bs (fs[k].2.take 0)) := bs_take fs[k].2 0
      have hmx : max sz 0 = (0 : Int) := by omega
      have HMT : Hid ((min (0 : Int) (fs[k].2.length : Int)).toNat = 0) := by show _ = _; omega
      go_wp2
      go_region
      rw [HMT.out, HBT.out]
      go_wp2
      go_ret
      rw [HGE.out, ← HE.out]
      exact ⟨some ⟨g, 0, none⟩, c1, by simp, HO3.out.kept (Kept.refl _ _).drew, ((KW.out.trans K2.out).setNew (Nat.le_trans HWW.out hBg) _).drew⟩
    · obtain ⟨m, rfl⟩ : ∃ m : Nat, sz = m := ⟨sz.toNat, by omega⟩
      by_cases h2 : m ≤ (bs fs[k].2).size
      · have hmi : (m : Int) ≤ (bs fs[k].2).size := by omega
        have HO3 : Hid (OwnFs w.heap.size (w2.setCell ⟨g, k * 2 + 1, none⟩ (.string (bs (fs[k].2.take m)))) (some ⟨g, 0, none⟩) c1 (fs.set k (fs[k].1, fs[k].2.take m))) := (HO2.out.set1 hk _).mono HWW.out
        have HE : Hid (fs[k].2.take m = fs[k].2.take ((m : Int)).toNat) := by show _ = _; rw [Int.toNat_natCast]
        have HBT : Hid ((bs fs[k].2).extract 0 m = bs (fs[k].2.take m)) := bs_take fs[k].2 m
        have hmx : max (m : Int) 0 = (m : Int) := by omega
        have HMT : Hid ((min (m : Int) (fs[k].2.length : Int)).toNat = m) := by show _ = _; omega
        go_wp2
        go_region
        rw [HMT.out, HBT.out]
        go_wp2
        go_ret
        rw [HGE.out, ← HE.out]
        exact ⟨some ⟨g, 0, none⟩, c1, by simp, HO3.out.kept (Kept.refl _ _).drew, ((KW.out.trans K2.out).setNew (Nat.le_trans HWW.out hBg) _).drew⟩
      · have hmi : ¬ (m : Int) ≤ (bs fs[k].2).size := by omega
        have hex : (bs fs[k].2).extract 0 (bs fs[k].2).size = bs (fs[k].2.take fs[k].2.length) := by rw [show (bs fs[k].2).size = fs[k].2.length from bs_size _]; exact bs_take _ _
        have HO3 : Hid (OwnFs w.heap.size (w2.setCell ⟨g, k * 2 + 1, none⟩ (.string (bs (fs[k].2.take fs[k].2.length)))) (some ⟨g, 0, none⟩) c1 (fs.set k (fs[k].1, fs[k].2.take fs[k].2.length))) := (HO2.out.set1 hk _).mono HWW.out
        have HE : Hid (fs[k].2.take fs[k].2.length = fs[k].2.take ((m : Int)).toNat) := by show _ = _; rw [Int.toNat_natCast, List.take_length, List.take_of_length_le (by omega)]
        have HBT : Hid ((bs fs[k].2).extract 0 fs[k].2.length = bs (fs[k].2.take fs[k].2.length)) := bs_take fs[k].2 fs[k].2.length
        have hmx : max (m : Int) 0 = (m : Int) := by omega
        have HMT : Hid ((min (m : Int) (fs[k].2.length : Int)).toNat = fs[k].2.length) := by show _ = _; omega
        go_wp2
        go_region
        rw [HMT.out, HBT.out]
        go_wp2
        go_ret
        rw [HGE.out, ← HE.out]
        exact ⟨some ⟨g, 0, none⟩, c1, by simp, HO3.out.kept (Kept.refl _ _).drew, ((KW.out.trans K2.out).setNew (Nat.le_trans HWW.out hBg) _).drew⟩

end Go.Proofs.Ytnmkccdcgmajgaa
