/-
  The same result twice is the same to the document's SameResult.
  The same table twice is the same to the document's SameTable.
-/
import Derived.Test.YtflnjlbafchnaaaGreatDoorWTab4
import Derived.Test.YtflnjlbafchnaaaGreatDoorWTab5
import Derived.Deep.CutRange
import Derived.Deep.LoopGhost
import Derived.Deep.RegionWith
import Derived.BigQuiet
namespace Go.Proofs.YtflnjlbafchnaaaGreatDoor
open Go.RowKit

set_option maxRecDepth 100000 in
set_option maxHeartbeats 4000000 in
theorem sameResult_any (B c1 c2 : Nat) (kd ver : Int) (val : List UInt8) (a1 a2 : Option Addr) (ks : List (List UInt8)) (w : World) (h1 : StrRow B w a1 ks) (h2 : StrRow B w a2 ks) (hl : (ks.length : Int) ≤ 9223372036854775807) :
    Calls Tryz.prog 30 #[.agg #[.int .i64 kd, .string (bs val), .int .i64 ver, .slice a1 ks.length c1], .agg #[.int .i64 kd, .string (bs val), .int .i64 ver, .slice a2 ks.length c2]] w fun e w' => e = .returned (.bool true) ∧ Kept Nil w w' := by
  have HR : Hid (StrRow B w a1 ks ∧ StrRow B w a2 ks) := ⟨h1, h2⟩
  have HB1 : Hid (((w.alloc (.cells #[.int .i64 kd, .string (bs val), .int .i64 ver, .slice a1 ks.length c1] 50)).alloc (.cells #[.int .i64 kd, .string (bs val), .int .i64 ver, .slice a2 ks.length c2] 50)).heap[w.heap.size]? = some (.cells #[.int .i64 kd, .string (bs val), .int .i64 ver, .slice a1 ks.length c1] 50)) := blk_past (blk_new w _) _
  have HB2 : Hid (((w.alloc (.cells #[.int .i64 kd, .string (bs val), .int .i64 ver, .slice a1 ks.length c1] 50)).alloc (.cells #[.int .i64 kd, .string (bs val), .int .i64 ver, .slice a2 ks.length c2] 50)).heap[w.heap.size + 1]? = some (.cells #[.int .i64 kd, .string (bs val), .int .i64 ver, .slice a2 ks.length c2] 50)) := by
    have := blk_new (w.alloc (.cells #[.int .i64 kd, .string (bs val), .int .i64 ver, .slice a1 ks.length c1] 50)) (.cells #[.int .i64 kd, .string (bs val), .int .i64 ver, .slice a2 ks.length c2] 50)
    rw [show (w.alloc (.cells #[.int .i64 kd, .string (bs val), .int .i64 ver, .slice a1 ks.length c1] 50)).heap.size = w.heap.size + 1 by simp] at this
    exact this
  clear h1 h2
  go_enter Tryz.func30, Tryz.ntmps30
  go_wp2
  go_loopw [5] (fun i wr => ∃ k : Nat, k ≤ ks.length ∧ i = .int .i64 k ∧ Hid (Kept Nil w wr) ∧ Hid (wr.heap[w.heap.size]? = some (.cells #[.int .i64 kd, .string (bs val), .int .i64 ver, .slice a1 ks.length c1] 50)) ∧ Hid (wr.heap[w.heap.size + 1]? = some (.cells #[.int .i64 kd, .string (bs val), .int .i64 ver, .slice a2 ks.length c2] 50))) (fun i _ => ks.length - (intOf i).toNat)
  case atStart => exact ⟨0, Nat.zero_le _, rfl, ((Kept.refl _ _).alloc _).alloc _, HB1.out, HB2.out⟩
  case round =>
    obtain ⟨k, hk, rfl, HK, HX1, HX2⟩ := hrel
    clear HB1 HB2
    have q1 := blk_at HX1.out 3 rfl
    have q2 := blk_at HX2.out 3 rfl
    by_cases hlt : k < ks.length
    · obtain ⟨a, rfl, _, hcell, _⟩ := (HR.out.1.nil HK.out) k hlt
      obtain ⟨a', rfl, _, hcell', _⟩ := (HR.out.2.nil HK.out) k hlt
      have hki : (k : Int) < ks.length := by omega
      generalize ks[k] = x at *
      go_wp2
      go_quiet (fail)
      go_wp2
      go_roundw
      case rel => exact ⟨k + 1, by omega, by go_num, HK.out.drewN _, HX1.out, HX2.out⟩
      case measure => simp [intOf]; omega
    · go_wp2
      go_ret
      exact ⟨rfl, HK.out⟩

end Go.Proofs.YtflnjlbafchnaaaGreatDoor

namespace Go.Proofs.YtflnjlbafchnaaaGreatDoor
open Go.RowKit

set_option maxRecDepth 100000 in
set_option maxHeartbeats 8000000 in
theorem sameTable_any (B p1 p2 q1 q2 : Nat) (tm : Int) (a1 a2 s1 s2 : Option Addr) (ps : List Pr) (ss : List Ss) (w : World) (h1 : PairRow B w a1 ps) (h2 : PairRow B w a2 ps) (h3 : SessRow B w s1 ss) (h4 : SessRow B w s2 ss) (hl : (ps.length : Int) ≤ 9223372036854775807) (hl2 : (ss.length : Int) ≤ 9223372036854775807) :
    Calls Tryz.prog 101 #[.agg #[.slice a1 ps.length p1, .slice s1 ss.length q1, .int .i64 tm], .agg #[.slice a2 ps.length p2, .slice s2 ss.length q2, .int .i64 tm]] w fun e w' => e = .returned (.bool true) ∧ Kept Nil w w' := by
  have HR : Hid ((PairRow B w a1 ps ∧ PairRow B w a2 ps) ∧ SessRow B w s1 ss ∧ SessRow B w s2 ss) := ⟨⟨h1, h2⟩, h3, h4⟩
  have HB1 : Hid (((w.alloc (.cells #[.slice a1 ps.length p1, .slice s1 ss.length q1, .int .i64 tm] 155)).alloc (.cells #[.slice a2 ps.length p2, .slice s2 ss.length q2, .int .i64 tm] 155)).heap[w.heap.size]? = some (.cells #[.slice a1 ps.length p1, .slice s1 ss.length q1, .int .i64 tm] 155)) := blk_past (blk_new w _) _
  have HB2 : Hid (((w.alloc (.cells #[.slice a1 ps.length p1, .slice s1 ss.length q1, .int .i64 tm] 155)).alloc (.cells #[.slice a2 ps.length p2, .slice s2 ss.length q2, .int .i64 tm] 155)).heap[w.heap.size + 1]? = some (.cells #[.slice a2 ps.length p2, .slice s2 ss.length q2, .int .i64 tm] 155)) := by
    have := blk_new (w.alloc (.cells #[.slice a1 ps.length p1, .slice s1 ss.length q1, .int .i64 tm] 155)) (.cells #[.slice a2 ps.length p2, .slice s2 ss.length q2, .int .i64 tm] 155)
    rw [show (w.alloc (.cells #[.slice a1 ps.length p1, .slice s1 ss.length q1, .int .i64 tm] 155)).heap.size = w.heap.size + 1 by simp] at this
    exact this
  clear h1 h2 h3 h4
  go_enter Tryz.func101, Tryz.ntmps101
  go_wp2
  go_loopw [5] (fun i wr => ∃ k : Nat, k ≤ ps.length ∧ i = .int .i64 k ∧ Hid (Kept Nil w wr) ∧ Hid (wr.heap[w.heap.size]? = some (.cells #[.slice a1 ps.length p1, .slice s1 ss.length q1, .int .i64 tm] 155)) ∧ Hid (wr.heap[w.heap.size + 1]? = some (.cells #[.slice a2 ps.length p2, .slice s2 ss.length q2, .int .i64 tm] 155))) (fun i _ => ps.length - (intOf i).toNat)
  case atStart => exact ⟨0, Nat.zero_le _, rfl, ((Kept.refl _ _).alloc _).alloc _, HB1.out, HB2.out⟩
  case round =>
    obtain ⟨k, hk, rfl, HK, HX1, HX2⟩ := hrel
    clear HB1 HB2
    have r1 := blk_at HX1.out 0 rfl
    have r2 := blk_at HX2.out 0 rfl
    by_cases hlt : k < ps.length
    · obtain ⟨a, rfl, _, c0, c1, c2, _, _⟩ := (HR.out.1.1.nil HK.out) k hlt
      obtain ⟨a', rfl, _, d0, d1, d2, _, _⟩ := (HR.out.1.2.nil HK.out) k hlt
      have hki : (k : Int) < ps.length := by omega
      generalize ps[k].k = key at *
      generalize ps[k].v = val at *
      generalize ps[k].n = n at *
      go_wp2
      go_quiet (fail)
      go_wp2
      go_roundw
      case rel => exact ⟨k + 1, by omega, by go_num, HK.out.drewN _, HX1.out, HX2.out⟩
      case measure => simp [intOf]; omega
    · go_wp2
      go_loopg [6] ss.length (fun g i wr => ∃ k : Nat, k ≤ ss.length ∧ g = ss.length - k ∧ i = .int .i64 k ∧ Hid (Kept Nil w wr) ∧ Hid (wr.heap[w.heap.size]? = some (.cells #[.slice a1 ps.length p1, .slice s1 ss.length q1, .int .i64 tm] 155)) ∧ Hid (wr.heap[w.heap.size + 1]? = some (.cells #[.slice a2 ps.length p2, .slice s2 ss.length q2, .int .i64 tm] 155)))
      case atStart => exact ⟨0, Nat.zero_le _, rfl, rfl, HK.out, HX1.out, HX2.out⟩
      case round =>
        obtain ⟨j, hj, rfl, rfl, HJ, HY1, HY2⟩ := hrel
        rename World => wo
        clear HK HX1 HX2 r1 r2
        have r1 := blk_at HY1.out 1 rfl
        have r2 := blk_at HY2.out 1 rfl
        by_cases hlt2 : j < ss.length
        · obtain ⟨a, ao, c, rfl, _, c0, c1, c2, c3, c4, c5, c6, hst, hm, _⟩ := (HR.out.2.1.nil HJ.out) j hlt2
          obtain ⟨a', ao', c', rfl, _, d0, d1, d2, d3, d4, d5, d6, hst', _, _⟩ := (HR.out.2.2.nil HJ.out) j hlt2
          have hki : (j : Int) < ss.length := by omega
          have HS : Hid (StrRow B wo ao ss[j].ks ∧ StrRow B wo ao' ss[j].ks) := ⟨hst, hst'⟩
          have H := fun w' (hk : Kept Nil wo w') => sameResult_any B c c' ss[j].kd ss[j].ver ss[j].val ao ao' ss[j].ks w' (HS.out.1.nil hk) (HS.out.2.nil hk) hm
          clear hst hst' hm HS
          generalize ss[j].cl = cl at *
          generalize ss[j].ls = ls at *
          generalize ss[j].kd = kd at *
          generalize ss[j].val = val at *
          generalize ss[j].ver = ver at *
          generalize ss[j].ks.length = kl at *
          generalize ss[j].sn = sn at *
          go_upto_region 11 with fail
          go_cut [7] from 49 to 115 (fun r wx => r = .bool true ∧ Hid (Kept Nil wo wx))
          case first =>
            go_region_with (first | (go_at_call 30; go_must (refine (H _ ((Kept.refl _ _).drew)).mono ?_); rintro e w3 ⟨rfl, k3⟩; have K3 : Hid (Kept Nil wo w3) := ((Kept.refl _ _).drew).trans k3; clear k3))
            all_goals
              go_wp2_with fail
              go_meet
              exact ⟨rfl, K3.out⟩
          case rest =>
            obtain ⟨rfl, K3⟩ := hcut
            rename World => w3
            have y0 := cell_kept K3.out (fun _ x => x) c0
            have y1 := cell_kept K3.out (fun _ x => x) c1
            have y6 := cell_kept K3.out (fun _ x => x) c6
            have z0 := cell_kept K3.out (fun _ x => x) d0
            have z1 := cell_kept K3.out (fun _ x => x) d1
            have z6 := cell_kept K3.out (fun _ x => x) d6
            have HZ1 : Hid (_) := K3.out.block _ _ HY1.out (fun x => x.elim)
            have HZ2 : Hid (_) := K3.out.block _ _ HY2.out (fun x => x.elim)
            have t1 := blk_at HZ1.out 1 rfl
            have t2 := blk_at HZ2.out 1 rfl
            have KF : Hid (Kept Nil w w3) := HJ.out.trans K3.out
            have n1 : (cl != cl) = false := by simp
            have n2 : (ls != ls) = false := by simp
            have n3 : (sn != sn) = false := by simp
            clear c0 c1 c2 c3 c4 c5 c6 d0 d1 d2 d3 d4 d5 d6 r1 r2 H K3 HJ HY1 HY2
            go_wp2
            go_quiet (fail)
            go_wp2
            go_roundg (ss.length - (j + 1))
            case measure => omega
            case rel => exact ⟨j + 1, by omega, rfl, by go_num, KF.out.drewN _, HZ1.out, HZ2.out⟩
        · go_wp2
          go_ret
          exact ⟨rfl, HJ.out⟩

end Go.Proofs.YtflnjlbafchnaaaGreatDoor
