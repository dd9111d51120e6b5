/-
  Joined: WTabS.
-/
import Derived.Test.YtflnjlbafchnaaaGreatDoorQ31
import Derived.Deep.CutRange
import Derived.Deep.LoopGhost
import Derived.Deep.RegionWith
import Derived.BigQuiet
/-
  The same result twice is the same to the document's SameResult.
  The same table twice is the same to the document's SameTable.
-/
namespace Go.Proofs.YtflnjlbafchnaaaGreatDoor
open Go.RowKit

set_option maxRecDepth 100000 in
set_option maxHeartbeats 4000000 in
theorem sameResult_any (B c1 c2 : Nat) (kd ver : Int) (val : List UInt8) (a1 a2 : Option Addr) (ks : List (List UInt8)) (w : World) (h1 : StrRow B w a1 ks) (h2 : StrRow B w a2 ks) (hl : (ks.length : Int) ≤ 9223372036854775807) :
    Calls Tryz.prog 30 #[.agg #[.int .i64 kd, .string (bs val), .int .i64 ver, .slice a1 ks.length c1], .agg #[.int .i64 kd, .string (bs val), .int .i64 ver, .slice a2 ks.length c2]] w fun e w' => e = .returned (.bool true) ∧ Kept Nil w w' := by
  have HR : Hid (StrRow B w a1 ks ∧ StrRow B w a2 ks) := ⟨h1, h2⟩
  have HB1 : Hid (((w.alloc (.cells #[.int .i64 kd, .string (bs val), .int .i64 ver, .slice a1 ks.length c1] 50)).alloc (.cells #[.int .i64 kd, .string (bs val), .int .i64 ver, .slice a2 ks.length c2] 50)).heap[w.heap.size]? = some (.cells #[.int .i64 kd, .string (bs val), .int .i64 ver, .slice a1 ks.length c1] 50)) := blk_past (blk_new w _) _
  have HB2 : Hid (((w.alloc (.cells #[.int .i64 kd, .string (bs val), .int .i64 ver, .slice a1 ks.length c1] 50)).alloc (.cells #[.int .i64 kd, .string (bs val), .int .i64 ver, .slice a2 ks.length c2] 50)).heap[w.heap.size + 1]? = some (.cells #[.int .i64 kd, .string (bs val), .int .i64 ver, .slice a2 ks.length c2] 50)) := by
    have := blk_new (w.alloc (.cells #[.int .i64 kd, .string (bs val), .int .i64 ver, .slice a1 ks.length c1] 50)) (.cells #[.int .i64 kd, .string (bs val), .int .i64 ver, .slice a2 ks.length c2] 50)
    rw [show (w.alloc (.cells #[.int .i64 kd, .string (bs val), .int .i64 ver, .slice a1 ks.length c1] 50)).heap.size = w.heap.size + 1 by simp] at this
    exact this
  clear h1 h2
  go_enter Tryz.func30, Tryz.ntmps30
  go_wp2
  go_loopw [5] (fun i wr => ∃ k : Nat, k ≤ ks.length ∧ i = .int .i64 k ∧ Hid (Kept Nil w wr) ∧ Hid (wr.heap[w.heap.size]? = some (.cells #[.int .i64 kd, .string (bs val), .int .i64 ver, .slice a1 ks.length c1] 50)) ∧ Hid (wr.heap[w.heap.size + 1]? = some (.cells #[.int .i64 kd, .string (bs val), .int .i64 ver, .slice a2 ks.length c2] 50))) (fun i _ => ks.length - (intOf i).toNat)
  case atStart => exact ⟨0, Nat.zero_le _, rfl, ((Kept.refl _ _).alloc _).alloc _, HB1.out, HB2.out⟩
  case round =>
    obtain ⟨k, hk, rfl, HK, HX1, HX2⟩ := hrel
    clear HB1 HB2
    have q1 := blk_at HX1.out 3 rfl
    have q2 := blk_at HX2.out 3 rfl
    by_cases hlt : k < ks.length
    · obtain ⟨a, rfl, _, hcell, _⟩ := (HR.out.1.nil HK.out) k hlt
      obtain ⟨a', rfl, _, hcell', _⟩ := (HR.out.2.nil HK.out) k hlt
      have hki : (k : Int) < ks.length := by omega
      generalize ks[k] = x at *
      go_wp2
      go_quiet (fail)
      go_wp2
      go_roundw
      case rel => exact ⟨k + 1, by omega, by go_num, HK.out.drewN _, HX1.out, HX2.out⟩
      case measure => simp [intOf]; omega
    · go_wp2
      go_ret
      exact ⟨rfl, HK.out⟩

end Go.Proofs.YtflnjlbafchnaaaGreatDoor

namespace Go.Proofs.YtflnjlbafchnaaaGreatDoor
open Go.RowKit

end Go.Proofs.YtflnjlbafchnaaaGreatDoor
