/-
  Cells: handedOver, Find (the program).
-/
import Derived.Test.YtflnjlbafchnaaaGreatDoorWCh3
import Derived.Test.YtflnjlbafchnaaaGreatDoorWCeC
namespace Go.Proofs.YtflnjlbafchnaaaGreatDoor
open Go.RowKit

theorem sayM_ok (key : List UInt8) (ms : List (List Pr)) (g : Nat) : (sayM key ms g).Ok := sawC_ok _ _
set_option maxRecDepth 100000 in
set_option maxHeartbeats 4000000 in
theorem handed_any (key : List UInt8) (ms : List (List Pr)) (mo : Option Addr) (mc : Nat) (c : Ce) (hc : c.Ok) (w : World) (h : MRow w mo ms) (hk : key.length ≤ 1000) (hlen : ms.length ≤ 1000000000) (hw : 14 ≤ w.heap.size) (hgl : c.s = 1 → c.g ≤ ms.length) (hL : LW w) :
    Calls Tryz.prog 98 #[.slice mo ms.length mc, ceV c, .string (bs key)] w fun e w' => e = .returned (.bool (handed (sayM key ms) ms.length c)) ∧ Kept Nil w w' := by
  obtain ⟨y, Hy⟩ : ∃ y, Hid (y = handed (sayM key ms) ms.length c) := ⟨_, rfl⟩
  rw [← Hy.out]
  obtain ⟨W, hW⟩ : ∃ W, W = w.alloc (.cells #[.string (bs c.v), .int .i64 c.n, .int .i64 c.s, .int .i64 c.h, .int .i64 c.g] 131) := ⟨_, rfl⟩
  obtain ⟨A, HAe⟩ : ∃ A, Hid (A = w.heap.size) := ⟨_, rfl⟩
  have KW : Hid (Kept Nil w W) := by rw [hW]; exact (Kept.refl _ _).alloc _
  have HA : Hid (CeAt W A c) := by rw [hW, HAe.out]; exact blk_new _ _
  have HLW : Hid (LW W) := hL.kept KW.out
  have HM : Hid (MRow W mo ms) := h.kept KW.out
  have HW20 : Hid (14 ≤ W.heap.size) := Nat.le_trans hw KW.out.size
  have hlA : A < W.heap.size := lt_of_block HA.out
  have a2 : W.cell? ⟨A, 2, none⟩ = some (.int .i64 c.s) := blk_at HA.out 2 rfl
  have a3 : W.cell? ⟨A, 3, none⟩ = some (.int .i64 c.h) := blk_at HA.out 3 rfl
  have a4 : W.cell? ⟨A, 4, none⟩ = some (.int .i64 c.g) := blk_at HA.out 4 rfl
  have HS := fun X => chas_any c.g ms.length mo mc X
  clear h hL
  unfold ceV
  by_cases c2 : c.s = 2
  · obtain rfl : y = true := by rw [Hy.out]; unfold handed; simp [c2]
    have e2 : ((c.s : Int) == 2) = true := by rw [c2]; rfl
    clear c2
    go_enter Tryz.func98, Tryz.ntmps98
    go_upto_region 1 with fail
    rw [← hW, ← HAe.out]
    clear hW
    go_wp2
    go_ret
    exact ⟨rfl, KW.out⟩
  · have e2 : ((c.s : Int) == 2) = false := by simp; omega
    by_cases c1 : c.s = 1
    · have e1 : ((c.s : Int) == 1) = true := by rw [c1]; rfl
      have hg1 := (hc.g1 (by omega)).1
      by_cases cg : c.g ≤ ms.length
      · have hy : y = decide (c.h ≤ (sayM key ms c.g).h) := by rw [Hy.out]; unfold handed; simp [c1, cg]
        have SY := fun (X : World) (kX : Kept Nil W X) => say_any key ms mo mc c.g X (HM.out.kept kX) hk hg1 cg hlen (Nat.le_trans HW20.out kX.size) (HLW.out.kept kX)
        obtain ⟨x, Hx⟩ : ∃ x, Hid (x = sayM key ms c.g) := ⟨_, rfl⟩
        rw [← Hx.out] at SY hy
        rw [decide_eq_true cg] at HS
        unfold ceV at SY
        have fld : ∀ Z, (Instr.field 131 (.agg #[.string (bs x.v), .int .i64 x.n, .int .i64 x.s, .int .i64 x.h, .int .i64 x.g]) 2).run Tryz.prog Z = .ok (.int .i64 x.h) Z := fun _ => by kernel_rfl
        clear c1 c2 cg
        have s0 : W.cell? ⟨A, 3, none⟩ = some (.int .i64 c.h) ∧ W.cell? ⟨A, 4, none⟩ = some (.int .i64 c.g) := ⟨a3, a4⟩
        by_cases ch : c.h ≤ x.h
        · have dh : (c.h : Int) ≤ x.h := by omega
          obtain rfl : y = true := by rw [hy]; exact decide_eq_true ch
          clear ch hy
          go_enter Tryz.func98, Tryz.ntmps98
          go_upto_region 5 with fail
          rw [← hW, ← HAe.out]
          clear hW
          go_region_held3 (fun w' => w'.cell? ⟨A, 3, none⟩ = some (.int .i64 c.h) ∧ w'.cell? ⟨A, 4, none⟩ = some (.int .i64 c.g)) (first | (with_reducible assumption) | go_keep) (first | (go_at_call 96; go_fit (HS _); rintro _ wq ⟨rfl, hwq⟩; subst hwq) | (go_at_call 97; go_fit (SY _ (by repeat (first | exact Kept.refl _ _ | refine Kept.drew ?_))); rintro _ wa ⟨rfl, ka⟩; have Ka : Hid (Kept Nil W wa) := Kept.trans (by repeat (first | exact Kept.refl _ _ | refine Kept.drew ?_)) ka; have HAa : Hid (CeAt wa A c) := ka.block _ _ HA.out (fun x => x); clear ka; have sa : wa.cell? ⟨A, 3, none⟩ = some (.int .i64 c.h) ∧ wa.cell? ⟨A, 4, none⟩ = some (.int .i64 c.g) := ⟨blk_at HAa.out 3 rfl, blk_at HAa.out 4 rfl⟩))
          all_goals
            go_wp2
            go_ret
            exact ⟨rfl, KW.out.trans Ka.out⟩
        · have dh : ¬ (c.h : Int) ≤ x.h := by omega
          have dh2 : decide ((c.h : Int) ≤ x.h) = false := decide_eq_false dh
          have dh3 : decide (c.h ≤ x.h) = false := decide_eq_false ch
          have dh4 : x.h < c.h := by omega
          obtain rfl : y = false := by rw [hy]; exact decide_eq_false ch
          clear ch hy
          go_enter Tryz.func98, Tryz.ntmps98
          go_upto_region 5 with fail
          rw [← hW, ← HAe.out]
          clear hW
          go_region_held3 (fun w' => w'.cell? ⟨A, 3, none⟩ = some (.int .i64 c.h) ∧ w'.cell? ⟨A, 4, none⟩ = some (.int .i64 c.g)) (first | (with_reducible assumption) | go_keep) (first | (go_at_call 96; go_fit (HS _); rintro _ wq ⟨rfl, hwq⟩; subst hwq) | (go_at_call 97; go_fit (SY _ (by repeat (first | exact Kept.refl _ _ | refine Kept.drew ?_))); rintro _ wa ⟨rfl, ka⟩; have Ka : Hid (Kept Nil W wa) := Kept.trans (by repeat (first | exact Kept.refl _ _ | refine Kept.drew ?_)) ka; have HAa : Hid (CeAt wa A c) := ka.block _ _ HA.out (fun x => x); clear ka; have sa : wa.cell? ⟨A, 3, none⟩ = some (.int .i64 c.h) ∧ wa.cell? ⟨A, 4, none⟩ = some (.int .i64 c.g) := ⟨blk_at HAa.out 3 rfl, blk_at HAa.out 4 rfl⟩))
          all_goals
            go_wp2
            go_ret
            exact ⟨rfl, KW.out.trans Ka.out⟩
      · exact absurd (hgl c1) cg
    · obtain rfl : y = false := by rw [Hy.out]; unfold handed; simp [c1, c2]
      have e1 : ((c.s : Int) == 1) = false := by simp; omega
      clear c1 c2
      go_enter Tryz.func98, Tryz.ntmps98
      go_upto_region 1 with fail
      rw [← hW, ← HAe.out]
      clear hW
      go_wp2
      go_ret
      exact ⟨rfl, KW.out⟩
end Go.Proofs.YtflnjlbafchnaaaGreatDoor
