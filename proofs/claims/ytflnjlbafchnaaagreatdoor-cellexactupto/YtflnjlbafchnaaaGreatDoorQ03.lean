/-
  Joined: WKv3.
-/
import Derived.Test.YtflnjlbafchnaaaGreatDoorQ02
import Derived.BigRegion
import Derived.Deep.RegionHeld3
/-
  kv: pairs copied; is there room; what a key has.
-/
namespace Go.Proofs.YtflnjlbafchnaaaGreatDoor
open Go.RowKit

set_option maxRecDepth 100000 in
set_option maxHeartbeats 1000000 in
theorem cloneP_any (B c : Nat) (ao : Option Addr) (ps : List Pr) (w : World) (h : PairRow B w ao ps) (hn : ao = none → ps = [] ∧ c = 0) (hl : (ps.length : Int) ≤ 3518437208780) :
    Calls Tryz.prog 67 #[.slice ao ps.length c] w fun e w' => ∃ ao' c', e = .returned (.slice ao' ps.length c') ∧ OwnP w.heap.size w' ao' c' ps ∧ Kept Nil w w' := by
  cases ao with
  | none =>
    obtain ⟨rfl, rfl⟩ := hn rfl
    have hnil : ∀ w : World, (binOp .eql 55 (.slice none 0 0) (.slice none 0 0)).run Tryz.prog w = .ok (.bool true) w := fun w => Lib.run_eql_slice_nil w 55 63 none 0 0 0 0 Tryz.underlying55
    go_enter Tryz.func67, Tryz.ntmps67
    go_wp2
    go_ret
    exact ⟨none, 0, rfl, World.ownsRow_nil _ _ _ _, Kept.refl _ _⟩
  | some a =>
    obtain ⟨i0, hi, hz0, hz1, hz2⟩ := info_parts Tryz.infoPr
    have HS : Hid (Src Tryz.prog 3 55 (.slice (some a) ps.length c) ps.length (kvCells ps) (w.alloc (.cells #[] 63))) := (h.nil ((Kept.refl _ _).alloc _)).src
    have HO : Hid ((w.alloc (.cells #[] 63)).ownsRow w.heap.size 63 3 (.slice (some ⟨w.heap.size, 0, none⟩) 0 0) 0 []) := World.ownsRow_lit w #[] 0 (Nat.le_refl _) (by decide) rfl
    have HLL : Hid (0 + ps.length ≤ maxLen ∧ (0 + ps.length) * 40 ≤ 140737488355328) := by constructor <;> (try unfold maxLen) <;> omega
    have hnil : ∀ w : World, (binOp .eql 55 (.slice (some a) ps.length c) (.slice none 0 0)).run Tryz.prog w = .ok (.bool false) w := fun w => Lib.run_eql_slice_nil w 55 63 (some a) ps.length c 0 0 Tryz.underlying55
    clear h hl hn
    go_enter Tryz.func67, Tryz.ntmps67
    go_wp2_with (at_builtin; go_must (refine wpList_append_src _ rfl _ _ 55 55 rfl w.heap.size 63 i0 (.agg #[.string ⟨#[]⟩, .string ⟨#[]⟩, .int .i64 0]) 3 40 Tryz.underlying55 hi hz0 hz1 hz2 rfl _ _ _ rfl HO.out (.slice (some a) ps.length c) ps.length (kvCells ps) rfl HS.out HLL.out.1 HLL.out.2 (by simp) ?_); intro ao' c' w1 ho' hg'; have HO1 : Hid (w1.ownsRow w.heap.size 63 3 (.slice ao' (0 + ps.length) c') (0 + ps.length) ([] ++ kvCells ps)) := ho'; have HG1 : Hid _ := hg'; clear ho' hg')
    go_ret
    have ho := HO1.out
    rw [Nat.zero_add, List.nil_append] at ho
    exact ⟨ao', c', rfl, ho, ((Kept.refl _ _).alloc _).grown HG1.out (fun k hk => own_row HO.out k hk)⟩

def roomB (len : Nat) (n : Int) (x : List UInt8) : Bool := !(decide (n = 0) && decide (len = 32)) && (decide (x.length ≤ 64) && decide (n < 1099511627775))
set_option maxRecDepth 100000 in
set_option maxHeartbeats 1000000 in
theorem hasRoom_any (b len c : Nat) (k v : List UInt8) (n at' : Int) (ao : Option Addr) (x : List UInt8) (w : World) (hb : SpotAt w b k v n ao len c at') (hlen : len ≤ 32) :
    Calls Tryz.prog 148 #[.pointer (some ⟨b, 0, none⟩), .string (bs x)] w fun e w' => e = .returned (.bool (roomB len n x)) ∧ w' = w := by
  have q2 : w.cell? ⟨b, 2, none⟩ = some (.int .i64 n) := blk_at hb 2 rfl
  have q3 : w.cell? ⟨b, 3, none⟩ = some (.slice ao len c) := blk_at hb 3 rfl
  have hds : (bs x).size = x.length := bs_size _
  obtain ⟨r, HR⟩ : ∃ r : Bool, Hid (r = roomB len n x) := ⟨_, rfl⟩
  rw [← HR.out]
  by_cases h0 : n = 0
  · subst h0
    by_cases hl : len = 32
    · subst hl
      have HF : Hid (r = false) := by show r = false; rw [HR.out]; unfold roomB; simp
      go_enter Tryz.func148, Tryz.ntmps148
      go_wp2
      go_ret
      exact ⟨by rw [HF.out]; rfl, rfl⟩
    · have hli : ((len : Int) == 32) = false := beq_eq_false_iff_ne.2 (by omega)
      have hli2 : ¬ ((len : Int) = 32) := by omega
      by_cases hx : x.length ≤ 64
      · have hxi : (x.length : Int) ≤ 64 := by omega
        have HF : Hid (r = true) := by show r = true; rw [HR.out]; unfold roomB; simp [hl, hx]
        go_enter Tryz.func148, Tryz.ntmps148
        go_wp2
        go_ret
        exact ⟨by rw [HF.out]; rfl, rfl⟩
      · have hxi : ¬ (x.length : Int) ≤ 64 := by omega
        have HF : Hid (r = false) := by show r = false; rw [HR.out]; unfold roomB; simp [hx]
        go_enter Tryz.func148, Tryz.ntmps148
        go_wp2
        go_ret
        exact ⟨by rw [HF.out]; rfl, rfl⟩
  · have h0i : (n == 0) = false := beq_eq_false_iff_ne.2 h0
    by_cases hx : x.length ≤ 64
    · have hxi : (x.length : Int) ≤ 64 := by omega
      by_cases hn : n < 1099511627775
      · have HF : Hid (r = true) := by show r = true; rw [HR.out]; unfold roomB; simp [h0, hx, hn]
        go_enter Tryz.func148, Tryz.ntmps148
        go_wp2
        go_ret
        exact ⟨by rw [HF.out]; rfl, rfl⟩
      · have HF : Hid (r = false) := by show r = false; rw [HR.out]; unfold roomB; simp [hn]
        go_enter Tryz.func148, Tryz.ntmps148
        go_wp2
        go_ret
        exact ⟨by rw [HF.out]; rfl, rfl⟩
    · have hxi : ¬ (x.length : Int) ≤ 64 := by omega
      have HF : Hid (r = false) := by show r = false; rw [HR.out]; unfold roomB; simp [hx]
      go_enter Tryz.func148, Tryz.ntmps148
      go_wp2
      go_ret
      exact ⟨by rw [HF.out]; rfl, rfl⟩

/-- A result without keys. -/
def resV (kind : Int) (v : List UInt8) (n : Int) : Value := .agg #[.int .i64 kind, .string (bs v), .int .i64 n, .slice none 0 0]
set_option maxRecDepth 100000 in
set_option maxHeartbeats 1000000 in
theorem tell_any (b len c : Nat) (k v : List UInt8) (n at' kind : Int) (ao : Option Addr) (w : World) (hb : SpotAt w b k v n ao len c at') :
    Calls Tryz.prog 116 #[.pointer (some ⟨b, 0, none⟩), .int .i64 kind] w fun e w' => e = .returned (if n = 0 then resV 2 [] 0 else resV kind v n) ∧ Kept Nil w w' := by
  have HB : Hid (w.heap[b]? = some (.cells #[.string (bs k), .string (bs v), .int .i64 n, .slice ao len c, .int .i64 at'] 121 (0, 0))) := hb
  have hlt := lt_of_block HB.out
  have q1 : w.cell? ⟨b, 1, none⟩ = some (.string (bs v)) := blk_at HB.out 1 rfl
  have q2 : w.cell? ⟨b, 2, none⟩ = some (.int .i64 n) := blk_at HB.out 2 rfl
  clear hb
  by_cases h0 : n = 0
  · subst h0
    rw [if_pos rfl]
    go_enter Tryz.func116, Tryz.ntmps116
    go_wp2
    exact bodyPost_ret (v := resV 2 [] 0) (by simp [results, Tryz.results116, go_sem, resV, bs]) rfl ⟨rfl, (Kept.refl _ _).alloc _⟩
  · have h0i : (n == 0) = false := beq_eq_false_iff_ne.2 h0
    rw [if_neg h0]
    obtain ⟨W, hW⟩ : ∃ W, W = w.alloc (.cells #[.int .i64 0, .string ⟨#[]⟩, .int .i64 0, .slice none 0 0] 50) := ⟨_, rfl⟩
    have KW : Hid (Kept Nil w W) := by rw [hW]; exact (Kept.refl _ _).alloc _
    have HBW : Hid (W.heap[b]? = some (.cells #[.string (bs k), .string (bs v), .int .i64 n, .slice ao len c, .int .i64 at'] 121 (0, 0))) := KW.out.block _ _ HB.out (fun x => x.elim)
    have HNW : Hid (W.heap[w.heap.size]? = some (.cells #[.int .i64 0, .string ⟨#[]⟩, .int .i64 0, .slice none 0 0] 50 (0, 0))) := by rw [hW]; exact blk_new _ _
    go_enter Tryz.func116, Tryz.ntmps116
    go_upto_region 3 with fail
    rw [← hW]
    clear hW q1 q2
    have q1 : W.cell? ⟨b, 1, none⟩ = some (.string (bs v)) := blk_at HBW.out 1 rfl
    have q2 : W.cell? ⟨b, 2, none⟩ = some (.int .i64 n) := blk_at HBW.out 2 rfl
    generalize hpr : w.heap.size = pr at *
    have HPR : Hid (w.heap.size ≤ pr) := by show _ ≤ _; omega
    clear hpr
    have r0 : W.cell? ⟨pr, 0, none⟩ = some (.int .i64 0) := blk_at HNW.out 0 rfl
    have r1 : W.cell? ⟨pr, 1, none⟩ = some (.string ⟨#[]⟩) := blk_at HNW.out 1 rfl
    have r2 : W.cell? ⟨pr, 2, none⟩ = some (.int .i64 0) := blk_at HNW.out 2 rfl
    have r3 : W.cell? ⟨pr, 3, none⟩ = some (.slice none 0 0) := blk_at HNW.out 3 rfl
    have z0 : W.frozen? ⟨pr, 0, none⟩ = false := blk_free HNW.out 0
    have z1 : W.frozen? ⟨pr, 1, none⟩ = false := blk_free HNW.out 1
    have z2 : W.frozen? ⟨pr, 2, none⟩ = false := blk_free HNW.out 2
    have z3 : W.frozen? ⟨pr, 3, none⟩ = false := blk_free HNW.out 3
    obtain ⟨V, hV⟩ : ∃ V, V = ((((W.setCell ⟨pr, 0, none⟩ (.int .i64 kind)).setCell ⟨pr, 1, none⟩ (.string (bs v))).setCell ⟨pr, 2, none⟩ (.int .i64 n)).setCell ⟨pr, 3, none⟩ (.slice none 0 0)).drew := ⟨_, rfl⟩
    have BF : Hid (V.heap[pr]? = some (.cells #[.int .i64 kind, .string (bs v), .int .i64 n, .slice none 0 0] 50 (0, 0))) := by rw [hV]; exact blk_set (blk_set (blk_set (blk_set HNW.out 0 _) 1 _) 2 _) 3 _
    have KV : Hid (Kept Nil w V) := by rw [hV]; exact ((((KW.out.setNew HPR.out _).setNew HPR.out _).setNew HPR.out _).setNew HPR.out _).drew
    go_region
    go_wp2
    rw [← hV]
    clear hV r0 r1 r2 r3
    have j0 : V.cell? ⟨pr, 0, none⟩ = some (.int .i64 kind) := blk_at BF.out 0 rfl
    have j1 : V.cell? ⟨pr, 1, none⟩ = some (.string (bs v)) := blk_at BF.out 1 rfl
    have j2 : V.cell? ⟨pr, 2, none⟩ = some (.int .i64 n) := blk_at BF.out 2 rfl
    have j3 : V.cell? ⟨pr, 3, none⟩ = some (.slice none 0 0) := blk_at BF.out 3 rfl
    exact bodyPost_ret (v := resV kind v n) (by simp [results, Tryz.results116, go_sem, j0, j1, j2, j3, resV]) rfl ⟨rfl, KV.out⟩

end Go.Proofs.YtflnjlbafchnaaaGreatDoor
