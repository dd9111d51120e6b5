/-
  Relays: Packets.
-/
import Derived.Test.YtmlncfnnldplgaaWRmP
import Derived.Test.YtmlncfnnldplgaaWStepA
namespace Go.Proofs.Ytmlncfnnldplgaa
open Go.RowKit

/-- The packet of the i-th body that waits. -/
def pkO (id : Int) (k : Nat) (o : Oh) (i : Nat) (b : List UInt8) : Pk := ⟨id, k, (o.ak : Int) + 1 + i, false, b⟩
def pksO (id : Int) (k : Nat) (o : Oh) : List Pk := o.wt.mapIdx (pkO id k o)
/-- All that waits. -/
def pksTo (id : Int) (os : Nat → Oh) (n : Nat) : List Pk := (List.range n).flatMap fun k => pksO id k (os k)
theorem pksTo_next (id : Int) (os : Nat → Oh) (n : Nat) : pksTo id os (n + 1) = pksTo id os n ++ pksO id n (os n) := by
  unfold pksTo
  rw [List.range_succ, List.flatMap_append]
  simp
theorem pksO_len (id : Int) (k : Nat) (o : Oh) : (pksO id k o).length = o.wt.length := by simp [pksO]
theorem pksO_next {id : Int} {k : Nat} {o : Oh} {i : Nat} (hi : i < o.wt.length) : (pksO id k o).take (i + 1) = (pksO id k o).take i ++ [pkO id k o i o.wt[i]] := by
  rw [List.take_succ_eq_append_getElem (by rw [pksO_len]; exact hi)]
  simp [pksO]
theorem pksTo_len (id : Int) (os : Nat → Oh) (hf : ∀ k, k < 10 → (os k).wt.length ≤ 16) : ∀ n, n ≤ 10 → (pksTo id os n).length ≤ 16 * n
  | 0, _ => by simp [pksTo]
  | n + 1, h => by
    rw [pksTo_next, List.length_append, pksO_len]
    have h1 := pksTo_len id os hf n (by omega)
    have h2 := hf n (by omega)
    omega
set_option maxRecDepth 100000 in
set_option maxHeartbeats 8000000 in
theorem packets_any (B : Nat → Prop) (b : Nat) (id : Int) (os : Nat → Oh) (ao : Nat → Option Addr) (cs : Nat → Nat) (w : World) (h : Rl B w b id os ao cs) (hf : ∀ k, k < 10 → (os k).wt.length ≤ 16 ∧ (os k).ak ≤ 9000000000000000000 ∧ (os k).cm ≤ 9000000000000000000) :
    Calls Try.prog 8 #[.pointer (some ⟨b, 0, none⟩)] w fun e w' => ∃ a c, e = .returned (.slice a (pksTo id os 10).length c) ∧ OwnPk w.heap.size w' a c (pksTo id os 10) ∧ Kept Nil w w' := by
  have HH : Hid (Rl B w b id os ao cs) := h
  obtain ⟨cells, hc⟩ := h.cl
  have HB : Hid (RlC w b id os ao cs cells) := hc
  obtain ⟨i2, hi2, hy0, hy1, hy2⟩ := info_parts Try.infoOwnPk
  have HPL := fun n hn => pksTo_len id os (fun k hk => (hf k hk).1) n hn
  have CB : ∀ X, Kept Nil w X → X.heap[b]? = some (.cells cells 90 (0, 0)) := fun X kX => kX.block _ _ HB.out.blk (fun x => x)
  clear h hc
  go_enter Try.func8, Try.ntmps8
  go_wp2
  go_loopw [3, 8] (fun s u wr => ∃ k c : Nat, ∃ a : Option Addr, k ≤ 10 ∧ u = .int .i64 k ∧ s = .slice a (pksTo id os k).length c ∧ Hid (OwnPk w.heap.size wr a c (pksTo id os k)) ∧ Hid (Kept Nil w wr)) (fun _ u _ => 10 - (intOf u).toNat)
  case atStart => exact ⟨0, 0, none, by omega, rfl, rfl, World.ownsRow_nil _ _ _ _, Kept.refl _ _⟩
  case round =>
    obtain ⟨k, c, a, hk, rfl, rfl, HP, HK⟩ := hrel
    by_cases hlt : k < 10
    · have hki : (k : Int) < 10 := by omega
      obtain ⟨wo, hwo⟩ : ∃ x : World, x = wr := ⟨_, rfl⟩
      rw [← hwo] at HP HK ⊢
      clear hwo
      obtain ⟨o, HOe⟩ : ∃ o, Hid (o = os k) := ⟨_, rfl⟩
      have hb0 := CB wo HK.out
      have c1 : wo.cell? ⟨b, 1 + k * 3 + 1, none⟩ = some (.slice (ao k) o.wt.length (cs k)) := by rw [blk_cell hb0, HOe.out]; exact HB.out.cw k hlt
      have CA : ∀ X, Kept Nil w X → X.cell? ⟨b, 1 + k * 3, none⟩ = some (.int .i64 o.ak) ∧ X.cell? ⟨b, 0, none⟩ = some (.int .i64 id) := fun X kX => ⟨by rw [blk_cell (CB X kX), HOe.out]; exact HB.out.ca k hlt, by rw [blk_cell (CB X kX)]; exact HB.out.c0⟩
      have hfo : o.wt.length ≤ 16 ∧ o.ak ≤ 9000000000000000000 := by rw [HOe.out]; exact ⟨(hf k hlt).1, (hf k hlt).2.1⟩
      obtain ⟨a0, Ha0⟩ : ∃ x, Hid (x = ao k) := ⟨_, rfl⟩
      obtain ⟨n0, Hn0⟩ : ∃ x, Hid (x = cs k) := ⟨_, rfl⟩
      rw [← Ha0.out, ← Hn0.out] at c1
      have HRow : Hid (∀ X, Kept Nil w X → OwnTd 0 X a0 n0 o.wt) := fun X kX => by rw [Ha0.out, Hn0.out, HOe.out]; exact (HH.out.rows k hlt).kept kX
      have hl1 := HPL k hk
      clear hb0
      obtain ⟨pre, HPre⟩ : ∃ pre, Hid (pre = pksTo id os k) := ⟨_, rfl⟩
      rw [← HPre.out] at HP hl1 ⊢
      have HNx : Hid (pksTo id os (k + 1) = pre ++ pksO id k o) := by show _ = _; rw [pksTo_next, ← HPre.out, ← HOe.out]
      have HKle : Hid (k < 10) := hlt
      go_wp2
      go_loopw [3, 21] (fun s u wr => ∃ i c : Nat, ∃ a : Option Addr, i ≤ o.wt.length ∧ u = .int .i64 i ∧ s = .slice a (pre.length + i) c ∧ Hid (OwnPk w.heap.size wr a c (pre ++ (pksO id k o).take i)) ∧ Hid (Kept Nil w wr)) (fun _ u _ => o.wt.length - (intOf u).toNat)
      case atStart => exact ⟨0, c, a, Nat.zero_le _, rfl, rfl, by rw [List.take_zero, List.append_nil]; exact HP.out, HK.out⟩
      case round =>
        obtain ⟨i, c, a, hi, rfl, rfl, HPi, HKi⟩ := hrel
        have hlen : Hid ((pre ++ (pksO id k o).take i).length = pre.length + i) := by show _ = _; rw [List.length_append, List.length_take, pksO_len]; omega
        by_cases hil : i < o.wt.length
        · have hii : (i : Int) < o.wt.length := by omega
          obtain ⟨g, eg, _, d0⟩ := (HRow.out wr HKi.out).cell hil
          subst eg
          obtain ⟨y, HY⟩ : ∃ y : List UInt8, Hid (y = o.wt[i]) := ⟨o.wt[i], (rfl : o.wt[i] = o.wt[i])⟩
          rw [← HY.out] at d0
          obtain ⟨e1, e2⟩ := CA wr HKi.out
          have hs9 : wr.cell? ⟨b, 0, none⟩ = some (.int .i64 id) ∧ wr.cell? ⟨b, 1 + k * 3, none⟩ = some (.int .i64 o.ak) := ⟨e2, e1⟩
          have hw1 : IntKind.i64.wrap ((o.ak : Int) + 1) = (o.ak : Int) + 1 := IntWalk.i64_in _ (by omega)
          have hw2 : IntKind.i64.wrap ((o.ak : Int) + 1 + (i : Int)) = (o.ak : Int) + 1 + (i : Int) := IntWalk.i64_in _ (by omega)
          have HPo : Hid (wr.ownsRow w.heap.size 34 5 (.slice a (pre.length + i) c) (pre.length + i) (pkCells (pre ++ (pksO id k o).take i))) := by have h := HPi.out; unfold OwnPk at h; rw [hlen.out] at h; exact h
          have HPV : Hid ((wr.drew.alloc (.cells #[.int .i64 id, .int .i64 k, .int .i64 ((o.ak : Int) + 1 + (i : Int)), .bool false, .string (bs y)] 34)).ownsRow w.heap.size 34 5 (.slice a (pre.length + i) c) (pre.length + i) (pkCells (pre ++ (pksO id k o).take i))) := own_kept (X := Nil) HPo.out ((Kept.refl _ _).drew.alloc _) (fun _ _ _ x => x.elim)
          have HNi : Hid (pre ++ (pksO id k o).take (i + 1) = (pre ++ (pksO id k o).take i) ++ [pkO id k o i y]) := by show _ = _; rw [pksO_next hil, ← HY.out, List.append_assoc]
          have SR : Hid (Src Try.prog 5 28 (.slice (some ⟨wr.heap.size, 0, none⟩) 1 1) 1 [.int .i64 id, .int .i64 k, .int .i64 ((o.ak : Int) + 1 + (i : Int)), .bool false, .string (bs y)] (wr.drew.alloc (.cells #[.int .i64 id, .int .i64 k, .int .i64 ((o.ak : Int) + 1 + (i : Int)), .bool false, .string (bs y)] 34))) := oneOwnPk_src wr.drew (pkO id k o i y)
          have HLL : Hid (pre.length + i + 1 ≤ maxLen ∧ (pre.length + i + 1) * 48 ≤ 140737488355328) := by constructor <;> (try unfold maxLen) <;> omega
          have hBs : w.heap.size ≤ wr.heap.size := HKi.out.size
          go_upto_region 9 with fail
          go_region_held3 (fun w' => w'.cell? ⟨b, 0, none⟩ = some (.int .i64 id) ∧ w'.cell? ⟨b, 1 + k * 3, none⟩ = some (.int .i64 o.ak)) (first | assumption | go_keep) (first | (refine step_append_src (wr.drew.alloc (.cells #[.int .i64 id, .int .i64 k, .int .i64 ((o.ak : Int) + 1 + (i : Int)), .bool false, .string (bs y)] 34)) (by rfl) (.tmp 26) (.tmp 41) 28 28 (by rfl) w.heap.size 34 i2 (.agg #[.int .i64 0, .int .i64 0, .int .i64 0, .bool false, .string ⟨#[]⟩]) 5 48 Try.underlying28 hi2 hy0 hy1 hy2 rfl (.slice a (pre.length + i) c) (pre.length + i) (pkCells (pre ++ (pksO id k o).take i)) (by simp [Act.eval]) HPV.out (.slice (some ⟨wr.heap.size, 0, none⟩) 1 1) 1 [.int .i64 id, .int .i64 k, .int .i64 ((o.ak : Int) + 1 + (i : Int)), .bool false, .string (bs y)] (by simp [Act.eval]) SR.out HLL.out.1 HLL.out.2 (le_alloc hBs _) ?_; intro a6 c6 w6 ho6 hg6; have HP6 : Hid (OwnPk w.heap.size w6 a6 c6 (pre ++ (pksO id k o).take (i + 1))) := (by rw [HNi.out]; exact OwnPk.app (gs := [pkO id k o i y]) hlen.out.symm rfl ho6); have K6 : Hid (Kept Nil w w6) := (HKi.out.drew.alloc _).grown hg6 (fun k hk => own_row HPV.out k hk); have s6 : w6.cell? ⟨b, 0, none⟩ = some (.int .i64 id) ∧ w6.cell? ⟨b, 1 + k * 3, none⟩ = some (.int .i64 o.ak) := ⟨(CA w6 K6.out).2, (CA w6 K6.out).1⟩; clear ho6 hg6))
          go_wp2
          go_roundw
          case rel => exact ⟨i + 1, c6, a6, by omega, by go_num, by first | rfl | (congr 1; omega), HP6.out, K6.out⟩
          case measure => simp [intOf]; omega
        · obtain rfl : i = o.wt.length := by omega
          have hirr : ¬ (o.wt.length : Int) < o.wt.length := by omega
          have HEq : Hid (pre ++ (pksO id k o).take o.wt.length = pksTo id os (k + 1)) := by show _ = _; rw [HNx.out, List.take_of_length_le (by rw [pksO_len]; omega)]
          have HPf : Hid (OwnPk w.heap.size wr a c (pksTo id os (k + 1))) := by have h := HPi.out; rw [HEq.out] at h; exact h
          have HLf : Hid (pre.length + o.wt.length = (pksTo id os (k + 1)).length) := by show _ = _; rw [← HEq.out]; exact hlen.out.symm
          go_wp2
          go_roundw
          case rel => exact ⟨k + 1, c, a, (by have := HKle.out; omega), by go_num, by rw [← HLf.out], HPf.out, HKi.out⟩
          case measure => have := HKle.out; simp [intOf]; omega
    · obtain rfl : k = 10 := by omega
      go_wp2
      go_ret
      exact ⟨a, c, rfl, HP.out, HK.out⟩
end Go.Proofs.Ytmlncfnnldplgaa
