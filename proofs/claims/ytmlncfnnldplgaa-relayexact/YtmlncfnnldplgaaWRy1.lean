/-
  Relays: the document's: what one holds; NewRelay, Packets, Send.
-/
import Derived.Test.YtmlncfnnldplgaaWRl4
namespace Go.Proofs.Ytmlncfnnldplgaa
open Go.RowKit

/-- The document's relay: its cells. -/
structure RyC (w : World) (b : Nat) (id : Int) (os : Nat → Oh) (ay : Nat → Option Addr) (cy : Nat → Nat) (cells : Array Value) : Prop where
  blk : w.heap[b]? = some (.cells cells 95 (0, 0))
  sz : cells.size = 31
  c0 : cells[0]? = some (.int .i64 id)
  cs : ∀ k, k < 10 → cells[1 + k]? = some (.int .i64 ((os k).ak + (os k).wt.length : Nat))
  cw : ∀ k, k < 10 → cells[11 + k]? = some (.slice (ay k) (os k).wt.length (cy k))
  cc : ∀ k, k < 10 → cells[21 + k]? = some (.int .i64 (os k).cm)
/-- The document's relay in memory, its rows in good blocks. -/
structure Ry (G : Nat → Prop) (w : World) (b : Nat) (id : Int) (os : Nat → Oh) (ay : Nat → Option Addr) (cy : Nat → Nat) : Prop where
  cl : ∃ cells, RyC w b id os ay cy cells
  rows : ∀ k, k < 10 → OwnPk 0 w (ay k) (cy k) (pksO id k (os k))
  good : ∀ k, k < 10 → ∀ g, (Value.slice (ay k) (os k).wt.length (cy k)).ownBlock = some g → G g
theorem Ry.keptX {X : Nat → Obj → Prop} {G : Nat → Prop} {b : Nat} {w w' : World} {id : Int} {os : Nat → Oh} {ay : Nat → Option Addr} {cy : Nat → Nat} (h : Ry G w b id os ay cy) (k : Kept X w w') (hX : ∀ cs, ¬ X b (.cells cs 95 (0, 0))) (hG : ∀ q cs, G q → ¬ X q (.cells cs 34 (0, 0))) : Ry G w' b id os ay cy := by
  obtain ⟨cells, hc⟩ := h.cl
  refine ⟨⟨cells, k.block _ _ hc.blk (hX _), hc.sz, hc.c0, hc.cs, hc.cw, hc.cc⟩, fun j hj => ?_, h.good⟩
  refine ⟨(h.rows j hj).1, (h.rows j hj).2.imp (fun x => x) ?_⟩
  rintro ⟨g, cap, cur, h1, h2, h3, h4⟩
  exact ⟨g, cap, cur, h1, h2, k.block _ _ h3 (hG _ _ (h.good j hj g (by rw [← pksO_len id j (os j), h1]; rfl))), h4⟩
theorem Ry.kept {G : Nat → Prop} {b : Nat} {w w' : World} {id : Int} {os : Nat → Oh} {ay : Nat → Option Addr} {cy : Nat → Nat} (h : Ry G w b id os ay cy) (k : Kept Nil w w') : Ry G w' b id os ay cy := h.keptX k (fun _ x => x) (fun _ _ _ x => x)
theorem Ry.up {G G' : Nat → Prop} {b : Nat} {w : World} {id : Int} {os : Nat → Oh} {ay : Nat → Option Addr} {cy : Nat → Nat} (h : Ry G w b id os ay cy) (hG : ∀ g, G g → G' g) : Ry G' w b id os ay cy := ⟨h.cl, h.rows, fun k hk g hg => hG g (h.good k hk g hg)⟩
/-- What a call on it may touch. -/
def TY (b : Nat) : Nat → Obj → Prop := fun q o => q = b ∧ ∃ cs, o = .cells cs 95 (0, 0)
set_option maxRecDepth 100000 in
set_option maxHeartbeats 1000000 in
theorem newY_no (id : Int) (w : World) (h : isNd id = false) :
    Calls Try.prog 9 #[.int .i64 id] w fun e w' => e = .returned (.tuple #[.pointer none, .int .i64 13]) ∧ w' = w := by
  have hd : id < 1 ∨ ¬ id < 1 ∧ id > 9 := by
    unfold isNd at h
    by_cases h1 : id < 1
    · exact .inl h1
    · refine .inr ⟨h1, ?_⟩
      by_cases h2 : id > 9
      · exact h2
      · rw [decide_eq_true (by omega), decide_eq_true (by omega)] at h; cases h
  clear h
  rcases hd with h1 | ⟨h1, h2⟩
  · go_enter Try.func9, Try.ntmps9
    go_wp2
    go_ret2
    exact ⟨rfl, rfl⟩
  · go_enter Try.func9, Try.ntmps9
    go_wp2
    go_ret2
    exact ⟨rfl, rfl⟩
set_option maxRecDepth 100000 in
set_option maxHeartbeats 1000000 in
theorem newY_yes (id : Int) (w : World) (h : isNd id = true) :
    Calls Try.prog 9 #[.int .i64 id] w fun e w' => e = .returned (.tuple #[.pointer (some ⟨w.heap.size, 0, none⟩), .int .i64 0]) ∧ Ry (fun _ => False) w' w.heap.size id (fun _ => oh0) (fun _ => none) (fun _ => 0) ∧ Kept Nil w w' := by
  have h1 : ¬ id < 1 := by unfold isNd at h; simp only [Bool.and_eq_true, decide_eq_true_eq] at h; omega
  have h2 : ¬ id > 9 := by unfold isNd at h; simp only [Bool.and_eq_true, decide_eq_true_eq] at h; omega
  clear h
  go_enter Try.func9, Try.ntmps9
  go_wp2
  go_ret2
  refine ⟨rfl, ⟨⟨_, blk_new _ _, rfl, rfl, fun k hk => ?_, fun k hk => ?_, fun k hk => ?_⟩, fun k _ => World.ownsRow_nil _ _ _ _, fun k _ g hg => by simp [Value.ownBlock] at hg⟩, (Kept.refl _ _).alloc _⟩
  all_goals (
    have : k = 0 ∨ k = 1 ∨ k = 2 ∨ k = 3 ∨ k = 4 ∨ k = 5 ∨ k = 6 ∨ k = 7 ∨ k = 8 ∨ k = 9 := by omega
    rcases this with rfl | rfl | rfl | rfl | rfl | rfl | rfl | rfl | rfl | rfl <;> rfl)
set_option maxRecDepth 100000 in
set_option maxHeartbeats 8000000 in
theorem packetsY_any (G : Nat → Prop) (b : Nat) (id : Int) (os : Nat → Oh) (ay : Nat → Option Addr) (cy : Nat → Nat) (w : World) (h : Ry G w b id os ay cy) (hf : ∀ k, k < 10 → (os k).wt.length ≤ 16) :
    Calls Try.prog 15 #[.pointer (some ⟨b, 0, none⟩)] w fun e w' => ∃ a c, e = .returned (.slice a (pksTo id os 10).length c) ∧ OwnPk w.heap.size w' a c (pksTo id os 10) ∧ Kept Nil w w' := by
  have HH : Hid (Ry G w b id os ay cy) := h
  obtain ⟨cells, hc⟩ := h.cl
  have HB : Hid (RyC w b id os ay cy cells) := hc
  obtain ⟨i2, hi2, hy0, hy1, hy2⟩ := info_parts Try.infoOwnPk
  have HPL := fun n hn => pksTo_len id os hf n hn
  clear h hc
  go_enter Try.func15, Try.ntmps15
  go_wp2
  go_loopw [3, 4] (fun s u wr => ∃ k c : Nat, ∃ a : Option Addr, k ≤ 10 ∧ u = .int .i64 k ∧ s = .slice a (pksTo id os k).length c ∧ Hid (OwnPk w.heap.size wr a c (pksTo id os k)) ∧ Hid (Kept Nil w wr)) (fun _ u _ => 10 - (intOf u).toNat)
  case atStart => exact ⟨0, 0, none, by omega, rfl, rfl, World.ownsRow_nil _ _ _ _, Kept.refl _ _⟩
  case round =>
    obtain ⟨k, c, a, hk, rfl, rfl, HP, HK⟩ := hrel
    by_cases hlt : k < 10
    · have hki : (k : Int) < 10 := by omega
      have c1 : wr.cell? ⟨b, 11 + k, none⟩ = some (.slice (ay k) (os k).wt.length (cy k)) := by rw [blk_cell (HK.out.block _ _ HB.out.blk (fun x => x))]; exact HB.out.cw k hlt
      have hl1 := HPL k hk
      have hfk := hf k hlt
      have HNx : Hid (pksTo id os (k + 1) = pksTo id os k ++ pksO id k (os k)) := pksTo_next id os k
      have HRk : Hid (OwnPk 0 wr (ay k) (cy k) (pksO id k (os k))) := (HH.out.rows k hlt).kept HK.out
      obtain ⟨pre, HPre⟩ : ∃ pre, Hid (pre = pksTo id os k) := ⟨_, rfl⟩
      obtain ⟨nx, HNxe⟩ : ∃ nx, Hid (nx = pksO id k (os k)) := ⟨_, rfl⟩
      have hnl : Hid (nx.length = (os k).wt.length) := by show _ = _; rw [HNxe.out]; exact pksO_len _ _ _
      rw [← HPre.out] at HP hl1 HNx ⊢
      rw [← HNxe.out] at HNx HRk
      have SR : Hid (Src Try.prog 5 28 (.slice (ay k) (os k).wt.length (cy k)) (os k).wt.length (pkCells nx) wr) := by have h := HRk.out.src; rw [hnl.out] at h; exact h
      have HLL : Hid (pre.length + (os k).wt.length ≤ maxLen ∧ (pre.length + (os k).wt.length) * 48 ≤ 140737488355328) := by constructor <;> (try unfold maxLen) <;> omega
      have hBs : w.heap.size ≤ wr.heap.size := HK.out.size
      generalize (os k).wt.length = m at *
      generalize ay k = ayk at *
      generalize cy k = cyk at *
      go_wp2_with (at_builtin; go_must (refine wpList_append_src _ rfl _ _ 28 28 rfl w.heap.size 34 i2 (.agg #[.int .i64 0, .int .i64 0, .int .i64 0, .bool false, .string ⟨#[]⟩]) 5 48 Try.underlying28 hi2 hy0 hy1 hy2 rfl (.slice a pre.length c) pre.length (pkCells pre) rfl HP.out (.slice ayk m cyk) m (pkCells nx) rfl SR.out HLL.out.1 HLL.out.2 hBs ?_); intro a6 c6 w6 ho6 hg6; have HP6 : Hid (OwnPk w.heap.size w6 a6 c6 (pre ++ nx)) := OwnPk.app rfl hnl.out.symm ho6; have K6 : Hid (Kept Nil w w6) := HK.out.grown hg6 (fun k hk => own_row HP.out k hk); clear ho6 hg6)
      go_roundw
      case rel => exact ⟨k + 1, c6, a6, by omega, by go_num, by rw [HNx.out, List.length_append, hnl.out], by rw [HNx.out]; exact HP6.out, K6.out⟩
      case measure => simp [intOf]; omega
    · obtain rfl : k = 10 := by omega
      go_wp2
      go_ret
      exact ⟨a, c, rfl, HP.out, HK.out⟩
end Go.Proofs.Ytmlncfnnldplgaa
