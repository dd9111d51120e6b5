/-
  Joined: WSy1, WSy2, WSy3.
-/
import Derived.Test.YtpfgnhockfofhaaGreatH13
import Derived.Test.YtpfgnhockfofhaaGreatH12
/-
  Relays: the document's: what one holds; NewRelay, Packets, Send.
-/
namespace Go.Proofs.YtpfgnhockfofhaaGreat
open Go.RowKit

/-- The document's relay: its cells. -/
structure RyC (w : World) (b : Nat) (id : Int) (os : Nat → Oh) (ay : Nat → Option Addr) (cy : Nat → Nat) (cells : Array Value) : Prop where
  blk : w.heap[b]? = some (.cells cells 98 (0, 0))
  sz : cells.size = 31
  c0 : cells[0]? = some (.int .i64 id)
  cs : ∀ k, k < 10 → cells[1 + k]? = some (.int .i64 ((os k).ak + (os k).wt.length : Nat))
  cw : ∀ k, k < 10 → cells[11 + k]? = some (.slice (ay k) (os k).wt.length (cy k))
  cc : ∀ k, k < 10 → cells[21 + k]? = some (.int .i64 (os k).cm)
/-- The document's relay in memory, its rows in good blocks. -/
structure Ry (G : Nat → Prop) (w : World) (b : Nat) (id : Int) (os : Nat → Oh) (ay : Nat → Option Addr) (cy : Nat → Nat) : Prop where
  cl : ∃ cells, RyC w b id os ay cy cells
  rows : ∀ k, k < 10 → OwnPk 0 w (ay k) (cy k) (pksO id k (os k))
  good : ∀ k, k < 10 → ∀ g, (Value.slice (ay k) (os k).wt.length (cy k)).ownBlock = some g → G g
theorem Ry.keptX {X : Nat → Obj → Prop} {G : Nat → Prop} {b : Nat} {w w' : World} {id : Int} {os : Nat → Oh} {ay : Nat → Option Addr} {cy : Nat → Nat} (h : Ry G w b id os ay cy) (k : Kept X w w') (hX : ∀ cs, ¬ X b (.cells cs 98 (0, 0))) (hG : ∀ q cs, G q → ¬ X q (.cells cs 86 (0, 0))) : Ry G w' b id os ay cy := by
  obtain ⟨cells, hc⟩ := h.cl
  refine ⟨⟨cells, k.block _ _ hc.blk (hX _), hc.sz, hc.c0, hc.cs, hc.cw, hc.cc⟩, fun j hj => ?_, h.good⟩
  refine ⟨(h.rows j hj).1, (h.rows j hj).2.imp (fun x => x) ?_⟩
  rintro ⟨g, cap, cur, h1, h2, h3, h4⟩
  exact ⟨g, cap, cur, h1, h2, k.block _ _ h3 (hG _ _ (h.good j hj g (by rw [← pksO_len id j (os j), h1]; rfl))), h4⟩
theorem Ry.kept {G : Nat → Prop} {b : Nat} {w w' : World} {id : Int} {os : Nat → Oh} {ay : Nat → Option Addr} {cy : Nat → Nat} (h : Ry G w b id os ay cy) (k : Kept Nil w w') : Ry G w' b id os ay cy := h.keptX k (fun _ x => x) (fun _ _ _ x => x)
theorem Ry.up {G G' : Nat → Prop} {b : Nat} {w : World} {id : Int} {os : Nat → Oh} {ay : Nat → Option Addr} {cy : Nat → Nat} (h : Ry G w b id os ay cy) (hG : ∀ g, G g → G' g) : Ry G' w b id os ay cy := ⟨h.cl, h.rows, fun k hk g hg => hG g (h.good k hk g hg)⟩
/-- What a call on it may touch. -/
def TY (b : Nat) : Nat → Obj → Prop := fun q o => q = b ∧ ∃ cs, o = .cells cs 98 (0, 0)
set_option maxRecDepth 100000 in
set_option maxHeartbeats 1000000 in
theorem newY_yes (id : Int) (w : World) (h : isNd id = true) :
    Calls Tryz.prog 20 #[.int .i64 id] w fun e w' => e = .returned (.tuple #[.pointer (some ⟨w.heap.size, 0, none⟩), .int .i64 0]) ∧ Ry (fun _ => False) w' w.heap.size id (fun _ => oh0) (fun _ => none) (fun _ => 0) ∧ Kept Nil w w' := by
  have h1 : ¬ id < 1 := by unfold isNd at h; simp only [Bool.and_eq_true, decide_eq_true_eq] at h; omega
  have h2 : ¬ id > 9 := by unfold isNd at h; simp only [Bool.and_eq_true, decide_eq_true_eq] at h; omega
  clear h
  go_enter Tryz.func20, Tryz.ntmps20
  go_wp2
  go_ret2
  refine ⟨rfl, ⟨⟨_, blk_new _ _, rfl, rfl, fun k hk => ?_, fun k hk => ?_, fun k hk => ?_⟩, fun k _ => World.ownsRow_nil _ _ _ _, fun k _ g hg => by simp [Value.ownBlock] at hg⟩, (Kept.refl _ _).alloc _⟩
  all_goals (
    have : k = 0 ∨ k = 1 ∨ k = 2 ∨ k = 3 ∨ k = 4 ∨ k = 5 ∨ k = 6 ∨ k = 7 ∨ k = 8 ∨ k = 9 := by omega
    rcases this with rfl | rfl | rfl | rfl | rfl | rfl | rfl | rfl | rfl | rfl <;> rfl)
set_option maxRecDepth 100000 in
set_option maxHeartbeats 8000000 in
theorem packetsY_any (G : Nat → Prop) (b : Nat) (id : Int) (os : Nat → Oh) (ay : Nat → Option Addr) (cy : Nat → Nat) (w : World) (h : Ry G w b id os ay cy) (hf : ∀ k, k < 10 → (os k).wt.length ≤ 16) :
    Calls Tryz.prog 25 #[.pointer (some ⟨b, 0, none⟩)] w fun e w' => ∃ a c, e = .returned (.slice a (pksTo id os 10).length c) ∧ OwnPk w.heap.size w' a c (pksTo id os 10) ∧ Kept Nil w w' := by
  have HH : Hid (Ry G w b id os ay cy) := h
  obtain ⟨cells, hc⟩ := h.cl
  have HB : Hid (RyC w b id os ay cy cells) := hc
  obtain ⟨i2, hi2, hy0, hy1, hy2⟩ := info_parts Tryz.infoOwnPk
  have HPL := fun n hn => pksTo_len id os hf n hn
  clear h hc
  go_enter Tryz.func25, Tryz.ntmps25
  go_wp2
  go_loopw [3, 4] (fun s u wr => ∃ k c : Nat, ∃ a : Option Addr, k ≤ 10 ∧ u = .int .i64 k ∧ s = .slice a (pksTo id os k).length c ∧ Hid (OwnPk w.heap.size wr a c (pksTo id os k)) ∧ Hid (Kept Nil w wr)) (fun _ u _ => 10 - (intOf u).toNat)
  case atStart => exact ⟨0, 0, none, by omega, rfl, rfl, World.ownsRow_nil _ _ _ _, Kept.refl _ _⟩
  case round =>
    obtain ⟨k, c, a, hk, rfl, rfl, HP, HK⟩ := hrel
    by_cases hlt : k < 10
    · have hki : (k : Int) < 10 := by omega
      have c1 : wr.cell? ⟨b, 11 + k, none⟩ = some (.slice (ay k) (os k).wt.length (cy k)) := by rw [blk_cell (HK.out.block _ _ HB.out.blk (fun x => x))]; exact HB.out.cw k hlt
      have hl1 := HPL k hk
      have hfk := hf k hlt
      have HNx : Hid (pksTo id os (k + 1) = pksTo id os k ++ pksO id k (os k)) := pksTo_next id os k
      have HRk : Hid (OwnPk 0 wr (ay k) (cy k) (pksO id k (os k))) := (HH.out.rows k hlt).kept HK.out
      obtain ⟨pre, HPre⟩ : ∃ pre, Hid (pre = pksTo id os k) := ⟨_, rfl⟩
      obtain ⟨nx, HNxe⟩ : ∃ nx, Hid (nx = pksO id k (os k)) := ⟨_, rfl⟩
      have hnl : Hid (nx.length = (os k).wt.length) := by show _ = _; rw [HNxe.out]; exact pksO_len _ _ _
      rw [← HPre.out] at HP hl1 HNx ⊢
      rw [← HNxe.out] at HNx HRk
      have SR : Hid (Src Tryz.prog 5 44 (.slice (ay k) (os k).wt.length (cy k)) (os k).wt.length (pkCells nx) wr) := by have h := HRk.out.src; rw [hnl.out] at h; exact h
      have HLL : Hid (pre.length + (os k).wt.length ≤ maxLen ∧ (pre.length + (os k).wt.length) * 48 ≤ 140737488355328) := by constructor <;> (try unfold maxLen) <;> omega
      have hBs : w.heap.size ≤ wr.heap.size := HK.out.size
      generalize (os k).wt.length = m at *
      generalize ay k = ayk at *
      generalize cy k = cyk at *
      go_wp2_with (at_builtin; go_must (refine wpList_append_src _ rfl _ _ 44 44 rfl w.heap.size 86 i2 (.agg #[.int .i64 0, .int .i64 0, .int .i64 0, .bool false, .string ⟨#[]⟩]) 5 48 Tryz.underlying44 hi2 hy0 hy1 hy2 rfl (.slice a pre.length c) pre.length (pkCells pre) rfl HP.out (.slice ayk m cyk) m (pkCells nx) rfl SR.out HLL.out.1 HLL.out.2 hBs ?_); intro a6 c6 w6 ho6 hg6; have HP6 : Hid (OwnPk w.heap.size w6 a6 c6 (pre ++ nx)) := OwnPk.app rfl hnl.out.symm ho6; have K6 : Hid (Kept Nil w w6) := HK.out.grown hg6 (fun k hk => own_row HP.out k hk); clear ho6 hg6)
      go_roundw
      case rel => exact ⟨k + 1, c6, a6, by omega, by go_num, by rw [HNx.out, List.length_append, hnl.out], by rw [HNx.out]; exact HP6.out, K6.out⟩
      case measure => simp [intOf]; omega
    · obtain rfl : k = 10 := by omega
      go_wp2
      go_ret
      exact ⟨a, c, rfl, HP.out, HK.out⟩
end Go.Proofs.YtpfgnhockfofhaaGreat

/-
  Relays: the document's Send.
-/
namespace Go.Proofs.YtpfgnhockfofhaaGreat
open Go.RowKit

theorem ownPk_ne {B c b : Nat} {w : World} {ao : Option Addr} {ks : List Pk} {cs : Array Value} {t : TypeId} (h : OwnPk B w ao c ks) (hb : w.heap[b]? = some (.cells cs t (0, 0))) (ht : t ≠ 86) : (Value.slice ao ks.length c).ownBlock ≠ some b := fun e => by
  cases ao with
  | none => simp [Value.ownBlock] at e
  | some a =>
    obtain ⟨g, cs', eg, _, hh, _⟩ := h.block (by simp)
    cases eg
    simp [Value.ownBlock] at e
    subst e
    rw [hh] at hb
    simp at hb
    exact ht hb.2.symm
theorem ty_pk {b q : Nat} {cs : Array Value} : ¬ TY b q (.cells cs 86 (0, 0)) := by
  rintro ⟨_, cs', e⟩
  simp at e
theorem pksO_send (id : Int) (k : Nat) (o : Oh) (body : List UInt8) : pksO id k (sendO o body) = pksO id k o ++ [pkO id k o o.wt.length body] := by
  unfold pksO sendO
  simp [List.mapIdx_append]
  exact ⟨rfl, rfl⟩
set_option maxRecDepth 100000 in
set_option maxHeartbeats 2000000 in
theorem sendY_full (G : Nat → Prop) (b k : Nat) (id : Int) (body : List UInt8) (os : Nat → Oh) (ay : Nat → Option Addr) (cy : Nat → Nat) (w : World) (h : Ry G w b id os ay cy) (hk : k < 10) (hn : isOth id k = true) (hf : (os k).wt.length = 16) :
    Calls Tryz.prog 50 #[.pointer (some ⟨b, 0, none⟩), .int .i64 k, .string (bs body)] w fun e w' => e = .returned (.int .i64 4) ∧ w' = w := by
  obtain ⟨cells, hc⟩ := h.cl
  have c0 : w.cell? ⟨b, 0, none⟩ = some (.int .i64 id) := by rw [blk_cell hc.blk]; exact hc.c0
  have c1 : w.cell? ⟨b, 11 + k, none⟩ = some (.slice (ay k) (os k).wt.length (cy k)) := by rw [blk_cell hc.blk, hc.cw k hk]
  have hki : (k : Int) < 10 := by omega
  have hn1 : ¬ (k : Int) < 1 ∧ ¬ (k : Int) > 9 ∧ ¬ (k : Int) = id := by unfold isOth isNd at hn; simp only [Bool.and_eq_true, decide_eq_true_eq, Bool.not_eq_true', decide_eq_false_iff_not] at hn; omega
  obtain ⟨g1, g2, g3⟩ := hn1
  have g3b : ((k : Int) == id) = false := beq_eq_false_iff_ne.2 g3
  clear hc h hn
  go_enter Tryz.func50, Tryz.ntmps50
  go_wp2
  go_ret
  exact ⟨rfl, rfl⟩
set_option maxRecDepth 100000 in
set_option maxHeartbeats 4000000 in
theorem sendY_yes (G : Nat → Prop) (b k : Nat) (id : Int) (body : List UInt8) (os : Nat → Oh) (ay : Nat → Option Addr) (cy : Nat → Nat) (w : World) (h : Ry G w b id os ay cy) (hk : k < 10) (hn : isOth id k = true) (hf : (os k).wt.length < 16) (ha : (os k).ak ≤ 9000000000000000000) :
    Calls Tryz.prog 50 #[.pointer (some ⟨b, 0, none⟩), .int .i64 k, .string (bs body)] w fun e w' => e = .returned (.int .i64 0) ∧ (∃ a c, Ry (fun g => G g ∨ w.heap.size ≤ g) w' b id (upd os k (sendO (os k) body)) (upd ay k a) (upd cy k c)) ∧ Kept (TY b) w w' := by
  obtain ⟨cells, hc⟩ := h.cl
  have HH : Hid (Ry G w b id os ay cy) := h
  have HC : Hid (RyC w b id os ay cy cells) := hc
  obtain ⟨o, HOe⟩ : ∃ o, Hid (o = os k) := ⟨_, rfl⟩
  obtain ⟨a0, Ha0⟩ : ∃ a, Hid (a = ay k) := ⟨_, rfl⟩
  obtain ⟨n0, Hn0⟩ : ∃ a, Hid (a = cy k) := ⟨_, rfl⟩
  rw [← HOe.out] at hf ha
  have c0 : w.cell? ⟨b, 0, none⟩ = some (.int .i64 id) := by rw [blk_cell hc.blk]; exact hc.c0
  have c1 : w.cell? ⟨b, 11 + k, none⟩ = some (.slice a0 o.wt.length n0) := by rw [blk_cell hc.blk, hc.cw k hk, Ha0.out, Hn0.out, HOe.out]
  obtain ⟨sn, HSn⟩ : ∃ n : Nat, Hid (n = o.ak + o.wt.length) := ⟨_, rfl⟩
  have c2 : w.cell? ⟨b, 1 + k, none⟩ = some (.int .i64 sn) := by rw [blk_cell hc.blk, hc.cs k hk, HSn.out, HOe.out]
  have f2 : w.frozen? ⟨b, 1 + k, none⟩ = false := blk_free hc.blk _
  have hsn : (sn : Int) ≤ 9100000000000000000 := by have := HSn.out; omega
  have hw1 : IntKind.i64.wrap ((sn : Int) + 1) = (sn : Int) + 1 := IntWalk.i64_in _ (by omega)
  have hki : (k : Int) < 10 := by omega
  have hn1 : ¬ (k : Int) < 1 ∧ ¬ (k : Int) > 9 ∧ ¬ (k : Int) = id := by unfold isOth isNd at hn; simp only [Bool.and_eq_true, decide_eq_true_eq, Bool.not_eq_true', decide_eq_false_iff_not] at hn; omega
  obtain ⟨g1, g2, g3⟩ := hn1
  have g3b : ((k : Int) == id) = false := beq_eq_false_iff_ne.2 g3
  have hne16 : ¬ (o.wt.length : Int) = 16 := by omega
  have hne16b : ((o.wt.length : Int) == 16) = false := beq_eq_false_iff_ne.2 hne16
  clear hc h hn
  go_enter Tryz.func50, Tryz.ntmps50
  go_upto_region 5 with fail
  go_region
  obtain ⟨W1, hW1⟩ : ∃ W, W = (w.setCell ⟨b, 1 + k, none⟩ (.int .i64 ((sn : Int) + 1))).drew := ⟨_, rfl⟩
  have HB1 : Hid (W1.heap[b]? = some (.cells (cells.setIfInBounds (1 + k) (.int .i64 ((sn : Int) + 1))) 98 (0, 0))) := by rw [hW1]; exact blk_set HC.out.blk _ _
  have K1 : Hid (Kept (TY b) w W1) := by rw [hW1]; exact ((Kept.refl _ _).setT (fun o ho => by rw [HC.out.blk] at ho; cases ho; exact ⟨rfl, _, rfl⟩) _ _).drew
  rw [← hW1]
  clear hW1 c0 c1 c2 f2
  have hsz : cells.size = 31 := HC.out.sz
  have d0 : W1.cell? ⟨b, 0, none⟩ = some (.int .i64 id) := by rw [blk_cell HB1.out, Array.getElem?_setIfInBounds, if_neg (by omega)]; exact HC.out.c0
  have d1 : W1.cell? ⟨b, 11 + k, none⟩ = some (.slice a0 o.wt.length n0) := by rw [blk_cell HB1.out, Array.getElem?_setIfInBounds, if_neg (by omega), HC.out.cw k hk, Ha0.out, Hn0.out, HOe.out]
  have HS1 : Hid (cells.size = 31) := hsz
  clear hsz
  obtain ⟨i2, hi2, hy0, hy1, hy2⟩ := info_parts Tryz.infoOwnPk
  have HRk : Hid (OwnPk 0 W1 a0 n0 (pksO id k o)) := by rw [Ha0.out, Hn0.out, HOe.out]; exact own_kept (HH.out.rows k hk) K1.out (fun q cs _ x => ty_pk x)
  have hpl : Hid ((pksO id k o).length = o.wt.length) := pksO_len _ _ _
  have SR : Hid (Src Tryz.prog 5 44 (.slice a0 o.wt.length n0) o.wt.length (pkCells (pksO id k o)) W1) := by have h := HRk.out.src; rw [hpl.out] at h; exact h
  have HLL : Hid (0 + o.wt.length ≤ maxLen ∧ (0 + o.wt.length) * 48 ≤ 140737488355328) := by constructor <;> (try unfold maxLen) <;> omega
  have HL2 : Hid (o.wt.length + 1 ≤ maxLen ∧ (o.wt.length + 1) * 48 ≤ 140737488355328) := by constructor <;> (try unfold maxLen) <;> omega
  have hBs : w.heap.size ≤ W1.heap.size := K1.out.size
  go_upto_region 8 with (at_builtin; go_must (refine wpList_append_src _ rfl _ _ 44 44 rfl w.heap.size 86 i2 (.agg #[.int .i64 0, .int .i64 0, .int .i64 0, .bool false, .string ⟨#[]⟩]) 5 48 Tryz.underlying44 hi2 hy0 hy1 hy2 rfl (.slice none 0 0) 0 [] rfl (World.ownsRow_nil _ _ _ _) (.slice a0 o.wt.length n0) o.wt.length (pkCells (pksO id k o)) rfl SR.out HLL.out.1 HLL.out.2 hBs ?_); intro a3 c3 w3 ho3 hg3; have HO3 : Hid (w3.ownsRow w.heap.size 86 5 (.slice a3 o.wt.length c3) o.wt.length (pkCells (pksO id k o))) := (by rw [Nat.zero_add, List.nil_append] at ho3; exact ho3); have K13 : Hid (Kept Nil W1 w3) := (Kept.refl _ _).grown hg3 (fun k hk => by simp [Value.ownBlock] at hk); clear ho3 hg3)
  have HB3 : Hid (w3.heap[b]? = some (.cells (cells.setIfInBounds (1 + k) (.int .i64 ((sn : Int) + 1))) 98 (0, 0))) := K13.out.block _ _ HB1.out (fun x => x)
  have SS : ∀ X, Kept Nil w3 X → X.cell? ⟨b, 0, none⟩ = some (.int .i64 id) ∧ X.cell? ⟨b, 1 + k, none⟩ = some (.int .i64 ((sn : Int) + 1)) ∧ X.cell? ⟨b, 11 + k, none⟩ = some (.slice a0 o.wt.length n0) ∧ X.frozen? ⟨b, 11 + k, none⟩ = false := fun X kX => by
    have hb := kX.block _ _ HB3.out (fun x => x)
    have hs := HS1.out
    exact ⟨by rw [blk_cell hb, ← blk_cell HB1.out]; exact d0, by rw [blk_cell hb, Array.getElem?_setIfInBounds, if_pos rfl, if_pos (by omega)], by rw [blk_cell hb, ← blk_cell HB1.out]; exact d1, blk_free hb _⟩
  have s3 : w3.cell? ⟨b, 0, none⟩ = some (.int .i64 id) ∧ w3.cell? ⟨b, 1 + k, none⟩ = some (.int .i64 ((sn : Int) + 1)) := ⟨(SS w3 (Kept.refl _ _)).1, (SS w3 (Kept.refl _ _)).2.1⟩
  have KV : Hid (Kept Nil w3 (w3.drew.alloc (.cells #[.int .i64 id, .int .i64 k, .int .i64 ((sn : Int) + 1), .bool false, .string (bs body)] 86))) := (Kept.refl _ _).drew.alloc _
  have HOV : Hid ((w3.drew.alloc (.cells #[.int .i64 id, .int .i64 k, .int .i64 ((sn : Int) + 1), .bool false, .string (bs body)] 86)).ownsRow w.heap.size 86 5 (.slice a3 o.wt.length c3) o.wt.length (pkCells (pksO id k o))) := own_kept (X := Nil) HO3.out KV.out (fun _ _ _ x => x.elim)
  have SR3 : Hid (Src Tryz.prog 5 44 (.slice (some ⟨w3.heap.size, 0, none⟩) 1 1) 1 [.int .i64 id, .int .i64 k, .int .i64 ((sn : Int) + 1), .bool false, .string (bs body)] (w3.drew.alloc (.cells #[.int .i64 id, .int .i64 k, .int .i64 ((sn : Int) + 1), .bool false, .string (bs body)] 86))) := oneOwnPk_src w3.drew ⟨id, k, (sn : Int) + 1, false, body⟩
  have hBs3 : w.heap.size ≤ w3.heap.size := Nat.le_trans hBs K13.out.size
  clear d0 d1
  go_region_held3 (fun w' => w'.cell? ⟨b, 0, none⟩ = some (.int .i64 id) ∧ w'.cell? ⟨b, 1 + k, none⟩ = some (.int .i64 ((sn : Int) + 1))) (first | assumption | go_keep) (first | (refine step_append_src (w3.drew.alloc (.cells #[.int .i64 id, .int .i64 k, .int .i64 ((sn : Int) + 1), .bool false, .string (bs body)] 86)) (by rfl) (.tmp 50) (.tmp 64) 44 44 (by rfl) w.heap.size 86 i2 (.agg #[.int .i64 0, .int .i64 0, .int .i64 0, .bool false, .string ⟨#[]⟩]) 5 48 Tryz.underlying44 hi2 hy0 hy1 hy2 rfl (.slice a3 o.wt.length c3) o.wt.length (pkCells (pksO id k o)) (by simp [Act.eval]) HOV.out (.slice (some ⟨w3.heap.size, 0, none⟩) 1 1) 1 [.int .i64 id, .int .i64 k, .int .i64 ((sn : Int) + 1), .bool false, .string (bs body)] (by simp [Act.eval]) SR3.out HL2.out.1 HL2.out.2 (le_alloc hBs3 _) ?_; intro a6 c6 w6 ho6 hg6; have HP6 : Hid (OwnPk w.heap.size w6 a6 c6 (pksO id k o ++ [⟨id, k, (sn : Int) + 1, false, body⟩])) := OwnPk.app (gs := [⟨id, k, (sn : Int) + 1, false, body⟩]) hpl.out.symm rfl ho6; have K36 : Hid (Kept (TY b) w w6) := ((K1.out.trans (K13.out.mono (fun _ _ x => x.elim))).trans (KV.out.mono (fun _ _ x => x.elim))).grown hg6 (fun k hk => own_row HOV.out k hk); have hneb : (Value.slice a3 o.wt.length c3).ownBlock ≠ some b := (by rw [← hpl.out]; exact ownPk_ne (B := w.heap.size) (ks := pksO id k o) (by show World.ownsRow _ _ _ _ _ _ _; rw [hpl.out]; exact HO3.out) HB3.out (by decide)); have hb6 : w6.heap[b]? = some (.cells (cells.setIfInBounds (1 + k) (.int .i64 ((sn : Int) + 1))) 98 (0, 0)) := (by rw [hg6.block b (lt_of_block (KV.out.block _ _ HB3.out (fun x => x))) (fun e => hneb e.symm)]; exact KV.out.block _ _ HB3.out (fun x => x)); have HB6 : Hid (w6.heap[b]? = some (.cells (cells.setIfInBounds (1 + k) (.int .i64 ((sn : Int) + 1))) 98 (0, 0))) := hb6; have v0 : w6.cell? ⟨b, 0, none⟩ = some (.int .i64 id) := (by rw [blk_cell hb6, ← blk_cell HB3.out]; exact s3.1); have v1 : w6.cell? ⟨b, 1 + k, none⟩ = some (.int .i64 ((sn : Int) + 1)) := (by rw [blk_cell hb6, ← blk_cell HB3.out]; exact s3.2); have v2 : w6.cell? ⟨b, 11 + k, none⟩ = some (.slice a0 o.wt.length n0) := (by rw [blk_cell hb6, ← blk_cell HB3.out]; exact (SS w3 (Kept.refl _ _)).2.2.1); have v3 : w6.frozen? ⟨b, 11 + k, none⟩ = false := blk_free hb6 _; have u6 : (w6.setCell ⟨b, 11 + k, none⟩ (.slice a6 (o.wt.length + 1) c6)).cell? ⟨b, 0, none⟩ = some (.int .i64 id) ∧ (w6.setCell ⟨b, 11 + k, none⟩ (.slice a6 (o.wt.length + 1) c6)).cell? ⟨b, 1 + k, none⟩ = some (.int .i64 ((sn : Int) + 1)) := (by have hb7 := blk_set hb6 (11 + k) (.slice a6 (o.wt.length + 1) c6); exact ⟨(by rw [blk_cell hb7, Array.getElem?_setIfInBounds, if_neg (by omega), ← blk_cell hb6]; exact v0), (by rw [blk_cell hb7, Array.getElem?_setIfInBounds, if_neg (by omega), ← blk_cell hb6]; exact v1)⟩); clear ho6 hg6 hb6))
  go_wp2
  go_ret
  have hs := HS1.out
  have KF : Kept (TY b) w (w6.setCell ⟨b, 11 + k, none⟩ (.slice a6 (o.wt.length + 1) c6)) := K36.out.setT (fun o ho => by rw [HC.out.blk] at ho; cases ho; exact ⟨rfl, _, rfl⟩) _ _
  have HE : sendO (os k) body = { o with wt := o.wt ++ [body] } := by rw [← HOe.out]; rfl
  have hlen : (o.wt ++ [body]).length = o.wt.length + 1 := by rw [List.length_append]; rfl
  have HNew : pksO id k (sendO (os k) body) = pksO id k o ++ [⟨id, k, (sn : Int) + 1, false, body⟩] := by
    rw [← HOe.out, pksO_send]
    congr 2
    unfold pkO
    congr 1
    have := HSn.out
    omega
  refine ⟨rfl, ⟨a6, c6, ⟨⟨_, blk_set HB6.out _ _, by simpa using hs, ?_, fun j hj => ?_, fun j hj => ?_, fun j hj => ?_⟩, fun j hj => ?_, fun j hj g hg => ?_⟩⟩, KF⟩
  · rw [Array.getElem?_setIfInBounds, if_neg (by omega), Array.getElem?_setIfInBounds, if_neg (by omega)]; exact HC.out.c0
  · rw [Array.getElem?_setIfInBounds, if_neg (by omega), Array.getElem?_setIfInBounds]
    by_cases e : j = k
    · subst e
      rw [if_pos rfl, if_pos (by omega), upd_self, HE]
      simp only [hlen]
      have := HSn.out
      congr 3
      omega
    · rw [if_neg (by omega), HC.out.cs j hj, upd_ne _ _ e]
  · rw [Array.getElem?_setIfInBounds]
    by_cases e : j = k
    · subst e
      rw [if_pos rfl, if_pos (by simp; omega), upd_self, upd_self, upd_self, HE]
      simp only [hlen]
    · rw [if_neg (by omega), Array.getElem?_setIfInBounds, if_neg (by omega), HC.out.cw j hj, upd_ne _ _ e, upd_ne _ _ e, upd_ne _ _ e]
  · rw [Array.getElem?_setIfInBounds, if_neg (by omega), Array.getElem?_setIfInBounds, if_neg (by omega), HC.out.cc j hj]
    by_cases e : j = k
    · subst e; rw [upd_self, HE, HOe.out]
    · rw [upd_ne _ _ e]
  · by_cases e : j = k
    · subst e
      rw [upd_self, upd_self, upd_self, HNew]
      exact own_setB (HP6.out.mono (Nat.zero_le _)) (ownPk_ne HP6.out HB6.out (by decide)) _ _
    · rw [upd_ne _ _ e, upd_ne _ _ e, upd_ne _ _ e]
      exact own_kept (HH.out.rows j hj) KF (fun q cs _ x => ty_pk x)
  · by_cases e : j = k
    · subst e
      rw [upd_self, upd_self, upd_self] at hg
      have h9 : (Value.slice a6 (pksO id j o ++ [(⟨id, j, (sn : Int) + 1, false, body⟩ : Pk)]).length c6).ownBlock = some g := by rw [← HNew, pksO_len]; exact hg
      exact .inr (own_row HP6.out g h9)
    · rw [upd_ne _ _ e, upd_ne _ _ e, upd_ne _ _ e] at hg
      exact .inl (HH.out.good j hj g hg)
end Go.Proofs.YtpfgnhockfofhaaGreat

/-
  Relays: the document's Receive.
-/
namespace Go.Proofs.YtpfgnhockfofhaaGreat
open Go.RowKit

/-- What an Ack leaves of what waits, by the document. -/
def leftP (m : Int) (sn : Nat) (l : List Pk) : List Pk := l.filter fun x => decide (x.nu > m) || decide (m > (sn : Int))
theorem leftP_next {m : Int} {sn : Nat} {l : List Pk} {i : Nat} (hi : i < l.length) : leftP m sn (l.take (i + 1)) = leftP m sn (l.take i) ++ (if (decide (l[i].nu > m) || decide (m > (sn : Int))) = true then [l[i]] else []) := by
  unfold leftP
  rw [List.take_succ_eq_append_getElem hi, List.filter_append]
  congr 1
  cases h : (decide (l[i].nu > m) || decide (m > (sn : Int))) with
  | true => simp only [List.filter_cons, h, List.filter_nil]; first | done | rfl
  | false => simp only [List.filter_cons, h, List.filter_nil]; first | done | rfl
theorem pksO_get {id : Int} {k : Nat} {o : Oh} {i : Nat} (hi : i < o.wt.length) : (pksO id k o)[i]'(by rw [pksO_len]; exact hi) = pkO id k o i o.wt[i] := by simp [pksO]
theorem left_ack (id : Int) (k : Nat) (o : Oh) (m : Int) (hm : 1 ≤ m) : leftP m (o.ak + o.wt.length) (pksO id k o) = pksO id k (ackO o m) := by
  unfold ackO
  by_cases hx : m - o.ak < 1 ∨ m - o.ak > o.wt.length
  · rw [if_pos hx]
    unfold leftP
    rw [List.filter_eq_self]
    intro x hx2
    obtain ⟨j, hj, rfl⟩ := List.getElem_of_mem hx2
    rw [pksO_len] at hj
    rw [pksO_get hj]
    show (decide ((o.ak : Int) + 1 + j > m) || decide (m > ((o.ak + o.wt.length : Nat) : Int))) = true
    simp only [Bool.or_eq_true, decide_eq_true_eq]
    rcases hx with h | h <;> omega
  · rw [if_neg hx]
    have h1 : ¬ m - o.ak < 1 := fun h => hx (.inl h)
    have h2 : ¬ m - o.ak > o.wt.length := fun h => hx (.inr h)
    obtain ⟨n, hn⟩ : ∃ n : Nat, m.toNat - o.ak = n := ⟨_, rfl⟩
    rw [hn]
    have hnl : n ≤ o.wt.length := by omega
    have e1 : pksO id k o = (pksO id k o).take n ++ (pksO id k o).drop n := (List.take_append_drop _ _).symm
    have f1 : leftP m (o.ak + o.wt.length) ((pksO id k o).take n) = [] := by
      unfold leftP
      rw [List.filter_eq_nil_iff]
      intro x hx2
      obtain ⟨j, hj, rfl⟩ := List.getElem_of_mem hx2
      rw [List.length_take, pksO_len] at hj
      rw [List.getElem_take, pksO_get (by omega)]
      show ¬ (decide ((o.ak : Int) + 1 + j > m) || decide (m > ((o.ak + o.wt.length : Nat) : Int))) = true
      simp only [Bool.or_eq_true, decide_eq_true_eq]
      omega
    have f2 : leftP m (o.ak + o.wt.length) ((pksO id k o).drop n) = (pksO id k o).drop n := by
      unfold leftP
      rw [List.filter_eq_self]
      intro x hx2
      obtain ⟨j, hj, rfl⟩ := List.getElem_of_mem hx2
      rw [List.length_drop, pksO_len] at hj
      rw [List.getElem_drop, pksO_get (by omega)]
      show (decide ((o.ak : Int) + 1 + ((n + j : Nat) : Int) > m) || decide (m > ((o.ak + o.wt.length : Nat) : Int))) = true
      simp only [Bool.or_eq_true, decide_eq_true_eq]
      omega
    have f3 : leftP m (o.ak + o.wt.length) (pksO id k o) = (pksO id k o).drop n := by
      conv => lhs; rw [e1]
      unfold leftP at f1 f2 ⊢
      rw [List.filter_append, f1, f2, List.nil_append]
    rw [f3]
    apply List.ext_getElem
    · rw [List.length_drop, pksO_len, pksO_len, List.length_drop]
    · intro i h3 h4
      rw [pksO_len, List.length_drop] at h4
      rw [List.getElem_drop, pksO_get (by omega), pksO_get (by rw [List.length_drop]; omega)]
      unfold pkO
      simp only [List.getElem_drop]
      congr 1
      omega
theorem ack_sent (o : Oh) (m : Int) (hm : 1 ≤ m) : (ackO o m).ak + (ackO o m).wt.length = o.ak + o.wt.length ∧ (ackO o m).cm = o.cm := by
  unfold ackO
  by_cases hx : m - o.ak < 1 ∨ m - o.ak > o.wt.length
  · rw [if_pos hx]; exact ⟨rfl, rfl⟩
  · rw [if_neg hx]
    have h1 : ¬ m - o.ak < 1 := fun h => hx (.inl h)
    have h2 : ¬ m - o.ak > o.wt.length := fun h => hx (.inr h)
    simp only [List.length_drop]
    exact ⟨by omega, trivial⟩
/-- The document's relay with one row changed. -/
theorem Ry.setW {G G' : Nat → Prop} {b k : Nat} {w w2 : World} {id : Int} {os : Nat → Oh} {ay : Nat → Option Addr} {cy : Nat → Nat} {cells : Array Value} (h : Ry G w b id os ay cy) (hc : RyC w b id os ay cy cells) (hk : k < 10) (K : Kept Nil w w2) {o' : Oh} (hs : o'.ak + o'.wt.length = (os k).ak + (os k).wt.length) (hcm : o'.cm = (os k).cm) {a' : Option Addr} {c' : Nat} (row : OwnPk w.heap.size w2 a' c' (pksO id k o')) (hG : ∀ g, G g → G' g) (hG2 : ∀ g, w.heap.size ≤ g → G' g) :
    Ry G' (w2.setCell ⟨b, 11 + k, none⟩ (.slice a' o'.wt.length c')) b id (upd os k o') (upd ay k a') (upd cy k c') := by
  have hz := hc.sz
  have hb2 := K.block _ _ hc.blk (fun x => x)
  refine ⟨⟨_, blk_set hb2 _ _, by simpa using hz, ?_, fun j hj => ?_, fun j hj => ?_, fun j hj => ?_⟩, fun j hj => ?_, fun j hj g hg => ?_⟩
  · rw [Array.getElem?_setIfInBounds, if_neg (by omega)]; exact hc.c0
  · rw [Array.getElem?_setIfInBounds, if_neg (by omega), hc.cs j hj]
    by_cases e : j = k
    · subst e; rw [upd_self, hs]
    · rw [upd_ne _ _ e]
  · rw [Array.getElem?_setIfInBounds]
    by_cases e : j = k
    · subst e; rw [if_pos rfl, if_pos (by omega), upd_self, upd_self, upd_self]
    · rw [if_neg (by omega), hc.cw j hj, upd_ne _ _ e, upd_ne _ _ e, upd_ne _ _ e]
  · rw [Array.getElem?_setIfInBounds, if_neg (by omega), hc.cc j hj]
    by_cases e : j = k
    · subst e; rw [upd_self, hcm]
    · rw [upd_ne _ _ e]
  · by_cases e : j = k
    · subst e; rw [upd_self, upd_self, upd_self]; exact own_setB (row.mono (Nat.zero_le _)) (ownPk_ne row hb2 (by decide)) _ _
    · rw [upd_ne _ _ e, upd_ne _ _ e, upd_ne _ _ e]; exact own_setB ((h.rows j hj).kept K) (ownPk_ne ((h.rows j hj).kept K) hb2 (by decide)) _ _
  · by_cases e : j = k
    · subst e
      rw [upd_self, upd_self, upd_self] at hg
      exact hG2 g (own_row row g (by rw [pksO_len]; exact hg))
    · rw [upd_ne _ _ e, upd_ne _ _ e, upd_ne _ _ e] at hg
      exact hG g (h.good j hj g hg)
/-- With another number come. -/
theorem Ry.setC {G : Nat → Prop} {b k : Nat} {w : World} {id : Int} {os : Nat → Oh} {ay : Nat → Option Addr} {cy : Nat → Nat} (h : Ry G w b id os ay cy) (hk : k < 10) (n : Nat) :
    Ry G (w.setCell ⟨b, 21 + k, none⟩ (.int .i64 n)) b id (upd os k { os k with cm := n }) ay cy := by
  obtain ⟨cells, hc⟩ := h.cl
  have hz := hc.sz
  have hwt : ∀ j, (upd os k { os k with cm := n } j).wt = (os j).wt ∧ (upd os k { os k with cm := n } j).ak = (os j).ak := fun j => by
    by_cases e : j = k
    · subst e; rw [upd_self]; exact ⟨rfl, rfl⟩
    · rw [upd_ne _ _ e]; exact ⟨rfl, rfl⟩
  have hpk : ∀ j, pksO id j (upd os k { os k with cm := n } j) = pksO id j (os j) := fun j => by
    by_cases e : j = k
    · subst e; rw [upd_self]; rfl
    · rw [upd_ne _ _ e]
  refine ⟨⟨_, blk_set hc.blk _ _, by simpa using hz, ?_, fun j hj => ?_, fun j hj => ?_, fun j hj => ?_⟩, fun j hj => ?_, fun j hj g hg => ?_⟩
  · rw [Array.getElem?_setIfInBounds, if_neg (by omega)]; exact hc.c0
  · rw [Array.getElem?_setIfInBounds, if_neg (by omega), hc.cs j hj, (hwt j).1, (hwt j).2]
  · rw [Array.getElem?_setIfInBounds, if_neg (by omega), hc.cw j hj, (hwt j).1]
  · rw [Array.getElem?_setIfInBounds]
    by_cases e : j = k
    · subst e; rw [if_pos rfl, if_pos (by omega), upd_self]
    · rw [if_neg (by omega), hc.cc j hj, upd_ne _ _ e]
  · rw [hpk]; exact own_setB (h.rows j hj) (ownPk_ne (h.rows j hj) hc.blk (by decide)) _ _
  · rw [(hwt j).1] at hg; exact h.good j hj g hg
end Go.Proofs.YtpfgnhockfofhaaGreat
