/-
  Relays: the document's Send.
-/
import Derived.Test.YtmlncfnnldplgaaWRy1
namespace Go.Proofs.Ytmlncfnnldplgaa
open Go.RowKit

theorem ownPk_ne {B c b : Nat} {w : World} {ao : Option Addr} {ks : List Pk} {cs : Array Value} {t : TypeId} (h : OwnPk B w ao c ks) (hb : w.heap[b]? = some (.cells cs t (0, 0))) (ht : t ≠ 34) : (Value.slice ao ks.length c).ownBlock ≠ some b := fun e => by
  cases ao with
  | none => simp [Value.ownBlock] at e
  | some a =>
    obtain ⟨g, cs', eg, _, hh, _⟩ := h.block (by simp)
    cases eg
    simp [Value.ownBlock] at e
    subst e
    rw [hh] at hb
    simp at hb
    exact ht hb.2.symm
theorem ty_pk {b q : Nat} {cs : Array Value} : ¬ TY b q (.cells cs 34 (0, 0)) := by
  rintro ⟨_, cs', e⟩
  simp at e
theorem pksO_send (id : Int) (k : Nat) (o : Oh) (body : List UInt8) : pksO id k (sendO o body) = pksO id k o ++ [pkO id k o o.wt.length body] := by
  unfold pksO sendO
  simp [List.mapIdx_append]
  exact ⟨rfl, rfl⟩
set_option maxRecDepth 100000 in
set_option maxHeartbeats 2000000 in
theorem sendY_full (G : Nat → Prop) (b k : Nat) (id : Int) (body : List UInt8) (os : Nat → Oh) (ay : Nat → Option Addr) (cy : Nat → Nat) (w : World) (h : Ry G w b id os ay cy) (hk : k < 10) (hn : isOth id k = true) (hf : (os k).wt.length = 16) :
    Calls Try.prog 10 #[.pointer (some ⟨b, 0, none⟩), .int .i64 k, .string (bs body)] w fun e w' => e = .returned (.int .i64 4) ∧ w' = w := by
  obtain ⟨cells, hc⟩ := h.cl
  have c0 : w.cell? ⟨b, 0, none⟩ = some (.int .i64 id) := by rw [blk_cell hc.blk]; exact hc.c0
  have c1 : w.cell? ⟨b, 11 + k, none⟩ = some (.slice (ay k) (os k).wt.length (cy k)) := by rw [blk_cell hc.blk, hc.cw k hk]
  have hki : (k : Int) < 10 := by omega
  have hn1 : ¬ (k : Int) < 1 ∧ ¬ (k : Int) > 9 ∧ ¬ (k : Int) = id := by unfold isOth isNd at hn; simp only [Bool.and_eq_true, decide_eq_true_eq, Bool.not_eq_true', decide_eq_false_iff_not] at hn; omega
  obtain ⟨g1, g2, g3⟩ := hn1
  have g3b : ((k : Int) == id) = false := beq_eq_false_iff_ne.2 g3
  clear hc h hn
  go_enter Try.func10, Try.ntmps10
  go_wp2
  go_ret
  exact ⟨rfl, rfl⟩
set_option maxRecDepth 100000 in
set_option maxHeartbeats 2000000 in
theorem sendY_no (G : Nat → Prop) (b : Nat) (id dst : Int) (body : List UInt8) (os : Nat → Oh) (ay : Nat → Option Addr) (cy : Nat → Nat) (w : World) (h : Ry G w b id os ay cy) (hn : isOth id dst = false) :
    Calls Try.prog 10 #[.pointer (some ⟨b, 0, none⟩), .int .i64 dst, .string (bs body)] w fun e w' => e = .returned (.int .i64 13) ∧ w' = w := by
  obtain ⟨cells, hc⟩ := h.cl
  have c0 : w.cell? ⟨b, 0, none⟩ = some (.int .i64 id) := by rw [blk_cell hc.blk]; exact hc.c0
  have hd : dst < 1 ∨ (¬ dst < 1 ∧ dst > 9) ∨ (¬ dst < 1 ∧ ¬ dst > 9 ∧ dst = id) := by
    unfold isOth isNd at hn
    by_cases h1 : dst < 1
    · exact .inl h1
    · by_cases h2 : dst > 9
      · exact .inr (.inl ⟨h1, h2⟩)
      · refine .inr (.inr ⟨h1, h2, ?_⟩)
        rw [decide_eq_true (by omega), decide_eq_true (by omega)] at hn
        simpa using hn
  clear hn hc h
  rcases hd with h1 | ⟨h1, h2⟩ | ⟨h1, h2, h3⟩
  · go_enter Try.func10, Try.ntmps10
    go_wp2
    go_ret
    exact ⟨rfl, rfl⟩
  · go_enter Try.func10, Try.ntmps10
    go_wp2
    go_ret
    exact ⟨rfl, rfl⟩
  · have h3b : (dst == id) = true := by simp [h3]
    subst h3
    go_enter Try.func10, Try.ntmps10
    go_wp2
    go_ret
    exact ⟨rfl, rfl⟩
set_option maxRecDepth 100000 in
set_option maxHeartbeats 4000000 in
theorem sendY_yes (G : Nat → Prop) (b k : Nat) (id : Int) (body : List UInt8) (os : Nat → Oh) (ay : Nat → Option Addr) (cy : Nat → Nat) (w : World) (h : Ry G w b id os ay cy) (hk : k < 10) (hn : isOth id k = true) (hf : (os k).wt.length < 16) (ha : (os k).ak ≤ 9000000000000000000) :
    Calls Try.prog 10 #[.pointer (some ⟨b, 0, none⟩), .int .i64 k, .string (bs body)] w fun e w' => e = .returned (.int .i64 0) ∧ (∃ a c, Ry (fun g => G g ∨ w.heap.size ≤ g) w' b id (upd os k (sendO (os k) body)) (upd ay k a) (upd cy k c)) ∧ Kept (TY b) w w' := by
  obtain ⟨cells, hc⟩ := h.cl
  have HH : Hid (Ry G w b id os ay cy) := h
  have HC : Hid (RyC w b id os ay cy cells) := hc
  obtain ⟨o, HOe⟩ : ∃ o, Hid (o = os k) := ⟨_, rfl⟩
  obtain ⟨a0, Ha0⟩ : ∃ a, Hid (a = ay k) := ⟨_, rfl⟩
  obtain ⟨n0, Hn0⟩ : ∃ a, Hid (a = cy k) := ⟨_, rfl⟩
  rw [← HOe.out] at hf ha
  have c0 : w.cell? ⟨b, 0, none⟩ = some (.int .i64 id) := by rw [blk_cell hc.blk]; exact hc.c0
  have c1 : w.cell? ⟨b, 11 + k, none⟩ = some (.slice a0 o.wt.length n0) := by rw [blk_cell hc.blk, hc.cw k hk, Ha0.out, Hn0.out, HOe.out]
  obtain ⟨sn, HSn⟩ : ∃ n : Nat, Hid (n = o.ak + o.wt.length) := ⟨_, rfl⟩
  have c2 : w.cell? ⟨b, 1 + k, none⟩ = some (.int .i64 sn) := by rw [blk_cell hc.blk, hc.cs k hk, HSn.out, HOe.out]
  have f2 : w.frozen? ⟨b, 1 + k, none⟩ = false := blk_free hc.blk _
  have hsn : (sn : Int) ≤ 9100000000000000000 := by have := HSn.out; omega
  have hw1 : IntKind.i64.wrap ((sn : Int) + 1) = (sn : Int) + 1 := IntWalk.i64_in _ (by omega)
  have hki : (k : Int) < 10 := by omega
  have hn1 : ¬ (k : Int) < 1 ∧ ¬ (k : Int) > 9 ∧ ¬ (k : Int) = id := by unfold isOth isNd at hn; simp only [Bool.and_eq_true, decide_eq_true_eq, Bool.not_eq_true', decide_eq_false_iff_not] at hn; omega
  obtain ⟨g1, g2, g3⟩ := hn1
  have g3b : ((k : Int) == id) = false := beq_eq_false_iff_ne.2 g3
  have hne16 : ¬ (o.wt.length : Int) = 16 := by omega
  have hne16b : ((o.wt.length : Int) == 16) = false := beq_eq_false_iff_ne.2 hne16
  clear hc h hn
  go_enter Try.func10, Try.ntmps10
  go_upto_region 5 with fail
  go_region
  obtain ⟨W1, hW1⟩ : ∃ W, W = (w.setCell ⟨b, 1 + k, none⟩ (.int .i64 ((sn : Int) + 1))).drew := ⟨_, rfl⟩
  have HB1 : Hid (W1.heap[b]? = some (.cells (cells.setIfInBounds (1 + k) (.int .i64 ((sn : Int) + 1))) 95 (0, 0))) := by rw [hW1]; exact blk_set HC.out.blk _ _
  have K1 : Hid (Kept (TY b) w W1) := by rw [hW1]; exact ((Kept.refl _ _).setT (fun o ho => by rw [HC.out.blk] at ho; cases ho; exact ⟨rfl, _, rfl⟩) _ _).drew
  rw [← hW1]
  clear hW1 c0 c1 c2 f2
  have hsz : cells.size = 31 := HC.out.sz
  have d0 : W1.cell? ⟨b, 0, none⟩ = some (.int .i64 id) := by rw [blk_cell HB1.out, Array.getElem?_setIfInBounds, if_neg (by omega)]; exact HC.out.c0
  have d1 : W1.cell? ⟨b, 11 + k, none⟩ = some (.slice a0 o.wt.length n0) := by rw [blk_cell HB1.out, Array.getElem?_setIfInBounds, if_neg (by omega), HC.out.cw k hk, Ha0.out, Hn0.out, HOe.out]
  have HS1 : Hid (cells.size = 31) := hsz
  clear hsz
  obtain ⟨i2, hi2, hy0, hy1, hy2⟩ := info_parts Try.infoOwnPk
  have HRk : Hid (OwnPk 0 W1 a0 n0 (pksO id k o)) := by rw [Ha0.out, Hn0.out, HOe.out]; exact own_kept (HH.out.rows k hk) K1.out (fun q cs _ x => ty_pk x)
  have hpl : Hid ((pksO id k o).length = o.wt.length) := pksO_len _ _ _
  have SR : Hid (Src Try.prog 5 28 (.slice a0 o.wt.length n0) o.wt.length (pkCells (pksO id k o)) W1) := by have h := HRk.out.src; rw [hpl.out] at h; exact h
  have HLL : Hid (0 + o.wt.length ≤ maxLen ∧ (0 + o.wt.length) * 48 ≤ 140737488355328) := by constructor <;> (try unfold maxLen) <;> omega
  have HL2 : Hid (o.wt.length + 1 ≤ maxLen ∧ (o.wt.length + 1) * 48 ≤ 140737488355328) := by constructor <;> (try unfold maxLen) <;> omega
  have hBs : w.heap.size ≤ W1.heap.size := K1.out.size
  go_upto_region 8 with (at_builtin; go_must (refine wpList_append_src _ rfl _ _ 28 28 rfl w.heap.size 34 i2 (.agg #[.int .i64 0, .int .i64 0, .int .i64 0, .bool false, .string ⟨#[]⟩]) 5 48 Try.underlying28 hi2 hy0 hy1 hy2 rfl (.slice none 0 0) 0 [] rfl (World.ownsRow_nil _ _ _ _) (.slice a0 o.wt.length n0) o.wt.length (pkCells (pksO id k o)) rfl SR.out HLL.out.1 HLL.out.2 hBs ?_); intro a3 c3 w3 ho3 hg3; have HO3 : Hid (w3.ownsRow w.heap.size 34 5 (.slice a3 o.wt.length c3) o.wt.length (pkCells (pksO id k o))) := (by rw [Nat.zero_add, List.nil_append] at ho3; exact ho3); have K13 : Hid (Kept Nil W1 w3) := (Kept.refl _ _).grown hg3 (fun k hk => by simp [Value.ownBlock] at hk); clear ho3 hg3)
  have HB3 : Hid (w3.heap[b]? = some (.cells (cells.setIfInBounds (1 + k) (.int .i64 ((sn : Int) + 1))) 95 (0, 0))) := K13.out.block _ _ HB1.out (fun x => x)
  have SS : ∀ X, Kept Nil w3 X → X.cell? ⟨b, 0, none⟩ = some (.int .i64 id) ∧ X.cell? ⟨b, 1 + k, none⟩ = some (.int .i64 ((sn : Int) + 1)) ∧ X.cell? ⟨b, 11 + k, none⟩ = some (.slice a0 o.wt.length n0) ∧ X.frozen? ⟨b, 11 + k, none⟩ = false := fun X kX => by
    have hb := kX.block _ _ HB3.out (fun x => x)
    have hs := HS1.out
    exact ⟨by rw [blk_cell hb, ← blk_cell HB1.out]; exact d0, by rw [blk_cell hb, Array.getElem?_setIfInBounds, if_pos rfl, if_pos (by omega)], by rw [blk_cell hb, ← blk_cell HB1.out]; exact d1, blk_free hb _⟩
  have s3 : w3.cell? ⟨b, 0, none⟩ = some (.int .i64 id) ∧ w3.cell? ⟨b, 1 + k, none⟩ = some (.int .i64 ((sn : Int) + 1)) := ⟨(SS w3 (Kept.refl _ _)).1, (SS w3 (Kept.refl _ _)).2.1⟩
  have KV : Hid (Kept Nil w3 (w3.drew.alloc (.cells #[.int .i64 id, .int .i64 k, .int .i64 ((sn : Int) + 1), .bool false, .string (bs body)] 34))) := (Kept.refl _ _).drew.alloc _
  have HOV : Hid ((w3.drew.alloc (.cells #[.int .i64 id, .int .i64 k, .int .i64 ((sn : Int) + 1), .bool false, .string (bs body)] 34)).ownsRow w.heap.size 34 5 (.slice a3 o.wt.length c3) o.wt.length (pkCells (pksO id k o))) := own_kept (X := Nil) HO3.out KV.out (fun _ _ _ x => x.elim)
  have SR3 : Hid (Src Try.prog 5 28 (.slice (some ⟨w3.heap.size, 0, none⟩) 1 1) 1 [.int .i64 id, .int .i64 k, .int .i64 ((sn : Int) + 1), .bool false, .string (bs body)] (w3.drew.alloc (.cells #[.int .i64 id, .int .i64 k, .int .i64 ((sn : Int) + 1), .bool false, .string (bs body)] 34))) := oneOwnPk_src w3.drew ⟨id, k, (sn : Int) + 1, false, body⟩
  have hBs3 : w.heap.size ≤ w3.heap.size := Nat.le_trans hBs K13.out.size
  clear d0 d1
  go_region_held3 (fun w' => w'.cell? ⟨b, 0, none⟩ = some (.int .i64 id) ∧ w'.cell? ⟨b, 1 + k, none⟩ = some (.int .i64 ((sn : Int) + 1))) (first | assumption | go_keep) (first | (refine step_append_src (w3.drew.alloc (.cells #[.int .i64 id, .int .i64 k, .int .i64 ((sn : Int) + 1), .bool false, .string (bs body)] 34)) (by rfl) (.tmp 50) (.tmp 64) 28 28 (by rfl) w.heap.size 34 i2 (.agg #[.int .i64 0, .int .i64 0, .int .i64 0, .bool false, .string ⟨#[]⟩]) 5 48 Try.underlying28 hi2 hy0 hy1 hy2 rfl (.slice a3 o.wt.length c3) o.wt.length (pkCells (pksO id k o)) (by simp [Act.eval]) HOV.out (.slice (some ⟨w3.heap.size, 0, none⟩) 1 1) 1 [.int .i64 id, .int .i64 k, .int .i64 ((sn : Int) + 1), .bool false, .string (bs body)] (by simp [Act.eval]) SR3.out HL2.out.1 HL2.out.2 (le_alloc hBs3 _) ?_; intro a6 c6 w6 ho6 hg6; have HP6 : Hid (OwnPk w.heap.size w6 a6 c6 (pksO id k o ++ [⟨id, k, (sn : Int) + 1, false, body⟩])) := OwnPk.app (gs := [⟨id, k, (sn : Int) + 1, false, body⟩]) hpl.out.symm rfl ho6; have K36 : Hid (Kept (TY b) w w6) := ((K1.out.trans (K13.out.mono (fun _ _ x => x.elim))).trans (KV.out.mono (fun _ _ x => x.elim))).grown hg6 (fun k hk => own_row HOV.out k hk); have hneb : (Value.slice a3 o.wt.length c3).ownBlock ≠ some b := (by rw [← hpl.out]; exact ownPk_ne (B := w.heap.size) (ks := pksO id k o) (by show World.ownsRow _ _ _ _ _ _ _; rw [hpl.out]; exact HO3.out) HB3.out (by decide)); have hb6 : w6.heap[b]? = some (.cells (cells.setIfInBounds (1 + k) (.int .i64 ((sn : Int) + 1))) 95 (0, 0)) := (by rw [hg6.block b (lt_of_block (KV.out.block _ _ HB3.out (fun x => x))) (fun e => hneb e.symm)]; exact KV.out.block _ _ HB3.out (fun x => x)); have HB6 : Hid (w6.heap[b]? = some (.cells (cells.setIfInBounds (1 + k) (.int .i64 ((sn : Int) + 1))) 95 (0, 0))) := hb6; have v0 : w6.cell? ⟨b, 0, none⟩ = some (.int .i64 id) := (by rw [blk_cell hb6, ← blk_cell HB3.out]; exact s3.1); have v1 : w6.cell? ⟨b, 1 + k, none⟩ = some (.int .i64 ((sn : Int) + 1)) := (by rw [blk_cell hb6, ← blk_cell HB3.out]; exact s3.2); have v2 : w6.cell? ⟨b, 11 + k, none⟩ = some (.slice a0 o.wt.length n0) := (by rw [blk_cell hb6, ← blk_cell HB3.out]; exact (SS w3 (Kept.refl _ _)).2.2.1); have v3 : w6.frozen? ⟨b, 11 + k, none⟩ = false := blk_free hb6 _; have u6 : (w6.setCell ⟨b, 11 + k, none⟩ (.slice a6 (o.wt.length + 1) c6)).cell? ⟨b, 0, none⟩ = some (.int .i64 id) ∧ (w6.setCell ⟨b, 11 + k, none⟩ (.slice a6 (o.wt.length + 1) c6)).cell? ⟨b, 1 + k, none⟩ = some (.int .i64 ((sn : Int) + 1)) := (by have hb7 := blk_set hb6 (11 + k) (.slice a6 (o.wt.length + 1) c6); exact ⟨(by rw [blk_cell hb7, Array.getElem?_setIfInBounds, if_neg (by omega), ← blk_cell hb6]; exact v0), (by rw [blk_cell hb7, Array.getElem?_setIfInBounds, if_neg (by omega), ← blk_cell hb6]; exact v1)⟩); clear ho6 hg6 hb6))
  go_wp2
  go_ret
  have hs := HS1.out
  have KF : Kept (TY b) w (w6.setCell ⟨b, 11 + k, none⟩ (.slice a6 (o.wt.length + 1) c6)) := K36.out.setT (fun o ho => by rw [HC.out.blk] at ho; cases ho; exact ⟨rfl, _, rfl⟩) _ _
  have HE : sendO (os k) body = { o with wt := o.wt ++ [body] } := by rw [← HOe.out]; rfl
  have hlen : (o.wt ++ [body]).length = o.wt.length + 1 := by rw [List.length_append]; rfl
  have HNew : pksO id k (sendO (os k) body) = pksO id k o ++ [⟨id, k, (sn : Int) + 1, false, body⟩] := by
    rw [← HOe.out, pksO_send]
    congr 2
    unfold pkO
    congr 1
    have := HSn.out
    omega
  refine ⟨rfl, ⟨a6, c6, ⟨⟨_, blk_set HB6.out _ _, by simpa using hs, ?_, fun j hj => ?_, fun j hj => ?_, fun j hj => ?_⟩, fun j hj => ?_, fun j hj g hg => ?_⟩⟩, KF⟩
  · rw [Array.getElem?_setIfInBounds, if_neg (by omega), Array.getElem?_setIfInBounds, if_neg (by omega)]; exact HC.out.c0
  · rw [Array.getElem?_setIfInBounds, if_neg (by omega), Array.getElem?_setIfInBounds]
    by_cases e : j = k
    · subst e
      rw [if_pos rfl, if_pos (by omega), upd_self, HE]
      simp only [hlen]
      have := HSn.out
      congr 3
      omega
    · rw [if_neg (by omega), HC.out.cs j hj, upd_ne _ _ e]
  · rw [Array.getElem?_setIfInBounds]
    by_cases e : j = k
    · subst e
      rw [if_pos rfl, if_pos (by simp; omega), upd_self, upd_self, upd_self, HE]
      simp only [hlen]
    · rw [if_neg (by omega), Array.getElem?_setIfInBounds, if_neg (by omega), HC.out.cw j hj, upd_ne _ _ e, upd_ne _ _ e, upd_ne _ _ e]
  · rw [Array.getElem?_setIfInBounds, if_neg (by omega), Array.getElem?_setIfInBounds, if_neg (by omega), HC.out.cc j hj]
    by_cases e : j = k
    · subst e; rw [upd_self, HE, HOe.out]
    · rw [upd_ne _ _ e]
  · by_cases e : j = k
    · subst e
      rw [upd_self, upd_self, upd_self, HNew]
      exact own_setB (HP6.out.mono (Nat.zero_le _)) (ownPk_ne HP6.out HB6.out (by decide)) _ _
    · rw [upd_ne _ _ e, upd_ne _ _ e, upd_ne _ _ e]
      exact own_kept (HH.out.rows j hj) KF (fun q cs _ x => ty_pk x)
  · by_cases e : j = k
    · subst e
      rw [upd_self, upd_self, upd_self] at hg
      have h9 : (Value.slice a6 (pksO id j o ++ [(⟨id, j, (sn : Int) + 1, false, body⟩ : Pk)]).length c6).ownBlock = some g := by rw [← HNew, pksO_len]; exact hg
      exact .inr (own_row HP6.out g h9)
    · rw [upd_ne _ _ e, upd_ne _ _ e, upd_ne _ _ e] at hg
      exact .inl (HH.out.good j hj g hg)
end Go.Proofs.Ytmlncfnnldplgaa
