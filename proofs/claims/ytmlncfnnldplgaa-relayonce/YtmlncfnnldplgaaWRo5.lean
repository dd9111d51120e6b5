/-
  RelayOnce: the law's off.
-/
import Derived.Test.YtmlncfnnldplgaaWRo4
import Derived.Test.YtmlncfnnldplgaaWMs0
namespace Go.Proofs.Ytmlncfnnldplgaa
open Go.RowKit

theorem addr_add_any (g o j : Nat) : (Addr.mk g o none).add j = ⟨g, o + j, none⟩ := by unfold Addr.add; split <;> simp_all
theorem OwnPk.srcR {B g c : Nat} {w : World} {l : List Pk} (h : OwnPk B w (some ⟨g, 0, Option.none⟩) c l) (i m d : Nat) (him : i + m ≤ l.length) : Src Try.prog 5 28 (.slice (some ⟨g, i * 5, Option.none⟩) m d) m (pkCells ((l.drop i).take m)) w := by
  obtain ⟨g', cs, e0, _, hh, h1, _, h3, h4⟩ := h.block (by simp)
  cases e0
  refine Src.ofSlice _ Try.underlying28 ⟨g, i * 5, .none⟩ m d _ (by rw [pkCells_len, List.length_take, List.length_drop]; omega) ?_ (pkCells_one _)
  intro j u hj
  have hlt : j < m * 5 := by have := (List.getElem?_eq_some_iff.1 hj).1; rw [pkCells_len, List.length_take, List.length_drop] at this; omega
  rw [addr_add_any, blk_cell hh, ← hj]
  have hcat : pkCells l = pkCells (l.take i) ++ (pkCells ((l.drop i).take m) ++ pkCells ((l.drop i).drop m)) := by
    rw [← pkCells_app, ← pkCells_app, List.take_append_drop, List.take_append_drop]
  have := congrArg (fun l => l[i * 5 + j]?) h4
  simp only [List.getElem?_take, Array.getElem?_toList] at this
  rw [if_pos (by omega), hcat, List.getElem?_append_right (by rw [pkCells_len, List.length_take]; omega), pkCells_len, List.length_take, Nat.min_eq_left (by omega), List.getElem?_append_left (by rw [pkCells_len, List.length_take, List.length_drop]; omega), Nat.add_sub_cancel_left] at this
  exact this
theorem Try.sizePk : (Try.prog.info? 34).map (·.size) = some 5 := by kernel_rfl
/-- A packet of somebody else's is written. -/
theorem TkM.keptP {n0 b A : Nat} {w w' : World} {T : Tk} {M : Mm} (h : TkM n0 w b T M) (k : Kept (fun q o => q = A ∧ ∃ cs, o = .cells cs 34 (0, 0)) w w') (hA : (Value.slice M.wa T.way.length M.wc).ownBlock ≠ some A) : TkM n0 w' b T M := by
  obtain ⟨cells, hc⟩ := h.cl
  obtain ⟨hs, h1, h2⟩ := h.ho
  exact ⟨⟨cells, k.block _ _ hc.blk (by rintro ⟨_, _, e⟩; simp at e), hc.sz, hc.c0, hc.c1, hc.cs, hc.cc, hc.ck⟩, ⟨hs, k.block _ _ h1 (by rintro ⟨_, _, e⟩; simp at e), h2⟩, h.hl, fun i hi => (h.rl i hi).keptG k (by rintro cs ⟨_, _, e⟩; simp at e) (by rintro q cs _ ⟨_, _, e⟩; simp at e), h.rd, own_keptG h.wy k (fun g cs hg hx => hA (by rw [← hx.1]; exact hg)), fun i hi => own_kept (h.sr i hi) k (by rintro q cs _ ⟨_, _, e⟩; simp at e), h.sl, fun i hi => own_kept (h.cr i hi) k (by rintro q cs _ ⟨_, _, e⟩; simp at e), h.ll, h.nb, h.nr⟩
set_option maxRecDepth 100000 in
set_option maxHeartbeats 4000000 in
theorem toff_any (n0 b k : Nat) (T : Tk) (w : World) (h : TkAt n0 w b T) (hk : k < T.way.length) (hz : T.way.length ≤ 4000000) :
    Calls Try.prog 20 #[.pointer (some ⟨b, 0, none⟩), .int .i64 k] w fun e w' => e = .returned (pkV T.way[k]) ∧ TkAt n0 w' b { T with way := T.way.eraseIdx k } ∧ Kept (Ge n0) w w' := by
  obtain ⟨M, hM⟩ := h
  have HM : Hid (TkM n0 w b T M) := hM
  obtain ⟨r0, r1, r2, r3, r4, rf, rh⟩ := hM.reads
  obtain ⟨l, Hl⟩ : ∃ l, Hid (l = T.way) := ⟨_, rfl⟩
  obtain ⟨y, HY⟩ : ∃ y : Pk, Hid (y = T.way[k]) := ⟨T.way[k], (rfl : T.way[k] = T.way[k])⟩
  obtain ⟨g, eg, hg1, hg2, d0, d1, d2, d3, d4, -⟩ := hM.wy.cells hk
  obtain ⟨c, Hc⟩ : ∃ c, Hid (c = M.wc) := ⟨_, rfl⟩
  have HO : Hid (OwnPk n0 w (some ⟨g, 0, none⟩) c l) := by rw [Hc.out, Hl.out, ← eg]; exact hM.wy
  have hlc : l.length ≤ c := by obtain ⟨_, _, _, _, _, h, _⟩ := HO.out.block (by simp); exact h
  have hcm : c ≤ maxLen := by obtain ⟨_, _, _, _, _, _, h, _⟩ := HO.out.block (by simp); exact h
  have hbl : b < w.heap.size := by obtain ⟨_, hc⟩ := HM.out.cl; exact lt_of_block hc.blk
  have s1 : w.cell? ⟨b, 1, none⟩ = some (.slice (some ⟨g, 0, none⟩) l.length c) := by rw [r1, eg, Hl.out, Hc.out]
  rw [← HY.out] at d0 d1 d2 d3 d4 ⊢
  unfold pkV
  have HKl : Hid (k < T.way.length) := hk
  rw [← Hl.out] at hk hz
  have hki : (k : Int) < l.length := by omega
  have hkc : (k : Int) + 1 ≤ c := by omega
  unfold maxLen at hcm
  have hcap : (l.length : Int) ≤ c := by omega
  have hsz : n0 ≤ w.heap.size := HM.out.size
  clear hM r0 r1 r2 r3 r4 rf rh eg
  obtain ⟨i2, hi2, hy0, hy1, hy2⟩ := info_parts Try.infoOwnPk
  go_enter Try.func20, Try.ntmps20
  go_upto_region 2 with fail
  obtain ⟨W, hW⟩ : ∃ W, W = (w.alloc (.cells #[.int .i64 0, .int .i64 0, .int .i64 0, .bool false, .string ⟨#[]⟩] 34)).alloc (.cells #[.int .i64 y.fr, .int .i64 y.ds, .int .i64 y.nu, .bool y.ak, .string (bs y.bd)] 34) := ⟨_, rfl⟩
  obtain ⟨A, HAe⟩ : ∃ A, Hid (A = w.heap.size) := ⟨_, rfl⟩
  obtain ⟨A1, HA1e⟩ : ∃ A, Hid (A = w.heap.size + 1) := ⟨_, rfl⟩
  have KW : Hid (Kept Nil w W) := by rw [hW]; exact ((Kept.refl _ _).alloc _).alloc _
  have HA0 : Hid (W.heap[A]? = some (.cells #[.int .i64 0, .int .i64 0, .int .i64 0, .bool false, .string ⟨#[]⟩] 34 (0, 0))) := by rw [hW, HAe.out]; exact blk_past (blk_new _ _) _
  have HA1 : Hid (W.heap[A1]? = some (.cells #[.int .i64 y.fr, .int .i64 y.ds, .int .i64 y.nu, .bool y.ak, .string (bs y.bd)] 34 (0, 0))) := by rw [hW, HA1e.out]; have := blk_new (w.alloc (.cells #[.int .i64 0, .int .i64 0, .int .i64 0, .bool false, .string ⟨#[]⟩] 34)) (.cells #[.int .i64 y.fr, .int .i64 y.ds, .int .i64 y.nu, .bool y.ak, .string (bs y.bd)] 34); rw [show (w.alloc (.cells #[.int .i64 0, .int .i64 0, .int .i64 0, .bool false, .string ⟨#[]⟩] 34)).heap.size = w.heap.size + 1 from (by simp)] at this; exact this
  rw [← hW, ← HA1e.out, ← HAe.out]
  have HMW : Hid (TkM n0 W b T M) := HM.out.kept KW.out
  have HOW : Hid (OwnPk n0 W (some ⟨g, 0, none⟩) c l) := HO.out.kept KW.out
  have t1 : W.cell? ⟨b, 1, none⟩ = some (.slice (some ⟨g, 0, none⟩) l.length c) := cell_kept KW.out (fun _ x => x) s1
  have hszW : n0 ≤ W.heap.size := HMW.out.size
  have hblW : b < W.heap.size := by obtain ⟨_, hc⟩ := HMW.out.cl; exact lt_of_block hc.blk
  clear hW s1 d0 d1 d2 d3 d4 hbl
  have SR1 : Hid (Src Try.prog 5 28 (.slice (some ⟨g, 0, none⟩) k c) k (pkCells (l.take k)) W.drew) := by
    have := (HOW.out.kept (Kept.refl _ _).drew).srcR 0 k c (by omega)
    rw [Nat.zero_mul, List.drop_zero] at this
    exact this
  have HLL : Hid (0 + k ≤ maxLen ∧ (0 + k) * 48 ≤ 140737488355328) := by constructor <;> (try unfold maxLen) <;> omega
  have HL2 : Hid (k + (l.length - (k + 1)) ≤ maxLen ∧ (k + (l.length - (k + 1))) * 48 ≤ 140737488355328) := by constructor <;> (try unfold maxLen) <;> omega
  have hw1 : IntKind.i64.wrap ((k : Int) + 1) = (k : Int) + 1 := IntWalk.i64_in _ (by omega)
  have hki1 : (k : Int) + 1 ≤ l.length := by omega
  have hkc0 : k ≤ c := by omega
  have hk00 : (0 : Int) ≤ (k : Int) + 1 := by omega
  have hk1 : k + 1 ≤ l.length := by omega
  by_cases hcc : c = k + 1
  · subst hcc
    have HL3 : Hid (k + 0 ≤ maxLen ∧ (k + 0) * 48 ≤ 140737488355328) := by constructor <;> (try unfold maxLen) <;> omega
    have hx1 : (k : Int) ≤ (k : Int) + 1 := by omega
    have SR2 : Hid (∀ X, Kept Nil W X → Src Try.prog 5 28 (.slice (some ⟨g, 0, none⟩) 0 0) 0 (pkCells (l.drop (k + 1))) X) := fun X kX => by
      have e : l.drop (k + 1) = [] := List.drop_eq_nil_of_le (by omega)
      rw [e]
      exact Src.ofSlice _ Try.underlying28 ⟨g, 0, .none⟩ 0 0 _ rfl (fun j u hj => by simp [pkCells] at hj) (fun u hu => by cases hu)
    go_region_law (first | (refine step_append_src w5 rfl (.tmp 20) (.tmp 27) 28 28 rfl W.heap.size 34 i2 (.agg #[.int .i64 0, .int .i64 0, .int .i64 0, .bool false, .string ⟨#[]⟩]) 5 48 Try.underlying28 hi2 hy0 hy1 hy2 rfl (.slice a5 k c5) k (pkCells (l.take k)) (by simp [Act.eval, Act.put]) HN5.out (.slice (some ⟨g, 0, none⟩) 0 0) 0 (pkCells (l.drop (k + 1))) (by simp [Act.eval, Act.put]) (SR2.out w5 K5.out) HL3.out.1 HL3.out.2 K5.out.size ?_; intro a6 c6 w6 ho6 hg6; have HO6 : Hid (OwnPk W.heap.size w6 a6 c6 (l.eraseIdx k)) := (by rw [List.eraseIdx_eq_take_drop_succ]; exact OwnPk.app (by rw [List.length_take]; omega) (by rw [List.length_drop]; omega) ho6); have K6 : Hid (Kept Nil W w6) := K5.out.grown hg6 (fun q hq => own_row HN5.out q hq); have t6 : w6.cell? ⟨b, 1, none⟩ = some (.slice (some ⟨g, 0, none⟩) l.length (k + 1)) := cell_kept K6.out (fun _ x => x) t1; have f6 : w6.frozen? ⟨b, 1, none⟩ = false := (by obtain ⟨cells, hc⟩ := HMW.out.cl; exact blk_free (K6.out.block _ _ hc.blk (fun x => x)) _); clear ho6 hg6) | (refine step_append_src W.drew rfl (.const (.slice none 0 0)) (.tmp 19) 28 28 rfl W.heap.size 34 i2 (.agg #[.int .i64 0, .int .i64 0, .int .i64 0, .bool false, .string ⟨#[]⟩]) 5 48 Try.underlying28 hi2 hy0 hy1 hy2 rfl (.slice none 0 0) 0 [] rfl (World.ownsRow_nil _ _ _ _) (.slice (some ⟨g, 0, none⟩) k (k + 1)) k (pkCells (l.take k)) (by simp [Act.eval, Act.put]) SR1.out HLL.out.1 HLL.out.2 (Nat.le_refl _) ?_; intro a5 c5 w5 ho5 hg5; have HN5 : Hid (w5.ownsRow W.heap.size 34 5 (.slice a5 k c5) k (pkCells (l.take k))) := (by rw [Nat.zero_add, List.nil_append] at ho5; exact ho5); have K5 : Hid (Kept Nil W w5) := (Kept.refl _ _).drew.grown hg5 (fun k hk => by simp [Value.ownBlock] at hk); have t5 : w5.cell? ⟨b, 1, none⟩ = some (.slice (some ⟨g, 0, none⟩) l.length (k + 1)) := cell_kept K5.out (fun _ x => x) t1; clear ho5 hg5))
    all_goals
      have HF : Hid (TkM n0 (w6.setCell ⟨b, 1, none⟩ (.slice a6 k c6)) b { T with way := T.way.eraseIdx k } { M with wa := a6, wc := c6 }) := HMW.out.cell (K6.out.mono (fun _ _ x => x.elim)) _ _ (.inl ⟨a6, c6, l.eraseIdx k, rfl, by rw [List.length_eraseIdx_of_lt (by omega)]; congr 1; omega, HO6.out.mono hszW, by rw [Hl.out], rfl⟩)
      have KF : Hid (Kept (Ge n0) w (w6.setCell ⟨b, 1, none⟩ (.slice a6 k c6))) := HM.out.ges ((KW.out.trans K6.out).mono (fun _ _ x => x.elim))
      have HAA : Hid (A ≠ b ∧ A1 ≠ b) := by
        obtain ⟨cells, hc⟩ := HMW.out.cl
        exact ⟨fun e => by have := HA0.out; rw [e, hc.blk] at this; simp at this, fun e => by have := HA1.out; rw [e, hc.blk] at this; simp at this⟩
      have HB0 : Hid ((w6.setCell ⟨b, 1, none⟩ (.slice a6 k c6)).heap[A]? = some (.cells #[.int .i64 0, .int .i64 0, .int .i64 0, .bool false, .string ⟨#[]⟩] 34 (0, 0))) := blk_other (K6.out.block _ _ HA0.out (fun x => x)) HAA.out.1 _
      have HB1 : Hid ((w6.setCell ⟨b, 1, none⟩ (.slice a6 k c6)).heap[A1]? = some (.cells #[.int .i64 y.fr, .int .i64 y.ds, .int .i64 y.nu, .bool y.ak, .string (bs y.bd)] 34 (0, 0))) := blk_other (K6.out.block _ _ HA1.out (fun x => x)) HAA.out.2 _
      generalize w6.setCell ⟨b, 1, none⟩ (.slice a6 k c6) = V at *
      have u0 : V.cell? ⟨A1, 0, none⟩ = some (.int .i64 y.fr) := blk_at HB1.out 0 rfl
      have u1 : V.cell? ⟨A1, 1, none⟩ = some (.int .i64 y.ds) := blk_at HB1.out 1 rfl
      have u2 : V.cell? ⟨A1, 2, none⟩ = some (.int .i64 y.nu) := blk_at HB1.out 2 rfl
      have u3 : V.cell? ⟨A1, 3, none⟩ = some (.bool y.ak) := blk_at HB1.out 3 rfl
      have u4 : V.cell? ⟨A1, 4, none⟩ = some (.string (bs y.bd)) := blk_at HB1.out 4 rfl
      have v0 : V.cell? ⟨A, 0, none⟩ = some (.int .i64 0) := blk_at HB0.out 0 rfl
      have v1 : V.cell? ⟨A, 1, none⟩ = some (.int .i64 0) := blk_at HB0.out 1 rfl
      have v2 : V.cell? ⟨A, 2, none⟩ = some (.int .i64 0) := blk_at HB0.out 2 rfl
      have v3 : V.cell? ⟨A, 3, none⟩ = some (.bool false) := blk_at HB0.out 3 rfl
      have v4 : V.cell? ⟨A, 4, none⟩ = some (.string ⟨#[]⟩) := blk_at HB0.out 4 rfl
      have z0 := blk_free HB0.out 0
      have z1 := blk_free HB0.out 1
      have z2 := blk_free HB0.out 2
      have z3 := blk_free HB0.out 3
      have z4 := blk_free HB0.out 4
      have HFin : Hid (TkAt n0 (((((V.setCell ⟨A, 0, none⟩ (.int .i64 y.fr)).setCell ⟨A, 1, none⟩ (.int .i64 y.ds)).setCell ⟨A, 2, none⟩ (.int .i64 y.nu)).setCell ⟨A, 3, none⟩ (.bool y.ak)).setCell ⟨A, 4, none⟩ (.string (bs y.bd))) b { T with way := T.way.eraseIdx k } ∧ Kept (Ge n0) w (((((V.setCell ⟨A, 0, none⟩ (.int .i64 y.fr)).setCell ⟨A, 1, none⟩ (.int .i64 y.ds)).setCell ⟨A, 2, none⟩ (.int .i64 y.nu)).setCell ⟨A, 3, none⟩ (.bool y.ak)).setCell ⟨A, 4, none⟩ (.string (bs y.bd)))) := by
        have ht : ∀ o, V.heap[A]? = some o → (A = A ∧ ∃ cs, o = .cells cs 34 (0, 0)) := fun o ho => by rw [HB0.out] at ho; cases ho; exact ⟨rfl, _, rfl⟩
        have hn : ∀ o, w.heap[A]? = some o → Ge n0 A o := fun o ho => by have := lt_of_block ho; have := HAe.out; omega
        refine ⟨⟨_, HF.out.keptP (A := A) (((((Kept.refl _ _).setT ht _ _).setT ht _ _).setT ht _ _).setT ht _ _ |>.setT ht _ _) (fun e => ?_)⟩, ((((KF.out.setT hn _ _).setT hn _ _).setT hn _ _).setT hn _ _).setT hn _ _⟩
        have hl := World.ownsRow.lt HO6.out A (by rw [List.length_eraseIdx_of_lt (by omega)]; rw [show (({ T with way := T.way.eraseIdx k } : Tk)).way = T.way.eraseIdx k from rfl, List.length_eraseIdx_of_lt HKl.out, ← Hl.out] at e; exact e)
        have := lt_of_block HA0.out
        omega
      have HRes : Hid ((((((V.setCell ⟨A, 0, none⟩ (.int .i64 y.fr)).setCell ⟨A, 1, none⟩ (.int .i64 y.ds)).setCell ⟨A, 2, none⟩ (.int .i64 y.nu)).setCell ⟨A, 3, none⟩ (.bool y.ak)).setCell ⟨A, 4, none⟩ (.string (bs y.bd))).heap[A]? = some (.cells #[.int .i64 y.fr, .int .i64 y.ds, .int .i64 y.nu, .bool y.ak, .string (bs y.bd)] 34 (0, 0))) := blk_set (blk_set (blk_set (blk_set (blk_set HB0.out 0 (.int .i64 y.fr)) 1 (.int .i64 y.ds)) 2 (.int .i64 y.nu)) 3 (.bool y.ak)) 4 (.string (bs y.bd))
      clear HF KF
      go_wp2
      refine bodyPost_ret (results_cellW rfl rfl HRes.out Try.underlying34 rfl Try.sizePk rfl) rfl ?_
      exact ⟨rfl, HFin.out⟩
  · have SR2 : Hid (∀ X, Kept Nil W X → Src Try.prog 5 28 (.slice (some ⟨g, (k + 1) * 5, none⟩) (l.length - (k + 1)) (c - (k + 1))) (l.length - (k + 1)) (pkCells (l.drop (k + 1))) X) := fun X kX => by
      have := (HOW.out.kept kX).srcR (k + 1) (l.length - (k + 1)) (c - (k + 1)) (by omega)
      rw [List.take_of_length_le (by rw [List.length_drop]; omega)] at this
      exact this
    go_region_law (first | (refine step_append_src w5 rfl (.tmp 20) (.tmp 27) 28 28 rfl W.heap.size 34 i2 (.agg #[.int .i64 0, .int .i64 0, .int .i64 0, .bool false, .string ⟨#[]⟩]) 5 48 Try.underlying28 hi2 hy0 hy1 hy2 rfl (.slice a5 k c5) k (pkCells (l.take k)) (by simp [Act.eval, Act.put]) HN5.out (.slice (some ⟨g, (k + 1) * 5, none⟩) (l.length - (k + 1)) (c - (k + 1))) (l.length - (k + 1)) (pkCells (l.drop (k + 1))) (by simp [Act.eval, Act.put]) (SR2.out w5 K5.out) HL2.out.1 HL2.out.2 K5.out.size ?_; intro a6 c6 w6 ho6 hg6; have HO6 : Hid (OwnPk W.heap.size w6 a6 c6 (l.eraseIdx k)) := (by rw [List.eraseIdx_eq_take_drop_succ]; exact OwnPk.app (by rw [List.length_take]; omega) (by rw [List.length_drop]) ho6); have K6 : Hid (Kept Nil W w6) := K5.out.grown hg6 (fun q hq => own_row HN5.out q hq); have t6 : w6.cell? ⟨b, 1, none⟩ = some (.slice (some ⟨g, 0, none⟩) l.length c) := cell_kept K6.out (fun _ x => x) t1; have f6 : w6.frozen? ⟨b, 1, none⟩ = false := (by obtain ⟨cells, hc⟩ := HMW.out.cl; exact blk_free (K6.out.block _ _ hc.blk (fun x => x)) _); clear ho6 hg6) | (refine step_append_src W.drew rfl (.const (.slice none 0 0)) (.tmp 19) 28 28 rfl W.heap.size 34 i2 (.agg #[.int .i64 0, .int .i64 0, .int .i64 0, .bool false, .string ⟨#[]⟩]) 5 48 Try.underlying28 hi2 hy0 hy1 hy2 rfl (.slice none 0 0) 0 [] rfl (World.ownsRow_nil _ _ _ _) (.slice (some ⟨g, 0, none⟩) k c) k (pkCells (l.take k)) (by simp [Act.eval, Act.put]) SR1.out HLL.out.1 HLL.out.2 (Nat.le_refl _) ?_; intro a5 c5 w5 ho5 hg5; have HN5 : Hid (w5.ownsRow W.heap.size 34 5 (.slice a5 k c5) k (pkCells (l.take k))) := (by rw [Nat.zero_add, List.nil_append] at ho5; exact ho5); have K5 : Hid (Kept Nil W w5) := (Kept.refl _ _).drew.grown hg5 (fun k hk => by simp [Value.ownBlock] at hk); have t5 : w5.cell? ⟨b, 1, none⟩ = some (.slice (some ⟨g, 0, none⟩) l.length c) := cell_kept K5.out (fun _ x => x) t1; clear ho5 hg5))
    all_goals
      have HF : Hid (TkM n0 (w6.setCell ⟨b, 1, none⟩ (.slice a6 (k + (l.length - (k + 1))) c6)) b { T with way := T.way.eraseIdx k } { M with wa := a6, wc := c6 }) := HMW.out.cell (K6.out.mono (fun _ _ x => x.elim)) _ _ (.inl ⟨a6, c6, l.eraseIdx k, rfl, by rw [List.length_eraseIdx_of_lt (by omega)]; congr 1; omega, HO6.out.mono hszW, by rw [Hl.out], rfl⟩)
      have KF : Hid (Kept (Ge n0) w (w6.setCell ⟨b, 1, none⟩ (.slice a6 (k + (l.length - (k + 1))) c6))) := HM.out.ges ((KW.out.trans K6.out).mono (fun _ _ x => x.elim))
      have HAA : Hid (A ≠ b ∧ A1 ≠ b) := by
        obtain ⟨cells, hc⟩ := HMW.out.cl
        exact ⟨fun e => by have := HA0.out; rw [e, hc.blk] at this; simp at this, fun e => by have := HA1.out; rw [e, hc.blk] at this; simp at this⟩
      have HB0 : Hid ((w6.setCell ⟨b, 1, none⟩ (.slice a6 (k + (l.length - (k + 1))) c6)).heap[A]? = some (.cells #[.int .i64 0, .int .i64 0, .int .i64 0, .bool false, .string ⟨#[]⟩] 34 (0, 0))) := blk_other (K6.out.block _ _ HA0.out (fun x => x)) HAA.out.1 _
      have HB1 : Hid ((w6.setCell ⟨b, 1, none⟩ (.slice a6 (k + (l.length - (k + 1))) c6)).heap[A1]? = some (.cells #[.int .i64 y.fr, .int .i64 y.ds, .int .i64 y.nu, .bool y.ak, .string (bs y.bd)] 34 (0, 0))) := blk_other (K6.out.block _ _ HA1.out (fun x => x)) HAA.out.2 _
      generalize w6.setCell ⟨b, 1, none⟩ (.slice a6 (k + (l.length - (k + 1))) c6) = V at *
      have u0 : V.cell? ⟨A1, 0, none⟩ = some (.int .i64 y.fr) := blk_at HB1.out 0 rfl
      have u1 : V.cell? ⟨A1, 1, none⟩ = some (.int .i64 y.ds) := blk_at HB1.out 1 rfl
      have u2 : V.cell? ⟨A1, 2, none⟩ = some (.int .i64 y.nu) := blk_at HB1.out 2 rfl
      have u3 : V.cell? ⟨A1, 3, none⟩ = some (.bool y.ak) := blk_at HB1.out 3 rfl
      have u4 : V.cell? ⟨A1, 4, none⟩ = some (.string (bs y.bd)) := blk_at HB1.out 4 rfl
      have v0 : V.cell? ⟨A, 0, none⟩ = some (.int .i64 0) := blk_at HB0.out 0 rfl
      have v1 : V.cell? ⟨A, 1, none⟩ = some (.int .i64 0) := blk_at HB0.out 1 rfl
      have v2 : V.cell? ⟨A, 2, none⟩ = some (.int .i64 0) := blk_at HB0.out 2 rfl
      have v3 : V.cell? ⟨A, 3, none⟩ = some (.bool false) := blk_at HB0.out 3 rfl
      have v4 : V.cell? ⟨A, 4, none⟩ = some (.string ⟨#[]⟩) := blk_at HB0.out 4 rfl
      have z0 := blk_free HB0.out 0
      have z1 := blk_free HB0.out 1
      have z2 := blk_free HB0.out 2
      have z3 := blk_free HB0.out 3
      have z4 := blk_free HB0.out 4
      have HFin : Hid (TkAt n0 (((((V.setCell ⟨A, 0, none⟩ (.int .i64 y.fr)).setCell ⟨A, 1, none⟩ (.int .i64 y.ds)).setCell ⟨A, 2, none⟩ (.int .i64 y.nu)).setCell ⟨A, 3, none⟩ (.bool y.ak)).setCell ⟨A, 4, none⟩ (.string (bs y.bd))) b { T with way := T.way.eraseIdx k } ∧ Kept (Ge n0) w (((((V.setCell ⟨A, 0, none⟩ (.int .i64 y.fr)).setCell ⟨A, 1, none⟩ (.int .i64 y.ds)).setCell ⟨A, 2, none⟩ (.int .i64 y.nu)).setCell ⟨A, 3, none⟩ (.bool y.ak)).setCell ⟨A, 4, none⟩ (.string (bs y.bd)))) := by
        have ht : ∀ o, V.heap[A]? = some o → (A = A ∧ ∃ cs, o = .cells cs 34 (0, 0)) := fun o ho => by rw [HB0.out] at ho; cases ho; exact ⟨rfl, _, rfl⟩
        have hn : ∀ o, w.heap[A]? = some o → Ge n0 A o := fun o ho => by have := lt_of_block ho; have := HAe.out; omega
        refine ⟨⟨_, HF.out.keptP (A := A) (((((Kept.refl _ _).setT ht _ _).setT ht _ _).setT ht _ _).setT ht _ _ |>.setT ht _ _) (fun e => ?_)⟩, ((((KF.out.setT hn _ _).setT hn _ _).setT hn _ _).setT hn _ _).setT hn _ _⟩
        have hl := World.ownsRow.lt HO6.out A (by rw [List.length_eraseIdx_of_lt (by omega)]; rw [show (({ T with way := T.way.eraseIdx k } : Tk)).way = T.way.eraseIdx k from rfl, List.length_eraseIdx_of_lt HKl.out, ← Hl.out] at e; exact e)
        have := lt_of_block HA0.out
        omega
      have HRes : Hid ((((((V.setCell ⟨A, 0, none⟩ (.int .i64 y.fr)).setCell ⟨A, 1, none⟩ (.int .i64 y.ds)).setCell ⟨A, 2, none⟩ (.int .i64 y.nu)).setCell ⟨A, 3, none⟩ (.bool y.ak)).setCell ⟨A, 4, none⟩ (.string (bs y.bd))).heap[A]? = some (.cells #[.int .i64 y.fr, .int .i64 y.ds, .int .i64 y.nu, .bool y.ak, .string (bs y.bd)] 34 (0, 0))) := blk_set (blk_set (blk_set (blk_set (blk_set HB0.out 0 (.int .i64 y.fr)) 1 (.int .i64 y.ds)) 2 (.int .i64 y.nu)) 3 (.bool y.ak)) 4 (.string (bs y.bd))
      clear HF KF
      go_wp2
      refine bodyPost_ret (results_cellW rfl rfl HRes.out Try.underlying34 rfl Try.sizePk rfl) rfl ?_
      exact ⟨rfl, HFin.out⟩
end Go.Proofs.Ytmlncfnnldplgaa
