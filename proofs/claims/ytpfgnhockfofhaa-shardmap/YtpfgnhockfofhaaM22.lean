/-
  Joined: WShH, WShU.
-/
import Derived.Test.YtpfgnhockfofhaaM21
import Derived.Shelf.Strings.Builder1
import Derived.Shelf.Small.Strs
import Derived.Shelf.Strings.BuilderF
import Derived.Shelf.Strings.BuilderK
import Derived.Ground.Names2Prog
import Derived.Shelf.Slices.Delete
import Derived.Shelf.Slices.Cells
import Derived.Shelf.Slices.Empties
import Derived.Test.YtpfgnhockfofhaaProg
/-
  Shards: a packet is taken off the way.
-/
namespace Go.Proofs.Ytpfgnhockfofhaa
open Go.RowKit

theorem run_copyP (w : World) (ty : TypeId) (b o dLen dCap : Nat) (a : Addr) (sLen sCap k : Nat) (cs : List Value) (hk : k = Nat.min sLen dLen) (hn : cs.length = k * 5)
    (hsrc : ∀ j v, cs[j]? = some v → w.cell? (a.add j) = some v) (hc : ∀ j, j < cs.length → (w.cell? ⟨b, o + j, none⟩).isSome = true) (hf : ∀ j, j < cs.length → w.frozen? ⟨b, o + j, none⟩ = false) (h1 : ∀ v ∈ cs, v.oneCell' = true) :
    (Builtin.copy_ #[28, 28] ty #[.slice (some ⟨b, o, none⟩) dLen dCap, .slice (some a) sLen sCap]).run Try.prog w = .ok (goInt k) (w.setCells b o cs) := by
  have hl := run_loadCells_list (P := Try.prog) w a cs hsrc
  rw [hn] at hl
  have hst := run_storeCells_cells (P := Try.prog) b o cs 0 w (by simpa using hc) (by simpa using hf) h1
  obtain ⟨i0, hi, hz0, hz1, hz2⟩ := info_parts Try.infoOwnPk
  simp [Builtin.copy_, run_underlying Try.underlying28, Builtin.lenOf, Builtin.firstCells, sizeOf, typeInfo, hi, hz1, ← hk, hl, hst]
theorem pkCells_take : ∀ (ps : List Pk) (i : Nat), pkCells (ps.take i) = (pkCells ps).take (i * 5)
  | [], i => by simp [pkCells]
  | _ :: _, 0 => by simp [pkCells]
  | p :: t, i + 1 => by rw [List.take_succ_cons, pkCells_cons, pkCells_cons, pkCells_take t i, show (i + 1) * 5 = i * 5 + 1 + 1 + 1 + 1 + 1 by omega, List.take_succ_cons, List.take_succ_cons, List.take_succ_cons, List.take_succ_cons, List.take_succ_cons]
theorem pkCells_drop : ∀ (ps : List Pk) (i : Nat), pkCells (ps.drop i) = (pkCells ps).drop (i * 5)
  | [], i => by simp [pkCells]
  | _ :: _, 0 => by simp
  | p :: t, i + 1 => by rw [List.drop_succ_cons, pkCells_cons, pkCells_drop t i, show (i + 1) * 5 = i * 5 + 1 + 1 + 1 + 1 + 1 by omega, List.drop_succ_cons, List.drop_succ_cons, List.drop_succ_cons, List.drop_succ_cons, List.drop_succ_cons]
theorem off_len {ps : List Pk} {k : Nat} (hk : k < ps.length) : (ps.take k ++ ps.drop (k + 1)).length = ps.length - 1 := by
  rw [List.length_append, List.length_take, List.length_drop]
  omega
/-- The cells of what is left, one packet further on. -/
theorem off_cells {ps : List Pk} {k : Nat} (hk : k < ps.length) (j : Nat) (_hj : j < (ps.length - 1) * 5) : (pkCells (ps.take k ++ ps.drop (k + 1)))[j]? = if j < k * 5 then (pkCells ps)[j]? else (pkCells ps)[j + 5]? := by
  have hl : (pkCells (ps.take k)).length = k * 5 := by rw [pkCells_len, List.length_take, Nat.min_eq_left (by omega)]
  rw [pkCells_app, List.getElem?_append, hl]
  split
  · rename_i h
    rw [pkCells_take, List.getElem?_take, if_pos h]
  · rename_i h
    rw [pkCells_drop, List.getElem?_drop]
    congr 1
    omega
theorem zeroPk_one : (#[.int .i64 0, .int .i64 0, .int .i64 0, .bool false, .string ⟨#[]⟩] : Array Value).all (·.oneCell') = true := by
  simp only [List.all_toArray, List.all_cons, List.all_nil, Bool.and_true]
  rfl
theorem pk_one (p : Pk) : (#[.int .i64 p.fr, .int .i64 p.ds, .int .i64 p.nu, .bool p.ak, .string (bs p.bd)] : Array Value).all (·.oneCell') = true := by
  simp only [List.all_toArray, List.all_cons, List.all_nil, Bool.and_true]
  rfl
theorem tp_sets {Gs : Nat → Nat → Prop} {W W2 : World} {b hb ch : Nat} {hs : Nat → Nat} {g o cw : Nat} {S : Sd} (x : ShX Gs W b hb ch hs (some ⟨g, o, none⟩) cw S) (k : Kept (TP (some ⟨g, o, none⟩) S.wy.length cw) W W2) : ∀ (vs : List Value) (q : Nat), Kept (TP (some ⟨g, o, none⟩) S.wy.length cw) W (W2.setCells g q vs) := fun vs q =>
  k.grownT (grownBy_setCellsK g vs q (grown_reflK W2 (some g))) (fun j hj h ho => by
    cases hj
    exact ⟨rfl, x.wy.tp rfl ho⟩)
/-- The way is one packet shorter. -/
theorem ShX.off {Gs : Nat → Nat → Prop} {W W3 : World} {b hb ch : Nat} {hs : Nat → Nat} {g o cw k o' c : Nat} {S : Sd} (x : ShX Gs W b hb ch hs (some ⟨g, o, none⟩) cw S) (hk : k < S.wy.length) (kt : Kept (TP (some ⟨g, o, none⟩) S.wy.length cw) W W3) {cs : Array Value} (h3 : W3.heap[g]? = some (.cells cs 34 (0, 0))) (hlc : S.wy.length - 1 ≤ c) (hcm : c ≤ maxLen) (hcs : o' + c * 5 ≤ cs.size) (hat : ∀ j, j < (S.wy.length - 1) * 5 → cs[o' + j]? = if j < k * 5 then (pkCells S.wy)[j]? else (pkCells S.wy)[j + 5]?) :
    ShX (famN Gs 10 W W3) (W3.setCell ⟨b, 1, none⟩ (.slice (some ⟨g, o', none⟩) (S.wy.length - 1) c)) b hb ch hs (some ⟨g, o', none⟩) c (dropW k S) ∧ Kept (TG (Gs 10)) W (W3.setCell ⟨b, 1, none⟩ (.slice (some ⟨g, o', none⟩) (S.wy.length - 1) c)) := by
  have hl := off_len hk
  have h := x.way kt (a := some ⟨g, o', none⟩) (c := c) (ps := S.wy.take k ++ S.wy.drop (k + 1)) ⟨by rw [pkCells_len], .inr ⟨g, o', c, cs, by rw [hl], h3, by rw [hl]; exact hlc, hcm, hcs, fun j hj => by rw [hl] at hj; rw [hat j hj, off_cells hk j hj]⟩⟩ (fun q hq => by
    have e : g = q := by simpa [Value.ownBlock] using hq
    rw [← e]
    exact .inl (x.gw g rfl))
  rw [hl] at h
  exact h
set_option maxRecDepth 100000 in
set_option maxHeartbeats 4000000 in
theorem takeOff_any (k : Nat) (Gs : Nat → Nat → Prop) (b hb ch cw : Nat) (hs : Nat → Nat) (aw : Option Addr) (S : Sd) (p : Pk) (w : World) (x : ShX Gs w b hb ch hs aw cw S) (hk : k < S.wy.length) (hp : S.wy[k]? = some p) (hl : S.wy.length ≤ 1000000000) :
    Calls Try.prog 48 #[.pointer (some ⟨b, 0, none⟩), .int .i64 k] w fun e w' => e = .returned (pkV p) ∧ ShPost Gs w b hb ch hs (dropW k S) w' := by
  obtain ⟨g, o, cur, rfl, hcur, hlc, hcm, hcs, hat⟩ := x.wy.block (by omega)
  unfold maxLen at hcm
  obtain ⟨hpl, hpe⟩ := List.getElem?_eq_some_iff.1 hp
  obtain ⟨pe0, pe1, pe2, pe3, pe4⟩ := pkCells_at S.wy k hpl
  rw [hpe] at pe0 pe1 pe2 pe3 pe4
  have hcell : ∀ i v, (pkCells S.wy)[k * 5 + i]? = some v → i < 5 → w.cell? ⟨g, o + (k * 5 + i), none⟩ = some v := fun i v h hi => by rw [blk_cell hcur, hat _ (by omega), h]
  have q0 : w.cell? ⟨g, o + k * 5, none⟩ = some (.int .i64 p.fr) := hcell 0 _ pe0 (by omega)
  have q1 : w.cell? ⟨g, o + k * 5 + 1, none⟩ = some (.int .i64 p.ds) := hcell 1 _ pe1 (by omega)
  have q2 : w.cell? ⟨g, o + k * 5 + 2, none⟩ = some (.int .i64 p.nu) := hcell 2 _ pe2 (by omega)
  have q3 : w.cell? ⟨g, o + k * 5 + 3, none⟩ = some (.bool p.ak) := hcell 3 _ pe3 (by omega)
  have q4 : w.cell? ⟨g, o + k * 5 + 4, none⟩ = some (.string (bs p.bd)) := hcell 4 _ pe4 (by omega)
  have hgl : g < w.heap.size := lt_of_block hcur
  have HBw : Hid (w.heap[b]? = some (.cells #[.slice (some ⟨hb, 0, none⟩) S.n ch, .slice (some ⟨g, o, none⟩) S.wy.length cw] 98 (0, 0))) := x.blk
  have s1 : w.cell? ⟨b, 1, none⟩ = some (.slice (some ⟨g, o, none⟩) S.wy.length cw) := blk_at HBw.out 1 rfl
  have hbl : b < w.heap.size := lt_of_block HBw.out
  have hki : (k : Int) < (S.wy.length : Int) := by omega
  obtain ⟨W, hW⟩ : ∃ W, W = (w.alloc (.cells #[.int .i64 0, .int .i64 0, .int .i64 0, .bool false, .string ⟨#[]⟩] 34)).alloc (.cells #[.int .i64 p.fr, .int .i64 p.ds, .int .i64 p.nu, .bool p.ak, .string (bs p.bd)] 34) := ⟨_, rfl⟩
  obtain ⟨R, HR⟩ : ∃ R : Nat, Hid (R = w.heap.size) := ⟨_, rfl⟩
  obtain ⟨A, HA⟩ : ∃ A : Nat, Hid (A = w.heap.size + 1) := ⟨_, rfl⟩
  have KW : Hid (Kept Nil w W) := by rw [hW]; exact ((Kept.refl _ _).alloc _).alloc _
  have HRW : Hid (W.heap[R]? = some (.cells #[.int .i64 0, .int .i64 0, .int .i64 0, .bool false, .string ⟨#[]⟩] 34 (0, 0))) := by rw [hW, HR.out]; exact blk_past (blk_new _ _) _
  have HAW : Hid (W.heap[A]? = some (.cells #[.int .i64 p.fr, .int .i64 p.ds, .int .i64 p.nu, .bool p.ak, .string (bs p.bd)] 34 (0, 0))) := by rw [hW, HA.out]; exact blk_new1 w _ _
  have HXW : Hid (ShX Gs W b hb ch hs (some ⟨g, o, none⟩) cw S) := x.kept KW.out
  have HX : Hid (ShX Gs w b hb ch hs (some ⟨g, o, none⟩) cw S) := x
  have hcW : W.heap[g]? = some (.cells cur 34 (0, 0)) := KW.out.block _ _ hcur (fun e => e)
  have HTL : Hid ((pkCells (S.wy.take k)).length = k * 5) := by show _ = _; rw [pkCells_len, List.length_take, Nat.min_eq_left (by omega)]
  have HSR : Hid (∀ j v, (pkCells (S.wy.take k))[j]? = some v → W.cell? ⟨g, o + j, none⟩ = some v) := fun j v hj => by
    have h1 : j < k * 5 := by have := (List.getElem?_eq_some_iff.1 hj).1; rwa [HTL.out] at this
    rw [blk_cell hcW, hat j (by omega), ← hj, pkCells_take, List.getElem?_take, if_pos h1]
  have HAT : Hid (∀ j, j < S.wy.length * 5 → cur[o + j]? = (pkCells S.wy)[j]?) := hat
  have HBW : Hid (W.heap[b]? = some (.cells #[.slice (some ⟨hb, 0, none⟩) S.n ch, .slice (some ⟨g, o, none⟩) S.wy.length cw] 98 (0, 0))) := KW.out.block _ _ HBw.out (fun e => e)
  have w1 : W.cell? ⟨b, 1, none⟩ = some (.slice (some ⟨g, o, none⟩) S.wy.length cw) := blk_at HBW.out 1 rfl
  have hbW : b < W.heap.size := lt_of_block HBW.out
  have hkc : k ≤ cw := by omega
  have hkci : (k : Int) ≤ (cw : Int) := by omega
  have h1c : 1 ≤ cw := by omega
  have h1n : 1 ≤ S.wy.length := by omega
  have h0n : 0 < S.wy.length := by omega
  have h1ci : (1 : Int) ≤ (S.wy.length : Int) := by omega
  have hnci : (S.wy.length : Int) ≤ (cw : Int) := by omega
  clear hat hcell pe0 pe1 pe2 pe3 pe4 x hp hpe
  go_enter Try.func48, Try.ntmps48
  by_cases hc1 : cw = 1
  · subst hc1
    have hki1 : (k : Int) ≤ 1 := by omega
    have hcp : ∀ ty dc sc, (Builtin.copy_ #[28, 28] ty #[.slice (some ⟨g, o, none⟩) (0) dc, .slice (some ⟨g, o, none⟩) k sc]).run Try.prog W.drew = .ok (goInt (k : Int)) (W.drew.setCells g (o) (pkCells (S.wy.take k))) := fun ty dc sc =>
      run_copyP W.drew ty g (o) (0) dc ⟨g, o, none⟩ k sc k (pkCells (S.wy.take k)) (by simp only [Nat.min_def]; split <;> omega) HTL.out (fun j v hj => by rw [Addr.add_lit]; exact HSR.out j v hj) (fun j hj => by rw [HTL.out] at hj; show (W.cell? _).isSome = true; rw [blk_cell hcW, Array.getElem?_eq_getElem (by omega)]; rfl) (fun j _ => blk_free hcW _) (pkCells_one _)
    obtain ⟨W2, hW2⟩ : ∃ W2, W2 = W.drew.setCells g (o) (pkCells (S.wy.take k)) := ⟨_, rfl⟩
    obtain ⟨cs1, b1, z1, g1⟩ := blk_setCellsK (b := g) (pkCells (S.wy.take k)) (o) W.drew cur hcW
    rw [← hW2] at b1
    obtain ⟨W3, hW3⟩ : ∃ W3, W3 = W2.setCells g o (#[.int .i64 0, .int .i64 0, .int .i64 0, .bool false, .string ⟨#[]⟩] : Array Value).toList := ⟨_, rfl⟩
    obtain ⟨cs2, b2, z2, g2⟩ := blk_setCellsK (b := g) (#[.int .i64 0, .int .i64 0, .int .i64 0, .bool false, .string ⟨#[]⟩] : Array Value).toList o W2 cs1 b1
    rw [← hW3] at b2
    have kt2 : Kept (TP (some ⟨g, o, none⟩) S.wy.length 1) W W2 := by rw [hW2]; exact tp_sets HXW.out (Kept.refl _ _).drew _ _
    have kt3 : Kept (TP (some ⟨g, o, none⟩) S.wy.length 1) W W3 := by rw [hW3]; exact tp_sets HXW.out kt2 _ _
    have HOF : Hid (ShX (famN Gs 10 W W3) (W3.setCell ⟨b, 1, none⟩ (.slice (some ⟨g, o, none⟩) (0) (0))) b hb ch hs (some ⟨g, o, none⟩) (0) (dropW k S) ∧ Kept (TG (Gs 10)) W (W3.setCell ⟨b, 1, none⟩ (.slice (some ⟨g, o, none⟩) (0) (0)))) := by
      have h := HXW.out.off (o' := o) (c := 0) hk kt3 b2 (by omega) (by unfold maxLen; omega) (by rw [z2, z1]; omega) (fun j hj => by
        rw [g2, if_neg (by simp only [List.length_cons, List.length_nil]; omega), g1, HTL.out]
        by_cases h1 : j < k * 5
        · rw [if_pos (by omega), if_pos h1, pkCells_take, List.getElem?_take, if_pos (by omega)]; congr 1; omega
        · rw [if_neg (by omega), if_neg h1, ← HAT.out _ (by omega)]; congr 1; omega)
      rw [show S.wy.length - 1 = 0 by omega] at h
      exact h
    have hbg : b ≠ g := fun e => by have := HBW.out; rw [e, hcW] at this; cases this
    have hRg : R ≠ g := fun e => by have := HR.out; omega
    have hAg : A ≠ g := fun e => by have := HA.out; omega
    have HB3 : Hid (W3.heap[b]? = some (.cells #[.slice (some ⟨hb, 0, none⟩) S.n ch, .slice (some ⟨g, o, none⟩) S.wy.length 1] 98 (0, 0))) := kt3.block _ _ HBW.out (fun e => by obtain ⟨_, _, e⟩ := e; cases e)
    have HB2 : Hid (W2.heap[b]? = some (.cells #[.slice (some ⟨hb, 0, none⟩) S.n ch, .slice (some ⟨g, o, none⟩) S.wy.length 1] 98 (0, 0))) := kt2.block _ _ HBW.out (fun e => by obtain ⟨_, _, e⟩ := e; cases e)
    have hTn : ∀ q, q ≠ g → ∀ o', ¬ TP (some ⟨g, o, none⟩) S.wy.length 1 q o' := fun q hq o' e => by
      have e1 : g = q := by simpa [Value.ownBlock] using e.1
      exact hq e1.symm
    have HR3 : Hid (W3.heap[R]? = some (.cells #[.int .i64 0, .int .i64 0, .int .i64 0, .bool false, .string ⟨#[]⟩] 34 (0, 0))) := kt3.block _ _ HRW.out (hTn R hRg _)
    have HA3 : Hid (W3.heap[A]? = some (.cells #[.int .i64 p.fr, .int .i64 p.ds, .int .i64 p.nu, .bool p.ak, .string (bs p.bd)] 34 (0, 0))) := kt3.block _ _ HAW.out (hTn A hAg _)
    have hth : W2.there g o 5 := fun j hj => ⟨by rw [blk_cell b1, Array.getElem?_eq_getElem (by omega)]; rfl, blk_free b1 _⟩
    have t2 : W2.cell? ⟨b, 1, none⟩ = some (.slice (some ⟨g, o, none⟩) S.wy.length 1) := blk_at HB2.out 1 rfl
    have t3 : W3.cell? ⟨b, 1, none⟩ = some (.slice (some ⟨g, o, none⟩) S.wy.length 1) := blk_at HB3.out 1 rfl
    have f3 : W3.frozen? ⟨b, 1, none⟩ = false := blk_free HB3.out _
    have hb2l : b < W2.heap.size := lt_of_block HB2.out
    have hb3l : b < W3.heap.size := lt_of_block HB3.out
    have hnR : ∀ i q (o' : Obj), famN Gs 10 W W3 i q → ¬ One R q o' := fun i q o' e e2 => by
      have e2 : q = R := e2
      rw [e2] at e
      rcases famN_sub e with e | e
      · have := HX.out.lt _ _ e; have := HR.out; omega
      · have := lt_of_block HRW.out; omega
    have HNR : Hid (∀ i q (o' : Obj), famN Gs 10 W W3 i q → ¬ One R q o') := hnR
    clear hnR hTn kt2 kt3 g1 g2 b1 z1 z2
    go_upto_region 2 with fail
    rw [← hW, ← HA.out, ← HR.out]
    clear hW
    go_region_law (refine step_copy_runI rfl _ _ 28 28 rfl (.slice (some ⟨g, o, none⟩) (0) (0)) (.slice (some ⟨g, o, none⟩) k 1) (by simp [Act.eval, Act.put]) (by simp [Act.eval, Act.put]) (hcp _ _ _) ?_; rw [← hW2]; clear hW2 hcp)
    all_goals
      go_upto_region 4 with ((with_reducible refine atStore 34 ?_); go_must (refine wpList_store_mid rfl _ _ _ rfl g o #[.int .i64 0, .int .i64 0, .int .i64 0, .bool false, .string ⟨#[]⟩] rfl rfl hth Try.sizePk zeroPk_one ?_); rw [← hW3]; clear hW3)
      go_upto_region 5 with fail
      obtain ⟨W4, hW4⟩ : ∃ W4, W4 = W3.setCell ⟨b, 1, none⟩ (.slice (some ⟨g, o, none⟩) (0) (0)) := ⟨_, rfl⟩
      have HR4 : Hid (W4.heap[R]? = some (.cells #[.int .i64 0, .int .i64 0, .int .i64 0, .bool false, .string ⟨#[]⟩] 34 (0, 0))) := by rw [hW4]; exact blk_other HR3.out (fun e => by have := HR3.out; rw [e, HB3.out] at this; cases this) _
      have HA4 : Hid (W4.heap[A]? = some (.cells #[.int .i64 p.fr, .int .i64 p.ds, .int .i64 p.nu, .bool p.ak, .string (bs p.bd)] 34 (0, 0))) := by rw [hW4]; exact blk_other HA3.out (fun e => by have := HA3.out; rw [e, HB3.out] at this; cases this) _
      rw [← hW4] at HOF ⊢
      clear hW4
      go_wp2_with (first | ((with_reducible refine atLoad 34 ?_); go_must (refine wpList_loadW rfl _ _ rfl _ rfl _ _ _ HA4.out Try.underlying34 rfl Try.sizePk rfl ?_)) | ((with_reducible refine atStore 34 ?_); go_must (refine wpList_storeW rfl _ _ _ rfl _ #[.int .i64 p.fr, .int .i64 p.ds, .int .i64 p.nu, .bool p.ak, .string (bs p.bd)] _ _ rfl rfl HR4.out rfl Try.sizePk rfl (pk_one p) ?_); intro w9 hb9 hk9 hs9))
      refine bodyPost_ret (results_cellW rfl rfl hb9 Try.underlying34 rfl Try.sizePk rfl) rfl ⟨rfl, ?_⟩
      refine ⟨⟨_, _, _, HOF.out.1.keptX hk9 HNR.out, fun j q hq => (famN_sub hq).imp id (Nat.le_trans KW.out.size)⟩, ⟨(hk9.os.trans HOF.out.2.os).trans KW.out.os, (hk9.tape.trans HOF.out.2.tape).trans KW.out.tape, (hk9.output.trans HOF.out.2.output).trans KW.out.output, Nat.le_trans (Nat.le_trans KW.out.size HOF.out.2.size) hk9.size, fun q o' ho hx => hk9.block q o' (HOF.out.2.block q o' (KW.out.block q o' ho (fun e => e)) (fun e => hx ⟨10, e⟩)) (fun e => by
        have e : q = R := e
        have h1 := lt_of_block ho
        have h2 := HR.out
        omega)⟩⟩
  · have hcc1 : ¬ cw = 1 := hc1
    have hcp : ∀ ty dc sc, (Builtin.copy_ #[28, 28] ty #[.slice (some ⟨g, o + 5, none⟩) (S.wy.length - 1) dc, .slice (some ⟨g, o, none⟩) k sc]).run Try.prog W.drew = .ok (goInt (k : Int)) (W.drew.setCells g (o + 5) (pkCells (S.wy.take k))) := fun ty dc sc =>
      run_copyP W.drew ty g (o + 5) (S.wy.length - 1) dc ⟨g, o, none⟩ k sc k (pkCells (S.wy.take k)) (by simp only [Nat.min_def]; split <;> omega) HTL.out (fun j v hj => by rw [Addr.add_lit]; exact HSR.out j v hj) (fun j hj => by rw [HTL.out] at hj; show (W.cell? _).isSome = true; rw [blk_cell hcW, Array.getElem?_eq_getElem (by omega)]; rfl) (fun j _ => blk_free hcW _) (pkCells_one _)
    obtain ⟨W2, hW2⟩ : ∃ W2, W2 = W.drew.setCells g (o + 5) (pkCells (S.wy.take k)) := ⟨_, rfl⟩
    obtain ⟨cs1, b1, z1, g1⟩ := blk_setCellsK (b := g) (pkCells (S.wy.take k)) (o + 5) W.drew cur hcW
    rw [← hW2] at b1
    obtain ⟨W3, hW3⟩ : ∃ W3, W3 = W2.setCells g o (#[.int .i64 0, .int .i64 0, .int .i64 0, .bool false, .string ⟨#[]⟩] : Array Value).toList := ⟨_, rfl⟩
    obtain ⟨cs2, b2, z2, g2⟩ := blk_setCellsK (b := g) (#[.int .i64 0, .int .i64 0, .int .i64 0, .bool false, .string ⟨#[]⟩] : Array Value).toList o W2 cs1 b1
    rw [← hW3] at b2
    have kt2 : Kept (TP (some ⟨g, o, none⟩) S.wy.length cw) W W2 := by rw [hW2]; exact tp_sets HXW.out (Kept.refl _ _).drew _ _
    have kt3 : Kept (TP (some ⟨g, o, none⟩) S.wy.length cw) W W3 := by rw [hW3]; exact tp_sets HXW.out kt2 _ _
    have HOF : Hid (ShX (famN Gs 10 W W3) (W3.setCell ⟨b, 1, none⟩ (.slice (some ⟨g, o + 5, none⟩) (S.wy.length - 1) (cw - 1))) b hb ch hs (some ⟨g, o + 5, none⟩) (cw - 1) (dropW k S) ∧ Kept (TG (Gs 10)) W (W3.setCell ⟨b, 1, none⟩ (.slice (some ⟨g, o + 5, none⟩) (S.wy.length - 1) (cw - 1)))) := by
      have h := HXW.out.off (o' := o + 5) (c := cw - 1) hk kt3 b2 (by omega) (by unfold maxLen; omega) (by rw [z2, z1]; omega) (fun j hj => by
        rw [g2, if_neg (by simp only [List.length_cons, List.length_nil]; omega), g1, HTL.out]
        by_cases h1 : j < k * 5
        · rw [if_pos (by omega), if_pos h1, pkCells_take, List.getElem?_take, if_pos (by omega)]; congr 1; omega
        · rw [if_neg (by omega), if_neg h1, ← HAT.out _ (by omega)]; congr 1; omega)
      exact h
    have hbg : b ≠ g := fun e => by have := HBW.out; rw [e, hcW] at this; cases this
    have hRg : R ≠ g := fun e => by have := HR.out; omega
    have hAg : A ≠ g := fun e => by have := HA.out; omega
    have HB3 : Hid (W3.heap[b]? = some (.cells #[.slice (some ⟨hb, 0, none⟩) S.n ch, .slice (some ⟨g, o, none⟩) S.wy.length cw] 98 (0, 0))) := kt3.block _ _ HBW.out (fun e => by obtain ⟨_, _, e⟩ := e; cases e)
    have HB2 : Hid (W2.heap[b]? = some (.cells #[.slice (some ⟨hb, 0, none⟩) S.n ch, .slice (some ⟨g, o, none⟩) S.wy.length cw] 98 (0, 0))) := kt2.block _ _ HBW.out (fun e => by obtain ⟨_, _, e⟩ := e; cases e)
    have hTn : ∀ q, q ≠ g → ∀ o', ¬ TP (some ⟨g, o, none⟩) S.wy.length cw q o' := fun q hq o' e => by
      have e1 : g = q := by simpa [Value.ownBlock] using e.1
      exact hq e1.symm
    have HR3 : Hid (W3.heap[R]? = some (.cells #[.int .i64 0, .int .i64 0, .int .i64 0, .bool false, .string ⟨#[]⟩] 34 (0, 0))) := kt3.block _ _ HRW.out (hTn R hRg _)
    have HA3 : Hid (W3.heap[A]? = some (.cells #[.int .i64 p.fr, .int .i64 p.ds, .int .i64 p.nu, .bool p.ak, .string (bs p.bd)] 34 (0, 0))) := kt3.block _ _ HAW.out (hTn A hAg _)
    have hth : W2.there g o 5 := fun j hj => ⟨by rw [blk_cell b1, Array.getElem?_eq_getElem (by omega)]; rfl, blk_free b1 _⟩
    have t2 : W2.cell? ⟨b, 1, none⟩ = some (.slice (some ⟨g, o, none⟩) S.wy.length cw) := blk_at HB2.out 1 rfl
    have t3 : W3.cell? ⟨b, 1, none⟩ = some (.slice (some ⟨g, o, none⟩) S.wy.length cw) := blk_at HB3.out 1 rfl
    have f3 : W3.frozen? ⟨b, 1, none⟩ = false := blk_free HB3.out _
    have hb2l : b < W2.heap.size := lt_of_block HB2.out
    have hb3l : b < W3.heap.size := lt_of_block HB3.out
    have hnR : ∀ i q (o' : Obj), famN Gs 10 W W3 i q → ¬ One R q o' := fun i q o' e e2 => by
      have e2 : q = R := e2
      rw [e2] at e
      rcases famN_sub e with e | e
      · have := HX.out.lt _ _ e; have := HR.out; omega
      · have := lt_of_block HRW.out; omega
    have HNR : Hid (∀ i q (o' : Obj), famN Gs 10 W W3 i q → ¬ One R q o') := hnR
    clear hnR hTn kt2 kt3 g1 g2 b1 z1 z2
    go_upto_region 2 with fail
    rw [← hW, ← HA.out, ← HR.out]
    clear hW
    go_region_law (refine step_copy_runI rfl _ _ 28 28 rfl (.slice (some ⟨g, o + 5, none⟩) (S.wy.length - 1) (cw - 1)) (.slice (some ⟨g, o, none⟩) k cw) (by simp [Act.eval, Act.put]) (by simp [Act.eval, Act.put]) (hcp _ _ _) ?_; rw [← hW2]; clear hW2 hcp)
    all_goals
      go_upto_region 4 with ((with_reducible refine atStore 34 ?_); go_must (refine wpList_store_mid rfl _ _ _ rfl g o #[.int .i64 0, .int .i64 0, .int .i64 0, .bool false, .string ⟨#[]⟩] rfl rfl hth Try.sizePk zeroPk_one ?_); rw [← hW3]; clear hW3)
      go_upto_region 5 with fail
      obtain ⟨W4, hW4⟩ : ∃ W4, W4 = W3.setCell ⟨b, 1, none⟩ (.slice (some ⟨g, o + 5, none⟩) (S.wy.length - 1) (cw - 1)) := ⟨_, rfl⟩
      have HR4 : Hid (W4.heap[R]? = some (.cells #[.int .i64 0, .int .i64 0, .int .i64 0, .bool false, .string ⟨#[]⟩] 34 (0, 0))) := by rw [hW4]; exact blk_other HR3.out (fun e => by have := HR3.out; rw [e, HB3.out] at this; cases this) _
      have HA4 : Hid (W4.heap[A]? = some (.cells #[.int .i64 p.fr, .int .i64 p.ds, .int .i64 p.nu, .bool p.ak, .string (bs p.bd)] 34 (0, 0))) := by rw [hW4]; exact blk_other HA3.out (fun e => by have := HA3.out; rw [e, HB3.out] at this; cases this) _
      rw [← hW4] at HOF ⊢
      clear hW4
      go_wp2_with (first | ((with_reducible refine atLoad 34 ?_); go_must (refine wpList_loadW rfl _ _ rfl _ rfl _ _ _ HA4.out Try.underlying34 rfl Try.sizePk rfl ?_)) | ((with_reducible refine atStore 34 ?_); go_must (refine wpList_storeW rfl _ _ _ rfl _ #[.int .i64 p.fr, .int .i64 p.ds, .int .i64 p.nu, .bool p.ak, .string (bs p.bd)] _ _ rfl rfl HR4.out rfl Try.sizePk rfl (pk_one p) ?_); intro w9 hb9 hk9 hs9))
      refine bodyPost_ret (results_cellW rfl rfl hb9 Try.underlying34 rfl Try.sizePk rfl) rfl ⟨rfl, ?_⟩
      refine ⟨⟨_, _, _, HOF.out.1.keptX hk9 HNR.out, fun j q hq => (famN_sub hq).imp id (Nat.le_trans KW.out.size)⟩, ⟨(hk9.os.trans HOF.out.2.os).trans KW.out.os, (hk9.tape.trans HOF.out.2.tape).trans KW.out.tape, (hk9.output.trans HOF.out.2.output).trans KW.out.output, Nat.le_trans (Nat.le_trans KW.out.size HOF.out.2.size) hk9.size, fun q o' ho hx => hk9.block q o' (HOF.out.2.block q o' (KW.out.block q o' ho (fun e => e)) (fun e => hx ⟨10, e⟩)) (fun e => by
        have e : q = R := e
        have h1 := lt_of_block ho
        have h2 := HR.out
        omega)⟩⟩
end Go.Proofs.Ytpfgnhockfofhaa

/-
  The library's own contracts, laid at this program.
-/
namespace Go.Proofs.Ytpfgnhockfofhaa
open Go.Shelf
def Try.lays169_ren : Go.Shelf.Ren := ⟨fun | 169 => 70 | n => n, fun | 70 => 139 | 9 => 9 | 0 => 0 | 72 => 142 | 37 => 140 | 127 => 160 | 3 => 3 | 5 => 5 | n => n, fun | n => n⟩
theorem Try.lays169 : Go.Proofs.Lays.n169 Try.prog Try.lays169_ren := {
  mixed := by kernel_rfl
  f169 := Try.func70.trans (congrArg some (by kernel_rfl))
  t0 := Try.underlying0
  a0 := Try.isAgg0
  z0 := Try.sizeOf0
  v0 := Try.zeroValue0
  t3 := Try.underlying3
  a3 := Try.isAgg3
  z3 := Try.sizeOf3
  v3 := Try.zeroValue3
  t9 := Try.underlying9
  a9 := Try.isAgg9
  z9 := Try.sizeOf9
  v9 := Try.zeroValue9
  t37 := Try.underlying140
  a37 := Try.isAgg140
  z37 := Try.sizeOf140
  v37 := Try.zeroValue140
  t70 := Try.underlying139
  a70 := Try.isAgg139
  z70 := Try.sizeOf139
  v70 := Try.zeroValue139
  t72 := Try.underlying142
  a72 := Try.isAgg142
  z72 := Try.sizeOf142
  v72 := Try.zeroValue142
  t127 := Try.underlying160
  a127 := Try.isAgg160
  z127 := Try.sizeOf160
  v127 := Try.zeroValue160 }
theorem Try.Builder_Extra_169 : Builder.Extra Try.prog Try.lays169_ren := {
  sizeBuilder := by kernel_rfl
  liesBuilder := by kernel_rfl
  t5 := Try.underlying5
  a5 := Try.isAgg5
  z5 := Try.sizeOf5
  v5 := Try.zeroValue5
  infoByte := by kernel_rfl
  cellsByte := by kernel_rfl
  sizeByte := by kernel_rfl
  neB5 := by decide }
open Go.RowKit in
theorem Try.Builder_String_any (B b : Nat) (l : List UInt8) (w : World) (h : Lib.IsBuilder 142 5 B b (Lib.byteCells l) w) (hBw : B ≤ w.heap.size) :
    Calls Try.prog 70 #[.pointer (some ⟨b, 0, none⟩)] w fun e w' => e = .returned (.string ⟨l.toArray⟩) ∧ Below B w w' := Any.Builder_String_any Try.lays169 Try.Builder_Extra_169 B b l w h hBw

end Go.Proofs.Ytpfgnhockfofhaa
