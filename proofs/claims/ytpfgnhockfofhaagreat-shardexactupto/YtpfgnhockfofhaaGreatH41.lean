/-
  Joined: WSsF.
-/
import Derived.Test.YtpfgnhockfofhaaGreatH38
/-
  The document's shards: a step that moves a span.
-/
namespace Go.Proofs.YtpfgnhockfofhaaGreat
open Go.RowKit

set_option maxRecDepth 100000 in
set_option maxHeartbeats 8000000 in
theorem dy_move_low (K : List (List UInt8)) (M : Nat) (Gs : Nat → Nat → Prop) (b hb ch cw : Nat) (hs : Nat → Nat) (aw : Option Addr) (S T : Sd) (hh ot nn : Int) (ky up vl : List UInt8) (w : World) (x : SyX Gs w b hb ch hs aw cw S) (inv : Inv K M S) (hh0 : isHo S.n hh = true) (hm : mayS ⟨4, hh, ot, nn, ky, up, vl⟩ = true) (ho : ot < 1) (hT : T = S) :
    Calls Tryz.prog 7 #[.pointer (some ⟨b, 0, none⟩), .agg #[.int .i64 4, .int .i64 hh, .int .i64 ot, .int .i64 nn, .string (bs ky), .string (bs up), .string (bs vl)]] w fun e w' => e = .returned (.agg (anC (anE 17))) ∧ SyPost Gs w b hb ch hs T w' := by
  have HIn : Hid (Inv K M S) := inv
  have HX : Hid (SyX Gs w b hb ch hs aw cw S) := x
  obtain ⟨W, hW⟩ : ∃ W, W = (w.alloc (.cells #[.int .i64 4, .int .i64 hh, .int .i64 ot, .int .i64 nn, .string (bs ky), .string (bs up), .string (bs vl)] 34)).alloc (.cells #[.int .i64 0, .int .i64 0, .int .i64 0, .string ⟨#[]⟩, .int .i64 0, .slice none 0 0] 31) := ⟨_, rfl⟩
  obtain ⟨A, HA⟩ : ∃ A : Nat, Hid (A = w.heap.size) := ⟨_, rfl⟩
  obtain ⟨R, HR⟩ : ∃ R : Nat, Hid (R = w.heap.size + 1) := ⟨_, rfl⟩
  have KW : Hid (Kept Nil w W) := by rw [hW]; exact ((Kept.refl _ _).alloc _).alloc _
  have HAW : Hid (W.heap[A]? = some (.cells #[.int .i64 4, .int .i64 hh, .int .i64 ot, .int .i64 nn, .string (bs ky), .string (bs up), .string (bs vl)] 34 (0, 0))) := by rw [hW, HA.out]; exact blk_past (blk_new _ _) _
  have HRW : Hid (W.heap[R]? = some (.cells #[.int .i64 0, .int .i64 0, .int .i64 0, .string ⟨#[]⟩, .int .i64 0, .slice none 0 0] 31 (0, 0))) := by rw [hW, HR.out]; exact blk_new1 w _ _
  have HRB : Hid (w.heap.size ≤ R ∧ R < W.heap.size) := ⟨by rw [HR.out]; omega, lt_of_block HRW.out⟩
  have HXW : Hid (SyX Gs W b hb ch hs aw cw S) := x.kept KW.out
  have p0 : W.cell? ⟨A, 0, none⟩ = some (.int .i64 4) := blk_at HAW.out 0 rfl
  have p1 : W.cell? ⟨A, 1, none⟩ = some (.int .i64 hh) := blk_at HAW.out 1 rfl
  have s0 : W.cell? ⟨b, 0, none⟩ = some (.slice (some ⟨hb, 0, none⟩) S.n ch) := blk_at HXW.out.blk 0 rfl
  have hbW : b < W.heap.size := lt_of_block HXW.out.blk
  have hAW : A < W.heap.size := lt_of_block HAW.out
  rw [hT]
  have hi1 := isHo_iff.1 hh0
  have hn9 := HIn.out.n1.2
  obtain ⟨i, HI⟩ : ∃ i : Nat, Hid (i = hh.toNat - 1) := ⟨_, rfl⟩
  have hi : i < S.n := by rw [HI.out]; omega
  have hii : (i : Int) < (S.n : Int) := by omega
  have hwr : IntKind.i64.wrap (hh - 1) = (i : Int) := by rw [IntKind.wrap_i64]; have := HI.out; omega
  have HHE : Hid (((i + 1 : Nat) : Int) = hh) := by show _ = _; have := HI.out; omega
  have f1 : decide (hh < 1) = false := decide_eq_false (by omega)
  have f2 : decide (hh > (S.n : Int)) = false := decide_eq_false (by omega)
  have f3 : decide ((S.n : Int) < hh) = false := decide_eq_false (by omega)
  obtain ⟨m1, m2, m3, m4⟩ := may_yes hm
  dsimp only at m1 m2 m3 m4
  obtain ⟨em, HEm⟩ : ∃ em, Hid (em = ky.isEmpty) := ⟨_, rfl⟩
  have hemk : (bs ky).toList.isEmpty = em := by rw [bs_toList, HEm.out]
  have hem4 : em = true → (4 : Int) ≤ 4 := fun e => m4 (by rw [← HEm.out]; exact e)
  have sz4 := bs_size ky
  have sz5 := bs_size up
  have sz6 := bs_size vl
  clear m4
  clear hm
  have g1 : decide (ot < 1) = true := decide_eq_true ho
  clear ho
  clear hT
  clear x inv
  go_enter Tryz.func7, Tryz.ntmps7
  go_upto_region 1 with fail
  rw [← hW, ← HR.out, ← HA.out]
  clear hW
  go_upto_region 4 with fail
  clear hh0
  go_quiet (fail)
  rename Nat => nq1
  obtain ⟨U, hU⟩ : ∃ X0, X0 = W.drewN nq1 := ⟨_, rfl⟩
  have KU : Hid (Kept Nil W U) := by rw [hU]; exact (Kept.refl _ _).drewN _
  rw [← hU]
  clear hU
  have HRU : Hid (U.heap[R]? = some (.cells #[.int .i64 0, .int .i64 0, .int .i64 0, .string ⟨#[]⟩, .int .i64 0, .slice none 0 0] 31 (0, 0))) := KU.out.block _ _ HRW.out (fun e => e)
  have HAU : Hid (U.heap[A]? = _) := KU.out.block _ _ HAW.out (fun e => e)
  have HXU : Hid (SyX Gs U b hb ch hs aw cw S) := HXW.out.kept KU.out
  have HRBU : Hid (w.heap.size ≤ R ∧ R < U.heap.size) := ⟨HRB.out.1, lt_of_block HRU.out⟩
  have HKU : Hid (Kept Nil w U) := KW.out.trans KU.out
  clear s0 hbW hAW p0 p1 f1 f2 f3
  have u0 := blk_at HAU.out 0 rfl
  have u4 := blk_at HAU.out 4 rfl
  have u5 := blk_at HAU.out 5 rfl
  have u6 := blk_at HAU.out 6 rfl
  go_upto_region 6 with fail
  go_cut [55] (fun x wc => x = .bool false ∧ Hid (U = wc))
  case first =>
    cases em with
    | true =>
      have h4 := hem4 rfl
      clear hem4
      go_wp2
      go_meet
      exact ⟨by first | rfl | (rw [d16 m1, d16 m2, d64 m3]; rfl), rfl⟩
    | false =>
      clear hem4
      go_wp2
      go_meet
      exact ⟨by first | rfl | (rw [d16 m1, d16 m2, d64 m3]; rfl), rfl⟩
  case rest =>
    rename World => wz
    obtain ⟨rfl, HWZ⟩ := hcut
    have hwz := HWZ.out
    clear HWZ
    subst hwz
    clear u4 u5 u6 u0 hemk hem4 sz4 sz5 sz6
    (try apply_assumption)
    have s0 : U.cell? ⟨b, 0, none⟩ = some (.slice (some ⟨hb, 0, none⟩) S.n ch) := blk_at HXU.out.blk 0 rfl
    have r1 : U.cell? ⟨A, 1, none⟩ = some (.int .i64 hh) := blk_at HAU.out 1 rfl
    have r0 : U.cell? ⟨hb, i, none⟩ = some (.pointer (some ⟨hs i, 0, none⟩)) := HXU.out.at hi
    have hb7 : b < U.heap.size := lt_of_block HXU.out.blk
    have hA7 : A < U.heap.size := lt_of_block HAU.out
    have hh7 : hb < U.heap.size := World.block_lt_of_cell? U _ r0
    go_upto_region 8 with fail
    go_quiet (fail)
    rename Nat => nq2
    obtain ⟨V, hV⟩ : ∃ X0, X0 = U.drewN nq2 := ⟨_, rfl⟩
    have KV : Hid (Kept Nil U V) := by rw [hV]; exact (Kept.refl _ _).drewN _
    rw [← hV]
    clear hV
    have HRV : Hid (V.heap[R]? = some (.cells #[.int .i64 0, .int .i64 0, .int .i64 0, .string ⟨#[]⟩, .int .i64 0, .slice none 0 0] 31 (0, 0))) := KV.out.block _ _ HRU.out (fun e => e)
    have HAV : Hid (V.heap[A]? = _) := KV.out.block _ _ HAU.out (fun e => e)
    have HXV : Hid (SyX Gs V b hb ch hs aw cw S) := HXU.out.kept KV.out
    have HRBV : Hid (w.heap.size ≤ R ∧ R < V.heap.size) := ⟨HRB.out.1, lt_of_block HRV.out⟩
    have HKV : Hid (Kept Nil w V) := HKU.out.trans KV.out
    clear s0 r1 r0 hb7 hA7 hh7
    have v0 := blk_at HAV.out 0 rfl
    have v1 := blk_at HAV.out 1 rfl
    have v2 := blk_at HAV.out 2 rfl
    have vs : V.cell? ⟨b, 0, none⟩ = some (.slice (some ⟨hb, 0, none⟩) S.n ch) := blk_at HXV.out.blk 0 rfl
    have hbV : b < V.heap.size := lt_of_block HXV.out.blk
    have hAV : A < V.heap.size := lt_of_block HAV.out
    go_upto_region 18 with fail
    go_quiet (fail)
    rename Nat => nq3
    obtain ⟨Y, hY⟩ : ∃ X0, X0 = V.drewN nq3 := ⟨_, rfl⟩
    have KY : Hid (Kept Nil V Y) := by rw [hY]; exact (Kept.refl _ _).drewN _
    rw [← hY]
    clear hY
    have HRY : Hid (Y.heap[R]? = some (.cells #[.int .i64 0, .int .i64 0, .int .i64 0, .string ⟨#[]⟩, .int .i64 0, .slice none 0 0] 31 (0, 0))) := KY.out.block _ _ HRV.out (fun e => e)
    have HAY : Hid (Y.heap[A]? = _) := KY.out.block _ _ HAV.out (fun e => e)
    have HXY : Hid (SyX Gs Y b hb ch hs aw cw S) := HXV.out.kept KY.out
    have HRBY : Hid (w.heap.size ≤ R ∧ R < Y.heap.size) := ⟨HRB.out.1, lt_of_block HRY.out⟩
    have HKY : Hid (Kept Nil w Y) := HKV.out.trans KY.out
    clear vs hbV hAV v0 v1 v2
    go_wp2_with ((with_reducible refine atStore 31 ?_); go_must (refine wpList_storeW rfl _ _ _ rfl _ (anC (anE 17)) _ _ rfl rfl HRY.out rfl Tryz.sizeAn rfl (anC_one _) ?_); intro w9 hb9 hk9 hs9)
    refine bodyPost_ret (results_cellW rfl rfl hb9 Tryz.underlying31 rfl Tryz.sizeAn rfl) rfl ⟨rfl, ?_⟩
    exact SyPost.done HX.out.lt HKY.out HRBY.out.1 HRBY.out.2 (SyPost.same HXY.out (Kept.refl _ _)) hk9
set_option maxRecDepth 100000 in
set_option maxHeartbeats 8000000 in
theorem dy_move_high (K : List (List UInt8)) (M : Nat) (Gs : Nat → Nat → Prop) (b hb ch cw : Nat) (hs : Nat → Nat) (aw : Option Addr) (S T : Sd) (hh ot nn : Int) (ky up vl : List UInt8) (w : World) (x : SyX Gs w b hb ch hs aw cw S) (inv : Inv K M S) (hh0 : isHo S.n hh = true) (hm : mayS ⟨4, hh, ot, nn, ky, up, vl⟩ = true) (ho : ¬ ot < 1) (ho2 : (S.n : Int) < ot) (hT : T = S) :
    Calls Tryz.prog 7 #[.pointer (some ⟨b, 0, none⟩), .agg #[.int .i64 4, .int .i64 hh, .int .i64 ot, .int .i64 nn, .string (bs ky), .string (bs up), .string (bs vl)]] w fun e w' => e = .returned (.agg (anC (anE 17))) ∧ SyPost Gs w b hb ch hs T w' := by
  have HIn : Hid (Inv K M S) := inv
  have HX : Hid (SyX Gs w b hb ch hs aw cw S) := x
  obtain ⟨W, hW⟩ : ∃ W, W = (w.alloc (.cells #[.int .i64 4, .int .i64 hh, .int .i64 ot, .int .i64 nn, .string (bs ky), .string (bs up), .string (bs vl)] 34)).alloc (.cells #[.int .i64 0, .int .i64 0, .int .i64 0, .string ⟨#[]⟩, .int .i64 0, .slice none 0 0] 31) := ⟨_, rfl⟩
  obtain ⟨A, HA⟩ : ∃ A : Nat, Hid (A = w.heap.size) := ⟨_, rfl⟩
  obtain ⟨R, HR⟩ : ∃ R : Nat, Hid (R = w.heap.size + 1) := ⟨_, rfl⟩
  have KW : Hid (Kept Nil w W) := by rw [hW]; exact ((Kept.refl _ _).alloc _).alloc _
  have HAW : Hid (W.heap[A]? = some (.cells #[.int .i64 4, .int .i64 hh, .int .i64 ot, .int .i64 nn, .string (bs ky), .string (bs up), .string (bs vl)] 34 (0, 0))) := by rw [hW, HA.out]; exact blk_past (blk_new _ _) _
  have HRW : Hid (W.heap[R]? = some (.cells #[.int .i64 0, .int .i64 0, .int .i64 0, .string ⟨#[]⟩, .int .i64 0, .slice none 0 0] 31 (0, 0))) := by rw [hW, HR.out]; exact blk_new1 w _ _
  have HRB : Hid (w.heap.size ≤ R ∧ R < W.heap.size) := ⟨by rw [HR.out]; omega, lt_of_block HRW.out⟩
  have HXW : Hid (SyX Gs W b hb ch hs aw cw S) := x.kept KW.out
  have p0 : W.cell? ⟨A, 0, none⟩ = some (.int .i64 4) := blk_at HAW.out 0 rfl
  have p1 : W.cell? ⟨A, 1, none⟩ = some (.int .i64 hh) := blk_at HAW.out 1 rfl
  have s0 : W.cell? ⟨b, 0, none⟩ = some (.slice (some ⟨hb, 0, none⟩) S.n ch) := blk_at HXW.out.blk 0 rfl
  have hbW : b < W.heap.size := lt_of_block HXW.out.blk
  have hAW : A < W.heap.size := lt_of_block HAW.out
  rw [hT]
  have hi1 := isHo_iff.1 hh0
  have hn9 := HIn.out.n1.2
  obtain ⟨i, HI⟩ : ∃ i : Nat, Hid (i = hh.toNat - 1) := ⟨_, rfl⟩
  have hi : i < S.n := by rw [HI.out]; omega
  have hii : (i : Int) < (S.n : Int) := by omega
  have hwr : IntKind.i64.wrap (hh - 1) = (i : Int) := by rw [IntKind.wrap_i64]; have := HI.out; omega
  have HHE : Hid (((i + 1 : Nat) : Int) = hh) := by show _ = _; have := HI.out; omega
  have f1 : decide (hh < 1) = false := decide_eq_false (by omega)
  have f2 : decide (hh > (S.n : Int)) = false := decide_eq_false (by omega)
  have f3 : decide ((S.n : Int) < hh) = false := decide_eq_false (by omega)
  obtain ⟨m1, m2, m3, m4⟩ := may_yes hm
  dsimp only at m1 m2 m3 m4
  obtain ⟨em, HEm⟩ : ∃ em, Hid (em = ky.isEmpty) := ⟨_, rfl⟩
  have hemk : (bs ky).toList.isEmpty = em := by rw [bs_toList, HEm.out]
  have hem4 : em = true → (4 : Int) ≤ 4 := fun e => m4 (by rw [← HEm.out]; exact e)
  have sz4 := bs_size ky
  have sz5 := bs_size up
  have sz6 := bs_size vl
  clear m4
  clear hm
  have g1 : decide (ot < 1) = false := decide_eq_false ho
  have g2 : decide ((S.n : Int) < ot) = true := decide_eq_true ho2
  have g3 : decide (ot > (S.n : Int)) = true := decide_eq_true ho2
  clear ho ho2
  clear hT
  clear x inv
  go_enter Tryz.func7, Tryz.ntmps7
  go_upto_region 1 with fail
  rw [← hW, ← HR.out, ← HA.out]
  clear hW
  go_upto_region 4 with fail
  clear hh0
  go_quiet (fail)
  rename Nat => nq1
  obtain ⟨U, hU⟩ : ∃ X0, X0 = W.drewN nq1 := ⟨_, rfl⟩
  have KU : Hid (Kept Nil W U) := by rw [hU]; exact (Kept.refl _ _).drewN _
  rw [← hU]
  clear hU
  have HRU : Hid (U.heap[R]? = some (.cells #[.int .i64 0, .int .i64 0, .int .i64 0, .string ⟨#[]⟩, .int .i64 0, .slice none 0 0] 31 (0, 0))) := KU.out.block _ _ HRW.out (fun e => e)
  have HAU : Hid (U.heap[A]? = _) := KU.out.block _ _ HAW.out (fun e => e)
  have HXU : Hid (SyX Gs U b hb ch hs aw cw S) := HXW.out.kept KU.out
  have HRBU : Hid (w.heap.size ≤ R ∧ R < U.heap.size) := ⟨HRB.out.1, lt_of_block HRU.out⟩
  have HKU : Hid (Kept Nil w U) := KW.out.trans KU.out
  clear s0 hbW hAW p0 p1 f1 f2 f3
  have u0 := blk_at HAU.out 0 rfl
  have u4 := blk_at HAU.out 4 rfl
  have u5 := blk_at HAU.out 5 rfl
  have u6 := blk_at HAU.out 6 rfl
  go_upto_region 6 with fail
  go_cut [55] (fun x wc => x = .bool false ∧ Hid (U = wc))
  case first =>
    cases em with
    | true =>
      have h4 := hem4 rfl
      clear hem4
      go_wp2
      go_meet
      exact ⟨by first | rfl | (rw [d16 m1, d16 m2, d64 m3]; rfl), rfl⟩
    | false =>
      clear hem4
      go_wp2
      go_meet
      exact ⟨by first | rfl | (rw [d16 m1, d16 m2, d64 m3]; rfl), rfl⟩
  case rest =>
    rename World => wz
    obtain ⟨rfl, HWZ⟩ := hcut
    have hwz := HWZ.out
    clear HWZ
    subst hwz
    clear u4 u5 u6 u0 hemk hem4 sz4 sz5 sz6
    (try apply_assumption)
    have s0 : U.cell? ⟨b, 0, none⟩ = some (.slice (some ⟨hb, 0, none⟩) S.n ch) := blk_at HXU.out.blk 0 rfl
    have r1 : U.cell? ⟨A, 1, none⟩ = some (.int .i64 hh) := blk_at HAU.out 1 rfl
    have r0 : U.cell? ⟨hb, i, none⟩ = some (.pointer (some ⟨hs i, 0, none⟩)) := HXU.out.at hi
    have hb7 : b < U.heap.size := lt_of_block HXU.out.blk
    have hA7 : A < U.heap.size := lt_of_block HAU.out
    have hh7 : hb < U.heap.size := World.block_lt_of_cell? U _ r0
    go_upto_region 8 with fail
    go_quiet (fail)
    rename Nat => nq2
    obtain ⟨V, hV⟩ : ∃ X0, X0 = U.drewN nq2 := ⟨_, rfl⟩
    have KV : Hid (Kept Nil U V) := by rw [hV]; exact (Kept.refl _ _).drewN _
    rw [← hV]
    clear hV
    have HRV : Hid (V.heap[R]? = some (.cells #[.int .i64 0, .int .i64 0, .int .i64 0, .string ⟨#[]⟩, .int .i64 0, .slice none 0 0] 31 (0, 0))) := KV.out.block _ _ HRU.out (fun e => e)
    have HAV : Hid (V.heap[A]? = _) := KV.out.block _ _ HAU.out (fun e => e)
    have HXV : Hid (SyX Gs V b hb ch hs aw cw S) := HXU.out.kept KV.out
    have HRBV : Hid (w.heap.size ≤ R ∧ R < V.heap.size) := ⟨HRB.out.1, lt_of_block HRV.out⟩
    have HKV : Hid (Kept Nil w V) := HKU.out.trans KV.out
    clear s0 r1 r0 hb7 hA7 hh7
    have v0 := blk_at HAV.out 0 rfl
    have v1 := blk_at HAV.out 1 rfl
    have v2 := blk_at HAV.out 2 rfl
    have vs : V.cell? ⟨b, 0, none⟩ = some (.slice (some ⟨hb, 0, none⟩) S.n ch) := blk_at HXV.out.blk 0 rfl
    have hbV : b < V.heap.size := lt_of_block HXV.out.blk
    have hAV : A < V.heap.size := lt_of_block HAV.out
    go_upto_region 18 with fail
    go_quiet (fail)
    rename Nat => nq3
    obtain ⟨Y, hY⟩ : ∃ X0, X0 = V.drewN nq3 := ⟨_, rfl⟩
    have KY : Hid (Kept Nil V Y) := by rw [hY]; exact (Kept.refl _ _).drewN _
    rw [← hY]
    clear hY
    have HRY : Hid (Y.heap[R]? = some (.cells #[.int .i64 0, .int .i64 0, .int .i64 0, .string ⟨#[]⟩, .int .i64 0, .slice none 0 0] 31 (0, 0))) := KY.out.block _ _ HRV.out (fun e => e)
    have HAY : Hid (Y.heap[A]? = _) := KY.out.block _ _ HAV.out (fun e => e)
    have HXY : Hid (SyX Gs Y b hb ch hs aw cw S) := HXV.out.kept KY.out
    have HRBY : Hid (w.heap.size ≤ R ∧ R < Y.heap.size) := ⟨HRB.out.1, lt_of_block HRY.out⟩
    have HKY : Hid (Kept Nil w Y) := HKV.out.trans KY.out
    clear vs hbV hAV v0 v1 v2
    go_wp2_with ((with_reducible refine atStore 31 ?_); go_must (refine wpList_storeW rfl _ _ _ rfl _ (anC (anE 17)) _ _ rfl rfl HRY.out rfl Tryz.sizeAn rfl (anC_one _) ?_); intro w9 hb9 hk9 hs9)
    refine bodyPost_ret (results_cellW rfl rfl hb9 Tryz.underlying31 rfl Tryz.sizeAn rfl) rfl ⟨rfl, ?_⟩
    exact SyPost.done HX.out.lt HKY.out HRBY.out.1 HRBY.out.2 (SyPost.same HXY.out (Kept.refl _ _)) hk9
set_option maxRecDepth 100000 in
set_option maxHeartbeats 8000000 in
theorem dy_move_same (K : List (List UInt8)) (M : Nat) (Gs : Nat → Nat → Prop) (b hb ch cw : Nat) (hs : Nat → Nat) (aw : Option Addr) (S T : Sd) (hh ot nn : Int) (ky up vl : List UInt8) (w : World) (x : SyX Gs w b hb ch hs aw cw S) (inv : Inv K M S) (hh0 : isHo S.n hh = true) (hm : mayS ⟨4, hh, ot, nn, ky, up, vl⟩ = true) (ho : 1 ≤ ot) (ho2 : ot ≤ (S.n : Int)) (ho3 : ot = hh) (hT : T = S) :
    Calls Tryz.prog 7 #[.pointer (some ⟨b, 0, none⟩), .agg #[.int .i64 4, .int .i64 hh, .int .i64 ot, .int .i64 nn, .string (bs ky), .string (bs up), .string (bs vl)]] w fun e w' => e = .returned (.agg (anC (anE 17))) ∧ SyPost Gs w b hb ch hs T w' := by
  have HIn : Hid (Inv K M S) := inv
  have HX : Hid (SyX Gs w b hb ch hs aw cw S) := x
  obtain ⟨W, hW⟩ : ∃ W, W = (w.alloc (.cells #[.int .i64 4, .int .i64 hh, .int .i64 ot, .int .i64 nn, .string (bs ky), .string (bs up), .string (bs vl)] 34)).alloc (.cells #[.int .i64 0, .int .i64 0, .int .i64 0, .string ⟨#[]⟩, .int .i64 0, .slice none 0 0] 31) := ⟨_, rfl⟩
  obtain ⟨A, HA⟩ : ∃ A : Nat, Hid (A = w.heap.size) := ⟨_, rfl⟩
  obtain ⟨R, HR⟩ : ∃ R : Nat, Hid (R = w.heap.size + 1) := ⟨_, rfl⟩
  have KW : Hid (Kept Nil w W) := by rw [hW]; exact ((Kept.refl _ _).alloc _).alloc _
  have HAW : Hid (W.heap[A]? = some (.cells #[.int .i64 4, .int .i64 hh, .int .i64 ot, .int .i64 nn, .string (bs ky), .string (bs up), .string (bs vl)] 34 (0, 0))) := by rw [hW, HA.out]; exact blk_past (blk_new _ _) _
  have HRW : Hid (W.heap[R]? = some (.cells #[.int .i64 0, .int .i64 0, .int .i64 0, .string ⟨#[]⟩, .int .i64 0, .slice none 0 0] 31 (0, 0))) := by rw [hW, HR.out]; exact blk_new1 w _ _
  have HRB : Hid (w.heap.size ≤ R ∧ R < W.heap.size) := ⟨by rw [HR.out]; omega, lt_of_block HRW.out⟩
  have HXW : Hid (SyX Gs W b hb ch hs aw cw S) := x.kept KW.out
  have p0 : W.cell? ⟨A, 0, none⟩ = some (.int .i64 4) := blk_at HAW.out 0 rfl
  have p1 : W.cell? ⟨A, 1, none⟩ = some (.int .i64 hh) := blk_at HAW.out 1 rfl
  have s0 : W.cell? ⟨b, 0, none⟩ = some (.slice (some ⟨hb, 0, none⟩) S.n ch) := blk_at HXW.out.blk 0 rfl
  have hbW : b < W.heap.size := lt_of_block HXW.out.blk
  have hAW : A < W.heap.size := lt_of_block HAW.out
  rw [hT]
  have hi1 := isHo_iff.1 hh0
  have hn9 := HIn.out.n1.2
  obtain ⟨i, HI⟩ : ∃ i : Nat, Hid (i = hh.toNat - 1) := ⟨_, rfl⟩
  have hi : i < S.n := by rw [HI.out]; omega
  have hii : (i : Int) < (S.n : Int) := by omega
  have hwr : IntKind.i64.wrap (hh - 1) = (i : Int) := by rw [IntKind.wrap_i64]; have := HI.out; omega
  have HHE : Hid (((i + 1 : Nat) : Int) = hh) := by show _ = _; have := HI.out; omega
  have f1 : decide (hh < 1) = false := decide_eq_false (by omega)
  have f2 : decide (hh > (S.n : Int)) = false := decide_eq_false (by omega)
  have f3 : decide ((S.n : Int) < hh) = false := decide_eq_false (by omega)
  obtain ⟨m1, m2, m3, m4⟩ := may_yes hm
  dsimp only at m1 m2 m3 m4
  obtain ⟨em, HEm⟩ : ∃ em, Hid (em = ky.isEmpty) := ⟨_, rfl⟩
  have hemk : (bs ky).toList.isEmpty = em := by rw [bs_toList, HEm.out]
  have hem4 : em = true → (4 : Int) ≤ 4 := fun e => m4 (by rw [← HEm.out]; exact e)
  have sz4 := bs_size ky
  have sz5 := bs_size up
  have sz6 := bs_size vl
  clear m4
  clear hm
  have g1 : decide (ot < 1) = false := decide_eq_false (by omega)
  have g2 : decide ((S.n : Int) < ot) = false := decide_eq_false (by omega)
  have g3 : decide (ot > (S.n : Int)) = false := decide_eq_false (by omega)
  have g4 : (ot == hh) = true := by simp [ho3]
  have g5 : (hh == ot) = true := by simp [ho3]
  clear ho ho2 ho3
  clear hT
  clear x inv
  go_enter Tryz.func7, Tryz.ntmps7
  go_upto_region 1 with fail
  rw [← hW, ← HR.out, ← HA.out]
  clear hW
  go_upto_region 4 with fail
  clear hh0
  go_quiet (fail)
  rename Nat => nq1
  obtain ⟨U, hU⟩ : ∃ X0, X0 = W.drewN nq1 := ⟨_, rfl⟩
  have KU : Hid (Kept Nil W U) := by rw [hU]; exact (Kept.refl _ _).drewN _
  rw [← hU]
  clear hU
  have HRU : Hid (U.heap[R]? = some (.cells #[.int .i64 0, .int .i64 0, .int .i64 0, .string ⟨#[]⟩, .int .i64 0, .slice none 0 0] 31 (0, 0))) := KU.out.block _ _ HRW.out (fun e => e)
  have HAU : Hid (U.heap[A]? = _) := KU.out.block _ _ HAW.out (fun e => e)
  have HXU : Hid (SyX Gs U b hb ch hs aw cw S) := HXW.out.kept KU.out
  have HRBU : Hid (w.heap.size ≤ R ∧ R < U.heap.size) := ⟨HRB.out.1, lt_of_block HRU.out⟩
  have HKU : Hid (Kept Nil w U) := KW.out.trans KU.out
  clear s0 hbW hAW p0 p1 f1 f2 f3
  have u0 := blk_at HAU.out 0 rfl
  have u4 := blk_at HAU.out 4 rfl
  have u5 := blk_at HAU.out 5 rfl
  have u6 := blk_at HAU.out 6 rfl
  go_upto_region 6 with fail
  go_cut [55] (fun x wc => x = .bool false ∧ Hid (U = wc))
  case first =>
    cases em with
    | true =>
      have h4 := hem4 rfl
      clear hem4
      go_wp2
      go_meet
      exact ⟨by first | rfl | (rw [d16 m1, d16 m2, d64 m3]; rfl), rfl⟩
    | false =>
      clear hem4
      go_wp2
      go_meet
      exact ⟨by first | rfl | (rw [d16 m1, d16 m2, d64 m3]; rfl), rfl⟩
  case rest =>
    rename World => wz
    obtain ⟨rfl, HWZ⟩ := hcut
    have hwz := HWZ.out
    clear HWZ
    subst hwz
    clear u4 u5 u6 u0 hemk hem4 sz4 sz5 sz6
    (try apply_assumption)
    have s0 : U.cell? ⟨b, 0, none⟩ = some (.slice (some ⟨hb, 0, none⟩) S.n ch) := blk_at HXU.out.blk 0 rfl
    have r1 : U.cell? ⟨A, 1, none⟩ = some (.int .i64 hh) := blk_at HAU.out 1 rfl
    have r0 : U.cell? ⟨hb, i, none⟩ = some (.pointer (some ⟨hs i, 0, none⟩)) := HXU.out.at hi
    have hb7 : b < U.heap.size := lt_of_block HXU.out.blk
    have hA7 : A < U.heap.size := lt_of_block HAU.out
    have hh7 : hb < U.heap.size := World.block_lt_of_cell? U _ r0
    go_upto_region 8 with fail
    go_quiet (fail)
    rename Nat => nq2
    obtain ⟨V, hV⟩ : ∃ X0, X0 = U.drewN nq2 := ⟨_, rfl⟩
    have KV : Hid (Kept Nil U V) := by rw [hV]; exact (Kept.refl _ _).drewN _
    rw [← hV]
    clear hV
    have HRV : Hid (V.heap[R]? = some (.cells #[.int .i64 0, .int .i64 0, .int .i64 0, .string ⟨#[]⟩, .int .i64 0, .slice none 0 0] 31 (0, 0))) := KV.out.block _ _ HRU.out (fun e => e)
    have HAV : Hid (V.heap[A]? = _) := KV.out.block _ _ HAU.out (fun e => e)
    have HXV : Hid (SyX Gs V b hb ch hs aw cw S) := HXU.out.kept KV.out
    have HRBV : Hid (w.heap.size ≤ R ∧ R < V.heap.size) := ⟨HRB.out.1, lt_of_block HRV.out⟩
    have HKV : Hid (Kept Nil w V) := HKU.out.trans KV.out
    clear s0 r1 r0 hb7 hA7 hh7
    have v0 := blk_at HAV.out 0 rfl
    have v1 := blk_at HAV.out 1 rfl
    have v2 := blk_at HAV.out 2 rfl
    have vs : V.cell? ⟨b, 0, none⟩ = some (.slice (some ⟨hb, 0, none⟩) S.n ch) := blk_at HXV.out.blk 0 rfl
    have hbV : b < V.heap.size := lt_of_block HXV.out.blk
    have hAV : A < V.heap.size := lt_of_block HAV.out
    go_upto_region 18 with fail
    go_quiet (fail)
    rename Nat => nq3
    obtain ⟨Y, hY⟩ : ∃ X0, X0 = V.drewN nq3 := ⟨_, rfl⟩
    have KY : Hid (Kept Nil V Y) := by rw [hY]; exact (Kept.refl _ _).drewN _
    rw [← hY]
    clear hY
    have HRY : Hid (Y.heap[R]? = some (.cells #[.int .i64 0, .int .i64 0, .int .i64 0, .string ⟨#[]⟩, .int .i64 0, .slice none 0 0] 31 (0, 0))) := KY.out.block _ _ HRV.out (fun e => e)
    have HAY : Hid (Y.heap[A]? = _) := KY.out.block _ _ HAV.out (fun e => e)
    have HXY : Hid (SyX Gs Y b hb ch hs aw cw S) := HXV.out.kept KY.out
    have HRBY : Hid (w.heap.size ≤ R ∧ R < Y.heap.size) := ⟨HRB.out.1, lt_of_block HRY.out⟩
    have HKY : Hid (Kept Nil w Y) := HKV.out.trans KY.out
    clear vs hbV hAV v0 v1 v2
    go_wp2_with ((with_reducible refine atStore 31 ?_); go_must (refine wpList_storeW rfl _ _ _ rfl _ (anC (anE 17)) _ _ rfl rfl HRY.out rfl Tryz.sizeAn rfl (anC_one _) ?_); intro w9 hb9 hk9 hs9)
    refine bodyPost_ret (results_cellW rfl rfl hb9 Tryz.underlying31 rfl Tryz.sizeAn rfl) rfl ⟨rfl, ?_⟩
    exact SyPost.done HX.out.lt HKY.out HRBY.out.1 HRBY.out.2 (SyPost.same HXY.out (Kept.refl _ _)) hk9
set_option maxRecDepth 100000 in
set_option maxHeartbeats 8000000 in
theorem dy_move (K : List (List UInt8)) (M : Nat) (Gs : Nat → Nat → Prop) (b hb ch cw : Nat) (hs : Nat → Nat) (aw : Option Addr) (S T : Sd) (hh ot nn : Int) (ky up vl : List UInt8) (w : World) (x : SyX Gs w b hb ch hs aw cw S) (inv : Inv K M S) (hM : M ≤ 1900000) (hh0 : isHo S.n hh = true) (hm : mayS ⟨4, hh, ot, nn, ky, up, vl⟩ = true) (ho : isHo S.n ot = true) (hne : ¬ ot = hh) (er : Int) (i : Nat) (hI : i = hh.toNat - 1) (he : er = (giveHd hh ky up ot.toNat (S.ho i)).1) (hT : T = putH S i (giveHd hh ky up ot.toNat (S.ho i)).2) :
    Calls Tryz.prog 7 #[.pointer (some ⟨b, 0, none⟩), .agg #[.int .i64 4, .int .i64 hh, .int .i64 ot, .int .i64 nn, .string (bs ky), .string (bs up), .string (bs vl)]] w fun e w' => e = .returned (.agg (anC ⟨er, hh, 0, []⟩)) ∧ SyPost Gs w b hb ch hs T w' := by
  have HIn : Hid (Inv K M S) := inv
  have HX : Hid (SyX Gs w b hb ch hs aw cw S) := x
  obtain ⟨W, hW⟩ : ∃ W, W = (w.alloc (.cells #[.int .i64 4, .int .i64 hh, .int .i64 ot, .int .i64 nn, .string (bs ky), .string (bs up), .string (bs vl)] 34)).alloc (.cells #[.int .i64 0, .int .i64 0, .int .i64 0, .string ⟨#[]⟩, .int .i64 0, .slice none 0 0] 31) := ⟨_, rfl⟩
  obtain ⟨A, HA⟩ : ∃ A : Nat, Hid (A = w.heap.size) := ⟨_, rfl⟩
  obtain ⟨R, HR⟩ : ∃ R : Nat, Hid (R = w.heap.size + 1) := ⟨_, rfl⟩
  have KW : Hid (Kept Nil w W) := by rw [hW]; exact ((Kept.refl _ _).alloc _).alloc _
  have HAW : Hid (W.heap[A]? = some (.cells #[.int .i64 4, .int .i64 hh, .int .i64 ot, .int .i64 nn, .string (bs ky), .string (bs up), .string (bs vl)] 34 (0, 0))) := by rw [hW, HA.out]; exact blk_past (blk_new _ _) _
  have HRW : Hid (W.heap[R]? = some (.cells #[.int .i64 0, .int .i64 0, .int .i64 0, .string ⟨#[]⟩, .int .i64 0, .slice none 0 0] 31 (0, 0))) := by rw [hW, HR.out]; exact blk_new1 w _ _
  have HRB : Hid (w.heap.size ≤ R ∧ R < W.heap.size) := ⟨by rw [HR.out]; omega, lt_of_block HRW.out⟩
  have HXW : Hid (SyX Gs W b hb ch hs aw cw S) := x.kept KW.out
  have p0 : W.cell? ⟨A, 0, none⟩ = some (.int .i64 4) := blk_at HAW.out 0 rfl
  have p1 : W.cell? ⟨A, 1, none⟩ = some (.int .i64 hh) := blk_at HAW.out 1 rfl
  have s0 : W.cell? ⟨b, 0, none⟩ = some (.slice (some ⟨hb, 0, none⟩) S.n ch) := blk_at HXW.out.blk 0 rfl
  have hbW : b < W.heap.size := lt_of_block HXW.out.blk
  have hAW : A < W.heap.size := lt_of_block HAW.out
  have HEE : Hid (er = (giveHd hh ky up ot.toNat (S.ho i)).1) := he
  have HTE : Hid (T = putH S i (giveHd hh ky up ot.toNat (S.ho i)).2) := hT
  have hot := isHo_iff.1 ho
  obtain ⟨d, HD⟩ : ∃ d, Hid (d = ot.toNat) := ⟨_, rfl⟩
  have HDO : Hid (((d : Nat) : Int) = ot) := by show _ = _; have := HD.out; omega
  have hi1 := isHo_iff.1 hh0
  have hn9 := HIn.out.n1.2
  have HI : Hid (i = hh.toNat - 1) := hI
  have hi : i < S.n := by rw [HI.out]; omega
  have hii : (i : Int) < (S.n : Int) := by omega
  have hwr : IntKind.i64.wrap (hh - 1) = (i : Int) := by rw [IntKind.wrap_i64]; have := HI.out; omega
  have HHE : Hid (((i + 1 : Nat) : Int) = hh) := by show _ = _; have := HI.out; omega
  have f1 : decide (hh < 1) = false := decide_eq_false (by omega)
  have f2 : decide (hh > (S.n : Int)) = false := decide_eq_false (by omega)
  have f3 : decide ((S.n : Int) < hh) = false := decide_eq_false (by omega)
  have hd9 : d < 10 := by have := HD.out; omega
  have HOT : Hid (isOth hh ot = true) := by
    show isOth hh ot = true
    unfold isOth
    rw [nd_of hn9 hot, decide_eq_false hne]
    rfl
  obtain ⟨m1, m2, m3, m4⟩ := may_yes hm
  dsimp only at m1 m2 m3 m4
  obtain ⟨em, HEm⟩ : ∃ em, Hid (em = ky.isEmpty) := ⟨_, rfl⟩
  have hemk : (bs ky).toList.isEmpty = em := by rw [bs_toList, HEm.out]
  have hem4 : em = true → (4 : Int) ≤ 4 := fun e => m4 (by rw [← HEm.out]; exact e)
  have sz4 := bs_size ky
  have sz5 := bs_size up
  have sz6 := bs_size vl
  clear m4
  clear hm
  have HML : Hid (ky.length ≤ 16 ∧ up.length ≤ 16) := ⟨m1, m2⟩
  have g1 : decide (ot < 1) = false := decide_eq_false (by omega)
  have g2 : decide ((S.n : Int) < ot) = false := decide_eq_false (by omega)
  have g3 : decide (ot > (S.n : Int)) = false := decide_eq_false (by omega)
  have g4 : (ot == hh) = false := beq_eq_false_iff_ne.2 hne
  have g5 : (hh == ot) = false := beq_eq_false_iff_ne.2 (fun e => hne e.symm)
  clear hI hT he ho hot hne
  clear x inv
  go_enter Tryz.func7, Tryz.ntmps7
  go_upto_region 1 with fail
  rw [← hW, ← HR.out, ← HA.out]
  clear hW
  go_upto_region 4 with fail
  clear hh0
  go_quiet (fail)
  rename Nat => nq1
  obtain ⟨U, hU⟩ : ∃ X0, X0 = W.drewN nq1 := ⟨_, rfl⟩
  have KU : Hid (Kept Nil W U) := by rw [hU]; exact (Kept.refl _ _).drewN _
  rw [← hU]
  clear hU
  have HRU : Hid (U.heap[R]? = some (.cells #[.int .i64 0, .int .i64 0, .int .i64 0, .string ⟨#[]⟩, .int .i64 0, .slice none 0 0] 31 (0, 0))) := KU.out.block _ _ HRW.out (fun e => e)
  have HAU : Hid (U.heap[A]? = _) := KU.out.block _ _ HAW.out (fun e => e)
  have HXU : Hid (SyX Gs U b hb ch hs aw cw S) := HXW.out.kept KU.out
  have HRBU : Hid (w.heap.size ≤ R ∧ R < U.heap.size) := ⟨HRB.out.1, lt_of_block HRU.out⟩
  have HKU : Hid (Kept Nil w U) := KW.out.trans KU.out
  clear s0 hbW hAW p0 p1 f1 f2 f3
  have u0 := blk_at HAU.out 0 rfl
  have u4 := blk_at HAU.out 4 rfl
  have u5 := blk_at HAU.out 5 rfl
  have u6 := blk_at HAU.out 6 rfl
  go_upto_region 6 with fail
  go_cut [55] (fun x wc => x = .bool false ∧ Hid (U = wc))
  case first =>
    cases em with
    | true =>
      have h4 := hem4 rfl
      clear hem4
      go_wp2
      go_meet
      exact ⟨by first | rfl | (rw [d16 m1, d16 m2, d64 m3]; rfl), rfl⟩
    | false =>
      clear hem4
      go_wp2
      go_meet
      exact ⟨by first | rfl | (rw [d16 m1, d16 m2, d64 m3]; rfl), rfl⟩
  case rest =>
    rename World => wz
    obtain ⟨rfl, HWZ⟩ := hcut
    have hwz := HWZ.out
    clear HWZ
    subst hwz
    clear u4 u5 u6 u0 hemk hem4 sz4 sz5 sz6
    (try apply_assumption)
    have s0 : U.cell? ⟨b, 0, none⟩ = some (.slice (some ⟨hb, 0, none⟩) S.n ch) := blk_at HXU.out.blk 0 rfl
    have r1 : U.cell? ⟨A, 1, none⟩ = some (.int .i64 hh) := blk_at HAU.out 1 rfl
    have r0 : U.cell? ⟨hb, i, none⟩ = some (.pointer (some ⟨hs i, 0, none⟩)) := HXU.out.at hi
    have hb7 : b < U.heap.size := lt_of_block HXU.out.blk
    have hA7 : A < U.heap.size := lt_of_block HAU.out
    have hh7 : hb < U.heap.size := World.block_lt_of_cell? U _ r0
    go_upto_region 8 with fail
    go_quiet (fail)
    rename Nat => nq2
    obtain ⟨V, hV⟩ : ∃ X0, X0 = U.drewN nq2 := ⟨_, rfl⟩
    have KV : Hid (Kept Nil U V) := by rw [hV]; exact (Kept.refl _ _).drewN _
    rw [← hV]
    clear hV
    have HRV : Hid (V.heap[R]? = some (.cells #[.int .i64 0, .int .i64 0, .int .i64 0, .string ⟨#[]⟩, .int .i64 0, .slice none 0 0] 31 (0, 0))) := KV.out.block _ _ HRU.out (fun e => e)
    have HAV : Hid (V.heap[A]? = _) := KV.out.block _ _ HAU.out (fun e => e)
    have HXV : Hid (SyX Gs V b hb ch hs aw cw S) := HXU.out.kept KV.out
    have HRBV : Hid (w.heap.size ≤ R ∧ R < V.heap.size) := ⟨HRB.out.1, lt_of_block HRV.out⟩
    have HKV : Hid (Kept Nil w V) := HKU.out.trans KV.out
    clear s0 r1 r0 hb7 hA7 hh7
    have v0 := blk_at HAV.out 0 rfl
    have v1 := blk_at HAV.out 1 rfl
    have v2 := blk_at HAV.out 2 rfl
    have vs : V.cell? ⟨b, 0, none⟩ = some (.slice (some ⟨hb, 0, none⟩) S.n ch) := blk_at HXV.out.blk 0 rfl
    have hbV : b < V.heap.size := lt_of_block HXV.out.blk
    have hAV : A < V.heap.size := lt_of_block HAV.out
    go_upto_region 18 with fail
    go_quiet (fail)
    rename Nat => nq3
    obtain ⟨Y, hY⟩ : ∃ X0, X0 = V.drewN nq3 := ⟨_, rfl⟩
    have KY : Hid (Kept Nil V Y) := by rw [hY]; exact (Kept.refl _ _).drewN _
    rw [← hY]
    clear hY
    have HRY : Hid (Y.heap[R]? = some (.cells #[.int .i64 0, .int .i64 0, .int .i64 0, .string ⟨#[]⟩, .int .i64 0, .slice none 0 0] 31 (0, 0))) := KY.out.block _ _ HRV.out (fun e => e)
    have HAY : Hid (Y.heap[A]? = _) := KY.out.block _ _ HAV.out (fun e => e)
    have HXY : Hid (SyX Gs Y b hb ch hs aw cw S) := HXV.out.kept KY.out
    have HRBY : Hid (w.heap.size ≤ R ∧ R < Y.heap.size) := ⟨HRB.out.1, lt_of_block HRY.out⟩
    have HKY : Hid (Kept Nil w Y) := HKV.out.trans KY.out
    clear vs hbV hAV v0 v1 v2
    have y1 := blk_at HAY.out 1 rfl
    have y2 := blk_at HAY.out 2 rfl
    have y4 := blk_at HAY.out 4 rfl
    have y5 := blk_at HAY.out 5 rfl
    have GI := giveY_any K M d (Gs i) (hs i) (i + 1 : Nat) (S.ho i) ky up Y (HXY.out.ho i hi) (HIn.out.ho i hi) HIn.out.kl hM HML.out.1 HML.out.2 hd9 (by rw [HHE.out, HDO.out]; exact HOT.out)
    rw [HHE.out, HDO.out, HD.out, ← HEE.out] at GI
    go_wp2_with fail
    go_fit GI
    rintro e w8 ⟨rfl, x8, k8⟩
    rw [← HHE.out] at x8
    have HY : Hid (SyPost Gs Y b hb ch hs T w8) := by rw [HTE.out, ← HHE.out]; exact HXY.out.called hi (by rw [HHE.out] at x8 ⊢; exact x8) k8
    have HR8 : Hid (w8.heap[R]? = some (.cells #[.int .i64 0, .int .i64 0, .int .i64 0, .string ⟨#[]⟩, .int .i64 0, .slice none 0 0] 31 (0, 0))) := HY.out.own HX.out.lt HRB.out.1 HRY.out
    have HA8 := HY.out.own HX.out.lt (Nat.le_of_eq HA.out.symm) HAY.out
    have t1 := blk_at HA8 1 rfl
    clear GI x8 k8 y1 y2 y4 y5 HA8
    go_wp2_with ((with_reducible refine atStore 31 ?_); go_must (refine wpList_storeW rfl _ _ _ rfl _ (anC ⟨er, hh, 0, []⟩) _ _ rfl rfl HR8.out rfl Tryz.sizeAn rfl (anC_one _) ?_); intro w9 hb9 hk9 hs9)
    refine bodyPost_ret (results_cellW rfl rfl hb9 Tryz.underlying31 rfl Tryz.sizeAn rfl) rfl ⟨rfl, ?_⟩
    exact SyPost.done HX.out.lt HKY.out HRBY.out.1 HRBY.out.2 HY.out hk9
end Go.Proofs.YtpfgnhockfofhaaGreat
