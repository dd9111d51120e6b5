/-
  Joined: WSsD, WSsE.
-/
import Derived.Test.YtpfgnhockfofhaaGreatH38
/-
  The document's shards: a step that may not be, a step of no kind.
-/
namespace Go.Proofs.YtpfgnhockfofhaaGreat
open Go.RowKit

set_option maxRecDepth 100000 in
set_option maxHeartbeats 8000000 in
theorem dy_other (K : List (List UInt8)) (M : Nat) (Gs : Nat → Nat → Prop) (b hb ch cw : Nat) (hs : Nat → Nat) (aw : Option Addr) (S T : Sd) (kd hh ot nn : Int) (ky up vl : List UInt8) (w : World) (x : SyX Gs w b hb ch hs aw cw S) (inv : Inv K M S) (hk : ¬ 6 ≤ kd) (k1 : ¬ kd = 1) (k2 : ¬ kd = 2) (k3 : ¬ kd = 3) (k4 : ¬ kd = 4) (k5 : ¬ kd = 5) (hh0 : isHo S.n hh = true) (hm : mayS ⟨kd, hh, ot, nn, ky, up, vl⟩ = true) (hT : T = S) :
    Calls Tryz.prog 7 #[.pointer (some ⟨b, 0, none⟩), .agg #[.int .i64 kd, .int .i64 hh, .int .i64 ot, .int .i64 nn, .string (bs ky), .string (bs up), .string (bs vl)]] w fun e w' => e = .returned (.agg (anC an0)) ∧ SyPost Gs w b hb ch hs T w' := by
  have HIn : Hid (Inv K M S) := inv
  have HX : Hid (SyX Gs w b hb ch hs aw cw S) := x
  obtain ⟨W, hW⟩ : ∃ W, W = (w.alloc (.cells #[.int .i64 kd, .int .i64 hh, .int .i64 ot, .int .i64 nn, .string (bs ky), .string (bs up), .string (bs vl)] 34)).alloc (.cells #[.int .i64 0, .int .i64 0, .int .i64 0, .string ⟨#[]⟩, .int .i64 0, .slice none 0 0] 31) := ⟨_, rfl⟩
  obtain ⟨A, HA⟩ : ∃ A : Nat, Hid (A = w.heap.size) := ⟨_, rfl⟩
  obtain ⟨R, HR⟩ : ∃ R : Nat, Hid (R = w.heap.size + 1) := ⟨_, rfl⟩
  have KW : Hid (Kept Nil w W) := by rw [hW]; exact ((Kept.refl _ _).alloc _).alloc _
  have HAW : Hid (W.heap[A]? = some (.cells #[.int .i64 kd, .int .i64 hh, .int .i64 ot, .int .i64 nn, .string (bs ky), .string (bs up), .string (bs vl)] 34 (0, 0))) := by rw [hW, HA.out]; exact blk_past (blk_new _ _) _
  have HRW : Hid (W.heap[R]? = some (.cells #[.int .i64 0, .int .i64 0, .int .i64 0, .string ⟨#[]⟩, .int .i64 0, .slice none 0 0] 31 (0, 0))) := by rw [hW, HR.out]; exact blk_new1 w _ _
  have HRB : Hid (w.heap.size ≤ R ∧ R < W.heap.size) := ⟨by rw [HR.out]; omega, lt_of_block HRW.out⟩
  have HXW : Hid (SyX Gs W b hb ch hs aw cw S) := x.kept KW.out
  have p0 : W.cell? ⟨A, 0, none⟩ = some (.int .i64 kd) := blk_at HAW.out 0 rfl
  have p1 : W.cell? ⟨A, 1, none⟩ = some (.int .i64 hh) := blk_at HAW.out 1 rfl
  have s0 : W.cell? ⟨b, 0, none⟩ = some (.slice (some ⟨hb, 0, none⟩) S.n ch) := blk_at HXW.out.blk 0 rfl
  have hbW : b < W.heap.size := lt_of_block HXW.out.blk
  have hAW : A < W.heap.size := lt_of_block HAW.out
  rw [hT]
  have hk1 : decide (kd ≥ 6) = false := decide_eq_false hk
  have hi1 := isHo_iff.1 hh0
  have hn9 := HIn.out.n1.2
  obtain ⟨i, HI⟩ : ∃ i : Nat, Hid (i = hh.toNat - 1) := ⟨_, rfl⟩
  have hi : i < S.n := by rw [HI.out]; omega
  have hii : (i : Int) < (S.n : Int) := by omega
  have hwr : IntKind.i64.wrap (hh - 1) = (i : Int) := by rw [IntKind.wrap_i64]; have := HI.out; omega
  have HHE : Hid (((i + 1 : Nat) : Int) = hh) := by show _ = _; have := HI.out; omega
  have f1 : decide (hh < 1) = false := decide_eq_false (by omega)
  have f2 : decide (hh > (S.n : Int)) = false := decide_eq_false (by omega)
  have f3 : decide ((S.n : Int) < hh) = false := decide_eq_false (by omega)
  obtain ⟨m1, m2, m3, m4⟩ := may_yes hm
  dsimp only at m1 m2 m3 m4
  obtain ⟨em, HEm⟩ : ∃ em, Hid (em = ky.isEmpty) := ⟨_, rfl⟩
  have hemk : (bs ky).toList.isEmpty = em := by rw [bs_toList, HEm.out]
  have hem4 : em = true → (4 : Int) ≤ kd := fun e => m4 (by rw [← HEm.out]; exact e)
  have sz4 := bs_size ky
  have sz5 := bs_size up
  have sz6 := bs_size vl
  clear m4
  clear hm
  clear hT
  clear x inv
  go_enter Tryz.func7, Tryz.ntmps7
  go_upto_region 1 with fail
  rw [← hW, ← HR.out, ← HA.out]
  clear hW
  go_upto_region 4 with fail
  clear hh0
  go_quiet (fail)
  rename Nat => nq1
  obtain ⟨U, hU⟩ : ∃ X0, X0 = W.drewN nq1 := ⟨_, rfl⟩
  have KU : Hid (Kept Nil W U) := by rw [hU]; exact (Kept.refl _ _).drewN _
  rw [← hU]
  clear hU
  have HRU : Hid (U.heap[R]? = some (.cells #[.int .i64 0, .int .i64 0, .int .i64 0, .string ⟨#[]⟩, .int .i64 0, .slice none 0 0] 31 (0, 0))) := KU.out.block _ _ HRW.out (fun e => e)
  have HAU : Hid (U.heap[A]? = _) := KU.out.block _ _ HAW.out (fun e => e)
  have HXU : Hid (SyX Gs U b hb ch hs aw cw S) := HXW.out.kept KU.out
  have HRBU : Hid (w.heap.size ≤ R ∧ R < U.heap.size) := ⟨HRB.out.1, lt_of_block HRU.out⟩
  have HKU : Hid (Kept Nil w U) := KW.out.trans KU.out
  clear s0 hbW hAW p0 p1 f1 f2 f3
  have u0 := blk_at HAU.out 0 rfl
  have u4 := blk_at HAU.out 4 rfl
  have u5 := blk_at HAU.out 5 rfl
  have u6 := blk_at HAU.out 6 rfl
  go_upto_region 6 with fail
  go_cut [55] (fun x wc => x = .bool false ∧ Hid (U = wc))
  case first =>
    cases em with
    | true =>
      exact absurd (hem4 rfl) (by omega)
    | false =>
      clear hem4
      go_wp2
      go_meet
      exact ⟨by first | rfl | (rw [d16 m1, d16 m2, d64 m3]; rfl), rfl⟩
  case rest =>
    rename World => wz
    obtain ⟨rfl, HWZ⟩ := hcut
    have hwz := HWZ.out
    clear HWZ
    subst hwz
    clear u4 u5 u6 u0 hemk hem4 sz4 sz5 sz6
    (try apply_assumption)
    have s0 : U.cell? ⟨b, 0, none⟩ = some (.slice (some ⟨hb, 0, none⟩) S.n ch) := blk_at HXU.out.blk 0 rfl
    have r1 : U.cell? ⟨A, 1, none⟩ = some (.int .i64 hh) := blk_at HAU.out 1 rfl
    have r0 : U.cell? ⟨hb, i, none⟩ = some (.pointer (some ⟨hs i, 0, none⟩)) := HXU.out.at hi
    have hb7 : b < U.heap.size := lt_of_block HXU.out.blk
    have hA7 : A < U.heap.size := lt_of_block HAU.out
    have hh7 : hb < U.heap.size := World.block_lt_of_cell? U _ r0
    go_upto_region 8 with fail
    go_quiet (fail)
    rename Nat => nq2
    obtain ⟨V, hV⟩ : ∃ X0, X0 = U.drewN nq2 := ⟨_, rfl⟩
    have KV : Hid (Kept Nil U V) := by rw [hV]; exact (Kept.refl _ _).drewN _
    rw [← hV]
    clear hV
    have HRV : Hid (V.heap[R]? = some (.cells #[.int .i64 0, .int .i64 0, .int .i64 0, .string ⟨#[]⟩, .int .i64 0, .slice none 0 0] 31 (0, 0))) := KV.out.block _ _ HRU.out (fun e => e)
    have HAV : Hid (V.heap[A]? = _) := KV.out.block _ _ HAU.out (fun e => e)
    have HXV : Hid (SyX Gs V b hb ch hs aw cw S) := HXU.out.kept KV.out
    have HRBV : Hid (w.heap.size ≤ R ∧ R < V.heap.size) := ⟨HRB.out.1, lt_of_block HRV.out⟩
    have HKV : Hid (Kept Nil w V) := HKU.out.trans KV.out
    clear s0 r1 r0 hb7 hA7 hh7
    have v0 := blk_at HAV.out 0 rfl
    go_wp2_with ((with_reducible refine atStore 31 ?_); go_must (refine wpList_storeW rfl _ _ _ rfl _ (anC an0) _ _ rfl rfl HRV.out rfl Tryz.sizeAn rfl (anC_one _) ?_); intro w9 hb9 hk9 hs9)
    refine bodyPost_ret (results_cellW rfl rfl hb9 Tryz.underlying31 rfl Tryz.sizeAn rfl) rfl ⟨rfl, ?_⟩
    exact SyPost.done HX.out.lt HKV.out HRBV.out.1 HRBV.out.2 (SyPost.same HXV.out (Kept.refl _ _)) hk9
set_option maxRecDepth 100000 in
set_option maxHeartbeats 8000000 in
theorem dy_may (K : List (List UInt8)) (M : Nat) (Gs : Nat → Nat → Prop) (b hb ch cw : Nat) (hs : Nat → Nat) (aw : Option Addr) (S T : Sd) (kd hh ot nn : Int) (ky up vl : List UInt8) (w : World) (x : SyX Gs w b hb ch hs aw cw S) (inv : Inv K M S) (hk : ¬ 6 ≤ kd) (hh0 : isHo S.n hh = true) (hm : mayS ⟨kd, hh, ot, nn, ky, up, vl⟩ = false) (hT : T = S) :
    Calls Tryz.prog 7 #[.pointer (some ⟨b, 0, none⟩), .agg #[.int .i64 kd, .int .i64 hh, .int .i64 ot, .int .i64 nn, .string (bs ky), .string (bs up), .string (bs vl)]] w fun e w' => e = .returned (.agg (anC (anE 5))) ∧ SyPost Gs w b hb ch hs T w' := by
  have HIn : Hid (Inv K M S) := inv
  have HX : Hid (SyX Gs w b hb ch hs aw cw S) := x
  obtain ⟨W, hW⟩ : ∃ W, W = (w.alloc (.cells #[.int .i64 kd, .int .i64 hh, .int .i64 ot, .int .i64 nn, .string (bs ky), .string (bs up), .string (bs vl)] 34)).alloc (.cells #[.int .i64 0, .int .i64 0, .int .i64 0, .string ⟨#[]⟩, .int .i64 0, .slice none 0 0] 31) := ⟨_, rfl⟩
  obtain ⟨A, HA⟩ : ∃ A : Nat, Hid (A = w.heap.size) := ⟨_, rfl⟩
  obtain ⟨R, HR⟩ : ∃ R : Nat, Hid (R = w.heap.size + 1) := ⟨_, rfl⟩
  have KW : Hid (Kept Nil w W) := by rw [hW]; exact ((Kept.refl _ _).alloc _).alloc _
  have HAW : Hid (W.heap[A]? = some (.cells #[.int .i64 kd, .int .i64 hh, .int .i64 ot, .int .i64 nn, .string (bs ky), .string (bs up), .string (bs vl)] 34 (0, 0))) := by rw [hW, HA.out]; exact blk_past (blk_new _ _) _
  have HRW : Hid (W.heap[R]? = some (.cells #[.int .i64 0, .int .i64 0, .int .i64 0, .string ⟨#[]⟩, .int .i64 0, .slice none 0 0] 31 (0, 0))) := by rw [hW, HR.out]; exact blk_new1 w _ _
  have HRB : Hid (w.heap.size ≤ R ∧ R < W.heap.size) := ⟨by rw [HR.out]; omega, lt_of_block HRW.out⟩
  have HXW : Hid (SyX Gs W b hb ch hs aw cw S) := x.kept KW.out
  have p0 : W.cell? ⟨A, 0, none⟩ = some (.int .i64 kd) := blk_at HAW.out 0 rfl
  have p1 : W.cell? ⟨A, 1, none⟩ = some (.int .i64 hh) := blk_at HAW.out 1 rfl
  have s0 : W.cell? ⟨b, 0, none⟩ = some (.slice (some ⟨hb, 0, none⟩) S.n ch) := blk_at HXW.out.blk 0 rfl
  have hbW : b < W.heap.size := lt_of_block HXW.out.blk
  have hAW : A < W.heap.size := lt_of_block HAW.out
  rw [hT]
  have hk1 : decide (kd ≥ 6) = false := decide_eq_false hk
  have hi1 := isHo_iff.1 hh0
  have hn9 := HIn.out.n1.2
  obtain ⟨i, HI⟩ : ∃ i : Nat, Hid (i = hh.toNat - 1) := ⟨_, rfl⟩
  have hi : i < S.n := by rw [HI.out]; omega
  have hii : (i : Int) < (S.n : Int) := by omega
  have hwr : IntKind.i64.wrap (hh - 1) = (i : Int) := by rw [IntKind.wrap_i64]; have := HI.out; omega
  have HHE : Hid (((i + 1 : Nat) : Int) = hh) := by show _ = _; have := HI.out; omega
  have f1 : decide (hh < 1) = false := decide_eq_false (by omega)
  have f2 : decide (hh > (S.n : Int)) = false := decide_eq_false (by omega)
  have f3 : decide ((S.n : Int) < hh) = false := decide_eq_false (by omega)
  have HNO : Hid (ky.length ≤ 16 → up.length ≤ 16 → vl.length ≤ 64 → ky.isEmpty = true ∧ kd < 4) := fun h1 h2 h3 => may_no hm h1 h2 h3
  obtain ⟨em, HEm⟩ : ∃ em, Hid (em = ky.isEmpty) := ⟨_, rfl⟩
  have hemk : (bs ky).toList.isEmpty = em := by rw [bs_toList, HEm.out]
  have sz4 := bs_size ky
  have sz5 := bs_size up
  have sz6 := bs_size vl
  clear hm
  clear hT
  clear x inv
  go_enter Tryz.func7, Tryz.ntmps7
  go_upto_region 1 with fail
  rw [← hW, ← HR.out, ← HA.out]
  clear hW
  go_upto_region 4 with fail
  clear hh0
  go_quiet (fail)
  rename Nat => nq1
  obtain ⟨U, hU⟩ : ∃ X0, X0 = W.drewN nq1 := ⟨_, rfl⟩
  have KU : Hid (Kept Nil W U) := by rw [hU]; exact (Kept.refl _ _).drewN _
  rw [← hU]
  clear hU
  have HRU : Hid (U.heap[R]? = some (.cells #[.int .i64 0, .int .i64 0, .int .i64 0, .string ⟨#[]⟩, .int .i64 0, .slice none 0 0] 31 (0, 0))) := KU.out.block _ _ HRW.out (fun e => e)
  have HAU : Hid (U.heap[A]? = _) := KU.out.block _ _ HAW.out (fun e => e)
  have HXU : Hid (SyX Gs U b hb ch hs aw cw S) := HXW.out.kept KU.out
  have HRBU : Hid (w.heap.size ≤ R ∧ R < U.heap.size) := ⟨HRB.out.1, lt_of_block HRU.out⟩
  have HKU : Hid (Kept Nil w U) := KW.out.trans KU.out
  clear s0 hbW hAW p0 p1 f1 f2 f3
  have u0 := blk_at HAU.out 0 rfl
  have u4 := blk_at HAU.out 4 rfl
  have u5 := blk_at HAU.out 5 rfl
  have u6 := blk_at HAU.out 6 rfl
  go_upto_region 6 with fail
  go_cut [55] (fun x wc => x = .bool true ∧ Hid (U = wc))
  case first =>
    by_cases m1 : ky.length ≤ 16
    · by_cases m2 : up.length ≤ 16
      · by_cases m3 : vl.length ≤ 64
        · obtain ⟨e1, e2⟩ := HNO.out m1 m2 m3
          rw [← HEm.out] at e1
          subst e1
          go_wp2
          go_meet
          exact ⟨by first | rfl | (rw [d16 m1, d16 m2, d64 m3]; rfl), rfl⟩
        · go_wp2
          go_meet
          exact ⟨by first | rfl | (rw [d16 m1, d16 m2, show decide ((64 : Int) < (vl.length : Int)) = true from decide_eq_true (by omega)]; rfl), rfl⟩
      · go_wp2
        go_meet
        exact ⟨by first | rfl | (rw [d16 m1, show decide ((16 : Int) < (up.length : Int)) = true from decide_eq_true (by omega)]; rfl), rfl⟩
    · go_wp2
      go_meet
      exact ⟨by first | rfl | (rw [show decide ((16 : Int) < (ky.length : Int)) = true from decide_eq_true (by omega)]; rfl), rfl⟩
  case rest =>
    rename World => wz
    obtain ⟨rfl, HWZ⟩ := hcut
    have hwz := HWZ.out
    clear HWZ
    subst hwz
    clear u4 u5 u6 u0 hemk sz4 sz5 sz6
    (try apply_assumption)
    go_wp2_with ((with_reducible refine atStore 31 ?_); go_must (refine wpList_storeW rfl _ _ _ rfl _ (anC (anE 5)) _ _ rfl rfl HRU.out rfl Tryz.sizeAn rfl (anC_one _) ?_); intro w9 hb9 hk9 hs9)
    refine bodyPost_ret (results_cellW rfl rfl hb9 Tryz.underlying31 rfl Tryz.sizeAn rfl) rfl ⟨rfl, ?_⟩
    exact SyPost.done HX.out.lt HKU.out HRBU.out.1 HRBU.out.2 (SyPost.same HXU.out (Kept.refl _ _)) hk9
end Go.Proofs.YtpfgnhockfofhaaGreat

/-
  The document's shards: a step that sends.
-/
namespace Go.Proofs.YtpfgnhockfofhaaGreat
open Go.RowKit

set_option maxRecDepth 100000 in
set_option maxHeartbeats 8000000 in
theorem dy_send (K : List (List UInt8)) (M : Nat) (Gs : Nat → Nat → Prop) (b hb ch cw : Nat) (hs : Nat → Nat) (aw : Option Addr) (S T : Sd) (hh ot nn : Int) (ky up vl : List UInt8) (w : World) (x : SyX Gs w b hb ch hs aw cw S) (inv : Inv K M S) (hM : M ≤ 1900000) (hh0 : isHo S.n hh = true) (hm : mayS ⟨5, hh, ot, nn, ky, up, vl⟩ = true) (i : Nat) (hI : i = hh.toNat - 1) (hT : T = sendS i S) :
    Calls Tryz.prog 7 #[.pointer (some ⟨b, 0, none⟩), .agg #[.int .i64 5, .int .i64 hh, .int .i64 ot, .int .i64 nn, .string (bs ky), .string (bs up), .string (bs vl)]] w fun e w' => e = .returned (.agg (anC an0)) ∧ SyPost Gs w b hb ch hs T w' := by
  have HIn : Hid (Inv K M S) := inv
  have HX : Hid (SyX Gs w b hb ch hs aw cw S) := x
  obtain ⟨W, hW⟩ : ∃ W, W = (w.alloc (.cells #[.int .i64 5, .int .i64 hh, .int .i64 ot, .int .i64 nn, .string (bs ky), .string (bs up), .string (bs vl)] 34)).alloc (.cells #[.int .i64 0, .int .i64 0, .int .i64 0, .string ⟨#[]⟩, .int .i64 0, .slice none 0 0] 31) := ⟨_, rfl⟩
  obtain ⟨A, HA⟩ : ∃ A : Nat, Hid (A = w.heap.size) := ⟨_, rfl⟩
  obtain ⟨R, HR⟩ : ∃ R : Nat, Hid (R = w.heap.size + 1) := ⟨_, rfl⟩
  have KW : Hid (Kept Nil w W) := by rw [hW]; exact ((Kept.refl _ _).alloc _).alloc _
  have HAW : Hid (W.heap[A]? = some (.cells #[.int .i64 5, .int .i64 hh, .int .i64 ot, .int .i64 nn, .string (bs ky), .string (bs up), .string (bs vl)] 34 (0, 0))) := by rw [hW, HA.out]; exact blk_past (blk_new _ _) _
  have HRW : Hid (W.heap[R]? = some (.cells #[.int .i64 0, .int .i64 0, .int .i64 0, .string ⟨#[]⟩, .int .i64 0, .slice none 0 0] 31 (0, 0))) := by rw [hW, HR.out]; exact blk_new1 w _ _
  have HRB : Hid (w.heap.size ≤ R ∧ R < W.heap.size) := ⟨by rw [HR.out]; omega, lt_of_block HRW.out⟩
  have HXW : Hid (SyX Gs W b hb ch hs aw cw S) := x.kept KW.out
  have p0 : W.cell? ⟨A, 0, none⟩ = some (.int .i64 5) := blk_at HAW.out 0 rfl
  have p1 : W.cell? ⟨A, 1, none⟩ = some (.int .i64 hh) := blk_at HAW.out 1 rfl
  have s0 : W.cell? ⟨b, 0, none⟩ = some (.slice (some ⟨hb, 0, none⟩) S.n ch) := blk_at HXW.out.blk 0 rfl
  have hbW : b < W.heap.size := lt_of_block HXW.out.blk
  have hAW : A < W.heap.size := lt_of_block HAW.out
  have HTE : Hid (T = sendS i S) := hT
  have hi1 := isHo_iff.1 hh0
  have hn9 := HIn.out.n1.2
  have HI : Hid (i = hh.toNat - 1) := hI
  have hi : i < S.n := by rw [HI.out]; omega
  have hii : (i : Int) < (S.n : Int) := by omega
  have hwr : IntKind.i64.wrap (hh - 1) = (i : Int) := by rw [IntKind.wrap_i64]; have := HI.out; omega
  have HHE : Hid (((i + 1 : Nat) : Int) = hh) := by show _ = _; have := HI.out; omega
  have f1 : decide (hh < 1) = false := decide_eq_false (by omega)
  have f2 : decide (hh > (S.n : Int)) = false := decide_eq_false (by omega)
  have f3 : decide ((S.n : Int) < hh) = false := decide_eq_false (by omega)
  obtain ⟨m1, m2, m3, m4⟩ := may_yes hm
  dsimp only at m1 m2 m3 m4
  obtain ⟨em, HEm⟩ : ∃ em, Hid (em = ky.isEmpty) := ⟨_, rfl⟩
  have hemk : (bs ky).toList.isEmpty = em := by rw [bs_toList, HEm.out]
  have hem4 : em = true → (4 : Int) ≤ 5 := fun e => m4 (by rw [← HEm.out]; exact e)
  have sz4 := bs_size ky
  have sz5 := bs_size up
  have sz6 := bs_size vl
  clear m4
  clear hm
  obtain ⟨i2, hi2, hx0, hx1, hx2⟩ := info_parts Tryz.infoOwnPk
  have hwl := HIn.out.wl
  obtain ⟨rb, ay, cy, ai, ci, gk, ck, y⟩ := HXW.out.ho i hi
  have HNU : Hid (∀ k, k < 10 → ((S.ho i).os k).wt.length ≤ 16) := fun k hk => ((HIn.out.ho i hi).nu k hk).2.1
  have hpl := pksTo_len (i + 1 : Nat) (S.ho i).os HNU.out 10 (Nat.le_refl _)
  have HLL : Hid (S.wy.length + (pksTo (i + 1 : Nat) (S.ho i).os 10).length ≤ maxLen ∧ (S.wy.length + (pksTo (i + 1 : Nat) (S.ho i).os 10).length) * 48 ≤ 140737488355328) := by constructor <;> (try unfold maxLen) <;> omega
  obtain ⟨ps, HPs⟩ : ∃ ps, Hid (ps = pksTo (i + 1 : Nat) (S.ho i).os 10) := ⟨_, rfl⟩
  rw [← HPs.out] at HLL
  have HSE : Hid (T = { S with wy := S.wy ++ ps }) := by show _ = _; rw [HTE.out, HPs.out]; rfl
  have HYW : Hid (HyX (Gs i) W (hs i) rb (i + 1 : Nat) ay cy ai ci gk ck (S.ho i)) := y
  clear hT hI hpl y
  clear x inv
  go_enter Tryz.func7, Tryz.ntmps7
  go_upto_region 1 with fail
  rw [← hW, ← HR.out, ← HA.out]
  clear hW
  go_upto_region 4 with fail
  clear hh0
  go_quiet (fail)
  rename Nat => nq1
  obtain ⟨U, hU⟩ : ∃ X0, X0 = W.drewN nq1 := ⟨_, rfl⟩
  have KU : Hid (Kept Nil W U) := by rw [hU]; exact (Kept.refl _ _).drewN _
  rw [← hU]
  clear hU
  have HRU : Hid (U.heap[R]? = some (.cells #[.int .i64 0, .int .i64 0, .int .i64 0, .string ⟨#[]⟩, .int .i64 0, .slice none 0 0] 31 (0, 0))) := KU.out.block _ _ HRW.out (fun e => e)
  have HAU : Hid (U.heap[A]? = _) := KU.out.block _ _ HAW.out (fun e => e)
  have HXU : Hid (SyX Gs U b hb ch hs aw cw S) := HXW.out.kept KU.out
  have HRBU : Hid (w.heap.size ≤ R ∧ R < U.heap.size) := ⟨HRB.out.1, lt_of_block HRU.out⟩
  have HKU : Hid (Kept Nil w U) := KW.out.trans KU.out
  clear s0 hbW hAW p0 p1 f1 f2 f3
  have u0 := blk_at HAU.out 0 rfl
  have u4 := blk_at HAU.out 4 rfl
  have u5 := blk_at HAU.out 5 rfl
  have u6 := blk_at HAU.out 6 rfl
  go_upto_region 6 with fail
  go_cut [55] (fun x wc => x = .bool false ∧ Hid (U = wc))
  case first =>
    cases em with
    | true =>
      have h4 := hem4 rfl
      clear hem4
      go_wp2
      go_meet
      exact ⟨by first | rfl | (rw [d16 m1, d16 m2, d64 m3]; rfl), rfl⟩
    | false =>
      clear hem4
      go_wp2
      go_meet
      exact ⟨by first | rfl | (rw [d16 m1, d16 m2, d64 m3]; rfl), rfl⟩
  case rest =>
    rename World => wz
    obtain ⟨rfl, HWZ⟩ := hcut
    have hwz := HWZ.out
    clear HWZ
    subst hwz
    clear u4 u5 u6 u0 hemk hem4 sz4 sz5 sz6
    (try apply_assumption)
    have s0 : U.cell? ⟨b, 0, none⟩ = some (.slice (some ⟨hb, 0, none⟩) S.n ch) := blk_at HXU.out.blk 0 rfl
    have r1 : U.cell? ⟨A, 1, none⟩ = some (.int .i64 hh) := blk_at HAU.out 1 rfl
    have r0 : U.cell? ⟨hb, i, none⟩ = some (.pointer (some ⟨hs i, 0, none⟩)) := HXU.out.at hi
    have hb7 : b < U.heap.size := lt_of_block HXU.out.blk
    have hA7 : A < U.heap.size := lt_of_block HAU.out
    have hh7 : hb < U.heap.size := World.block_lt_of_cell? U _ r0
    go_upto_region 8 with fail
    go_quiet (fail)
    rename Nat => nq2
    obtain ⟨V, hV⟩ : ∃ X0, X0 = U.drewN nq2 := ⟨_, rfl⟩
    have KV : Hid (Kept Nil U V) := by rw [hV]; exact (Kept.refl _ _).drewN _
    rw [← hV]
    clear hV
    have HRV : Hid (V.heap[R]? = some (.cells #[.int .i64 0, .int .i64 0, .int .i64 0, .string ⟨#[]⟩, .int .i64 0, .slice none 0 0] 31 (0, 0))) := KV.out.block _ _ HRU.out (fun e => e)
    have HAV : Hid (V.heap[A]? = _) := KV.out.block _ _ HAU.out (fun e => e)
    have HXV : Hid (SyX Gs V b hb ch hs aw cw S) := HXU.out.kept KV.out
    have HRBV : Hid (w.heap.size ≤ R ∧ R < V.heap.size) := ⟨HRB.out.1, lt_of_block HRV.out⟩
    have HKV : Hid (Kept Nil w V) := HKU.out.trans KV.out
    clear s0 r1 r0 hb7 hA7 hh7
    have v0 := blk_at HAV.out 0 rfl
    have HYV : Hid (HyX (Gs i) V (hs i) rb (i + 1 : Nat) ay cy ai ci gk ck (S.ho i)) := HYW.out.kept (KU.out.trans KV.out)
    have PA := packetsY_any (Gs i) rb (i + 1 : Nat) (S.ho i).os ay cy V HYV.out.rl HNU.out
    rw [← HPs.out] at PA
    have e0 : V.cell? ⟨hs i, 0, none⟩ = some (.pointer (some ⟨rb, 0, none⟩)) := blk_at HYV.out.ho 0 rfl
    have hhV : hs i < V.heap.size := lt_of_block HYV.out.ho
    go_upto_region 23 with fail
    go_wp2_with fail
    go_fit PA
    rintro e w8 ⟨a2, c2, rfl, o2, k2⟩
    have K8 : Hid (Kept Nil V w8) := k2
    have SR8 := o2.src
    have HX8 : Hid (SyX Gs w8 b hb ch hs aw cw S) := HXV.out.kept K8.out
    have s1 : w8.cell? ⟨b, 1, none⟩ = some (.slice aw S.wy.length cw) := blk_at HX8.out.blk 1 rfl
    have hb8 : b < w8.heap.size := lt_of_block HX8.out.blk
    clear PA k2 o2 e0 hhV v0
    go_wp2_with (first | (at_builtin; go_must (refine wpList_append_row _ rfl _ _ 44 44 rfl 86 i2 (.agg #[.int .i64 0, .int .i64 0, .int .i64 0, .bool false, .string ⟨#[]⟩]) 5 48 Tryz.underlying44 hi2 hx0 hx1 hx2 rfl (.slice aw S.wy.length cw) S.wy.length (pkCells S.wy) rfl HX8.out.wy (.slice a2 ps.length c2) ps.length (pkCells ps) rfl SR8 HLL.out.1 HLL.out.2 ?_); intro a6 c6 w6 r6 g6 t6; have HFF : Hid (SyPost Gs V b hb ch hs { S with wy := S.wy ++ ps } (w6.setCell ⟨b, 1, none⟩ (.slice a6 (S.wy.length + ps.length) c6))) := HXV.out.more K8.out r6 g6 t6; have HRF : Hid ((w6.setCell ⟨b, 1, none⟩ (.slice a6 (S.wy.length + ps.length) c6)).heap[R]? = some (.cells #[.int .i64 0, .int .i64 0, .int .i64 0, .string ⟨#[]⟩, .int .i64 0, .slice none 0 0] 31 (0, 0))) := HFF.out.own HX.out.lt HRB.out.1 HRV.out; have s6 : w6.heap[b]? = some (.cells #[.slice (some ⟨hb, 0, none⟩) S.n ch, .slice aw S.wy.length cw] 56 (0, 0)) := (by rw [g6.block b hb8 (fun e => by obtain ⟨_, e2⟩ := HX8.out.wy.tp e.symm HX8.out.blk; cases e2)]; exact HX8.out.blk); have e6 : w6.cell? ⟨b, 1, none⟩ = some (.slice aw S.wy.length cw) := blk_at s6 1 rfl; have f6 : w6.frozen? ⟨b, 1, none⟩ = false := blk_free s6 _; clear r6 g6 t6 s6 SR8) | ((with_reducible refine atStore 31 ?_); go_must (refine wpList_storeW rfl _ _ _ rfl _ (anC an0) _ _ rfl rfl HRF.out rfl Tryz.sizeAn rfl (anC_one _) ?_); intro w9 hb9 hk9 hs9))
    refine bodyPost_ret (results_cellW rfl rfl hb9 Tryz.underlying31 rfl Tryz.sizeAn rfl) rfl ⟨rfl, ?_⟩
    rw [HSE.out]
    exact SyPost.done HX.out.lt HKV.out HRBV.out.1 HRBV.out.2 HFF.out hk9
end Go.Proofs.YtpfgnhockfofhaaGreat
