/-
  Joined: WSsH.
-/
import Derived.Test.YtpfgnhockfofhaaGreatH38
/-
  The document's shards: a step that asks, 2.
-/
namespace Go.Proofs.YtpfgnhockfofhaaGreat
open Go.RowKit

set_option maxRecDepth 100000 in
set_option maxHeartbeats 60000000 in
theorem dy_answer2 (K : List (List UInt8)) (M : Nat) (Gs : Nat → Nat → Prop) (b hb ch cw : Nat) (hs : Nat → Nat) (aw : Option Addr) (S T : Sd) (hh ot nn : Int) (ky up vl : List UInt8) (w : World) (x : SyX Gs w b hb ch hs aw cw S) (inv : Inv K M S) (hM : M ≤ 1900000) (hh0 : isHo S.n hh = true) (hm : mayS ⟨2, hh, ot, nn, ky, up, vl⟩ = true) (a : An) (i : Nat) (hI : i = hh.toNat - 1) (ha : a = (answerH hh ⟨2, hh, ot, nn, ky, up, vl⟩ (S.ho i)).1) (hT : T = putH S i (answerH hh ⟨2, hh, ot, nn, ky, up, vl⟩ (S.ho i)).2) :
    Calls Tryz.prog 7 #[.pointer (some ⟨b, 0, none⟩), .agg #[.int .i64 2, .int .i64 hh, .int .i64 ot, .int .i64 nn, .string (bs ky), .string (bs up), .string (bs vl)]] w fun e w' => e = .returned (.agg (anC a)) ∧ SyPost Gs w b hb ch hs T w' := by
  have HIn : Hid (Inv K M S) := inv
  have HX : Hid (SyX Gs w b hb ch hs aw cw S) := x
  obtain ⟨W, hW⟩ : ∃ W, W = (w.alloc (.cells #[.int .i64 2, .int .i64 hh, .int .i64 ot, .int .i64 nn, .string (bs ky), .string (bs up), .string (bs vl)] 34)).alloc (.cells #[.int .i64 0, .int .i64 0, .int .i64 0, .string ⟨#[]⟩, .int .i64 0, .slice none 0 0] 31) := ⟨_, rfl⟩
  obtain ⟨A, HA⟩ : ∃ A : Nat, Hid (A = w.heap.size) := ⟨_, rfl⟩
  obtain ⟨R, HR⟩ : ∃ R : Nat, Hid (R = w.heap.size + 1) := ⟨_, rfl⟩
  have KW : Hid (Kept Nil w W) := by rw [hW]; exact ((Kept.refl _ _).alloc _).alloc _
  have HAW : Hid (W.heap[A]? = some (.cells #[.int .i64 2, .int .i64 hh, .int .i64 ot, .int .i64 nn, .string (bs ky), .string (bs up), .string (bs vl)] 34 (0, 0))) := by rw [hW, HA.out]; exact blk_past (blk_new _ _) _
  have HRW : Hid (W.heap[R]? = some (.cells #[.int .i64 0, .int .i64 0, .int .i64 0, .string ⟨#[]⟩, .int .i64 0, .slice none 0 0] 31 (0, 0))) := by rw [hW, HR.out]; exact blk_new1 w _ _
  have HRB : Hid (w.heap.size ≤ R ∧ R < W.heap.size) := ⟨by rw [HR.out]; omega, lt_of_block HRW.out⟩
  have HXW : Hid (SyX Gs W b hb ch hs aw cw S) := x.kept KW.out
  have p0 : W.cell? ⟨A, 0, none⟩ = some (.int .i64 2) := blk_at HAW.out 0 rfl
  have p1 : W.cell? ⟨A, 1, none⟩ = some (.int .i64 hh) := blk_at HAW.out 1 rfl
  have s0 : W.cell? ⟨b, 0, none⟩ = some (.slice (some ⟨hb, 0, none⟩) S.n ch) := blk_at HXW.out.blk 0 rfl
  have hbW : b < W.heap.size := lt_of_block HXW.out.blk
  have hAW : A < W.heap.size := lt_of_block HAW.out
  have HaE : Hid (a = (answerH hh ⟨2, hh, ot, nn, ky, up, vl⟩ (S.ho i)).1) := ha
  have HTE : Hid (T = putH S i (answerH hh ⟨2, hh, ot, nn, ky, up, vl⟩ (S.ho i)).2) := hT
  have hi1 := isHo_iff.1 hh0
  have hn9 := HIn.out.n1.2
  have HI : Hid (i = hh.toNat - 1) := hI
  have hi : i < S.n := by rw [HI.out]; omega
  have hii : (i : Int) < (S.n : Int) := by omega
  have hwr : IntKind.i64.wrap (hh - 1) = (i : Int) := by rw [IntKind.wrap_i64]; have := HI.out; omega
  have HHE : Hid (((i + 1 : Nat) : Int) = hh) := by show _ = _; have := HI.out; omega
  have f1 : decide (hh < 1) = false := decide_eq_false (by omega)
  have f2 : decide (hh > (S.n : Int)) = false := decide_eq_false (by omega)
  have f3 : decide ((S.n : Int) < hh) = false := decide_eq_false (by omega)
  obtain ⟨m1, m2, m3, m4⟩ := may_yes hm
  dsimp only at m1 m2 m3 m4
  obtain ⟨em, HEm⟩ : ∃ em, Hid (em = ky.isEmpty) := ⟨_, rfl⟩
  have hemk : (bs ky).toList.isEmpty = em := by rw [bs_toList, HEm.out]
  have hem4 : em = true → (4 : Int) ≤ 2 := fun e => m4 (by rw [← HEm.out]; exact e)
  have sz4 := bs_size ky
  have sz5 := bs_size up
  have sz6 := bs_size vl
  clear m4
  clear hm
  have HOK : Hid (OkH K M (S.ho i)) := HIn.out.ho i hi
  have hkb := HOK.out.kl
  obtain ⟨v1, v2, v3⟩ := vb_facts HOK.out.kv
  obtain ⟨hv, HV⟩ : ∃ hv, Hid (hv = hoAt ky (S.ho i).kb) := ⟨_, rfl⟩
  have HVF : Hid (hoF ky (S.ho i).kb = hv) := by show _ = _; rw [HV.out, hoF_is v1, hoAt_is]
  obtain ⟨h, HH⟩ : ∃ h, Hid (h = S.ho i) := ⟨_, rfl⟩
  rw [← HH.out] at HVF hkb v3
  obtain ⟨nk, HNK⟩ : ∃ nk, Hid (nk = h.kb.length) := ⟨_, rfl⟩
  have hkb2 : (h.kb.length : Int) ≤ 4611686018427387903 := by omega
  have HB3 : Hid (FitB h.kb ∧ (h.kb.length : Int) ≤ 4611686018427387903) := ⟨v3, hkb2⟩
  have HAN : Hid (answerH hh ⟨2, hh, ot, nn, ky, up, vl⟩ (S.ho i) = if hv = hh then (⟨0, hv, (applyH ⟨2, hh, ot, nn, ky, up, vl⟩ h).1, (applyH ⟨2, hh, ot, nn, ky, up, vl⟩ h).2.1⟩, (applyH ⟨2, hh, ot, nn, ky, up, vl⟩ h).2.2) else (⟨0, hv, 0, []⟩, h)) := by show _ = _; rw [HH.out, HV.out]; rfl
  obtain ⟨rb, ay, cy, ai, ci, gk, ck, y⟩ := HXW.out.ho i hi
  rw [← HH.out] at y
  have HYW : Hid (HyX (Gs i) W (hs i) rb (i + 1 : Nat) ay cy ai ci gk ck h) := y
  clear hI hT ha v1 v2 v3 hkb hkb2 y
  clear x inv
  go_enter Tryz.func7, Tryz.ntmps7
  go_upto_region 1 with fail
  rw [← hW, ← HR.out, ← HA.out]
  clear hW
  go_upto_region 4 with fail
  clear hh0
  go_quiet (fail)
  rename Nat => nq1
  obtain ⟨U, hU⟩ : ∃ X0, X0 = W.drewN nq1 := ⟨_, rfl⟩
  have KU : Hid (Kept Nil W U) := by rw [hU]; exact (Kept.refl _ _).drewN _
  rw [← hU]
  clear hU
  have HRU : Hid (U.heap[R]? = some (.cells #[.int .i64 0, .int .i64 0, .int .i64 0, .string ⟨#[]⟩, .int .i64 0, .slice none 0 0] 31 (0, 0))) := KU.out.block _ _ HRW.out (fun e => e)
  have HAU : Hid (U.heap[A]? = _) := KU.out.block _ _ HAW.out (fun e => e)
  have HXU : Hid (SyX Gs U b hb ch hs aw cw S) := HXW.out.kept KU.out
  have HRBU : Hid (w.heap.size ≤ R ∧ R < U.heap.size) := ⟨HRB.out.1, lt_of_block HRU.out⟩
  have HKU : Hid (Kept Nil w U) := KW.out.trans KU.out
  clear s0 hbW hAW p0 p1 f1 f2 f3
  have u0 := blk_at HAU.out 0 rfl
  have u4 := blk_at HAU.out 4 rfl
  have u5 := blk_at HAU.out 5 rfl
  have u6 := blk_at HAU.out 6 rfl
  go_upto_region 6 with fail
  go_cut [55] (fun x wc => x = .bool false ∧ Hid (U = wc))
  case first =>
    cases em with
    | true =>
      exact absurd (hem4 rfl) (by omega)
    | false =>
      clear hem4
      go_wp2
      go_meet
      exact ⟨by first | rfl | (rw [d16 m1, d16 m2, d64 m3]; rfl), rfl⟩
  case rest =>
    rename World => wz
    obtain ⟨rfl, HWZ⟩ := hcut
    have hwz := HWZ.out
    clear HWZ
    subst hwz
    clear u4 u5 u6 u0 hemk hem4 sz4 sz5 sz6
    (try apply_assumption)
    have s0 : U.cell? ⟨b, 0, none⟩ = some (.slice (some ⟨hb, 0, none⟩) S.n ch) := blk_at HXU.out.blk 0 rfl
    have r1 : U.cell? ⟨A, 1, none⟩ = some (.int .i64 hh) := blk_at HAU.out 1 rfl
    have r0 : U.cell? ⟨hb, i, none⟩ = some (.pointer (some ⟨hs i, 0, none⟩)) := HXU.out.at hi
    have hb7 : b < U.heap.size := lt_of_block HXU.out.blk
    have hA7 : A < U.heap.size := lt_of_block HAU.out
    have hh7 : hb < U.heap.size := World.block_lt_of_cell? U _ r0
    go_upto_region 8 with fail
    go_quiet (fail)
    rename Nat => nq2
    obtain ⟨V, hV⟩ : ∃ X0, X0 = U.drewN nq2 := ⟨_, rfl⟩
    have KV : Hid (Kept Nil U V) := by rw [hV]; exact (Kept.refl _ _).drewN _
    rw [← hV]
    clear hV
    have HRV : Hid (V.heap[R]? = some (.cells #[.int .i64 0, .int .i64 0, .int .i64 0, .string ⟨#[]⟩, .int .i64 0, .slice none 0 0] 31 (0, 0))) := KV.out.block _ _ HRU.out (fun e => e)
    have HAV : Hid (V.heap[A]? = _) := KV.out.block _ _ HAU.out (fun e => e)
    have HXV : Hid (SyX Gs V b hb ch hs aw cw S) := HXU.out.kept KV.out
    have HRBV : Hid (w.heap.size ≤ R ∧ R < V.heap.size) := ⟨HRB.out.1, lt_of_block HRV.out⟩
    have HKV : Hid (Kept Nil w V) := HKU.out.trans KV.out
    clear s0 r1 r0 hb7 hA7 hh7
    have v0 := blk_at HAV.out 0 rfl
    have HYV : Hid (HyX (Gs i) V (hs i) rb (i + 1 : Nat) ay cy ai ci gk ck h) := HYW.out.kept (KU.out.trans KV.out)
    obtain ⟨Y, HY⟩ : ∃ Y, Y = (V.alloc (.cells #[.int .i64 0, .int .i64 0, .int .i64 0, .string ⟨#[]⟩, .int .i64 0, .slice none 0 0] 31)).drew := ⟨_, rfl⟩
    have KY : Hid (Kept Nil V Y) := by rw [HY]; exact ((Kept.refl _ _).alloc _).drew
    have HBY : Hid (Y.heap[V.heap.size]? = some (.cells #[.int .i64 0, .int .i64 0, .int .i64 0, .string ⟨#[]⟩, .int .i64 0, .slice none 0 0] 31 (0, 0))) := by rw [HY]; exact blk_new V _
    have AT : Calls Tryz.prog 22 #[.slice (some ⟨gk, 0, none⟩) nk ck, .string (bs ky)] V.drew fun e w' => e = .returned (.int .i64 hv) ∧ Kept Nil V.drew w' := by
      have h9 := hostOf_any V.heap.size ck ⟨gk, 0, none⟩ h.kb ky V.drew ((HYV.out.kept (Kept.refl _ _).drew).bounds HB3.out.1) HB3.out.2
      rw [HVF.out, ← HNK.out] at h9
      refine h9.mono ?_
      rintro e w' ⟨rfl, rfl⟩
      exact ⟨rfl, Kept.refl _ _⟩
    have AT2 : Calls Tryz.prog 22 #[.slice (some ⟨gk, 0, none⟩) nk ck, .string (bs ky)] Y fun e w' => e = .returned (.int .i64 hv) ∧ Kept Nil Y w' := by
      have h9 := hostOf_any Y.heap.size ck ⟨gk, 0, none⟩ h.kb ky Y ((HYV.out.kept KY.out).bounds HB3.out.1) HB3.out.2
      rw [HVF.out, ← HNK.out] at h9
      refine h9.mono ?_
      rintro e w' ⟨rfl, rfl⟩
      exact ⟨rfl, Kept.refl _ _⟩
    rw [HY] at AT2
    have c3 : V.cell? ⟨hs i, 2, none⟩ = some (.slice (some ⟨gk, 0, none⟩) nk ck) := by rw [HNK.out]; exact blk_at HYV.out.ho 2 rfl
    have p4 := blk_at HAV.out 4 rfl
    have hAV : A < V.heap.size := lt_of_block HAV.out
    have hhV : hs i < V.heap.size := lt_of_block HYV.out.ho
    go_upto_region 13 with fail
    go_cut [6] (fun x w5 => ∃ B5, x = .pointer (some ⟨B5, 0, none⟩) ∧ Hid (V.heap.size ≤ B5) ∧ Hid (w5.heap[B5]? = some (.cells (anC ⟨0, hv, 0, []⟩) 31 (0, 0))) ∧ Hid (Kept Nil V w5))
    case first =>
      go_region_with (go_at_call 22; first | (go_fit AT; rintro e w2 ⟨rfl, k2⟩; have K2 : Hid (Kept Nil V w2) := ((Kept.refl _ _).drew.trans k2)) | (go_fit AT2; rintro e w2 ⟨rfl, k2⟩; rw [← HY] at k2; have K2 : Hid (Kept Nil V w2) := (KY.out.trans k2); have HB2 : w2.heap[V.heap.size]? = some (.cells #[.int .i64 0, .int .i64 0, .int .i64 0, .string ⟨#[]⟩, .int .i64 0, .slice none 0 0] 31 (0, 0)) := (k2.block _ _ HBY.out (fun e => e)); have u0 := blk_at HB2 0 rfl; have u1 := blk_at HB2 1 rfl; have u2 := blk_at HB2 2 rfl; have u3 := blk_at HB2 3 rfl; have u4 := blk_at HB2 4 rfl; have u5 := blk_at HB2 5 rfl; have z0 := blk_free HB2 0; have z1 := blk_free HB2 1; have z2 := blk_free HB2 2; have z3 := blk_free HB2 3; have z4 := blk_free HB2 4; have z5 := blk_free HB2 5))
      all_goals
        go_wp2
        go_meet
        have hno : ∀ o, V.heap[V.heap.size]? = some o → Nil V.heap.size o := fun o ho => by have := lt_of_block ho; omega
        first
          | exact ⟨V.heap.size, rfl, Nat.le_refl _, blk_set (blk_set (blk_set (blk_set (blk_set (blk_set HB2 0 _) 1 _) 2 _) 3 _) 4 _) 5 _, (((((K2.out.setT hno _ _).setT hno _ _).setT hno _ _).setT hno _ _).setT hno _ _).setT hno _ _⟩
          | exact ⟨_, rfl, K2.out.size, blk_new w2 _, K2.out.alloc _⟩
    case rest =>
      rename World => w5
      obtain ⟨B5, rfl, HB5, HA5, HK5⟩ := hcut
      have HX5 : Hid (SyX Gs w5 b hb ch hs aw cw S) := HXV.out.kept HK5.out
      have HR5 : Hid (w5.heap[R]? = some (.cells (anC ⟨0, 0, 0, []⟩) 31 (0, 0))) := HK5.out.block _ _ HRV.out (fun e => e)
      have HS5 : Hid (w5.heap[A]? = some (.cells (stC ⟨2, hh, ot, nn, ky, up, vl⟩) 34 (0, 0))) := HK5.out.block _ _ HAV.out (fun e => e)
      have r1 : w5.cell? ⟨B5, 1, none⟩ = some (.int .i64 hv) := blk_at HA5.out 1 rfl
      have d1 : w5.cell? ⟨A, 1, none⟩ = some (.int .i64 hh) := blk_at HS5.out 1 rfl
      have hBl : B5 < w5.heap.size := lt_of_block HA5.out
      have hAl5 : A < w5.heap.size := lt_of_block HS5.out
      have HBR : Hid (B5 ≠ R) := fun e => by have := HB5.out; have := HRBV.out.2; omega
      have HKw5 : Hid (Kept Nil w w5) := HKV.out.trans HK5.out
      have HB5w : Hid (w.heap.size ≤ B5) := Nat.le_trans HKV.out.size HB5.out
      have HRl : Hid (R < w5.heap.size) := lt_of_block HR5.out
      clear AT AT2 HY p4 c3 hAV hhV v0
      (try apply_assumption)
      by_cases hvi : hv = hh
      · have HR1 : Hid (answerH hh ⟨2, hh, ot, nn, ky, up, vl⟩ (S.ho i) = (⟨0, hv, (applyH ⟨2, hh, ot, nn, ky, up, vl⟩ h).1, (applyH ⟨2, hh, ot, nn, ky, up, vl⟩ h).2.1⟩, (applyH ⟨2, hh, ot, nn, ky, up, vl⟩ h).2.2)) := by have := HAN.out; rwa [if_pos hvi] at this
        have AP := ask_any K M (Gs i) (hs i) (i + 1 : Nat) h ⟨2, hh, ot, nn, ky, up, vl⟩ w5 (by rw [HH.out]; exact HX5.out.ho i hi) (by rw [HH.out]; exact HOK.out) HIn.out.kl hM ⟨by dsimp only; omega, by dsimp only; omega⟩
        obtain ⟨rk, HRK⟩ : ∃ rk, Hid (rk = (applyH ⟨2, hh, ot, nn, ky, up, vl⟩ h).1) := ⟨_, rfl⟩
        obtain ⟨rv, HRV2⟩ : ∃ rv, Hid (rv = (applyH ⟨2, hh, ot, nn, ky, up, vl⟩ h).2.1) := ⟨_, rfl⟩
        obtain ⟨h2, HH2⟩ : ∃ h2, Hid (h2 = (applyH ⟨2, hh, ot, nn, ky, up, vl⟩ h).2.2) := ⟨_, rfl⟩
        rw [← HRK.out, ← HRV2.out, ← HH2.out] at AP
        have HA2 : Hid (a = ⟨0, hv, rk, rv⟩) := by show _ = _; rw [HaE.out, HR1.out, HRK.out, HRV2.out]
        have HT2 : Hid (T = putH S i h2) := by show _ = _; rw [HTE.out, HR1.out, HH2.out]
        unfold rsC at AP
        clear HAN
        have hv2 : (hv == hh) = true := by simp [hvi]
        go_wp2_with ((with_reducible refine atLoad 34 ?_); go_must (refine wpList_loadW rfl _ _ rfl _ rfl _ _ _ HS5.out Tryz.underlying34 rfl Tryz.sizeSt rfl ?_))
        go_fit AP
        rintro e w6 ⟨rfl, x6, k6⟩
        have HPY : Hid (SyPost Gs w5 b hb ch hs T w6) := by rw [HT2.out]; exact HX5.out.called hi x6 k6
        have HB6 : Hid (w6.heap[B5]? = some (.cells #[.int .i64 0, .int .i64 hv, .int .i64 0, .string (bs []), .int .i64 0, .slice none 0 0] 31 (0, 0))) := HPY.out.own HX.out.lt HB5w.out HA5.out
        have HR6 : Hid (w6.heap[R]? = some (.cells (anC ⟨0, 0, 0, []⟩) 31 (0, 0))) := HPY.out.own HX.out.lt HRB.out.1 HR5.out
        have u2 := blk_at HB6.out 2 rfl
        have u3 := blk_at HB6.out 3 rfl
        have u4 := blk_at HB6.out 4 rfl
        have u5 := blk_at HB6.out 5 rfl
        have z2 := blk_free HB6.out 2
        have z3 := blk_free HB6.out 3
        have z4 := blk_free HB6.out 4
        have z5 := blk_free HB6.out 5
        have hB6l : B5 < w6.heap.size := lt_of_block HB6.out
        have HBl : Hid (B5 < w5.heap.size) := hBl
        clear AP x6 k6 r1 d1 hBl hAl5
        go_upto_region 16 with fail
        obtain ⟨w7, hw7⟩ : ∃ w7, w7 = (((w6.setCell ⟨B5, 2, none⟩ (.int .i64 rk)).setCell ⟨B5, 3, none⟩ (.string (bs rv))).setCell ⟨B5, 4, none⟩ (.int .i64 0)).setCell ⟨B5, 5, none⟩ (.slice none 0 0) := ⟨_, rfl⟩
        have HB7 : Hid (w7.heap[B5]? = some (.cells (anC ⟨0, hv, rk, rv⟩) 31 (0, 0))) := by rw [hw7]; exact blk_set (blk_set (blk_set (blk_set HB6.out 2 _) 3 _) 4 _) 5 _
        have hX : ∀ o, w6.heap[B5]? = some o → (fun (q : Nat) (_ : Obj) => q = B5 ∨ q = R) B5 o := fun _ _ => .inl rfl
        have HK7 : Hid (Kept (fun (q : Nat) (_ : Obj) => q = B5 ∨ q = R) w6 w7) := by rw [hw7]; exact ((((Kept.refl _ _).setT hX _ _).setT hX _ _).setT hX _ _).setT hX _ _
        have HR7 : Hid (w7.heap[R]? = some (.cells (anC ⟨0, 0, 0, []⟩) 31 (0, 0))) := by rw [hw7]; exact blk_other (blk_other (blk_other (blk_other HR6.out HBR.out.symm _) HBR.out.symm _) HBR.out.symm _) HBR.out.symm _
        rw [← hw7]
        clear hw7 u2 u3 u4 u5 z2 z3 z4 z5
        go_wp2_with (first | ((with_reducible refine atLoad 31 ?_); go_must (refine wpList_loadW rfl _ _ rfl _ rfl _ _ _ HB7.out Tryz.underlying31 rfl Tryz.sizeAn rfl ?_)) | ((with_reducible refine atStore 31 ?_); go_must (refine wpList_storeW rfl _ _ _ rfl _ (anC ⟨0, hv, rk, rv⟩) _ _ rfl rfl HR7.out rfl Tryz.sizeAn rfl (anC_one _) ?_); intro w9 hb9 hk9 hs9))
        refine bodyPost_ret (results_cellW rfl rfl hb9 Tryz.underlying31 rfl Tryz.sizeAn rfl) rfl ?_
        rw [HA2.out]
        exact ⟨rfl, SyPost.doneX HX.out.lt HKw5.out (fun q o e => by rcases e with rfl | rfl; exact ⟨HB5w.out, HBl.out⟩; exact ⟨HRB.out.1, HRl.out⟩) HPY.out (HK7.out.trans (hk9.mono (fun q _ e => .inr e)))⟩
      · have HR1 : Hid (answerH hh ⟨2, hh, ot, nn, ky, up, vl⟩ (S.ho i) = (⟨0, hv, 0, []⟩, h)) := by have := HAN.out; rwa [if_neg hvi] at this
        have HA2 : Hid (a = ⟨0, hv, 0, []⟩) := by show _ = _; rw [HaE.out, HR1.out]
        have HT2 : Hid (T = S) := by
          show _ = _
          rw [HTE.out, HR1.out, HH.out]
          exact put_same S i
        have hv2 : (hv == hh) = false := beq_eq_false_iff_ne.2 hvi
        clear HAN
        go_wp2_with (first | ((with_reducible refine atLoad 31 ?_); go_must (refine wpList_loadW rfl _ _ rfl _ rfl _ _ _ HA5.out Tryz.underlying31 rfl Tryz.sizeAn rfl ?_)) | ((with_reducible refine atStore 31 ?_); go_must (refine wpList_storeW rfl _ _ _ rfl _ (anC ⟨0, hv, 0, []⟩) _ _ rfl rfl HR5.out rfl Tryz.sizeAn rfl (anC_one _) ?_); intro w9 hb9 hk9 hs9))
        refine bodyPost_ret (results_cellW rfl rfl hb9 Tryz.underlying31 rfl Tryz.sizeAn rfl) rfl ?_
        rw [HA2.out, HT2.out]
        exact ⟨rfl, SyPost.done HX.out.lt HKw5.out HRB.out.1 HRl.out (SyPost.refl HX5.out) hk9⟩
end Go.Proofs.YtpfgnhockfofhaaGreat
