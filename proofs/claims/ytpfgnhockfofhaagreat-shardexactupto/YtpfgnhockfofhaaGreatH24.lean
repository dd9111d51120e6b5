/-
  Joined: WShE, WSs1.
-/
import Derived.Test.YtpfgnhockfofhaaGreatH23
import Derived.Test.YtpfgnhockfofhaaGreatH18
import Derived.Test.YtpfgnhockfofhaaGreatH20
import Derived.Test.YtpfgnhockfofhaaGreatH21
/-
  Shards: a host answers.
-/
namespace Go.Proofs.YtpfgnhockfofhaaGreat
open Go.RowKit

def anC (a : An) : Array Value := #[.int .i64 a.er, .int .i64 a.ho, .int .i64 a.rk, .string (bs a.rv), .int .i64 0, .slice none 0 0]
theorem Tryz.sizeAn : (Tryz.prog.info? 31).map (·.size) = some 6 := by kernel_rfl
theorem Tryz.sizeSt : (Tryz.prog.info? 34).map (·.size) = some 7 := by kernel_rfl
theorem anC_one (a : An) : (anC a).all (·.oneCell') = true := by
  unfold anC
  simp only [List.all_toArray, List.all_cons, List.all_nil, Bool.and_true]
  rfl
theorem HoM.doneX {G G0 : Nat → Prop} {X : Nat → Obj → Prop} {w W w6 w9 : World} {b : Nat} {id : Int} {h : Hd} (hG : ∀ g, G0 g → G g ∧ g < w.heap.size) (hK : Kept Nil w W) (hX : ∀ q o, X q o → w.heap.size ≤ q ∧ q < W.heap.size) (x : HoM (GN G0 W) w6 b id h) (k : Kept (TG (GN G0 W)) W w6) (k9 : Kept X w6 w9) : HoM (GN G w) w9 b id h ∧ Kept (TG G) w w9 := by
  have hn : ∀ q o, GN G0 W q → ¬ X q o := fun q o e y => by
    have h1 := hX q o y
    rcases e with e | e
    · have := (hG q e).2; omega
    · omega
  refine ⟨(x.keptX k9 hn).up (fun g hg => ?_), ⟨(k9.os.trans k.os).trans hK.os, (k9.tape.trans k.tape).trans hK.tape, (k9.output.trans k.output).trans hK.output, Nat.le_trans (Nat.le_trans hK.size k.size) k9.size, fun q o ho hx => ?_⟩⟩
  · rcases hg with hg | hg
    · exact .inl (hG g hg).1
    · exact .inr (Nat.le_trans hK.size hg)
  · have hq := lt_of_block ho
    refine k9.block q o (k.block q o (hK.block q o ho (fun e => e)) (fun e => ?_)) (fun e => ?_)
    · rcases e with e | e
      · exact hx (hG q e).1
      · have := hK.size; omega
    · have := (hX q o e).1; omega
set_option maxRecDepth 100000 in
set_option maxHeartbeats 4000000 in
theorem answer_any (K : List (List UInt8)) (M : Nat) (G : Nat → Prop) (b : Nat) (id : Int) (h : Hd) (s : Sp) (w : World) (x : HoM G w b id h) (ok : OkH K M h) (hKM : K.length ≤ M) (hM : M ≤ 1900000) :
    Calls Tryz.prog 17 #[.pointer (some ⟨b, 0, none⟩), .agg (stC s)] w fun e w' => e = .returned (.agg (anC (answerH id s h).1)) ∧ HoM (GN G w) w' b id (answerH id s h).2 ∧ Kept (TG G) w w' := by
  obtain ⟨rb, ao, cs, ai, ci, gk, ck, x⟩ := x
  obtain ⟨v1, v2, v3⟩ := vb_facts ok.kv
  have hkl := ok.kl
  have HOK : Hid (OkH K M h) := ok
  have HX : Hid (HoX (fun g => G g ∧ g < w.heap.size) w b rb id ao cs ai ci gk ck h) := x.lt
  obtain ⟨G0, HG0⟩ : ∃ G0 : Nat → Prop, Hid (G0 = fun g => G g ∧ g < w.heap.size) := ⟨_, rfl⟩
  rw [← HG0.out] at HX
  have HGG : Hid (∀ g, G0 g → G g ∧ g < w.heap.size) := fun g hg => by rw [HG0.out] at hg; exact hg
  obtain ⟨W, hW⟩ : ∃ W, W = (w.alloc (.cells (stC s) 34)).alloc (.cells (anC ⟨0, 0, 0, []⟩) 31) := ⟨_, rfl⟩
  obtain ⟨A, HA⟩ : ∃ A : Nat, Hid (A = w.heap.size) := ⟨_, rfl⟩
  obtain ⟨R, HR⟩ : ∃ R : Nat, Hid (R = w.heap.size + 1) := ⟨_, rfl⟩
  have KW : Hid (Kept Nil w W) := by rw [hW]; exact ((Kept.refl _ _).alloc _).alloc _
  have HAW : Hid (W.heap[A]? = some (.cells (stC s) 34 (0, 0))) := by rw [hW, HA.out]; exact blk_past (blk_new _ _) _
  have HRW : Hid (W.heap[R]? = some (.cells (anC ⟨0, 0, 0, []⟩) 31 (0, 0))) := by rw [hW, HR.out]; exact blk_new1 w _ _
  have HRB : Hid (w.heap.size ≤ R ∧ R < W.heap.size) := ⟨by rw [HR.out]; omega, lt_of_block HRW.out⟩
  have HXW : Hid (HoX G0 W b rb id ao cs ai ci gk ck h) := HX.out.kept KW.out
  have p4 : W.cell? ⟨A, 4, none⟩ = some (.string (bs s.ky)) := blk_at HAW.out 4 rfl
  have HHO : Hid (W.heap[b]? = some (.cells #[.pointer (some ⟨rb, 0, none⟩), .int .i64 id, .slice ai h.it.length ci, .slice (some ⟨gk, 0, none⟩) h.kb.length ck] 82 (0, 0))) := HXW.out.ho
  have c3 : W.cell? ⟨b, 3, none⟩ = some (.slice (some ⟨gk, 0, none⟩) h.kb.length ck) := blk_at HHO.out 3 rfl
  have c1 : W.cell? ⟨b, 1, none⟩ = some (.int .i64 id) := blk_at HHO.out 1 rfl
  have hbl : b < W.heap.size := lt_of_block HHO.out
  have hAl : A < W.heap.size := lt_of_block HAW.out
  obtain ⟨Y, HY⟩ : ∃ Y, Y = (W.alloc (.cells #[.int .i64 0, .int .i64 0, .int .i64 0, .string ⟨#[]⟩, .int .i64 0, .slice none 0 0] 31)).drew := ⟨_, rfl⟩
  have KY : Hid (Kept Nil W Y) := by rw [HY]; exact ((Kept.refl _ _).alloc _).drew
  have HBY : Hid (Y.heap[W.heap.size]? = some (.cells #[.int .i64 0, .int .i64 0, .int .i64 0, .string ⟨#[]⟩, .int .i64 0, .slice none 0 0] 31 (0, 0))) := by rw [HY]; exact blk_new W _
  have AT := at_any W.heap.size ck ⟨gk, 0, none⟩ h.kb s.ky W.drew ((HXW.out.kept (Kept.refl _ _).drew).bounds v3) v1 (by omega)
  have AT2 := at_any Y.heap.size ck ⟨gk, 0, none⟩ h.kb s.ky Y ((HXW.out.kept KY.out).bounds v3) v1 (by omega)
  obtain ⟨hv, HV⟩ : ∃ hv, Hid (hv = hoAt s.ky h.kb) := ⟨_, rfl⟩
  rw [← HV.out] at AT AT2
  obtain ⟨nk, HNK⟩ : ∃ nk, Hid (nk = h.kb.length) := ⟨_, rfl⟩
  rw [← HNK.out] at AT AT2 c3
  rw [HY] at AT2
  obtain ⟨rs, HRS⟩ : ∃ rs, Hid (rs = answerH id s h) := ⟨_, rfl⟩
  have hrs : rs = if hv = id then (⟨0, hv, (applyH s h).1, (applyH s h).2.1⟩, (applyH s h).2.2) else (⟨0, hv, 0, []⟩, h) := by rw [HRS.out, HV.out]; rfl
  rw [← HRS.out]
  have HRR : Hid (rs = if hv = id then (⟨0, hv, (applyH s h).1, (applyH s h).2.1⟩, (applyH s h).2.2) else (⟨0, hv, 0, []⟩, h)) := hrs
  clear hrs x HG0 v1 v2 v3
  go_enter Tryz.func17, Tryz.ntmps17
  go_upto_region 1 with fail
  rw [show (w.alloc (.cells (stC s) 34)).alloc (.cells #[.int .i64 0, .int .i64 0, .int .i64 0, .string ⟨#[]⟩, .int .i64 0, .slice none 0 0] 31) = W from hW.symm, ← HR.out, ← HA.out]
  clear hW
  go_cut [5] (fun x w5 => ∃ B5, x = .pointer (some ⟨B5, 0, none⟩) ∧ Hid (W.heap.size ≤ B5) ∧ Hid (w5.heap[B5]? = some (.cells (anC ⟨0, hv, 0, []⟩) 31 (0, 0))) ∧ Hid (Kept Nil W w5))
  case first =>
    go_region_with (go_at_call 34; first | (go_fit AT; rintro e w2 ⟨rfl, k2⟩; have K2 : Hid (Kept Nil W w2) := ((Kept.refl _ _).drew.trans k2)) | (go_fit AT2; rintro e w2 ⟨rfl, k2⟩; rw [← HY] at k2; have K2 : Hid (Kept Nil W w2) := (KY.out.trans k2); have HB2 : w2.heap[W.heap.size]? = some (.cells #[.int .i64 0, .int .i64 0, .int .i64 0, .string ⟨#[]⟩, .int .i64 0, .slice none 0 0] 31 (0, 0)) := (k2.block _ _ HBY.out (fun e => e)); have u0 := blk_at HB2 0 rfl; have u1 := blk_at HB2 1 rfl; have u2 := blk_at HB2 2 rfl; have u3 := blk_at HB2 3 rfl; have u4 := blk_at HB2 4 rfl; have u5 := blk_at HB2 5 rfl; have z0 := blk_free HB2 0; have z1 := blk_free HB2 1; have z2 := blk_free HB2 2; have z3 := blk_free HB2 3; have z4 := blk_free HB2 4; have z5 := blk_free HB2 5))
    all_goals
      go_wp2
      go_meet
      have hno : ∀ o, W.heap[W.heap.size]? = some o → Nil W.heap.size o := fun o ho => by have := lt_of_block ho; omega
      first
        | exact ⟨_, rfl, K2.out.size, blk_new w2 _, K2.out.alloc _⟩
        | exact ⟨_, rfl, Nat.le_refl _, blk_set (blk_set (blk_set (blk_set (blk_set (blk_set HB2 0 _) 1 _) 2 _) 3 _) 4 _) 5 _, (((((K2.out.setT hno _ _).setT hno _ _).setT hno _ _).setT hno _ _).setT hno _ _).setT hno _ _⟩
  case rest =>
    rename World => w5
    obtain ⟨B5, rfl, HB5, HA5, HK5⟩ := hcut
    have HX5 : Hid (HoX G0 w5 b rb id ao cs ai ci gk ck h) := HXW.out.kept HK5.out
    have HR5 : Hid (w5.heap[R]? = some (.cells (anC ⟨0, 0, 0, []⟩) 31 (0, 0))) := HK5.out.block _ _ HRW.out (fun e => e)
    have HS5 : Hid (w5.heap[A]? = some (.cells (stC s) 34 (0, 0))) := HK5.out.block _ _ HAW.out (fun e => e)
    have r1 : w5.cell? ⟨B5, 1, none⟩ = some (.int .i64 hv) := blk_at HA5.out 1 rfl
    have d1 : w5.cell? ⟨b, 1, none⟩ = some (.int .i64 id) := blk_at HX5.out.ho 1 rfl
    have hBl : B5 < w5.heap.size := lt_of_block HA5.out
    have hbl5 : b < w5.heap.size := lt_of_block HX5.out.ho
    have HBR : Hid (B5 ≠ R) := fun e => by have := HB5.out; have := HRB.out.2; omega
    have HKw5 : Hid (Kept Nil w w5) := KW.out.trans HK5.out
    clear AT AT2 HY p4 c3 c1
    apply_assumption
    by_cases hvi : hv = id
    · have HR1 : Hid (rs = (⟨0, hv, (applyH s h).1, (applyH s h).2.1⟩, (applyH s h).2.2)) := by have := HRR.out; rwa [if_pos hvi] at this
      subst hvi
      go_upto_region 2 with fail
      go_quiet (fail)
      rename Nat => nq
      obtain ⟨V, hV⟩ : ∃ V, V = w5.drewN nq := ⟨_, rfl⟩
      have KV : Hid (Kept Nil w5 V) := by rw [hV]; exact (Kept.refl _ _).drewN _
      rw [← hV]
      clear hV
      have HAV : Hid (V.heap[B5]? = some (.cells (anC ⟨0, hv, 0, []⟩) 31 (0, 0))) := KV.out.block _ _ HA5.out (fun e => e)
      have HSV : Hid (V.heap[A]? = some (.cells (stC s) 34 (0, 0))) := KV.out.block _ _ HS5.out (fun e => e)
      have HRV : Hid (V.heap[R]? = some (.cells (anC ⟨0, 0, 0, []⟩) 31 (0, 0))) := KV.out.block _ _ HR5.out (fun e => e)
      have AP := apply_any K M G0 b hv h s V (HX5.out.kept KV.out).m HOK.out hKM hM
      obtain ⟨rk, HRK⟩ : ∃ rk, Hid (rk = (applyH s h).1) := ⟨_, rfl⟩
      obtain ⟨rv, HRV2⟩ : ∃ rv, Hid (rv = (applyH s h).2.1) := ⟨_, rfl⟩
      rw [← HRK.out, ← HRV2.out] at AP
      have HR2 : Hid (rs = (⟨0, hv, rk, rv⟩, (applyH s h).2.2)) := by rw [HRK.out, HRV2.out]; exact HR1.out
      unfold rsC at AP
      go_wp2_with ((with_reducible refine atLoad 34 ?_); go_must (refine wpList_loadW rfl _ _ rfl _ rfl _ _ _ HSV.out Tryz.underlying34 rfl Tryz.sizeSt rfl ?_))
      go_fit AP
      rintro e w6 ⟨rfl, x6, k6⟩
      have HGn : Hid (∀ q, w.heap.size ≤ q → ¬ G0 q) := fun q hq e => by have := (HGG.out q e).2; omega
      have hB5w : w.heap.size ≤ B5 := Nat.le_trans KW.out.size HB5.out
      have HB6 : Hid (w6.heap[B5]? = some (.cells #[.int .i64 0, .int .i64 hv, .int .i64 0, .string (bs []), .int .i64 0, .slice none 0 0] 31 (0, 0))) := k6.block _ _ HAV.out (fun e => HGn.out _ hB5w e)
      have HR6 : Hid (w6.heap[R]? = some (.cells (anC ⟨0, 0, 0, []⟩) 31 (0, 0))) := k6.block _ _ HRV.out (fun e => HGn.out _ HRB.out.1 e)
      have HX6 : Hid (HoM (GN G0 V) w6 b hv (applyH s h).2.2) := x6
      have HK6 : Hid (Kept (TG G0) V w6) := k6
      have HVB : Hid (B5 < V.heap.size ∧ R < V.heap.size) := ⟨lt_of_block HAV.out, lt_of_block HRV.out⟩
      have u2 := blk_at HB6.out 2 rfl
      have u3 := blk_at HB6.out 3 rfl
      have u4 := blk_at HB6.out 4 rfl
      have u5 := blk_at HB6.out 5 rfl
      have z2 := blk_free HB6.out 2
      have z3 := blk_free HB6.out 3
      have z4 := blk_free HB6.out 4
      have z5 := blk_free HB6.out 5
      have hB6l : B5 < w6.heap.size := lt_of_block HB6.out
      clear AP x6 k6
      go_upto_region 4 with fail
      obtain ⟨w7, hw7⟩ : ∃ w7, w7 = (((w6.setCell ⟨B5, 2, none⟩ (.int .i64 rk)).setCell ⟨B5, 3, none⟩ (.string (bs rv))).setCell ⟨B5, 4, none⟩ (.int .i64 0)).setCell ⟨B5, 5, none⟩ (.slice none 0 0) := ⟨_, rfl⟩
      have HB7 : Hid (w7.heap[B5]? = some (.cells (anC ⟨0, hv, rk, rv⟩) 31 (0, 0))) := by rw [hw7]; exact blk_set (blk_set (blk_set (blk_set HB6.out 2 _) 3 _) 4 _) 5 _
      have hX : ∀ o, w6.heap[B5]? = some o → (fun (q : Nat) (_ : Obj) => q = B5 ∨ q = R) B5 o := fun _ _ => .inl rfl
      have HK7 : Hid (Kept (fun (q : Nat) (_ : Obj) => q = B5 ∨ q = R) w6 w7) := by rw [hw7]; exact ((((Kept.refl _ _).setT hX _ _).setT hX _ _).setT hX _ _).setT hX _ _
      have HR7 : Hid (w7.heap[R]? = some (.cells (anC ⟨0, 0, 0, []⟩) 31 (0, 0))) := by rw [hw7]; exact blk_other (blk_other (blk_other (blk_other HR6.out HBR.out.symm _) HBR.out.symm _) HBR.out.symm _) HBR.out.symm _
      rw [← hw7]
      clear hw7 u2 u3 u4 u5 z2 z3 z4 z5
      go_wp2_with (first | ((with_reducible refine atLoad 31 ?_); go_must (refine wpList_loadW rfl _ _ rfl _ rfl _ _ _ HB7.out Tryz.underlying31 rfl Tryz.sizeAn rfl ?_)) | ((with_reducible refine atStore 31 ?_); go_must (refine wpList_storeW rfl _ _ _ rfl _ (anC ⟨0, hv, rk, rv⟩) _ _ rfl rfl HR7.out rfl Tryz.sizeAn rfl (anC_one _) ?_); intro w9 hb9 hk9 hs9))
      refine bodyPost_ret (results_cellW rfl rfl hb9 Tryz.underlying31 rfl Tryz.sizeAn rfl) rfl ?_
      rw [HR2.out]
      exact ⟨rfl, HoM.doneX HGG.out (HKw5.out.trans KV.out) (fun q o e => by rcases e with rfl | rfl; exact ⟨hB5w, HVB.out.1⟩; exact ⟨HRB.out.1, HVB.out.2⟩) HX6.out (HK6.out.upG (fun g hg => .inl hg)) (HK7.out.trans (hk9.mono (fun q _ e => .inr e)))⟩
    · have HR1 : Hid (rs = (⟨0, hv, 0, []⟩, h)) := by have := HRR.out; rwa [if_neg hvi] at this
      go_upto_region 2 with fail
      go_quiet (fail)
      rename Nat => nq
      obtain ⟨V, hV⟩ : ∃ V, V = w5.drewN nq := ⟨_, rfl⟩
      have KV : Hid (Kept Nil w5 V) := by rw [hV]; exact (Kept.refl _ _).drewN _
      rw [← hV]
      clear hV
      have HAV : Hid (V.heap[B5]? = some (.cells (anC ⟨0, hv, 0, []⟩) 31 (0, 0))) := KV.out.block _ _ HA5.out (fun e => e)
      have HRV : Hid (V.heap[R]? = some (.cells (anC ⟨0, 0, 0, []⟩) 31 (0, 0))) := KV.out.block _ _ HR5.out (fun e => e)
      go_wp2_with (first | ((with_reducible refine atLoad 31 ?_); go_must (refine wpList_loadW rfl _ _ rfl _ rfl _ _ _ HAV.out Tryz.underlying31 rfl Tryz.sizeAn rfl ?_)) | ((with_reducible refine atStore 31 ?_); go_must (refine wpList_storeW rfl _ _ _ rfl _ (anC ⟨0, hv, 0, []⟩) _ _ rfl rfl HRV.out rfl Tryz.sizeAn rfl (anC_one _) ?_); intro w9 hb9 hk9 hs9))
      refine bodyPost_ret (results_cellW rfl rfl hb9 Tryz.underlying31 rfl Tryz.sizeAn rfl) rfl ?_
      rw [HR1.out]
      exact ⟨rfl, HoM.done0 HGG.out (HKw5.out.trans KV.out) HRB.out.1 (lt_of_block HRV.out) (HX5.out.kept KV.out).m hk9⟩
end Go.Proofs.YtpfgnhockfofhaaGreat

/-
  The document's shards: a host in memory.
-/
namespace Go.Proofs.YtpfgnhockfofhaaGreat
open Go.RowKit

def HyAt (w : World) (b rb : Nat) (ai : Option Addr) (ni ci : Nat) (ak : Option Addr) (nk ck : Nat) : Prop := w.heap[b]? = some (.cells #[.pointer (some ⟨rb, 0, none⟩), .slice ai ni ci, .slice ak nk ck] 66 (0, 0))
/-- The document's host in memory. -/
structure HyX (G : Nat → Prop) (w : World) (b rb : Nat) (id : Int) (ay : Nat → Option Addr) (cy : Nat → Nat) (ai : Option Addr) (ci : Nat) (gk ck : Nat) (h : Hd) : Prop where
  ho : HyAt w b rb ai h.it.length ci (some ⟨gk, 0, none⟩) h.kb.length ck
  gb : G b
  gr : G rb
  rl : Ry G w rb id h.os ay cy
  it : OwnIt 0 w ai ci h.it
  gi : ∀ g, (Value.slice ai h.it.length ci).ownBlock = some g → G g
  kb : OwnB 0 w (some ⟨gk, 0, none⟩) ck h.kb
  gk : G gk
def HyM (G : Nat → Prop) (w : World) (b : Nat) (id : Int) (h : Hd) : Prop := ∃ rb ay cy ai ci gk ck, HyX G w b rb id ay cy ai ci gk ck h
theorem HyX.m {G : Nat → Prop} {w : World} {b rb : Nat} {id : Int} {ay : Nat → Option Addr} {cy : Nat → Nat} {ai : Option Addr} {ci gk ck : Nat} {h : Hd} (x : HyX G w b rb id ay cy ai ci gk ck h) : HyM G w b id h := ⟨_, _, _, _, _, _, _, x⟩
theorem HyX.keptX {G : Nat → Prop} {X : Nat → Obj → Prop} {w w' : World} {b rb : Nat} {id : Int} {ay : Nat → Option Addr} {cy : Nat → Nat} {ai : Option Addr} {ci gk ck : Nat} {h : Hd} (x : HyX G w b rb id ay cy ai ci gk ck h) (k : Kept X w w') (hX : ∀ q o, G q → ¬ X q o) : HyX G w' b rb id ay cy ai ci gk ck h :=
  ⟨k.block _ _ x.ho (hX _ _ x.gb), x.gb, x.gr, x.rl.keptX k (fun _ => hX _ _ x.gr) (fun q _ hq => hX q _ hq), own_keptG x.it k (fun g _ hg => hX g _ (x.gi g hg)), x.gi, own_keptG x.kb k (fun g _ hg => by
    have e : gk = g := by simpa [Value.ownBlock] using hg
    rw [← e]; exact hX _ _ x.gk), x.gk⟩
theorem HyM.keptX {G : Nat → Prop} {X : Nat → Obj → Prop} {w w' : World} {b : Nat} {id : Int} {h : Hd} (x : HyM G w b id h) (k : Kept X w w') (hX : ∀ q o, G q → ¬ X q o) : HyM G w' b id h := by
  obtain ⟨_, _, _, _, _, _, _, x⟩ := x
  exact (x.keptX k hX).m
theorem HyX.kept {G : Nat → Prop} {w w' : World} {b rb : Nat} {id : Int} {ay : Nat → Option Addr} {cy : Nat → Nat} {ai : Option Addr} {ci gk ck : Nat} {h : Hd} (x : HyX G w b rb id ay cy ai ci gk ck h) (k : Kept Nil w w') : HyX G w' b rb id ay cy ai ci gk ck h := x.keptX k (fun _ _ _ y => y)
theorem HyX.up {G H : Nat → Prop} {w : World} {b rb : Nat} {id : Int} {ay : Nat → Option Addr} {cy : Nat → Nat} {ai : Option Addr} {ci gk ck : Nat} {h : Hd} (x : HyX G w b rb id ay cy ai ci gk ck h) (k : ∀ g, G g → H g) : HyX H w b rb id ay cy ai ci gk ck h :=
  ⟨x.ho, k _ x.gb, k _ x.gr, x.rl.up k, x.it, fun g hg => k g (x.gi g hg), x.kb, k _ x.gk⟩
theorem HyM.up {G H : Nat → Prop} {w : World} {b : Nat} {id : Int} {h : Hd} (x : HyM G w b id h) (k : ∀ g, G g → H g) : HyM H w b id h := by
  obtain ⟨_, _, _, _, _, _, _, x⟩ := x
  exact (x.up k).m
theorem HyX.lt {G : Nat → Prop} {w : World} {b rb : Nat} {id : Int} {ay : Nat → Option Addr} {cy : Nat → Nat} {ai : Option Addr} {ci gk ck : Nat} {h : Hd} (x : HyX G w b rb id ay cy ai ci gk ck h) : HyX (fun g => G g ∧ g < w.heap.size) w b rb id ay cy ai ci gk ck h :=
  ⟨x.ho, ⟨x.gb, lt_of_block x.ho⟩, ⟨x.gr, by obtain ⟨_, hc⟩ := x.rl.cl; exact lt_of_block hc.blk⟩, ⟨x.rl.cl, x.rl.rows, fun k hk g hg => ⟨x.rl.good k hk g hg, (World.ownsRow.lt (x.rl.rows k hk) g (by rw [pksO_len]; exact hg)).2⟩⟩, x.it, fun g hg => ⟨x.gi g hg, (World.ownsRow.lt x.it g hg).2⟩, x.kb, ⟨x.gk, (World.ownsRow.lt x.kb gk rfl).2⟩⟩
theorem HyM.lt {G : Nat → Prop} {w : World} {b : Nat} {id : Int} {h : Hd} (x : HyM G w b id h) : HyM (fun g => G g ∧ g < w.heap.size) w b id h := by
  obtain ⟨_, _, _, _, _, _, _, x⟩ := x
  exact x.lt.m
/-- A host's block alone. -/
def TS (b : Nat) : Nat → Obj → Prop := fun q o => q = b ∧ ∃ cs, o = .cells cs 66 (0, 0)
theorem ts_no {b q : Nat} {t : TypeId} {cs : Array Value} (n : t ≠ 66) : ¬ TS b q (.cells cs t (0, 0)) := fun e => by
  obtain ⟨_, _, e⟩ := e
  cases e
  exact n rfl
theorem HyX.ts {G : Nat → Prop} {w w2 : World} {b rb : Nat} {id : Int} {ay : Nat → Option Addr} {cy : Nat → Nat} {ai : Option Addr} {ci gk ck : Nat} {h : Hd} (x : HyX G w b rb id ay cy ai ci gk ck h) (k : Kept Nil w w2) (i : Nat) (u : Value) : Kept (TS b) w2 (w2.setCell ⟨b, i, none⟩ u) := (Kept.refl _ _).setT (fun o ho => by
  have h2 := (x.kept k).ho
  unfold HyAt at h2
  rw [h2] at ho
  cases ho
  exact ⟨rfl, _, rfl⟩) _ _
/-- A host's items are others. -/
theorem HyX.items {G : Nat → Prop} {w w2 : World} {b rb : Nat} {id : Int} {ay : Nat → Option Addr} {cy : Nat → Nat} {ai : Option Addr} {ci gk ck : Nat} {h : Hd} (x : HyX G w b rb id ay cy ai ci gk ck h) (k : Kept Nil w w2) {a : Option Addr} {c : Nat} {qs : List Pr} (o : OwnIt w.heap.size w2 a c qs) :
    HyX (GN G w) (w2.setCell ⟨b, 1, none⟩ (.slice a qs.length c)) b rb id ay cy a c gk ck { h with it := qs } ∧ Kept (TG G) w (w2.setCell ⟨b, 1, none⟩ (.slice a qs.length c)) := by
  have x2 := x.kept k
  have hk := x.ts k 1 (.slice a qs.length c)
  refine ⟨⟨blk_set x2.ho 1 _, .inl x.gb, .inl x.gr, (x2.rl.keptX hk (fun _ => ts_no (by decide)) (fun q _ _ => ts_no (by decide))).up (fun g hg => .inl hg), own_keptG (o.mono (Nat.zero_le _)) hk (fun g _ _ => ts_no (by decide)), fun g hg => .inr (World.ownsRow.lt o g hg).1, own_keptG x2.kb hk (fun g _ _ => ts_no (by decide)), .inl x.gk⟩, (k.nilG : Kept (TG G) w w2).trans (hk.mono (fun q _ e => by rw [e.1]; exact x.gb))⟩
/-- A host's bounds are others. -/
theorem HyX.keys {G : Nat → Prop} {w w2 : World} {b rb : Nat} {id : Int} {ay : Nat → Option Addr} {cy : Nat → Nat} {ai : Option Addr} {ci gk ck : Nat} {h : Hd} (x : HyX G w b rb id ay cy ai ci gk ck h) (k : Kept Nil w w2) {g c : Nat} {ks : List Bd} (o : OwnB w.heap.size w2 (some ⟨g, 0, none⟩) c ks) :
    HyX (GN G w) (w2.setCell ⟨b, 2, none⟩ (.slice (some ⟨g, 0, none⟩) ks.length c)) b rb id ay cy ai ci g c { h with kb := ks } ∧ Kept (TG G) w (w2.setCell ⟨b, 2, none⟩ (.slice (some ⟨g, 0, none⟩) ks.length c)) := by
  have x2 := x.kept k
  have hk := x.ts k 2 (.slice (some ⟨g, 0, none⟩) ks.length c)
  refine ⟨⟨blk_set x2.ho 2 _, .inl x.gb, .inl x.gr, (x2.rl.keptX hk (fun _ => ts_no (by decide)) (fun q _ _ => ts_no (by decide))).up (fun g hg => .inl hg), own_keptG x2.it hk (fun g _ _ => ts_no (by decide)), fun g hg => .inl (x.gi g hg), own_keptG (o.mono (Nat.zero_le _)) hk (fun g _ _ => ts_no (by decide)), .inr (World.ownsRow.lt o g rfl).1⟩, (k.nilG : Kept (TG G) w w2).trans (hk.mono (fun q _ e => by rw [e.1]; exact x.gb))⟩
/-- A host's relay has changed. -/
theorem HyX.relay {G : Nat → Prop} {w w' : World} {b rb : Nat} {id : Int} {ay ay' : Nat → Option Addr} {cy cy' : Nat → Nat} {ai : Option Addr} {ci gk ck : Nat} {h : Hd} {os' : Nat → Oh} (x : HyX G w b rb id ay cy ai ci gk ck h) (r : Ry (GN G w) w' rb id os' ay' cy') (k : Kept (TY rb) w w') :
    HyX (GN G w) w' b rb id ay' cy' ai ci gk ck { h with os := os' } ∧ Kept (TG G) w w' := by
  have hno : ∀ q t cs, t ≠ 98 → ¬ TY rb q (.cells cs t (0, 0)) := fun q t cs n e => by
    obtain ⟨_, _, e⟩ := e
    cases e
    exact n rfl
  exact ⟨⟨k.block _ _ x.ho (hno _ _ _ (by decide)), .inl x.gb, .inl x.gr, r, own_keptG x.it k (fun g _ _ => hno _ _ _ (by decide)), fun g hg => .inl (x.gi g hg), own_keptG x.kb k (fun g _ _ => hno _ _ _ (by decide)), .inl x.gk⟩, k.mono (fun q o e => by rw [e.1]; exact x.gr)⟩
theorem HyX.bounds {G : Nat → Prop} {w : World} {b rb : Nat} {id : Int} {ay : Nat → Option Addr} {cy : Nat → Nat} {ai : Option Addr} {ci gk ck : Nat} {h : Hd} (x : HyX G w b rb id ay cy ai ci gk ck h) (hf : FitB h.kb) : BdRow w.heap.size w (some ⟨gk, 0, none⟩) h.kb := x.kb.row hf
theorem OwnIt.itRow {B c : Nat} {w : World} {ao : Option Addr} {ps : List Pr} (h : OwnIt B w ao c ps) : ItRow w ao ps := fun j hj => by
  obtain ⟨g, e, _, _, c0, c1, _⟩ := h.cells hj
  subst e
  refine ⟨_, rfl, ?_, ?_⟩
  · rw [Addr.add_lit, Nat.zero_add]; exact c0
  · rw [Addr.add_lit]
    show w.cell? ⟨g, 0 + j * 2 + 1, .none⟩ = _
    rw [Nat.zero_add]; exact c1
theorem HyM.doneX {G G0 : Nat → Prop} {X : Nat → Obj → Prop} {w W w6 w9 : World} {b : Nat} {id : Int} {h : Hd} (hG : ∀ g, G0 g → G g ∧ g < w.heap.size) (hK : Kept Nil w W) (hX : ∀ q o, X q o → w.heap.size ≤ q ∧ q < W.heap.size) (x : HyM (GN G0 W) w6 b id h) (k : Kept (TG (GN G0 W)) W w6) (k9 : Kept X w6 w9) : HyM (GN G w) w9 b id h ∧ Kept (TG G) w w9 := by
  have hn : ∀ q o, GN G0 W q → ¬ X q o := fun q o e y => by
    have h1 := hX q o y
    rcases e with e | e
    · have := (hG q e).2; omega
    · omega
  refine ⟨(x.keptX k9 hn).up (fun g hg => ?_), ⟨(k9.os.trans k.os).trans hK.os, (k9.tape.trans k.tape).trans hK.tape, (k9.output.trans k.output).trans hK.output, Nat.le_trans (Nat.le_trans hK.size k.size) k9.size, fun q o ho hx => ?_⟩⟩
  · rcases hg with hg | hg
    · exact .inl (hG g hg).1
    · exact .inr (Nat.le_trans hK.size hg)
  · have hq := lt_of_block ho
    refine k9.block q o (k.block q o (hK.block q o ho (fun e => e)) (fun e => ?_)) (fun e => ?_)
    · rcases e with e | e
      · exact hx (hG q e).1
      · have := hK.size; omega
    · have := (hX q o e).1; omega
/-- The value that the document's ask finds. -/
def lkF (key : List UInt8) (l : List Pr) : Option (List UInt8) := l.foldl (fun r y => if y.k = key then some y.v else r) none
theorem lkF_next {key : List UInt8} {l : List Pr} {k : Nat} (h : k < l.length) : lkF key (l.take (k + 1)) = if l[k].k = key then some l[k].v else lkF key (l.take k) := by
  unfold lkF
  rw [List.take_succ_eq_append_getElem h, List.foldl_append]
  rfl
theorem lk_stay {key : List UInt8} : ∀ (l : List Pr) (r : Option (List UInt8)), (∀ y ∈ l, y.k ≠ key) → l.foldl (fun r y => if y.k = key then some y.v else r) r = r
  | [], _, _ => rfl
  | y :: t, r, h => by
    rw [List.foldl_cons, if_neg (h y (List.mem_cons_self ..)), lk_stay t r (fun z hz => h z (List.mem_cons_of_mem _ hz))]
theorem lkF_none {key : List UInt8} {l : List Pr} (hs : Srt l) (ht : isThere key l = false) : lkF key l = none := lk_stay _ _ (not_there hs ht)
theorem lkF_some {key : List UInt8} {l : List Pr} (hs : Srt l) (ht : isThere key l = true) : lkF key l = some (match l[lowP key l]? with | some x => x.v | none => []) := by
  obtain ⟨hl, hk⟩ := there_get ht
  have hsp : l = l.take (lowP key l) ++ l.drop (lowP key l) := (List.take_append_drop _ _).symm
  unfold lkF
  conv => lhs; rw [hsp]
  rw [List.drop_eq_getElem_cons hl, List.foldl_append, List.foldl_cons, if_pos hk, lk_stay _ _ (drop_other hs (Nat.lt_succ_self _)), List.getElem?_eq_getElem hl]
end Go.Proofs.YtpfgnhockfofhaaGreat
