/-
  Joined: WShE, WShA, WShG.
-/
import Derived.Test.YtpfgnhockfofhaaM20
import Derived.Test.YtpfgnhockfofhaaM19
import Derived.Deep.RegionLaw
/-
  Shards: a host answers.
-/
namespace Go.Proofs.Ytpfgnhockfofhaa
open Go.RowKit

def anC (a : An) : Array Value := #[.int .i64 a.er, .int .i64 a.ho, .int .i64 a.rk, .string (bs a.rv), .int .i64 0, .slice none 0 0]
theorem Try.sizeAn : (Try.prog.info? 80).map (·.size) = some 6 := by kernel_rfl
theorem Try.sizeSt : (Try.prog.info? 74).map (·.size) = some 7 := by kernel_rfl
theorem anC_one (a : An) : (anC a).all (·.oneCell') = true := by
  unfold anC
  simp only [List.all_toArray, List.all_cons, List.all_nil, Bool.and_true]
  rfl
theorem HoM.doneX {G G0 : Nat → Prop} {X : Nat → Obj → Prop} {w W w6 w9 : World} {b : Nat} {id : Int} {h : Hd} (hG : ∀ g, G0 g → G g ∧ g < w.heap.size) (hK : Kept Nil w W) (hX : ∀ q o, X q o → w.heap.size ≤ q ∧ q < W.heap.size) (x : HoM (GN G0 W) w6 b id h) (k : Kept (TG (GN G0 W)) W w6) (k9 : Kept X w6 w9) : HoM (GN G w) w9 b id h ∧ Kept (TG G) w w9 := by
  have hn : ∀ q o, GN G0 W q → ¬ X q o := fun q o e y => by
    have h1 := hX q o y
    rcases e with e | e
    · have := (hG q e).2; omega
    · omega
  refine ⟨(x.keptX k9 hn).up (fun g hg => ?_), ⟨(k9.os.trans k.os).trans hK.os, (k9.tape.trans k.tape).trans hK.tape, (k9.output.trans k.output).trans hK.output, Nat.le_trans (Nat.le_trans hK.size k.size) k9.size, fun q o ho hx => ?_⟩⟩
  · rcases hg with hg | hg
    · exact .inl (hG g hg).1
    · exact .inr (Nat.le_trans hK.size hg)
  · have hq := lt_of_block ho
    refine k9.block q o (k.block q o (hK.block q o ho (fun e => e)) (fun e => ?_)) (fun e => ?_)
    · rcases e with e | e
      · exact hx (hG q e).1
      · have := hK.size; omega
    · have := (hX q o e).1; omega
set_option maxRecDepth 100000 in
set_option maxHeartbeats 4000000 in
theorem answer_any (K : List (List UInt8)) (M : Nat) (G : Nat → Prop) (b : Nat) (id : Int) (h : Hd) (s : Sp) (w : World) (x : HoM G w b id h) (ok : OkH K M h) (hKM : K.length ≤ M) (hM : M ≤ 1900000) :
    Calls Try.prog 39 #[.pointer (some ⟨b, 0, none⟩), .agg (stC s)] w fun e w' => e = .returned (.agg (anC (answerH id s h).1)) ∧ HoM (GN G w) w' b id (answerH id s h).2 ∧ Kept (TG G) w w' := by
  obtain ⟨rb, ao, cs, ai, ci, gk, ck, x⟩ := x
  obtain ⟨v1, v2, v3⟩ := vb_facts ok.kv
  have hkl := ok.kl
  have HOK : Hid (OkH K M h) := ok
  have HX : Hid (HoX (fun g => G g ∧ g < w.heap.size) w b rb id ao cs ai ci gk ck h) := x.lt
  obtain ⟨G0, HG0⟩ : ∃ G0 : Nat → Prop, Hid (G0 = fun g => G g ∧ g < w.heap.size) := ⟨_, rfl⟩
  rw [← HG0.out] at HX
  have HGG : Hid (∀ g, G0 g → G g ∧ g < w.heap.size) := fun g hg => by rw [HG0.out] at hg; exact hg
  obtain ⟨W, hW⟩ : ∃ W, W = (w.alloc (.cells (stC s) 74)).alloc (.cells (anC ⟨0, 0, 0, []⟩) 80) := ⟨_, rfl⟩
  obtain ⟨A, HA⟩ : ∃ A : Nat, Hid (A = w.heap.size) := ⟨_, rfl⟩
  obtain ⟨R, HR⟩ : ∃ R : Nat, Hid (R = w.heap.size + 1) := ⟨_, rfl⟩
  have KW : Hid (Kept Nil w W) := by rw [hW]; exact ((Kept.refl _ _).alloc _).alloc _
  have HAW : Hid (W.heap[A]? = some (.cells (stC s) 74 (0, 0))) := by rw [hW, HA.out]; exact blk_past (blk_new _ _) _
  have HRW : Hid (W.heap[R]? = some (.cells (anC ⟨0, 0, 0, []⟩) 80 (0, 0))) := by rw [hW, HR.out]; exact blk_new1 w _ _
  have HRB : Hid (w.heap.size ≤ R ∧ R < W.heap.size) := ⟨by rw [HR.out]; omega, lt_of_block HRW.out⟩
  have HXW : Hid (HoX G0 W b rb id ao cs ai ci gk ck h) := HX.out.kept KW.out
  have p4 : W.cell? ⟨A, 4, none⟩ = some (.string (bs s.ky)) := blk_at HAW.out 4 rfl
  have HHO : Hid (W.heap[b]? = some (.cells #[.pointer (some ⟨rb, 0, none⟩), .int .i64 id, .slice ai h.it.length ci, .slice (some ⟨gk, 0, none⟩) h.kb.length ck] 114 (0, 0))) := HXW.out.ho
  have c3 : W.cell? ⟨b, 3, none⟩ = some (.slice (some ⟨gk, 0, none⟩) h.kb.length ck) := blk_at HHO.out 3 rfl
  have c1 : W.cell? ⟨b, 1, none⟩ = some (.int .i64 id) := blk_at HHO.out 1 rfl
  have hbl : b < W.heap.size := lt_of_block HHO.out
  have hAl : A < W.heap.size := lt_of_block HAW.out
  obtain ⟨Y, HY⟩ : ∃ Y, Y = (W.alloc (.cells #[.int .i64 0, .int .i64 0, .int .i64 0, .string ⟨#[]⟩, .int .i64 0, .slice none 0 0] 80)).drew := ⟨_, rfl⟩
  have KY : Hid (Kept Nil W Y) := by rw [HY]; exact ((Kept.refl _ _).alloc _).drew
  have HBY : Hid (Y.heap[W.heap.size]? = some (.cells #[.int .i64 0, .int .i64 0, .int .i64 0, .string ⟨#[]⟩, .int .i64 0, .slice none 0 0] 80 (0, 0))) := by rw [HY]; exact blk_new W _
  have AT := at_any W.heap.size ck ⟨gk, 0, none⟩ h.kb s.ky W.drew ((HXW.out.kept (Kept.refl _ _).drew).bounds v3) v1 (by omega)
  have AT2 := at_any Y.heap.size ck ⟨gk, 0, none⟩ h.kb s.ky Y ((HXW.out.kept KY.out).bounds v3) v1 (by omega)
  obtain ⟨hv, HV⟩ : ∃ hv, Hid (hv = hoAt s.ky h.kb) := ⟨_, rfl⟩
  rw [← HV.out] at AT AT2
  obtain ⟨nk, HNK⟩ : ∃ nk, Hid (nk = h.kb.length) := ⟨_, rfl⟩
  rw [← HNK.out] at AT AT2 c3
  rw [HY] at AT2
  obtain ⟨rs, HRS⟩ : ∃ rs, Hid (rs = answerH id s h) := ⟨_, rfl⟩
  have hrs : rs = if hv = id then (⟨0, hv, (applyH s h).1, (applyH s h).2.1⟩, (applyH s h).2.2) else (⟨0, hv, 0, []⟩, h) := by rw [HRS.out, HV.out]; rfl
  rw [← HRS.out]
  have HRR : Hid (rs = if hv = id then (⟨0, hv, (applyH s h).1, (applyH s h).2.1⟩, (applyH s h).2.2) else (⟨0, hv, 0, []⟩, h)) := hrs
  clear hrs x HG0 v1 v2 v3
  go_enter Try.func39, Try.ntmps39
  go_upto_region 1 with fail
  rw [show (w.alloc (.cells (stC s) 74)).alloc (.cells #[.int .i64 0, .int .i64 0, .int .i64 0, .string ⟨#[]⟩, .int .i64 0, .slice none 0 0] 80) = W from hW.symm, ← HR.out, ← HA.out]
  clear hW
  go_cut [5] (fun x w5 => ∃ B5, x = .pointer (some ⟨B5, 0, none⟩) ∧ Hid (W.heap.size ≤ B5) ∧ Hid (w5.heap[B5]? = some (.cells (anC ⟨0, hv, 0, []⟩) 80 (0, 0))) ∧ Hid (Kept Nil W w5))
  case first =>
    go_region_with (go_at_call 49; first | (go_fit AT; rintro e w2 ⟨rfl, k2⟩; have K2 : Hid (Kept Nil W w2) := ((Kept.refl _ _).drew.trans k2)) | (go_fit AT2; rintro e w2 ⟨rfl, k2⟩; rw [← HY] at k2; have K2 : Hid (Kept Nil W w2) := (KY.out.trans k2); have HB2 : w2.heap[W.heap.size]? = some (.cells #[.int .i64 0, .int .i64 0, .int .i64 0, .string ⟨#[]⟩, .int .i64 0, .slice none 0 0] 80 (0, 0)) := (k2.block _ _ HBY.out (fun e => e)); have u0 := blk_at HB2 0 rfl; have u1 := blk_at HB2 1 rfl; have u2 := blk_at HB2 2 rfl; have u3 := blk_at HB2 3 rfl; have u4 := blk_at HB2 4 rfl; have u5 := blk_at HB2 5 rfl; have z0 := blk_free HB2 0; have z1 := blk_free HB2 1; have z2 := blk_free HB2 2; have z3 := blk_free HB2 3; have z4 := blk_free HB2 4; have z5 := blk_free HB2 5))
    all_goals
      go_wp2
      go_meet
      have hno : ∀ o, W.heap[W.heap.size]? = some o → Nil W.heap.size o := fun o ho => by have := lt_of_block ho; omega
      first
        | exact ⟨_, rfl, K2.out.size, blk_new w2 _, K2.out.alloc _⟩
        | exact ⟨_, rfl, Nat.le_refl _, blk_set (blk_set (blk_set (blk_set (blk_set (blk_set HB2 0 _) 1 _) 2 _) 3 _) 4 _) 5 _, (((((K2.out.setT hno _ _).setT hno _ _).setT hno _ _).setT hno _ _).setT hno _ _).setT hno _ _⟩
  case rest =>
    rename World => w5
    obtain ⟨B5, rfl, HB5, HA5, HK5⟩ := hcut
    have HX5 : Hid (HoX G0 w5 b rb id ao cs ai ci gk ck h) := HXW.out.kept HK5.out
    have HR5 : Hid (w5.heap[R]? = some (.cells (anC ⟨0, 0, 0, []⟩) 80 (0, 0))) := HK5.out.block _ _ HRW.out (fun e => e)
    have HS5 : Hid (w5.heap[A]? = some (.cells (stC s) 74 (0, 0))) := HK5.out.block _ _ HAW.out (fun e => e)
    have r1 : w5.cell? ⟨B5, 1, none⟩ = some (.int .i64 hv) := blk_at HA5.out 1 rfl
    have d1 : w5.cell? ⟨b, 1, none⟩ = some (.int .i64 id) := blk_at HX5.out.ho 1 rfl
    have hBl : B5 < w5.heap.size := lt_of_block HA5.out
    have hbl5 : b < w5.heap.size := lt_of_block HX5.out.ho
    have HBR : Hid (B5 ≠ R) := fun e => by have := HB5.out; have := HRB.out.2; omega
    have HKw5 : Hid (Kept Nil w w5) := KW.out.trans HK5.out
    clear AT AT2 HY p4 c3 c1
    apply_assumption
    by_cases hvi : hv = id
    · have HR1 : Hid (rs = (⟨0, hv, (applyH s h).1, (applyH s h).2.1⟩, (applyH s h).2.2)) := by have := HRR.out; rwa [if_pos hvi] at this
      subst hvi
      go_upto_region 2 with fail
      go_quiet (fail)
      rename Nat => nq
      obtain ⟨V, hV⟩ : ∃ V, V = w5.drewN nq := ⟨_, rfl⟩
      have KV : Hid (Kept Nil w5 V) := by rw [hV]; exact (Kept.refl _ _).drewN _
      rw [← hV]
      clear hV
      have HAV : Hid (V.heap[B5]? = some (.cells (anC ⟨0, hv, 0, []⟩) 80 (0, 0))) := KV.out.block _ _ HA5.out (fun e => e)
      have HSV : Hid (V.heap[A]? = some (.cells (stC s) 74 (0, 0))) := KV.out.block _ _ HS5.out (fun e => e)
      have HRV : Hid (V.heap[R]? = some (.cells (anC ⟨0, 0, 0, []⟩) 80 (0, 0))) := KV.out.block _ _ HR5.out (fun e => e)
      have AP := apply_any K M G0 b hv h s V (HX5.out.kept KV.out).m HOK.out hKM hM
      obtain ⟨rk, HRK⟩ : ∃ rk, Hid (rk = (applyH s h).1) := ⟨_, rfl⟩
      obtain ⟨rv, HRV2⟩ : ∃ rv, Hid (rv = (applyH s h).2.1) := ⟨_, rfl⟩
      rw [← HRK.out, ← HRV2.out] at AP
      have HR2 : Hid (rs = (⟨0, hv, rk, rv⟩, (applyH s h).2.2)) := by rw [HRK.out, HRV2.out]; exact HR1.out
      unfold rsC at AP
      go_wp2_with ((with_reducible refine atLoad 74 ?_); go_must (refine wpList_loadW rfl _ _ rfl _ rfl _ _ _ HSV.out Try.underlying74 rfl Try.sizeSt rfl ?_))
      go_fit AP
      rintro e w6 ⟨rfl, x6, k6⟩
      have HGn : Hid (∀ q, w.heap.size ≤ q → ¬ G0 q) := fun q hq e => by have := (HGG.out q e).2; omega
      have hB5w : w.heap.size ≤ B5 := Nat.le_trans KW.out.size HB5.out
      have HB6 : Hid (w6.heap[B5]? = some (.cells #[.int .i64 0, .int .i64 hv, .int .i64 0, .string (bs []), .int .i64 0, .slice none 0 0] 80 (0, 0))) := k6.block _ _ HAV.out (fun e => HGn.out _ hB5w e)
      have HR6 : Hid (w6.heap[R]? = some (.cells (anC ⟨0, 0, 0, []⟩) 80 (0, 0))) := k6.block _ _ HRV.out (fun e => HGn.out _ HRB.out.1 e)
      have HX6 : Hid (HoM (GN G0 V) w6 b hv (applyH s h).2.2) := x6
      have HK6 : Hid (Kept (TG G0) V w6) := k6
      have HVB : Hid (B5 < V.heap.size ∧ R < V.heap.size) := ⟨lt_of_block HAV.out, lt_of_block HRV.out⟩
      have u2 := blk_at HB6.out 2 rfl
      have u3 := blk_at HB6.out 3 rfl
      have u4 := blk_at HB6.out 4 rfl
      have u5 := blk_at HB6.out 5 rfl
      have z2 := blk_free HB6.out 2
      have z3 := blk_free HB6.out 3
      have z4 := blk_free HB6.out 4
      have z5 := blk_free HB6.out 5
      have hB6l : B5 < w6.heap.size := lt_of_block HB6.out
      clear AP x6 k6
      go_upto_region 4 with fail
      obtain ⟨w7, hw7⟩ : ∃ w7, w7 = (((w6.setCell ⟨B5, 2, none⟩ (.int .i64 rk)).setCell ⟨B5, 3, none⟩ (.string (bs rv))).setCell ⟨B5, 4, none⟩ (.int .i64 0)).setCell ⟨B5, 5, none⟩ (.slice none 0 0) := ⟨_, rfl⟩
      have HB7 : Hid (w7.heap[B5]? = some (.cells (anC ⟨0, hv, rk, rv⟩) 80 (0, 0))) := by rw [hw7]; exact blk_set (blk_set (blk_set (blk_set HB6.out 2 _) 3 _) 4 _) 5 _
      have hX : ∀ o, w6.heap[B5]? = some o → (fun (q : Nat) (_ : Obj) => q = B5 ∨ q = R) B5 o := fun _ _ => .inl rfl
      have HK7 : Hid (Kept (fun (q : Nat) (_ : Obj) => q = B5 ∨ q = R) w6 w7) := by rw [hw7]; exact ((((Kept.refl _ _).setT hX _ _).setT hX _ _).setT hX _ _).setT hX _ _
      have HR7 : Hid (w7.heap[R]? = some (.cells (anC ⟨0, 0, 0, []⟩) 80 (0, 0))) := by rw [hw7]; exact blk_other (blk_other (blk_other (blk_other HR6.out HBR.out.symm _) HBR.out.symm _) HBR.out.symm _) HBR.out.symm _
      rw [← hw7]
      clear hw7 u2 u3 u4 u5 z2 z3 z4 z5
      go_wp2_with (first | ((with_reducible refine atLoad 80 ?_); go_must (refine wpList_loadW rfl _ _ rfl _ rfl _ _ _ HB7.out Try.underlying80 rfl Try.sizeAn rfl ?_)) | ((with_reducible refine atStore 80 ?_); go_must (refine wpList_storeW rfl _ _ _ rfl _ (anC ⟨0, hv, rk, rv⟩) _ _ rfl rfl HR7.out rfl Try.sizeAn rfl (anC_one _) ?_); intro w9 hb9 hk9 hs9))
      refine bodyPost_ret (results_cellW rfl rfl hb9 Try.underlying80 rfl Try.sizeAn rfl) rfl ?_
      rw [HR2.out]
      exact ⟨rfl, HoM.doneX HGG.out (HKw5.out.trans KV.out) (fun q o e => by rcases e with rfl | rfl; exact ⟨hB5w, HVB.out.1⟩; exact ⟨HRB.out.1, HVB.out.2⟩) HX6.out (HK6.out.upG (fun g hg => .inl hg)) (HK7.out.trans (hk9.mono (fun q _ e => .inr e)))⟩
    · have HR1 : Hid (rs = (⟨0, hv, 0, []⟩, h)) := by have := HRR.out; rwa [if_neg hvi] at this
      go_upto_region 2 with fail
      go_quiet (fail)
      rename Nat => nq
      obtain ⟨V, hV⟩ : ∃ V, V = w5.drewN nq := ⟨_, rfl⟩
      have KV : Hid (Kept Nil w5 V) := by rw [hV]; exact (Kept.refl _ _).drewN _
      rw [← hV]
      clear hV
      have HAV : Hid (V.heap[B5]? = some (.cells (anC ⟨0, hv, 0, []⟩) 80 (0, 0))) := KV.out.block _ _ HA5.out (fun e => e)
      have HRV : Hid (V.heap[R]? = some (.cells (anC ⟨0, 0, 0, []⟩) 80 (0, 0))) := KV.out.block _ _ HR5.out (fun e => e)
      go_wp2_with (first | ((with_reducible refine atLoad 80 ?_); go_must (refine wpList_loadW rfl _ _ rfl _ rfl _ _ _ HAV.out Try.underlying80 rfl Try.sizeAn rfl ?_)) | ((with_reducible refine atStore 80 ?_); go_must (refine wpList_storeW rfl _ _ _ rfl _ (anC ⟨0, hv, 0, []⟩) _ _ rfl rfl HRV.out rfl Try.sizeAn rfl (anC_one _) ?_); intro w9 hb9 hk9 hs9))
      refine bodyPost_ret (results_cellW rfl rfl hb9 Try.underlying80 rfl Try.sizeAn rfl) rfl ?_
      rw [HR1.out]
      exact ⟨rfl, HoM.done0 HGG.out (HKw5.out.trans KV.out) HRB.out.1 (lt_of_block HRV.out) (HX5.out.kept KV.out).m hk9⟩
end Go.Proofs.Ytpfgnhockfofhaa

/-
  Shards in memory: each host's blocks are its own, and so are those of what is on its way.
-/
namespace Go.Proofs.Ytpfgnhockfofhaa
open Go.RowKit

def hsL (hs : Nat → Nat) (n : Nat) : List Value := (List.range n).map fun i => .pointer (some ⟨hs i, 0, none⟩)
/-- Shards in memory: host i's blocks are those of Gs i, the rest's those of Gs 10. -/
structure ShX (Gs : Nat → Nat → Prop) (w : World) (b hb ch : Nat) (hs : Nat → Nat) (aw : Option Addr) (cw : Nat) (S : Sd) : Prop where
  blk : w.heap[b]? = some (.cells #[.slice (some ⟨hb, 0, none⟩) S.n ch, .slice aw S.wy.length cw] 98 (0, 0))
  gb : Gs 10 b
  gh : Gs 10 hb
  row : w.ownsRow 0 99 1 (.slice (some ⟨hb, 0, none⟩) S.n ch) S.n (hsL hs S.n)
  wy : RowAt w 34 5 (.slice aw S.wy.length cw) S.wy.length (pkCells S.wy)
  gw : ∀ g, (Value.slice aw S.wy.length cw).ownBlock = some g → Gs 10 g
  ho : ∀ i, i < S.n → HoM (Gs i) w (hs i) (i + 1 : Nat) (S.ho i)
  dis : ∀ i j g, Gs i g → Gs j g → i = j
  lt : ∀ i g, Gs i g → g < w.heap.size
  n9 : S.n ≤ 9
def ShM (G : Nat → Prop) (w : World) (b : Nat) (S : Sd) : Prop := ∃ Gs hb ch hs aw cw, ShX Gs w b hb ch hs aw cw S ∧ ∀ i g, Gs i g → G g
theorem ShX.keptX {Gs : Nat → Nat → Prop} {X : Nat → Obj → Prop} {w w' : World} {b hb ch : Nat} {hs : Nat → Nat} {aw : Option Addr} {cw : Nat} {S : Sd} (x : ShX Gs w b hb ch hs aw cw S) (k : Kept X w w') (hX : ∀ i q o, Gs i q → ¬ X q o) : ShX Gs w' b hb ch hs aw cw S :=
  ⟨k.block _ _ x.blk (hX _ _ _ x.gb), x.gb, x.gh, own_keptG x.row k (fun g cs hg => by
    have e : hb = g := by simpa [Value.ownBlock] using hg
    rw [← e]; exact hX _ _ _ x.gh), x.wy.keptX k (fun g cs hg => hX _ _ _ (x.gw g hg)), x.gw, fun i hi => (x.ho i hi).keptX k (fun q o hq => hX i q o hq), x.dis, fun i g hg => Nat.lt_of_lt_of_le (x.lt i g hg) k.size, x.n9⟩
theorem ShX.kept {Gs : Nat → Nat → Prop} {w w' : World} {b hb ch : Nat} {hs : Nat → Nat} {aw : Option Addr} {cw : Nat} {S : Sd} (x : ShX Gs w b hb ch hs aw cw S) (k : Kept Nil w w') : ShX Gs w' b hb ch hs aw cw S := x.keptX k (fun _ _ _ _ e => e)
theorem ShM.keptX {G : Nat → Prop} {X : Nat → Obj → Prop} {w w' : World} {b : Nat} {S : Sd} (x : ShM G w b S) (k : Kept X w w') (hX : ∀ q o, G q → ¬ X q o) : ShM G w' b S := by
  obtain ⟨Gs, hb, ch, hs, aw, cw, x, hG⟩ := x
  exact ⟨Gs, hb, ch, hs, aw, cw, x.keptX k (fun i q o hq => hX q o (hG i q hq)), hG⟩
theorem ShM.up {G H : Nat → Prop} {w : World} {b : Nat} {S : Sd} (x : ShM G w b S) (k : ∀ g, G g → H g) : ShM H w b S := by
  obtain ⟨Gs, hb, ch, hs, aw, cw, x, hG⟩ := x
  exact ⟨Gs, hb, ch, hs, aw, cw, x, fun i g hg => k g (hG i g hg)⟩
theorem ShM.lt {G : Nat → Prop} {w : World} {b : Nat} {S : Sd} (x : ShM G w b S) : ShM (fun g => G g ∧ g < w.heap.size) w b S := by
  obtain ⟨Gs, hb, ch, hs, aw, cw, x, hG⟩ := x
  exact ⟨Gs, hb, ch, hs, aw, cw, x, fun i g hg => ⟨hG i g hg, x.lt i g hg⟩⟩
/-- A family whose member i may have what is new. -/
def famN (Gs : Nat → Nat → Prop) (i : Nat) (w w' : World) : Nat → Nat → Prop := fun j g => if j = i then GN (Gs i) w g ∧ g < w'.heap.size else Gs j g
theorem famN_sub {Gs : Nat → Nat → Prop} {i : Nat} {w w' : World} {j g : Nat} (h : famN Gs i w w' j g) : Gs j g ∨ w.heap.size ≤ g := by
  unfold famN at h
  split at h
  · rename_i e; subst e; exact h.1
  · exact .inl h
theorem famN_old {Gs : Nat → Nat → Prop} {i : Nat} {w w' : World} {j g : Nat} (h : Gs j g) (hl : g < w'.heap.size) : famN Gs i w w' j g := by
  unfold famN
  split
  · rename_i e; subst e; exact ⟨.inl h, hl⟩
  · exact h
theorem famN_new {Gs : Nat → Nat → Prop} {i : Nat} {w w' : World} {g : Nat} (h : GN (Gs i) w g) (hl : g < w'.heap.size) : famN Gs i w w' i g := by
  unfold famN
  rw [if_pos rfl]
  exact ⟨h, hl⟩
theorem famN_dis {Gs : Nat → Nat → Prop} {i : Nat} {w w' : World} (hd : ∀ i j g, Gs i g → Gs j g → i = j) (hl : ∀ i g, Gs i g → g < w.heap.size) : ∀ j k g, famN Gs i w w' j g → famN Gs i w w' k g → j = k := fun j k g h1 h2 => by
  unfold famN at h1 h2
  split at h1
  · rename_i e
    split at h2
    · rename_i e2; rw [e, e2]
    · rcases h1.1 with h1 | h1
      · rw [e]; exact hd _ _ _ h1 h2
      · have := hl _ _ h2; omega
  · split at h2
    · rename_i e
      rcases h2.1 with h2 | h2
      · rw [e]; exact hd _ _ _ h1 h2
      · have := hl _ _ h1; omega
    · exact hd _ _ _ h1 h2
theorem famN_lt {Gs : Nat → Nat → Prop} {i : Nat} {w w' : World} (hl : ∀ i g, Gs i g → g < w.heap.size) (hs : w.heap.size ≤ w'.heap.size) : ∀ j g, famN Gs i w w' j g → g < w'.heap.size := fun j g h => by
  unfold famN at h
  split at h
  · exact h.2
  · exact Nat.lt_of_lt_of_le (hl _ _ h) hs
/-- A host was called. -/
theorem ShX.host {Gs : Nat → Nat → Prop} {w w' : World} {b hb ch : Nat} {hs : Nat → Nat} {aw : Option Addr} {cw : Nat} {S : Sd} (x : ShX Gs w b hb ch hs aw cw S) {i : Nat} (hi : i < S.n) {h' : Hd} (y : HoM (GN (Gs i) w) w' (hs i) (i + 1 : Nat) h') (k : Kept (TG (Gs i)) w w') : ShX (famN Gs i w w') w' b hb ch hs aw cw (putH S i h') := by
  have h9 := x.n9
  have no : ∀ j, j ≠ i → ∀ q (o : Obj), Gs j q → ¬ TG (Gs i) q o := fun j hj q o hq e => hj (x.dis _ _ _ hq e)
  have up : ∀ j g, Gs j g → famN Gs i w w' j g := fun j g hg => famN_old hg (Nat.lt_of_lt_of_le (x.lt _ _ hg) k.size)
  refine ⟨k.block _ _ x.blk (no 10 (by omega) _ _ x.gb), up _ _ x.gb, up _ _ x.gh, own_keptG x.row k (fun g cs hg => ?_), x.wy.keptX k (fun g cs hg => no 10 (by omega) _ _ (x.gw g hg)), fun g hg => up _ _ (x.gw g hg), fun j hj => ?_, famN_dis x.dis x.lt, famN_lt x.lt k.size, x.n9⟩
  · have e : hb = g := by simpa [Value.ownBlock] using hg
    rw [← e]; exact no 10 (by omega) _ _ x.gh
  · show HoM _ _ _ _ (upd S.ho i h' j)
    by_cases e : j = i
    · subst e
      rw [upd_self]
      exact y.lt.up (fun g hg => famN_new hg.1 hg.2)
    · rw [upd_ne _ _ e]
      exact ((x.ho j hj).keptX k (fun q o hq => no j e q o hq)).up (fun g hg => up j g hg)
/-- What is on its way has changed in memory (w1), and is noted. -/
def TP (aw : Option Addr) (n cw : Nat) : Nat → Obj → Prop := fun q o => (Value.slice aw n cw).ownBlock = some q ∧ ∃ cs, o = .cells cs 34 (0, 0)
theorem ShX.way {Gs : Nat → Nat → Prop} {w w1 : World} {b hb ch : Nat} {hs : Nat → Nat} {aw : Option Addr} {cw : Nat} {S : Sd} (x : ShX Gs w b hb ch hs aw cw S) (k : Kept (TP aw S.wy.length cw) w w1) {a : Option Addr} {c : Nat} {ps : List Pk} (r : RowAt w1 34 5 (.slice a ps.length c) ps.length (pkCells ps)) (hg : ∀ g, (Value.slice a ps.length c).ownBlock = some g → GN (Gs 10) w g) :
    ShX (famN Gs 10 w w1) (w1.setCell ⟨b, 1, none⟩ (.slice a ps.length c)) b hb ch hs a c { S with wy := ps } ∧ Kept (TG (Gs 10)) w (w1.setCell ⟨b, 1, none⟩ (.slice a ps.length c)) := by
  have h9 := x.n9
  have hno : ∀ q t cs, t ≠ 34 → ¬ TP aw S.wy.length cw q (.cells cs t (0, 0)) := fun q t cs n e => by
    obtain ⟨_, _, e⟩ := e
    cases e
    exact n rfl
  have hb1 : w1.heap[b]? = some (.cells #[.slice (some ⟨hb, 0, none⟩) S.n ch, .slice aw S.wy.length cw] 98 (0, 0)) := k.block _ _ x.blk (hno _ _ _ (by decide))
  have kG : Kept (TG (Gs 10)) w (w1.setCell ⟨b, 1, none⟩ (.slice a ps.length c)) := (k.mono (fun q o e => x.gw q e.1) : Kept (TG (Gs 10)) w w1).setT (fun o _ => x.gb) _ _
  have hsz : (w1.setCell ⟨b, 1, none⟩ (.slice a ps.length c)).heap.size = w1.heap.size := by simp [World.setCell]
  have no : ∀ j, j ≠ 10 → ∀ q (o : Obj), Gs j q → ¬ TG (Gs 10) q o := fun j hj q o hq e => hj (x.dis _ _ _ hq e)
  have up : ∀ j g, Gs j g → famN Gs 10 w w1 j g := fun j g hg => famN_old hg (Nat.lt_of_lt_of_le (x.lt _ _ hg) k.size)
  refine ⟨⟨blk_set hb1 1 _, up _ _ x.gb, up _ _ x.gh, own_setTy hb1 (own_keptG x.row k (fun g cs hg => hno _ _ _ (by decide))) (by decide), ?_, fun g hg2 => famN_new (hg g hg2) (by have := r.lt hg2; exact this), fun j hj => ?_, famN_dis x.dis x.lt, fun j g hj => ?_, x.n9⟩, kG⟩
  · refine r.keptX (X := fun q o => q = b ∧ ∃ cs, o = .cells cs 98 (0, 0)) ((Kept.refl _ _).setT (fun o ho => ?_) _ _) (fun g cs _ e => ?_)
    · rw [hb1] at ho; cases ho; exact ⟨rfl, _, rfl⟩
    · obtain ⟨_, _, e⟩ := e; cases e
  · have hj9 : j < S.n := hj
    exact ((x.ho j hj).keptX kG (fun q o hq => no j (by omega) q o hq)).up (fun g hg => up j g hg)
  · rw [hsz]; exact famN_lt x.lt k.size j g hj
/-- The host with a number. -/
theorem ShX.at {Gs : Nat → Nat → Prop} {w : World} {b hb ch : Nat} {hs : Nat → Nat} {aw : Option Addr} {cw : Nat} {S : Sd} (x : ShX Gs w b hb ch hs aw cw S) {i : Nat} (hi : i < S.n) : w.cell? ⟨hb, i, none⟩ = some (.pointer (some ⟨hs i, 0, none⟩)) := by
  have h := x.row.cells (g := hb) rfl i (.pointer (some ⟨hs i, 0, none⟩)) (by unfold hsL; rw [List.getElem?_map, List.getElem?_range hi]; rfl)
  rwa [addr_addE] at h
theorem ShX.m {Gs : Nat → Nat → Prop} {w : World} {b hb ch : Nat} {hs : Nat → Nat} {aw : Option Addr} {cw : Nat} {S : Sd} (x : ShX Gs w b hb ch hs aw cw S) {G : Nat → Prop} (h : ∀ i g, Gs i g → G g) : ShM G w b S := ⟨Gs, hb, ch, hs, aw, cw, x, h⟩
end Go.Proofs.Ytpfgnhockfofhaa

/-
  Shards: a host sends all that it has waiting.
-/
namespace Go.Proofs.Ytpfgnhockfofhaa
open Go.RowKit

/-- What a call on shards leaves. -/
def ShPost (Gs : Nat → Nat → Prop) (w : World) (b hb ch : Nat) (hs : Nat → Nat) (S' : Sd) (w' : World) : Prop := (∃ Gs' aw' cw', ShX Gs' w' b hb ch hs aw' cw' S' ∧ ∀ j g, Gs' j g → Gs j g ∨ w.heap.size ≤ g) ∧ Kept (fun q _ => ∃ j, Gs j q) w w'
theorem ShPost.ofWay {Gs : Nat → Nat → Prop} {w w1 w2 : World} {b hb ch : Nat} {hs : Nat → Nat} {aw : Option Addr} {cw : Nat} {S : Sd} {i : Nat} (x : ShX (famN Gs i w w1) w2 b hb ch hs aw cw S) (k : Kept (TG (Gs i)) w w2) : ShPost Gs w b hb ch hs S w2 :=
  ⟨⟨_, _, _, x, fun _ _ hg => famN_sub hg⟩, k.mono (fun _ _ e => ⟨i, e⟩)⟩
theorem ShPost.trans {Gs Gs1 : Nat → Nat → Prop} {w w1 w2 : World} {b hb ch : Nat} {hs : Nat → Nat} {S2 : Sd} (hsub : ∀ j g, Gs1 j g → Gs j g ∨ w.heap.size ≤ g) (k : Kept (fun q _ => ∃ j, Gs j q) w w1) (y : ShPost Gs1 w1 b hb ch hs S2 w2) : ShPost Gs w b hb ch hs S2 w2 := by
  obtain ⟨⟨Gs', aw', cw', x', h'⟩, k'⟩ := y
  refine ⟨⟨Gs', aw', cw', x', fun j g hg => ?_⟩, ⟨k'.os.trans k.os, k'.tape.trans k.tape, k'.output.trans k.output, Nat.le_trans k.size k'.size, fun q o ho hx => k'.block q o (k.block q o ho hx) (fun e => ?_)⟩⟩
  · rcases h' j g hg with h | h
    · exact hsub j g h
    · exact .inr (Nat.le_trans k.size h)
  · obtain ⟨j, e⟩ := e
    rcases hsub j q e with e | e
    · exact hx ⟨j, e⟩
    · have := lt_of_block ho; omega
theorem ShPost.m {Gs : Nat → Nat → Prop} {w w' : World} {b hb ch : Nat} {hs : Nat → Nat} {S' : Sd} (y : ShPost Gs w b hb ch hs S' w') {G : Nat → Prop} (hG : ∀ i g, Gs i g → G g) : ShM (GN G w) w' b S' ∧ Kept (TG G) w w' := by
  obtain ⟨⟨Gs', aw', cw', x', h'⟩, k'⟩ := y
  refine ⟨x'.m (fun i g hg => (h' i g hg).imp (hG i g) id), k'.mono (fun q _ e => ?_)⟩
  obtain ⟨j, e⟩ := e
  exact hG j q e
theorem RowAt.tp {w : World} {e : TypeId} {size : Nat} {v : Value} {n : Nat} {xs : List Value} (h : RowAt w e size v n xs) {k : Nat} (hk : v.ownBlock = some k) {o : Obj} (ho : w.heap[k]? = some o) : ∃ cs, o = .cells cs e (0, 0) := by
  rcases h.2 with ⟨rfl, _⟩ | ⟨g', _, cap, cur, rfl, h2, _⟩
  · simp [Value.ownBlock] at hk
  · have e : g' = k := by simpa [Value.ownBlock] using hk
    subst e
    rw [h2] at ho
    cases ho
    exact ⟨_, rfl⟩
/-- Packets are appended to those on their way. -/
theorem ShX.more {Gs : Nat → Nat → Prop} {w w1 w6 : World} {b hb ch : Nat} {hs : Nat → Nat} {aw : Option Addr} {cw : Nat} {S : Sd} (x : ShX Gs w b hb ch hs aw cw S) (k1 : Kept Nil w w1) {ps : List Pk} {a6 : Option Addr} {c6 : Nat} (r6 : RowAt w6 34 5 (.slice a6 (S.wy.length + ps.length) c6) (S.wy.length + ps.length) (pkCells S.wy ++ pkCells ps)) (g6 : w1.grownBy w6 (Value.slice aw S.wy.length cw).ownBlock) (t6 : ∀ g, (Value.slice a6 (S.wy.length + ps.length) c6).ownBlock = some g → (Value.slice aw S.wy.length cw).ownBlock = some g ∨ w1.heap.size ≤ g) :
    ShPost Gs w b hb ch hs { S with wy := S.wy ++ ps } (w6.setCell ⟨b, 1, none⟩ (.slice a6 (S.wy.length + ps.length) c6)) := by
  have k6 : Kept (TP aw S.wy.length cw) w w6 := (k1.mono (fun _ _ e => e.elim)).grownT g6 (fun k hk o ho => ⟨hk, x.wy.tp hk ho⟩)
  have hl : (S.wy ++ ps).length = S.wy.length + ps.length := List.length_append
  obtain ⟨y, ky⟩ := x.way k6 (a := a6) (c := c6) (ps := S.wy ++ ps) (by rw [hl, pkCells_app]; exact r6) (fun g hg => by
    rw [hl] at hg
    rcases t6 g hg with h | h
    · exact .inl (x.gw g h)
    · exact .inr (Nat.le_trans k1.size h))
  rw [hl] at y ky
  exact ShPost.ofWay y ky
set_option maxRecDepth 100000 in
set_option maxHeartbeats 4000000 in
theorem send_any (K : List (List UInt8)) (M i : Nat) (Gs : Nat → Nat → Prop) (b hb ch cw : Nat) (hs : Nat → Nat) (aw : Option Addr) (S : Sd) (w : World) (x : ShX Gs w b hb ch hs aw cw S) (inv : Inv K M S) (hi : i < S.n) (hM : M ≤ 1900000) :
    Calls Try.prog 41 #[.pointer (some ⟨b, 0, none⟩), .pointer (some ⟨hs i, 0, none⟩)] w fun e w' => e = .returned (.tuple #[]) ∧ ShPost Gs w b hb ch hs (sendS i S) w' := by
  obtain ⟨i2, hi2, hx0, hx1, hx2⟩ := info_parts Try.infoOwnPk
  obtain ⟨rb, ao, cs, ai, ci, gk, ck, y⟩ := x.ho i hi
  have hn := (inv.ho i hi).nu
  have hpl := pksTo_len (i + 1 : Nat) (S.ho i).os (fun k hk => (hn k hk).2.1) 10 (Nat.le_refl _)
  have hwl := inv.wl
  have PA := packets_any (Gs i) rb (i + 1 : Nat) (S.ho i).os ao cs w.drew (y.rl.kept (Kept.refl _ _).drew) (fun k hk => ⟨(hn k hk).2.1, by have := (hn k hk).1; omega, by have := (hn k hk).2.2; omega⟩)
  obtain ⟨ps, HPs⟩ : ∃ ps, Hid (ps = pksTo (i + 1 : Nat) (S.ho i).os 10) := ⟨_, rfl⟩
  rw [← HPs.out] at PA hpl
  have HSE : Hid (sendS i S = { S with wy := S.wy ++ ps }) := by show _ = _; rw [HPs.out]; rfl
  have HLL : Hid (S.wy.length + ps.length ≤ maxLen ∧ (S.wy.length + ps.length) * 48 ≤ 140737488355328) := by constructor <;> (try unfold maxLen) <;> omega
  have HX : Hid (ShX Gs w b hb ch hs aw cw S) := x
  have HB : Hid (w.heap[b]? = some (.cells #[.slice (some ⟨hb, 0, none⟩) S.n ch, .slice aw S.wy.length cw] 98 (0, 0))) := x.blk
  have s1 : w.cell? ⟨b, 1, none⟩ = some (.slice aw S.wy.length cw) := blk_at HB.out 1 rfl
  have p0 : w.cell? ⟨hs i, 0, none⟩ = some (.pointer (some ⟨rb, 0, none⟩)) := blk_at y.ho 0 rfl
  have hbl : b < w.heap.size := lt_of_block HB.out
  have hhl : hs i < w.heap.size := lt_of_block y.ho
  have HPB : Hid (w.heap[hs i]? = _) := y.ho
  rw [HSE.out]
  generalize hs i = hi' at *
  clear x y inv hn
  go_enter Try.func41, Try.ntmps41
  go_wp2
  go_region_law (first | (refine step_append_row rfl (.tmp 8) (.tmp 13) 28 28 rfl 34 i2 (.agg #[.int .i64 0, .int .i64 0, .int .i64 0, .bool false, .string ⟨#[]⟩]) 5 48 Try.underlying28 hi2 hx0 hx1 hx2 rfl (.slice aw S.wy.length cw) S.wy.length (pkCells S.wy) (by simp [Act.eval]) R2.out (.slice a2 ps.length c2) ps.length (pkCells ps) (by simp [Act.eval]) SR2.out HLL.out.1 HLL.out.2 ?_; intro a6 c6 w6 r6 g6 t6; have HF : Hid (ShPost Gs w b hb ch hs { S with wy := S.wy ++ ps } (w6.setCell ⟨b, 1, none⟩ (.slice a6 (S.wy.length + ps.length) c6))) := HX.out.more K2.out r6 g6 t6; have s6 : w6.heap[b]? = some (.cells #[.slice (some ⟨hb, 0, none⟩) S.n ch, .slice aw S.wy.length cw] 98 (0, 0)) := (by rw [g6.block b (lt_of_block B2.out) (fun e => NE.out e.symm)]; exact B2.out); have e6 : w6.cell? ⟨b, 1, none⟩ = some (.slice aw S.wy.length cw) := blk_at s6 1 rfl; have f6 : w6.frozen? ⟨b, 1, none⟩ = false := blk_free s6 _; clear r6 g6 t6 s6) | (go_simp; go_at_call 8; go_must (go_fit PA); rintro e w2 ⟨a2, c2, rfl, o2, k2⟩; have K2 : Hid (Kept Nil w w2) := (Kept.refl _ _).drew.trans k2; have B2 : Hid (w2.heap[b]? = some (.cells #[.slice (some ⟨hb, 0, none⟩) S.n ch, .slice aw S.wy.length cw] 98 (0, 0))) := K2.out.block _ _ HB.out (fun e => e); have s2 : w2.cell? ⟨b, 1, none⟩ = some (.slice aw S.wy.length cw) := blk_at B2.out 1 rfl; have R2 : Hid (RowAt w2 34 5 (.slice aw S.wy.length cw) S.wy.length (pkCells S.wy)) := HX.out.wy.keptX K2.out (fun _ _ _ e => e); have NE : Hid ((Value.slice aw S.wy.length cw).ownBlock ≠ some b) := (fun e => by obtain ⟨_, e2⟩ := HX.out.wy.tp e HB.out; cases e2); have SR2 : Hid (Src Try.prog 5 28 (.slice a2 ps.length c2) ps.length (pkCells ps) w2) := o2.src; clear o2 k2))
  all_goals
    go_wp2
    go_end0
    exact ⟨rfl, HF.out⟩
end Go.Proofs.Ytpfgnhockfofhaa
