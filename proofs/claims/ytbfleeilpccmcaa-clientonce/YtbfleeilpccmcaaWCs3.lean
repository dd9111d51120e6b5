/-
  ClientExact: a step of the script: Answer.
-/
import Derived.Test.YtbfleeilpccmcaaWCs2
namespace Go.Proofs.Ytbfleeilpccmcaa
open Go.RowKit

set_option maxRecDepth 100000 in
set_option maxHeartbeats 4000000 in
theorem step4 (w0 w : World) (i : Int) (b y cn kc cn2 cc : Nat) (c : Cl) (r : Rl) (l : List Int) (an ko an2 ao : Option Addr) (rks ks : List (List UInt8)) (id ck ci er rk rver : Int) (ckey cval rval : List UInt8) (h : MX w0 w b y c r l an cn ko kc an2 cn2 rks) (p : PX i l.length c r rks) (hA : StA w0 w i l ckey cval ao cc ks) :
    Calls Try.prog 11 #[.pointer (some ⟨b, 0, none⟩), .pointer (some ⟨y, 0, none⟩), .agg #[.int .i64 4, .int .i64 id, .int .i64 ck, .string (bs ckey), .string (bs cval), .int .i64 ci, .int .i64 er, .int .i64 rk, .string (bs rval), .int .i64 rver, .slice ao ks.length cc]] w (StepPost w0 i b y l an cn an2 cn2) := by
  obtain ⟨W, hW⟩ : ∃ W, W = w.alloc (.cells #[.int .i64 4, .int .i64 id, .int .i64 ck, .string (bs ckey), .string (bs cval), .int .i64 ci, .int .i64 er, .int .i64 rk, .string (bs rval), .int .i64 rver, .slice ao ks.length cc] 47) := ⟨_, rfl⟩
  obtain ⟨C, HCe⟩ : ∃ C, Hid (C = w.heap.size) := ⟨_, rfl⟩
  have HC : Hid (W.heap[C]? = some (.cells #[.int .i64 4, .int .i64 id, .int .i64 ck, .string (bs ckey), .string (bs cval), .int .i64 ci, .int .i64 er, .int .i64 rk, .string (bs rval), .int .i64 rver, .slice ao ks.length cc] 47 (0, 0))) := by rw [hW, HCe.out]; exact blk_new _ _
  have KW : Hid (Kept Nil w W) := by rw [hW]; exact (Kept.refl _ _).alloc _
  have HM : Hid (MX w0 W b y c r l an cn ko kc an2 cn2 rks) := h.next KW.out
  have HP : Hid (PX i l.length c r rks) := p
  have hCb : C ≠ b := by have := lt_of_block h.cl; have := HCe.out; omega
  have hCy : C ≠ y := by have := lt_of_block h.rl; have := HCe.out; omega
  have HCn : Hid (w0.heap.size ≤ C) := by have e := HCe.out; have e2 := h.kept.size; show _ ≤ _; omega
  have hi0 := hA.i0
  have hi := hA.i1
  have h9 := hA.n9
  have hck := hA.key
  have hcv := hA.val
  have hk := hA.row
  have hx : c.nx < l.length := p.pc.nx
  have hnu0 := p.pc.nu0
  have hnu1 := p.pc.nu1
  have hla0 := p.pc.la0
  have hla1 := p.pc.la1
  have c0 : W.cell? ⟨C, 0, none⟩ = some (.int .i64 4) := blk_at HC.out 0 rfl
  have c1 : W.cell? ⟨C, 1, none⟩ = some (.int .i64 id) := blk_at HC.out 1 rfl
  have c6 : W.cell? ⟨C, 6, none⟩ = some (.int .i64 er) := blk_at HC.out 6 rfl
  have c7 : W.cell? ⟨C, 7, none⟩ = some (.int .i64 rk) := blk_at HC.out 7 rfl
  have c8 : W.cell? ⟨C, 8, none⟩ = some (.string (bs rval)) := blk_at HC.out 8 rfl
  have c9 : W.cell? ⟨C, 9, none⟩ = some (.int .i64 rver) := blk_at HC.out 9 rfl
  have c10 : W.cell? ⟨C, 10, none⟩ = some (.slice ao ks.length cc) := blk_at HC.out 10 rfl
  obtain ⟨i0, hz, hz0, hz1, hz2⟩ := info_parts Try.infoSt
  have HCx : Hid (∀ X, Kept (fun k _ => k ≠ C) W X → X.heap[C]? = some (.cells #[.int .i64 4, .int .i64 id, .int .i64 ck, .string (bs ckey), .string (bs cval), .int .i64 ci, .int .i64 er, .int .i64 rk, .string (bs rval), .int .i64 rver, .slice ao ks.length cc] 47 (0, 0))) := fun X hX => hX.block _ _ HC.out (fun e => e rfl)
  obtain ⟨A, HAe⟩ : ∃ A, Hid (A = W.heap.size) := ⟨_, rfl⟩
  obtain ⟨X, hX⟩ : ∃ X, X = W.alloc (.cells #[.int .i64 rk, .string (bs rval), .int .i64 rver, .slice ao ks.length cc] 45) := ⟨_, rfl⟩
  have KX : Hid (Kept Nil W X) := by rw [hX]; exact (Kept.refl _ _).alloc _
  have HXA : Hid (X.heap[A]? = some (.cells #[.int .i64 rk, .string (bs rval), .int .i64 rver, .slice ao ks.length cc] 45 (0, 0))) := by rw [hX, HAe.out]; exact blk_new _ _
  have HKX : Hid (KIn (fun k => k < w0.heap.size) X ao cc ks) := (hk.kept KW.out).kept KX.out
  have HS : Hid (Src Try.prog 1 43 (.slice ao ks.length cc) ks.length (kyCells ks) X) := HKX.out.row.srcK
  have hkl := hk.len
  have HLL : Hid (0 + ks.length ≤ maxLen ∧ (0 + ks.length) * 16 ≤ 140737488355328) := by constructor <;> (try unfold maxLen) <;> omega
  have HKZ : Hid (∀ k ∈ ks, k.length ≤ maxLen) := fun k hk9 => by
    obtain ⟨j, hj, rfl⟩ := List.getElem_of_mem hk9
    obtain ⟨_, _, _, _, h8⟩ := hk.row j hj
    exact h8
  clear h p hk hck hcv hA
  go_enter Try.func11, Try.ntmps11
  go_upto_region 1 with fail
  rw [← hW, ← HCe.out]
  clear hW
  go_upto_region 13 with fail
  rw [← HAe.out, ← hX]
  clear hX c0 c1 c6 c7 c8 c9 c10
  have c10 : X.cell? ⟨C, 10, none⟩ = some (.slice ao ks.length cc) := blk_at (KX.out.block _ _ HC.out (fun x => x.elim)) 10 rfl
  have a3 : X.cell? ⟨A, 3, none⟩ = some (.slice ao ks.length cc) := blk_at HXA.out 3 rfl
  have f3 : X.frozen? ⟨A, 3, none⟩ = false := blk_free HXA.out 3
  go_upto_region 14 with (at_builtin; go_must (refine wpList_append_src _ rfl _ _ 43 43 rfl X.heap.size 9 i0 (.string ⟨#[]⟩) 1 16 Try.underlying43 hz hz0 hz1 hz2 rfl _ 0 [] rfl (World.ownsRow_nil _ _ _ _) (.slice ao ks.length cc) ks.length (kyCells ks) rfl HS.out HLL.out.1 HLL.out.2 (Nat.le_refl _) ?_); intro ao2 c2 w1 ho1 hg1; rw [Nat.zero_add, List.nil_append] at ho1; have HO1 : Hid (OwnK X.heap.size w1 ao2 c2 ks) := ho1; have HK1 : Hid (Kept Nil X w1) := (Kept.refl _ _).grown hg1 (fun k e => by cases e); clear hg1 ho1; have HA1 : Hid (w1.heap[A]? = some (.cells #[.int .i64 rk, .string (bs rval), .int .i64 rver, .slice ao ks.length cc] 45 (0, 0))) := HK1.out.block _ _ HXA.out (fun x => x.elim); have b3 : w1.cell? ⟨A, 3, none⟩ = some (.slice ao ks.length cc) := blk_at HA1.out 3 rfl; have g3 : w1.frozen? ⟨A, 3, none⟩ = false := blk_free HA1.out 3)
  have hAX : A < X.heap.size := lt_of_block HXA.out
  have hAb : A ≠ b := by have := lt_of_block HM.out.cl; have := HAe.out; omega
  have hAy : A ≠ y := by have := lt_of_block HM.out.rl; have := HAe.out; omega
  have hCA : C ≠ A := by have := lt_of_block HC.out; have := HAe.out; omega
  have hAn : W.heap.size ≤ A := by have := HAe.out; omega
  obtain ⟨Y, hY⟩ : ∃ Y, Y = w1.setCell ⟨A, 3, none⟩ (.slice ao2 ks.length c2) := ⟨_, rfl⟩
  have KY : Hid (Kept Nil W Y) := by rw [hY]; exact (KX.out.trans HK1.out).setNew (p := ⟨A, 3, none⟩) hAn _
  have HY : Hid (MX w0 Y b y c r l an cn ko kc an2 cn2 rks ∧ Y.heap[A]? = some (.cells #[.int .i64 rk, .string (bs rval), .int .i64 rver, .slice ao2 ks.length c2] 45 (0, 0)) ∧ OwnK X.heap.size Y ao2 c2 ks ∧ Y.heap[C]? = some (.cells #[.int .i64 4, .int .i64 id, .int .i64 ck, .string (bs ckey), .string (bs cval), .int .i64 ci, .int .i64 er, .int .i64 rk, .string (bs rval), .int .i64 rver, .slice ao ks.length cc] 47 (0, 0))) := by
    refine ⟨HM.out.next KY.out, ?_, ?_, KY.out.block _ _ HC.out (fun x => x.elim)⟩
    · rw [hY]; exact blk_set HA1.out 3 _
    · rw [hY]; exact ownsRow_setCell_below (a := ⟨A, 3, none⟩) HO1.out hAX _
  have HKY : Hid (KIn (fun k => k < w0.heap.size) Y ao cc ks) := by
    rw [hY]
    exact (HKX.out.kept HK1.out).far (X := One A) ((Kept.refl _ _).setCell (p := ⟨A, 3, none⟩) (fun _ => rfl) _) (fun q _ hq e => by have e2 : q = A := e; have := HM.out.kept.size; omega)
  have hXY : Hid (X.heap.size ≤ Y.heap.size) := by show _ ≤ _; rw [hY]; simpa [World.setCell] using HK1.out.size
  rw [← hY]
  clear hY b3 g3 c10 a3 f3
  have c1 : Y.cell? ⟨C, 1, none⟩ = some (.int .i64 id) := blk_at HY.out.2.2.2 1 rfl
  have c6 : Y.cell? ⟨C, 6, none⟩ = some (.int .i64 er) := blk_at HY.out.2.2.2 6 rfl
  have a0 : Y.cell? ⟨A, 0, none⟩ = some (.int .i64 rk) := blk_at HY.out.2.1 0 rfl
  have a1 : Y.cell? ⟨A, 1, none⟩ = some (.string (bs rval)) := blk_at HY.out.2.1 1 rfl
  have a2 : Y.cell? ⟨A, 2, none⟩ = some (.int .i64 rver) := blk_at HY.out.2.1 2 rfl
  have a3 : Y.cell? ⟨A, 3, none⟩ = some (.slice ao2 ks.length c2) := blk_at HY.out.2.1 3 rfl
  have hbX : b < X.heap.size := by have := lt_of_block HM.out.cl; have := KX.out.size; omega
  have hyX : y < X.heap.size := by have := lt_of_block HM.out.rl; have := KX.out.size; omega
  have hsX : w0.heap.size ≤ X.heap.size := by have := HM.out.kept.size; have := KX.out.size; omega
  have AX := answer_any b l.length cn kc c an ko (fun k => X.heap.size ≤ k) id er rk rver rval ks ao2 c2 Y HY.out.1.cl hx h9 HP.out.pc.nu0 (by omega) (KIn.own HY.out.2.2.1 (fun _ h => h) HKZ.out hkl) (by omega)
  go_upto_region 15 with (go_at_call 15; go_fit AX; rintro _ w2 ⟨ko', kc', rfl, h2, f2, n2, k2⟩; have K2 : Hid (Kept (One b) Y w2) := k2; have F2 : Hid ((fins c id er = true → OwnK Y.heap.size w2 ko' kc' ks) ∧ (fins c id er = false → ko' = ko ∧ kc' = kc)) := ⟨f2, n2⟩; have H2 : Hid (ClAt w2 b (ansC c l.length id er rk rval rver ks) an l.length cn ko' kc') := h2; clear h2 f2 n2 k2)
  have O2 : Hid (OwnK w0.heap.size w2 ko' kc' (ansC c l.length id er rk rval rver ks).ks) := by
    show OwnK _ _ _ _ _
    rw [ansC_ks]
    cases hf : fins c id er with
    | true => exact own_mono (F2.out.1 hf) (Nat.le_trans hsX hXY.out)
    | false => obtain ⟨rfl, rfl⟩ := F2.out.2 hf; exact HY.out.1.keepX K2.out
  have M2 : Hid (MX w0 w2 b y (ansC c l.length id er rk rval rver ks) r l an cn ko' kc' an2 cn2 rks) := HY.out.1.callX K2.out H2.out O2.out
  have HC2 : Hid (w2.heap[C]? = some (.cells #[.int .i64 4, .int .i64 id, .int .i64 ck, .string (bs ckey), .string (bs cval), .int .i64 ci, .int .i64 er, .int .i64 rk, .string (bs rval), .int .i64 rver, .slice ao ks.length cc] 47 (0, 0))) := K2.out.block _ _ HY.out.2.2.2 (fun e => hCb e)
  have HA2 : Hid (w2.heap[A]? = some (.cells #[.int .i64 rk, .string (bs rval), .int .i64 rver, .slice ao2 ks.length c2] 45 (0, 0))) := K2.out.block _ _ HY.out.2.1 (fun e => hAb e)
  have R2 : Hid (OwnK X.heap.size w2 ao2 c2 ks) := HY.out.1.keepX2 K2.out HY.out.2.2.1
  have KK2 : Hid (KIn (fun k => k < w0.heap.size) w2 ao cc ks) := (HKY.out).one K2.out (by have := HM.out.newb; omega)
  clear c1 c6 a0 a1 a2 a3
  have c1 : w2.cell? ⟨C, 1, none⟩ = some (.int .i64 id) := blk_at HC2.out 1 rfl
  have c6 : w2.cell? ⟨C, 6, none⟩ = some (.int .i64 er) := blk_at HC2.out 6 rfl
  have c7 : w2.cell? ⟨C, 7, none⟩ = some (.int .i64 rk) := blk_at HC2.out 7 rfl
  have c8 : w2.cell? ⟨C, 8, none⟩ = some (.string (bs rval)) := blk_at HC2.out 8 rfl
  have c9 : w2.cell? ⟨C, 9, none⟩ = some (.int .i64 rver) := blk_at HC2.out 9 rfl
  have c10 : w2.cell? ⟨C, 10, none⟩ = some (.slice ao ks.length cc) := blk_at HC2.out 10 rfl
  have AY := ranswer_any y l.length cn2 c r an2 id er rk rver rval ks ao cc w2 M2.out.rl HP.out.sim hx h9 HP.out.pc.nu0 (by omega) HP.out.pc.la0 (by omega)
  go_upto_region 16 with (go_at_call 27; go_fit AY; rintro _ w3 ⟨r', rfl, h3, q3, f3, n3, k3⟩; have K3 : Hid (Kept (One y) w2 w3) := k3; have H3 : Hid (RAt w3 y r' an2 l.length cn2 ∧ Sim (ansC c l.length id er rk rval rver ks) r') := ⟨h3, q3⟩; have F3 : Hid ((fins c id er = true → r'.ro = ao ∧ r'.rc = cc) ∧ (fins c id er = false → r'.ro = r.ro ∧ r'.rc = r.rc)) := ⟨f3, n3⟩; clear h3 q3 f3 n3 k3)
  obtain ⟨rks', HRK⟩ : ∃ rks', Hid (rks' = if fins c id er then ks else rks) := ⟨_, rfl⟩
  have hyg : ¬ (y < w0.heap.size) := by have := M2.out.newy; omega
  have M3 : Hid (MX w0 w3 b y (ansC c l.length id er rk rval rver ks) r' l an cn ko' kc' an2 cn2 rks') := M2.out.callY K3.out H3.out.1 (by
    rw [HRK.out]
    cases hf : fins c id er with
    | true => obtain ⟨e1, e2⟩ := F3.out.1 hf; rw [e1, e2]; exact KK2.out.one K3.out hyg
    | false => obtain ⟨e1, e2⟩ := F3.out.2 hf; rw [e1, e2]; exact M2.out.rk.one K3.out hyg)
  have HA3 : Hid (w3.heap[A]? = some (.cells #[.int .i64 rk, .string (bs rval), .int .i64 rver, .slice ao2 ks.length c2] 45 (0, 0))) := K3.out.block _ _ HA2.out (fun e => hAy e)
  have R3 : Hid (OwnK X.heap.size w3 ao2 c2 ks) := M2.out.keepY K3.out R2.out
  have a3 : w3.cell? ⟨A, 3, none⟩ = some (.slice ao2 ks.length c2) := blk_at HA3.out 3 rfl
  clear c1 c6 c7 c8 c9 c10
  have OT := overTexts2_any w0.heap.size c2 ks.length ao2 _ w3 (own_mono R3.out hsX) M3.out.kept.size hkl
  have HRes : Hid ((ansC c l.length id er rk rval rver ks).st = 2 → rks' = (ansC c l.length id er rk rval rver ks).ks) := fun e => by
    rw [HRK.out, ansC_ks]
    cases hf : fins c id er with
    | true => rfl
    | false => rw [ansC_st hf] at e; exact HP.out.res e
  have HNe : Hid (∀ g, (Value.slice ko' (ansC c l.length id er rk rval rver ks).ks.length kc').ownBlock = some g → (Value.slice ao2 ks.length c2).ownBlock ≠ some g) := fun g hg e => by
    have hb1 := (World.ownsRow.lt HY.out.2.2.1 g e)
    cases hf : fins c id er with
    | true =>
      have o9 := F2.out.1 hf
      have e9 : (ansC c l.length id er rk rval rver ks).ks = ks := by rw [ansC_ks, hf]; rfl
      rw [e9] at hg
      have := (World.ownsRow.lt o9 g hg).1
      omega
    | false =>
      obtain ⟨rfl, rfl⟩ := F2.out.2 hf
      have e9 : (ansC c l.length id er rk rval rver ks).ks = c.ks := by rw [ansC_ks, hf]; rfl
      rw [e9] at hg
      have h5 := (World.ownsRow.lt HM.out.ok g hg).2
      have := KX.out.size
      omega
  go_wp2_with (go_at_call 28; go_fit OT; rintro _ w4 ⟨rfl, hg4, _⟩; have M4 : Hid (MX w0 w4 b y (ansC c l.length id er rk rval rver ks) r' l an cn ko' kc' an2 cn2 rks') := M3.out.over (own_mono R3.out hsX) hg4 HNe.out; clear hg4)
  go_ret
  exact ⟨rfl, _, _, _, _, _, M4.out, HP.out.pc.ans hi0 id er rk rval rver hkl HKZ.out, H3.out.2, HRes.out⟩

end Go.Proofs.Ytbfleeilpccmcaa
