/-
  ClientExact: a step of the script: Done.
-/
import Derived.Test.YtbfleeilpccmcaaWCs1
namespace Go.Proofs.Ytbfleeilpccmcaa
open Go.RowKit

theorem own_blk {B sz n g : Nat} {e : TypeId} {w : World} {v : Value} {xs : List Value} (h : w.ownsRow B e sz v n xs) (hg : v.ownBlock = some g) : B ≤ g ∧ ∃ cs, w.heap[g]? = some (.cells cs e (0, 0)) := by
  rcases h.2 with ⟨e1, _⟩ | ⟨g', cap, cur, hv, hb, hh, _⟩
  · rw [e1] at hg
    simp [Value.ownBlock] at hg
  · rw [hv] at hg
    simp only [Value.ownBlock, Option.some.injEq] at hg
    subst hg
    exact ⟨hb, _, hh⟩
theorem own_grown {B sz n : Nat} {e : TypeId} {w w' : World} {v : Value} {xs : List Value} {ob : Option Nat} (h : w.ownsRow B e sz v n xs) (hg : w.grownBy w' ob) (hne : ∀ g, v.ownBlock = some g → ob ≠ some g) : w'.ownsRow B e sz v n xs := by
  refine ⟨h.1, h.2.imp id ?_⟩
  rintro ⟨g, cap, cur, h1, h2, h3, h4⟩
  exact ⟨g, cap, cur, h1, h2, by rw [hg.block g (lt_of_block h3) (fun e => hne g (by rw [h1]; rfl) e.symm)]; exact h3, h4⟩
theorem blk_grown {w w' : World} {g : Nat} {o : Obj} {ob : Option Nat} (h : w.heap[g]? = some o) (hg : w.grownBy w' ob) (hne : ob ≠ some g) : w'.heap[g]? = some o := by
  rw [hg.block g (lt_of_block h) (fun e => hne e.symm)]
  exact h
/-- The law writes over texts of its own. -/
theorem MX.over {w0 w w' : World} {b y cn kc cn2 n : Nat} {c : Cl} {r : Rl} {l : List Int} {an ko an2 : Option Addr} {rks : List (List UInt8)} {v : Value} {ys : List Value} (h : MX w0 w b y c r l an cn ko kc an2 cn2 rks) (hv : w.ownsRow w0.heap.size 9 1 v n ys) (hg : w.grownBy w' v.ownBlock) (hko : ∀ g, (Value.slice ko c.ks.length kc).ownBlock = some g → v.ownBlock ≠ some g) : MX w0 w' b y c r l an cn ko kc an2 cn2 rks := by
  have hty : ∀ g cs (t : TypeId), w.heap[g]? = some (.cells cs t (0, 0)) → t ≠ 9 → v.ownBlock ≠ some g := fun g cs t hb ht e => by
    obtain ⟨_, cs', h'⟩ := own_blk hv e
    rw [hb] at h'
    simp at h'
    exact ht h'.2
  have hK : Kept (fun k _ => w0.heap.size ≤ k) w w' := ⟨hg.os, hg.tape, hg.output, hg.size, fun k o ho hx => by
    rw [hg.block k (lt_of_block ho) (fun e => hx (own_blk hv e.symm).1)]
    exact ho⟩
  refine ⟨blk_grown h.cl hg (hty _ _ _ h.cl (by decide)), blk_grown h.rl hg (hty _ _ _ h.rl (by decide)), own_grown h.nb hg (fun g hgb => by
    obtain ⟨_, cs, h9⟩ := own_blk h.nb hgb
    exact hty _ _ _ h9 (by decide)), h.ny.kept hK (fun k _ hk x => by omega), own_grown h.ok hg hko, h.rk.far hK (fun k _ hk x => by omega), ?_, h.newb, h.newy, h.ne⟩
  exact ⟨hg.os.trans h.kept.os, hg.tape.trans h.kept.tape, hg.output.trans h.kept.output, Nat.le_trans h.kept.size hg.size, fun k o ho hx => by
    have h9 := h.kept.block k o ho hx
    rw [hg.block k (lt_of_block h9) (fun e => by have := (own_blk hv e.symm).1; have := lt_of_block ho; omega)]
    exact h9⟩
theorem MX.keepY {w0 w w' : World} {b y cn kc cn2 B n cq : Nat} {c : Cl} {r : Rl} {l : List Int} {an ko an2 aq : Option Addr} {rks : List (List UInt8)} {ys : List Value} (h : MX w0 w b y c r l an cn ko kc an2 cn2 rks) (k : Kept (One y) w w') (ho : w.ownsRow B 9 1 (.slice aq n cq) n ys) : w'.ownsRow B 9 1 (.slice aq n cq) n ys :=
  own_keptT ho k (fun q cs _ hq e => by
      have e2 : q = y := e
      have h9 := h.rl
      unfold RAt at h9
      rw [e2, h9] at hq
      simp at hq)
theorem MX.keepX2 {w0 w w' : World} {b y cn kc cn2 B n cq : Nat} {c : Cl} {r : Rl} {l : List Int} {an ko an2 aq : Option Addr} {rks : List (List UInt8)} {ys : List Value} (h : MX w0 w b y c r l an cn ko kc an2 cn2 rks) (k : Kept (One b) w w') (ho : w.ownsRow B 9 1 (.slice aq n cq) n ys) : w'.ownsRow B 9 1 (.slice aq n cq) n ys :=
  own_keptT ho k (fun q cs _ hq e => by
      have e2 : q = b := e
      have h9 := h.cl
      unfold ClAt at h9
      rw [e2, h9] at hq
      simp at hq)
theorem doneC_ks {c : Cl} : (doneC c).ks = if c.st = 2 then [] else c.ks := by
  unfold doneC
  split <;> rfl
theorem doneC_st {c : Cl} : (doneC c).st ≠ 2 := by
  unfold doneC
  split
  · show ¬ ((0 : Int) = 2); omega
  · assumption
set_option maxRecDepth 100000 in
set_option maxHeartbeats 4000000 in
theorem step5 (w0 w : World) (i : Int) (b y cn kc cn2 cc : Nat) (c : Cl) (r : Rl) (l : List Int) (an ko an2 ao : Option Addr) (rks ks : List (List UInt8)) (id ck ci er rk rver : Int) (ckey cval rval : List UInt8) (h : MX w0 w b y c r l an cn ko kc an2 cn2 rks) (p : PX i l.length c r rks) (hA : StA w0 w i l ckey cval ao cc ks) :
    Calls Try.prog 11 #[.pointer (some ⟨b, 0, none⟩), .pointer (some ⟨y, 0, none⟩), .agg #[.int .i64 5, .int .i64 id, .int .i64 ck, .string (bs ckey), .string (bs cval), .int .i64 ci, .int .i64 er, .int .i64 rk, .string (bs rval), .int .i64 rver, .slice ao ks.length cc]] w (StepPost w0 i b y l an cn an2 cn2) := by
  obtain ⟨W, hW⟩ : ∃ W, W = w.alloc (.cells #[.int .i64 5, .int .i64 id, .int .i64 ck, .string (bs ckey), .string (bs cval), .int .i64 ci, .int .i64 er, .int .i64 rk, .string (bs rval), .int .i64 rver, .slice ao ks.length cc] 47) := ⟨_, rfl⟩
  obtain ⟨C, HCe⟩ : ∃ C, Hid (C = w.heap.size) := ⟨_, rfl⟩
  have HC : Hid (W.heap[C]? = some (.cells #[.int .i64 5, .int .i64 id, .int .i64 ck, .string (bs ckey), .string (bs cval), .int .i64 ci, .int .i64 er, .int .i64 rk, .string (bs rval), .int .i64 rver, .slice ao ks.length cc] 47 (0, 0))) := by rw [hW, HCe.out]; exact blk_new _ _
  have KW : Hid (Kept Nil w W) := by rw [hW]; exact (Kept.refl _ _).alloc _
  have HM : Hid (MX w0 W b y c r l an cn ko kc an2 cn2 rks) := h.next KW.out
  have HP : Hid (PX i l.length c r rks) := p
  have hCb : C ≠ b := by have := lt_of_block h.cl; have := HCe.out; omega
  have hCy : C ≠ y := by have := lt_of_block h.rl; have := HCe.out; omega
  have HCn : Hid (w0.heap.size ≤ C) := by have e := HCe.out; have e2 := h.kept.size; show _ ≤ _; omega
  have hi0 := hA.i0
  have hi := hA.i1
  have h9 := hA.n9
  have hck := hA.key
  have hcv := hA.val
  have hk := hA.row
  have hx : c.nx < l.length := p.pc.nx
  have hnu0 := p.pc.nu0
  have hnu1 := p.pc.nu1
  have hla0 := p.pc.la0
  have hla1 := p.pc.la1
  have c0 : W.cell? ⟨C, 0, none⟩ = some (.int .i64 5) := blk_at HC.out 0 rfl
  have DX := done_any b l.length cn kc c an ko W HM.out.cl
  clear h p hk hck hcv hA
  by_cases hs : c.st = 2
  · have HD : Hid (∀ k' c', doneV c k' c' = #[.agg #[.int .i64 c.rk, .string (bs c.rval), .int .i64 c.rver, .slice k' c.ks.length c'], .bool true]) := by intro k' c'; unfold doneV; rw [if_pos hs]
    rw [HD.out, if_pos hs, if_pos hs] at DX
    go_enter Try.func11, Try.ntmps11
    go_upto_region 1 with fail
    rw [← hW, ← HCe.out]
    clear hW
    go_upto_region 18 with fail
    go_upto_region 19 with (go_at_call 17; go_fit DX; rintro _ w1 ⟨rfl, h1, k1⟩; have M1 : Hid (MX w0 w1 b y (doneC c) r l an cn none 0 an2 cn2 rks) := HM.out.callX k1 h1 (by rw [doneC_ks, if_pos hs]; exact World.ownsRow_nil _ _ _ _); have O1 : Hid (OwnK w0.heap.size w1 ko kc c.ks) := HM.out.keepX k1; clear h1 k1)
    obtain ⟨A, HAe⟩ : ∃ A, Hid (A = w1.heap.size) := ⟨_, rfl⟩
    obtain ⟨X, hX⟩ : ∃ X, X = w1.alloc (.cells #[.int .i64 c.rk, .string (bs c.rval), .int .i64 c.rver, .slice ko c.ks.length kc] 45) := ⟨_, rfl⟩
    have HX : Hid (MX w0 X b y (doneC c) r l an cn none 0 an2 cn2 rks ∧ X.heap[A]? = some (.cells #[.int .i64 c.rk, .string (bs c.rval), .int .i64 c.rver, .slice ko c.ks.length kc] 45 (0, 0)) ∧ OwnK w0.heap.size X ko kc c.ks) := by
      rw [hX, HAe.out]
      exact ⟨M1.out.next ((Kept.refl _ _).alloc _), blk_new _ _, own_keptT O1.out ((Kept.refl Nil _).alloc _) (fun _ _ _ _ x => x)⟩
    rw [← HAe.out, ← hX]
    clear hX
    have DY := rdone_any y l.length cn2 c r an2 X HX.out.1.rl HP.out.sim
    rw [HD.out] at DY
    go_upto_region 20 with (go_at_call 29; go_fit DY; rintro _ w2 ⟨rfl, ⟨r', h2, q2, er2, ec2⟩, k2⟩; have M2 : Hid (MX w0 w2 b y (doneC c) r' l an cn none 0 an2 cn2 rks ∧ Sim (doneC c) r') := ⟨HX.out.1.callY k2 h2 (by rw [er2, ec2]; exact HX.out.1.rk.one k2 (by have := HX.out.1.newy; omega)), q2⟩; have BA : Hid (w2.heap[A]? = some (.cells #[.int .i64 c.rk, .string (bs c.rval), .int .i64 c.rver, .slice ko c.ks.length kc] 45 (0, 0))) := k2.block _ _ HX.out.2.1 (fun e => by have e2 : A = y := e; have := lt_of_block M1.out.rl; have := HAe.out; omega); have O2 : Hid (OwnK w0.heap.size w2 ko kc c.ks) := HX.out.1.keepY k2 HX.out.2.2; have HR2 : Hid (KIn (fun k => k < w0.heap.size) w2 r.ro r.rc rks) := HX.out.1.rk.one k2 (by have := HX.out.1.newy; omega); clear h2 k2 q2 er2 ec2)
    obtain ⟨D, HDe⟩ : ∃ D, Hid (D = w2.heap.size) := ⟨_, rfl⟩
    obtain ⟨Z, hZ⟩ : ∃ Z, Z = w2.alloc (.cells #[.int .i64 c.rk, .string (bs c.rval), .int .i64 c.rver, .slice r.ro c.ks.length r.rc] 45) := ⟨_, rfl⟩
    have KZ : Hid (Kept Nil w2 Z) := by rw [hZ]; exact (Kept.refl _ _).alloc _
    have HZ : Hid (MX w0 Z b y (doneC c) r' l an cn none 0 an2 cn2 rks ∧ Z.heap[A]? = some (.cells #[.int .i64 c.rk, .string (bs c.rval), .int .i64 c.rver, .slice ko c.ks.length kc] 45 (0, 0)) ∧ Z.heap[D]? = some (.cells #[.int .i64 c.rk, .string (bs c.rval), .int .i64 c.rver, .slice r.ro c.ks.length r.rc] 45 (0, 0)) ∧ OwnK w0.heap.size Z ko kc c.ks) := by
      refine ⟨M2.out.1.next KZ.out, KZ.out.block _ _ BA.out (fun x => x.elim), ?_, own_keptT O2.out KZ.out (fun _ _ _ _ x => x)⟩
      rw [hZ, HDe.out]
      exact blk_new _ _
    rw [← HDe.out, ← hZ]
    clear hZ
    have a0 : Z.cell? ⟨A, 0, none⟩ = some (.int .i64 c.rk) := blk_at HZ.out.2.1 0 rfl
    have a1 : Z.cell? ⟨A, 1, none⟩ = some (.string (bs c.rval)) := blk_at HZ.out.2.1 1 rfl
    have a2 : Z.cell? ⟨A, 2, none⟩ = some (.int .i64 c.rver) := blk_at HZ.out.2.1 2 rfl
    have a3 : Z.cell? ⟨A, 3, none⟩ = some (.slice ko c.ks.length kc) := blk_at HZ.out.2.1 3 rfl
    have d0 : Z.cell? ⟨D, 0, none⟩ = some (.int .i64 c.rk) := blk_at HZ.out.2.2.1 0 rfl
    have d1 : Z.cell? ⟨D, 1, none⟩ = some (.string (bs c.rval)) := blk_at HZ.out.2.2.1 1 rfl
    have d2 : Z.cell? ⟨D, 2, none⟩ = some (.int .i64 c.rver) := blk_at HZ.out.2.2.1 2 rfl
    have d3 : Z.cell? ⟨D, 3, none⟩ = some (.slice r.ro c.ks.length r.rc) := blk_at HZ.out.2.2.1 3 rfl
    have SR := sameResult_any Z.heap.size kc r.rc c.rk c.rver c.rval ko r.ro c.ks Z (HZ.out.2.2.2.row HP.out.pc.kz) (by have e := HP.out.res hs; rw [← e]; exact (HR2.out.kept KZ.out).row) (by have := HP.out.pc.kl; omega)
    go_upto_region 21 with (go_at_call 30; go_fit SR; rintro _ w3 ⟨rfl, k3⟩; have K3 : Hid (Kept Nil Z w3) := k3; clear k3)
    have HM3 : Hid (MX w0 w3 b y (doneC c) r' l an cn none 0 an2 cn2 rks) := HZ.out.1.next K3.out
    have BA3 : Hid (w3.heap[A]? = some (.cells #[.int .i64 c.rk, .string (bs c.rval), .int .i64 c.rver, .slice ko c.ks.length kc] 45 (0, 0))) := K3.out.block _ _ HZ.out.2.1 (fun x => x.elim)
    have O3 : Hid (OwnK w0.heap.size w3 ko kc c.ks) := own_keptT HZ.out.2.2.2 K3.out (fun _ _ _ _ x => x)
    clear a0 a1 a2 a3 d0 d1 d2 d3
    have a0 : w3.cell? ⟨A, 0, none⟩ = some (.int .i64 c.rk) := blk_at BA3.out 0 rfl
    have a1 : w3.cell? ⟨A, 1, none⟩ = some (.string (bs c.rval)) := blk_at BA3.out 1 rfl
    have a2 : w3.cell? ⟨A, 2, none⟩ = some (.int .i64 c.rver) := blk_at BA3.out 2 rfl
    have a3 : w3.cell? ⟨A, 3, none⟩ = some (.slice ko c.ks.length kc) := blk_at BA3.out 3 rfl
    have OT := overTexts2_any w0.heap.size kc c.ks.length ko _ w3 O3.out (HM3.out.kept.size) HP.out.pc.kl
    go_wp2_with (go_at_call 28; go_fit OT; rintro _ w4 ⟨rfl, hg4, _⟩; have M4 : Hid (MX w0 w4 b y (doneC c) r' l an cn none 0 an2 cn2 rks) := HM3.out.over O3.out hg4 (fun g e => by simp [Value.ownBlock] at e); clear hg4)
    go_ret
    exact ⟨by simp, _, _, _, _, _, M4.out, (HP.out.pc.done).mono (by omega), M2.out.2, fun e => absurd e doneC_st⟩
  · have HD : Hid (∀ k' c', doneV c k' c' = #[.agg #[.int .i64 0, .string ⟨#[]⟩, .int .i64 0, .slice none 0 0], .bool false]) := by intro k' c'; unfold doneV; rw [if_neg hs]
    rw [HD.out, if_neg hs, if_neg hs] at DX
    go_enter Try.func11, Try.ntmps11
    go_upto_region 1 with fail
    rw [← hW, ← HCe.out]
    clear hW
    go_upto_region 18 with fail
    go_upto_region 19 with (go_at_call 17; go_fit DX; rintro _ w1 ⟨rfl, h1, k1⟩; have M1 : Hid (MX w0 w1 b y (doneC c) r l an cn ko kc an2 cn2 rks) := HM.out.callX k1 h1 (by rw [doneC_ks, if_neg hs]; exact HM.out.keepX k1); have O1 : Hid (OwnK w0.heap.size w1 none 0 []) := World.ownsRow_nil _ _ _ _; clear h1 k1)
    obtain ⟨A, HAe⟩ : ∃ A, Hid (A = w1.heap.size) := ⟨_, rfl⟩
    obtain ⟨X, hX⟩ : ∃ X, X = w1.alloc (.cells #[.int .i64 0, .string ⟨#[]⟩, .int .i64 0, .slice none 0 0] 45) := ⟨_, rfl⟩
    have HX : Hid (MX w0 X b y (doneC c) r l an cn ko kc an2 cn2 rks ∧ X.heap[A]? = some (.cells #[.int .i64 0, .string ⟨#[]⟩, .int .i64 0, .slice none 0 0] 45 (0, 0)) ∧ OwnK w0.heap.size X none 0 []) := by
      rw [hX, HAe.out]
      exact ⟨M1.out.next ((Kept.refl _ _).alloc _), blk_new _ _, own_keptT O1.out ((Kept.refl Nil _).alloc _) (fun _ _ _ _ x => x)⟩
    rw [← HAe.out, ← hX]
    clear hX
    have DY := rdone_any y l.length cn2 c r an2 X HX.out.1.rl HP.out.sim
    rw [HD.out] at DY
    go_upto_region 20 with (go_at_call 29; go_fit DY; rintro _ w2 ⟨rfl, ⟨r', h2, q2, er2, ec2⟩, k2⟩; have M2 : Hid (MX w0 w2 b y (doneC c) r' l an cn ko kc an2 cn2 rks ∧ Sim (doneC c) r') := ⟨HX.out.1.callY k2 h2 (by rw [er2, ec2]; exact HX.out.1.rk.one k2 (by have := HX.out.1.newy; omega)), q2⟩; have BA : Hid (w2.heap[A]? = some (.cells #[.int .i64 0, .string ⟨#[]⟩, .int .i64 0, .slice none 0 0] 45 (0, 0))) := k2.block _ _ HX.out.2.1 (fun e => by have e2 : A = y := e; have := lt_of_block M1.out.rl; have := HAe.out; omega); have O2 : Hid (OwnK w0.heap.size w2 none 0 []) := HX.out.1.keepY k2 HX.out.2.2; have HR2 : Hid (KIn (fun k => k < w0.heap.size) w2 r.ro r.rc rks) := HX.out.1.rk.one k2 (by have := HX.out.1.newy; omega); clear h2 k2 q2 er2 ec2)
    obtain ⟨D, HDe⟩ : ∃ D, Hid (D = w2.heap.size) := ⟨_, rfl⟩
    obtain ⟨Z, hZ⟩ : ∃ Z, Z = w2.alloc (.cells #[.int .i64 0, .string ⟨#[]⟩, .int .i64 0, .slice none 0 0] 45) := ⟨_, rfl⟩
    have KZ : Hid (Kept Nil w2 Z) := by rw [hZ]; exact (Kept.refl _ _).alloc _
    have HZ : Hid (MX w0 Z b y (doneC c) r' l an cn ko kc an2 cn2 rks ∧ Z.heap[A]? = some (.cells #[.int .i64 0, .string ⟨#[]⟩, .int .i64 0, .slice none 0 0] 45 (0, 0)) ∧ Z.heap[D]? = some (.cells #[.int .i64 0, .string ⟨#[]⟩, .int .i64 0, .slice none 0 0] 45 (0, 0)) ∧ OwnK w0.heap.size Z none 0 []) := by
      refine ⟨M2.out.1.next KZ.out, KZ.out.block _ _ BA.out (fun x => x.elim), ?_, own_keptT O2.out KZ.out (fun _ _ _ _ x => x)⟩
      rw [hZ, HDe.out]
      exact blk_new _ _
    rw [← HDe.out, ← hZ]
    clear hZ
    have a0 : Z.cell? ⟨A, 0, none⟩ = some (.int .i64 0) := blk_at HZ.out.2.1 0 rfl
    have a1 : Z.cell? ⟨A, 1, none⟩ = some (.string ⟨#[]⟩) := blk_at HZ.out.2.1 1 rfl
    have a2 : Z.cell? ⟨A, 2, none⟩ = some (.int .i64 0) := blk_at HZ.out.2.1 2 rfl
    have a3 : Z.cell? ⟨A, 3, none⟩ = some (.slice none 0 0) := blk_at HZ.out.2.1 3 rfl
    have d0 : Z.cell? ⟨D, 0, none⟩ = some (.int .i64 0) := blk_at HZ.out.2.2.1 0 rfl
    have d1 : Z.cell? ⟨D, 1, none⟩ = some (.string ⟨#[]⟩) := blk_at HZ.out.2.2.1 1 rfl
    have d2 : Z.cell? ⟨D, 2, none⟩ = some (.int .i64 0) := blk_at HZ.out.2.2.1 2 rfl
    have d3 : Z.cell? ⟨D, 3, none⟩ = some (.slice none 0 0) := blk_at HZ.out.2.2.1 3 rfl
    have SR := sameResult_any Z.heap.size 0 0 0 0 [] none none [] Z (fun j hj => absurd hj (by simp)) (fun j hj => absurd hj (by simp)) (by simp)
    go_upto_region 21 with (go_at_call 30; go_fit SR; rintro _ w3 ⟨rfl, k3⟩; have K3 : Hid (Kept Nil Z w3) := k3; clear k3)
    have HM3 : Hid (MX w0 w3 b y (doneC c) r' l an cn ko kc an2 cn2 rks) := HZ.out.1.next K3.out
    have BA3 : Hid (w3.heap[A]? = some (.cells #[.int .i64 0, .string ⟨#[]⟩, .int .i64 0, .slice none 0 0] 45 (0, 0))) := K3.out.block _ _ HZ.out.2.1 (fun x => x.elim)
    have O3 : Hid (OwnK w0.heap.size w3 none 0 []) := own_keptT HZ.out.2.2.2 K3.out (fun _ _ _ _ x => x)
    clear a0 a1 a2 a3 d0 d1 d2 d3
    have a0 : w3.cell? ⟨A, 0, none⟩ = some (.int .i64 0) := blk_at BA3.out 0 rfl
    have a1 : w3.cell? ⟨A, 1, none⟩ = some (.string ⟨#[]⟩) := blk_at BA3.out 1 rfl
    have a2 : w3.cell? ⟨A, 2, none⟩ = some (.int .i64 0) := blk_at BA3.out 2 rfl
    have a3 : w3.cell? ⟨A, 3, none⟩ = some (.slice none 0 0) := blk_at BA3.out 3 rfl
    have OT := overTexts2_any w0.heap.size 0 ([] : List (List UInt8)).length none _ w3 O3.out (HM3.out.kept.size) (by decide)
    go_wp2_with (go_at_call 28; go_fit OT; rintro _ w4 ⟨rfl, hg4, _⟩; have M4 : Hid (MX w0 w4 b y (doneC c) r' l an cn ko kc an2 cn2 rks) := HM3.out.over O3.out hg4 (fun g _ e => by simp [Value.ownBlock] at e); clear hg4)
    go_ret
    exact ⟨by simp, _, _, _, _, _, M4.out, (HP.out.pc.done).mono (by omega), M2.out.2, fun e => absurd e doneC_st⟩

end Go.Proofs.Ytbfleeilpccmcaa
