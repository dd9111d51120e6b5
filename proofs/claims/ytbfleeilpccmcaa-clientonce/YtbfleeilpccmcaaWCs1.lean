/-
  ClientExact: a step of the script: nothing, Tick, Look, Want, Next.
-/
import Derived.Test.YtbfleeilpccmcaaWCs0
import Derived.Deep.DeepFit
import Derived.Deep.RegionHeld3
namespace Go.Proofs.Ytbfleeilpccmcaa
open Go.RowKit

/-- What a step is given. -/
structure StA (w0 w : World) (i : Int) (l : List Int) (ckey cval : List UInt8) (ao : Option Addr) (cc : Nat) (ks : List (List UInt8)) : Prop where
  i0 : 0 ≤ i
  i1 : i ≤ 4611686018427387000
  n9 : l.length ≤ 9
  key : ckey.length ≤ maxLen
  val : cval.length ≤ maxLen
  row : KIn (fun k => k < w0.heap.size) w ao cc ks
theorem wantC_ks {c : Cl} {k : Int} {key val : List UInt8} {i : Int} : (wantC c k key val i).ks = c.ks := by
  unfold wantC
  split
  · split <;> rfl
  · rfl
theorem nextC_ks {c : Cl} : (nextC c).ks = c.ks := by
  unfold nextC
  split <;> rfl
theorem tickC_ks {c : Cl} {n : Nat} : (tickC c n).ks = c.ks := by
  unfold tickC
  split
  · split <;> rfl
  · rfl
theorem nextC_st {c : Cl} : (nextC c).st = c.st := by
  unfold nextC
  split <;> rfl
theorem tickC_st {c : Cl} {n : Nat} : (tickC c n).st = c.st := by
  unfold tickC
  split
  · split <;> rfl
  · rfl
theorem wantC_st {c : Cl} {k : Int} {key val : List UInt8} {i : Int} (h : (wantC c k key val i).st = 2) : c.st = 2 := by
  unfold wantC at h
  split at h
  · split at h
    · exact absurd h (by simp [forgetC])
    · exact h
  · exact h
set_option maxRecDepth 100000 in
set_option maxHeartbeats 4000000 in
theorem step0 (w0 w : World) (i : Int) (b y cn kc cn2 cc : Nat) (c : Cl) (r : Rl) (l : List Int) (an ko an2 ao : Option Addr) (rks ks : List (List UInt8)) (kd id ck ci er rk rver : Int) (ckey cval rval : List UInt8) (h : MX w0 w b y c r l an cn ko kc an2 cn2 rks) (p : PX i l.length c r rks) (hA : StA w0 w i l ckey cval ao cc ks) (n1 : kd ≠ 1) (n2 : kd ≠ 2) (n3 : kd ≠ 3) (n4 : kd ≠ 4) (n5 : kd ≠ 5) (n6 : kd ≠ 6) :
    Calls Try.prog 11 #[.pointer (some ⟨b, 0, none⟩), .pointer (some ⟨y, 0, none⟩), .agg #[.int .i64 kd, .int .i64 id, .int .i64 ck, .string (bs ckey), .string (bs cval), .int .i64 ci, .int .i64 er, .int .i64 rk, .string (bs rval), .int .i64 rver, .slice ao ks.length cc]] w (StepPost w0 i b y l an cn an2 cn2) := by
  obtain ⟨W, hW⟩ : ∃ W, W = w.alloc (.cells #[.int .i64 kd, .int .i64 id, .int .i64 ck, .string (bs ckey), .string (bs cval), .int .i64 ci, .int .i64 er, .int .i64 rk, .string (bs rval), .int .i64 rver, .slice ao ks.length cc] 47) := ⟨_, rfl⟩
  obtain ⟨C, HCe⟩ : ∃ C, Hid (C = w.heap.size) := ⟨_, rfl⟩
  have HC : Hid (W.heap[C]? = some (.cells #[.int .i64 kd, .int .i64 id, .int .i64 ck, .string (bs ckey), .string (bs cval), .int .i64 ci, .int .i64 er, .int .i64 rk, .string (bs rval), .int .i64 rver, .slice ao ks.length cc] 47 (0, 0))) := by rw [hW, HCe.out]; exact blk_new _ _
  have KW : Hid (Kept Nil w W) := by rw [hW]; exact (Kept.refl _ _).alloc _
  have HM : Hid (MX w0 W b y c r l an cn ko kc an2 cn2 rks) := h.next KW.out
  have HP : Hid (PX i l.length c r rks) := p
  have hCb : C ≠ b := by have := lt_of_block h.cl; have := HCe.out; omega
  have hCy : C ≠ y := by have := lt_of_block h.rl; have := HCe.out; omega
  have HCn : Hid (w0.heap.size ≤ C) := by have e := HCe.out; have e2 := h.kept.size; show _ ≤ _; omega
  have hi0 := hA.i0
  have hi := hA.i1
  have h9 := hA.n9
  have hck := hA.key
  have hcv := hA.val
  have hk := hA.row
  have hx : c.nx < l.length := p.pc.nx
  have hnu0 := p.pc.nu0
  have hnu1 := p.pc.nu1
  have hla0 := p.pc.la0
  have hla1 := p.pc.la1
  have c0 : W.cell? ⟨C, 0, none⟩ = some (.int .i64 kd) := blk_at HC.out 0 rfl
  have e1 : (kd == 1) = false := by simpa using n1
  have e2 : (kd == 2) = false := by simpa using n2
  have e3 : (kd == 3) = false := by simpa using n3
  have e4 : (kd == 4) = false := by simpa using n4
  have e5 : (kd == 5) = false := by simpa using n5
  have e6 : (kd == 6) = false := by simpa using n6
  clear n1 n2 n3 n4 n5 n6
  clear h p hk hck hcv hA
  go_enter Try.func11, Try.ntmps11
  go_upto_region 1 with fail
  rw [← hW, ← HCe.out]
  clear hW
  go_wp2
  go_ret
  exact ⟨rfl, c, r, ko, kc, rks, HM.out, HP.out.pc.mono (by omega), HP.out.sim, HP.out.res⟩
set_option maxRecDepth 100000 in
set_option maxHeartbeats 4000000 in
theorem step3 (w0 w : World) (i : Int) (b y cn kc cn2 cc : Nat) (c : Cl) (r : Rl) (l : List Int) (an ko an2 ao : Option Addr) (rks ks : List (List UInt8)) (id ck ci er rk rver : Int) (ckey cval rval : List UInt8) (h : MX w0 w b y c r l an cn ko kc an2 cn2 rks) (p : PX i l.length c r rks) (hA : StA w0 w i l ckey cval ao cc ks) :
    Calls Try.prog 11 #[.pointer (some ⟨b, 0, none⟩), .pointer (some ⟨y, 0, none⟩), .agg #[.int .i64 3, .int .i64 id, .int .i64 ck, .string (bs ckey), .string (bs cval), .int .i64 ci, .int .i64 er, .int .i64 rk, .string (bs rval), .int .i64 rver, .slice ao ks.length cc]] w (StepPost w0 i b y l an cn an2 cn2) := by
  obtain ⟨W, hW⟩ : ∃ W, W = w.alloc (.cells #[.int .i64 3, .int .i64 id, .int .i64 ck, .string (bs ckey), .string (bs cval), .int .i64 ci, .int .i64 er, .int .i64 rk, .string (bs rval), .int .i64 rver, .slice ao ks.length cc] 47) := ⟨_, rfl⟩
  obtain ⟨C, HCe⟩ : ∃ C, Hid (C = w.heap.size) := ⟨_, rfl⟩
  have HC : Hid (W.heap[C]? = some (.cells #[.int .i64 3, .int .i64 id, .int .i64 ck, .string (bs ckey), .string (bs cval), .int .i64 ci, .int .i64 er, .int .i64 rk, .string (bs rval), .int .i64 rver, .slice ao ks.length cc] 47 (0, 0))) := by rw [hW, HCe.out]; exact blk_new _ _
  have KW : Hid (Kept Nil w W) := by rw [hW]; exact (Kept.refl _ _).alloc _
  have HM : Hid (MX w0 W b y c r l an cn ko kc an2 cn2 rks) := h.next KW.out
  have HP : Hid (PX i l.length c r rks) := p
  have hCb : C ≠ b := by have := lt_of_block h.cl; have := HCe.out; omega
  have hCy : C ≠ y := by have := lt_of_block h.rl; have := HCe.out; omega
  have HCn : Hid (w0.heap.size ≤ C) := by have e := HCe.out; have e2 := h.kept.size; show _ ≤ _; omega
  have hi0 := hA.i0
  have hi := hA.i1
  have h9 := hA.n9
  have hck := hA.key
  have hcv := hA.val
  have hk := hA.row
  have hx : c.nx < l.length := p.pc.nx
  have hnu0 := p.pc.nu0
  have hnu1 := p.pc.nu1
  have hla0 := p.pc.la0
  have hla1 := p.pc.la1
  have c0 : W.cell? ⟨C, 0, none⟩ = some (.int .i64 3) := blk_at HC.out 0 rfl
  have TKX := tick_any b l.length cn kc c an ko W HM.out.cl p.pc.nx h9 p.pc.si0 (by have := p.pc.si1; omega)
  clear h p hk hck hcv hA
  go_enter Try.func11, Try.ntmps11
  go_upto_region 1 with fail
  rw [← hW, ← HCe.out]
  clear hW
  go_upto_region 9 with fail
  go_upto_region 10 with (go_at_call 16; go_fit TKX; rintro _ w1 ⟨rfl, h1, k1⟩; have M1 : Hid (MX w0 w1 b y (tickC c l.length) r l an cn ko kc an2 cn2 rks) := HM.out.callX k1 h1 (by rw [tickC_ks]; exact HM.out.keepX k1); clear h1 k1)
  have TKY := rtick_any y l.length cn2 c r an2 w1 M1.out.rl HP.out.sim HP.out.pc.nx h9 HP.out.pc.si0 (by have := HP.out.pc.si1; omega) HP.out.pc.wt
  go_wp2_with (go_at_call 26; go_fit TKY; rintro _ w2 ⟨rfl, ⟨r', h2, s2, em, er2, ec2⟩, k2⟩; have M2 : Hid (MX w0 w2 b y (tickC c l.length) r' l an cn ko kc an2 cn2 rks ∧ Sim (tickC c l.length) r') := ⟨M1.out.callY k2 h2 (by rw [er2, ec2]; exact M1.out.rk.one k2 (by have := M1.out.newy; omega)), s2⟩; clear h2 k2 s2 em er2 ec2)
  go_ret
  exact ⟨rfl, _, _, _, _, _, M2.out.1, (HP.out.pc.tick).mono (by omega), M2.out.2, fun e => by rw [tickC_ks]; exact HP.out.res (by rw [tickC_st] at e; exact e)⟩
set_option maxRecDepth 100000 in
set_option maxHeartbeats 4000000 in
theorem step6 (w0 w : World) (i : Int) (b y cn kc cn2 cc : Nat) (c : Cl) (r : Rl) (l : List Int) (an ko an2 ao : Option Addr) (rks ks : List (List UInt8)) (id ck ci er rk rver : Int) (ckey cval rval : List UInt8) (h : MX w0 w b y c r l an cn ko kc an2 cn2 rks) (p : PX i l.length c r rks) (hA : StA w0 w i l ckey cval ao cc ks) :
    Calls Try.prog 11 #[.pointer (some ⟨b, 0, none⟩), .pointer (some ⟨y, 0, none⟩), .agg #[.int .i64 6, .int .i64 id, .int .i64 ck, .string (bs ckey), .string (bs cval), .int .i64 ci, .int .i64 er, .int .i64 rk, .string (bs rval), .int .i64 rver, .slice ao ks.length cc]] w (StepPost w0 i b y l an cn an2 cn2) := by
  obtain ⟨W, hW⟩ : ∃ W, W = w.alloc (.cells #[.int .i64 6, .int .i64 id, .int .i64 ck, .string (bs ckey), .string (bs cval), .int .i64 ci, .int .i64 er, .int .i64 rk, .string (bs rval), .int .i64 rver, .slice ao ks.length cc] 47) := ⟨_, rfl⟩
  obtain ⟨C, HCe⟩ : ∃ C, Hid (C = w.heap.size) := ⟨_, rfl⟩
  have HC : Hid (W.heap[C]? = some (.cells #[.int .i64 6, .int .i64 id, .int .i64 ck, .string (bs ckey), .string (bs cval), .int .i64 ci, .int .i64 er, .int .i64 rk, .string (bs rval), .int .i64 rver, .slice ao ks.length cc] 47 (0, 0))) := by rw [hW, HCe.out]; exact blk_new _ _
  have KW : Hid (Kept Nil w W) := by rw [hW]; exact (Kept.refl _ _).alloc _
  have HM : Hid (MX w0 W b y c r l an cn ko kc an2 cn2 rks) := h.next KW.out
  have HP : Hid (PX i l.length c r rks) := p
  have hCb : C ≠ b := by have := lt_of_block h.cl; have := HCe.out; omega
  have hCy : C ≠ y := by have := lt_of_block h.rl; have := HCe.out; omega
  have HCn : Hid (w0.heap.size ≤ C) := by have e := HCe.out; have e2 := h.kept.size; show _ ≤ _; omega
  have hi0 := hA.i0
  have hi := hA.i1
  have h9 := hA.n9
  have hck := hA.key
  have hcv := hA.val
  have hk := hA.row
  have hx : c.nx < l.length := p.pc.nx
  have hnu0 := p.pc.nu0
  have hnu1 := p.pc.nu1
  have hla0 := p.pc.la0
  have hla1 := p.pc.la1
  have c0 : W.cell? ⟨C, 0, none⟩ = some (.int .i64 6) := blk_at HC.out 0 rfl
  obtain ⟨nd, hnd⟩ : ∃ nd, l[c.nx] = nd := ⟨_, rfl⟩
  have LX := look_any b l.length cn kc c an ko l W.heap.size W HM.out.cl HM.out.rowX rfl hx
  rw [hnd] at LX
  clear h p hk hck hcv hA
  go_enter Try.func11, Try.ntmps11
  go_upto_region 1 with fail
  rw [← hW, ← HCe.out]
  clear hW
  go_upto_region 24 with fail
  have LY := fun w1 (k1 : Kept Nil W w1) => rlook_any y l.length cn2 c r an2 l w0.heap.size nd w1 (HM.out.next k1).rl HP.out.sim (HM.out.next k1).ny rfl hx hnd
  go_wp2_with (first | (go_at_call 12; go_fit LX; rintro _ w1 ⟨rfl, k1⟩; have K1 : Hid (Kept Nil W w1) := k1; clear k1) | (go_at_call 13; go_fit (LY w1 K1.out); rintro _ w2 ⟨rfl, k2⟩; have K2 : Hid (Kept Nil w1 w2) := k2; clear k2))
  go_ret
  exact ⟨by simp, c, r, ko, kc, rks, HM.out.next (K1.out.trans K2.out), HP.out.pc.mono (by omega), HP.out.sim, HP.out.res⟩
set_option maxRecDepth 100000 in
set_option maxHeartbeats 4000000 in
theorem step1 (w0 w : World) (i : Int) (b y cn kc cn2 cc : Nat) (c : Cl) (r : Rl) (l : List Int) (an ko an2 ao : Option Addr) (rks ks : List (List UInt8)) (id ck ci er rk rver : Int) (ckey cval rval : List UInt8) (h : MX w0 w b y c r l an cn ko kc an2 cn2 rks) (p : PX i l.length c r rks) (hA : StA w0 w i l ckey cval ao cc ks) :
    Calls Try.prog 11 #[.pointer (some ⟨b, 0, none⟩), .pointer (some ⟨y, 0, none⟩), .agg #[.int .i64 1, .int .i64 id, .int .i64 ck, .string (bs ckey), .string (bs cval), .int .i64 ci, .int .i64 er, .int .i64 rk, .string (bs rval), .int .i64 rver, .slice ao ks.length cc]] w (StepPost w0 i b y l an cn an2 cn2) := by
  obtain ⟨W, hW⟩ : ∃ W, W = w.alloc (.cells #[.int .i64 1, .int .i64 id, .int .i64 ck, .string (bs ckey), .string (bs cval), .int .i64 ci, .int .i64 er, .int .i64 rk, .string (bs rval), .int .i64 rver, .slice ao ks.length cc] 47) := ⟨_, rfl⟩
  obtain ⟨C, HCe⟩ : ∃ C, Hid (C = w.heap.size) := ⟨_, rfl⟩
  have HC : Hid (W.heap[C]? = some (.cells #[.int .i64 1, .int .i64 id, .int .i64 ck, .string (bs ckey), .string (bs cval), .int .i64 ci, .int .i64 er, .int .i64 rk, .string (bs rval), .int .i64 rver, .slice ao ks.length cc] 47 (0, 0))) := by rw [hW, HCe.out]; exact blk_new _ _
  have KW : Hid (Kept Nil w W) := by rw [hW]; exact (Kept.refl _ _).alloc _
  have HM : Hid (MX w0 W b y c r l an cn ko kc an2 cn2 rks) := h.next KW.out
  have HP : Hid (PX i l.length c r rks) := p
  have hCb : C ≠ b := by have := lt_of_block h.cl; have := HCe.out; omega
  have hCy : C ≠ y := by have := lt_of_block h.rl; have := HCe.out; omega
  have HCn : Hid (w0.heap.size ≤ C) := by have e := HCe.out; have e2 := h.kept.size; show _ ≤ _; omega
  have hi0 := hA.i0
  have hi := hA.i1
  have h9 := hA.n9
  have hck := hA.key
  have hcv := hA.val
  have hk := hA.row
  have hx : c.nx < l.length := p.pc.nx
  have hnu0 := p.pc.nu0
  have hnu1 := p.pc.nu1
  have hla0 := p.pc.la0
  have hla1 := p.pc.la1
  have c0 : W.cell? ⟨C, 0, none⟩ = some (.int .i64 1) := blk_at HC.out 0 rfl
  have HSP : Hid (W.cell? ⟨C, 2, none⟩ = some (.int .i64 ck) ∧ W.cell? ⟨C, 3, none⟩ = some (.string (bs ckey)) ∧ W.cell? ⟨C, 4, none⟩ = some (.string (bs cval)) ∧ W.cell? ⟨C, 5, none⟩ = some (.int .i64 ci)) := ⟨blk_at HC.out 2 rfl, blk_at HC.out 3 rfl, blk_at HC.out 4 rfl, blk_at HC.out 5 rfl⟩
  have WX := want_any b l.length cn kc c an ko ck ci ckey cval W.drew HM.out.cl.drew hck hcv
  have WY := fun w1 (m1 : MX w0 w1 b y (wantC c ck ckey cval ci) r l an cn ko kc an2 cn2 rks) => wants_any y l.length cn2 c r an2 ck ci ckey cval w1 m1.rl HP.out.sim HP.out.pc.st hck hcv HP.out.pc.la0 (by omega)
  clear h p hk hck hcv hA
  go_enter Try.func11, Try.ntmps11
  go_upto_region 1 with fail
  rw [← hW, ← HCe.out]
  clear hW
  go_upto_region 3 with fail
  have sD : W.drew.cell? ⟨C, 2, none⟩ = some (.int .i64 ck) ∧ W.drew.cell? ⟨C, 3, none⟩ = some (.string (bs ckey)) ∧ W.drew.cell? ⟨C, 4, none⟩ = some (.string (bs cval)) ∧ W.drew.cell? ⟨C, 5, none⟩ = some (.int .i64 ci) := HSP.out
  go_region_held3 (fun w' => w'.cell? ⟨C, 2, none⟩ = some (.int .i64 ck) ∧ w'.cell? ⟨C, 3, none⟩ = some (.string (bs ckey)) ∧ w'.cell? ⟨C, 4, none⟩ = some (.string (bs cval)) ∧ w'.cell? ⟨C, 5, none⟩ = some (.int .i64 ci)) (first | (with_reducible assumption)) (first | (go_at_call 6; go_fit WX; rintro _ w1 ⟨rfl, h1, k1⟩; have M1 : Hid (MX w0 w1 b y (wantC c ck ckey cval ci) r l an cn ko kc an2 cn2 rks) := (HM.out.next (Kept.refl _ _).drew).callX k1 h1 (by rw [wantC_ks]; exact (HM.out.next (Kept.refl _ _).drew).keepX k1); have s1 : w1.cell? ⟨C, 2, none⟩ = some (.int .i64 ck) ∧ w1.cell? ⟨C, 3, none⟩ = some (.string (bs ckey)) ∧ w1.cell? ⟨C, 4, none⟩ = some (.string (bs cval)) ∧ w1.cell? ⟨C, 5, none⟩ = some (.int .i64 ci) := ⟨cell_kept k1 (fun _ => hCb) HSP.out.1, cell_kept k1 (fun _ => hCb) HSP.out.2.1, cell_kept k1 (fun _ => hCb) HSP.out.2.2.1, cell_kept k1 (fun _ => hCb) HSP.out.2.2.2⟩; clear h1 k1) | (go_at_call 24; go_fit (WY w1 M1.out); rintro _ w2 ⟨rfl, ⟨r', h2, q2, em, er2, ec2⟩, k2⟩; have M2 : Hid (MX w0 w2 b y (wantC c ck ckey cval ci) r' l an cn ko kc an2 cn2 rks ∧ Sim (wantC c ck ckey cval ci) r') := ⟨M1.out.callY k2 h2 (by rw [er2, ec2]; exact M1.out.rk.one k2 (by have := M1.out.newy; omega)), q2⟩; have s2 : w2.cell? ⟨C, 2, none⟩ = some (.int .i64 ck) ∧ w2.cell? ⟨C, 3, none⟩ = some (.string (bs ckey)) ∧ w2.cell? ⟨C, 4, none⟩ = some (.string (bs cval)) ∧ w2.cell? ⟨C, 5, none⟩ = some (.int .i64 ci) := ⟨cell_kept k2 (fun _ => hCy) s1.1, cell_kept k2 (fun _ => hCy) s1.2.1, cell_kept k2 (fun _ => hCy) s1.2.2.1, cell_kept k2 (fun _ => hCy) s1.2.2.2⟩; clear h2 k2 q2 em er2 ec2))
  all_goals
    go_wp2
    go_ret
    exact ⟨by simp, _, _, _, _, _, M2.out.1, (HP.out.pc.want ck ckey cval ci).mono (by omega), M2.out.2, fun e => by rw [wantC_ks]; exact HP.out.res (wantC_st e)⟩
set_option maxRecDepth 100000 in
set_option maxHeartbeats 4000000 in
theorem step2 (w0 w : World) (i : Int) (b y cn kc cn2 cc : Nat) (c : Cl) (r : Rl) (l : List Int) (an ko an2 ao : Option Addr) (rks ks : List (List UInt8)) (id ck ci er rk rver : Int) (ckey cval rval : List UInt8) (h : MX w0 w b y c r l an cn ko kc an2 cn2 rks) (p : PX i l.length c r rks) (hA : StA w0 w i l ckey cval ao cc ks) :
    Calls Try.prog 11 #[.pointer (some ⟨b, 0, none⟩), .pointer (some ⟨y, 0, none⟩), .agg #[.int .i64 2, .int .i64 id, .int .i64 ck, .string (bs ckey), .string (bs cval), .int .i64 ci, .int .i64 er, .int .i64 rk, .string (bs rval), .int .i64 rver, .slice ao ks.length cc]] w (StepPost w0 i b y l an cn an2 cn2) := by
  obtain ⟨W, hW⟩ : ∃ W, W = w.alloc (.cells #[.int .i64 2, .int .i64 id, .int .i64 ck, .string (bs ckey), .string (bs cval), .int .i64 ci, .int .i64 er, .int .i64 rk, .string (bs rval), .int .i64 rver, .slice ao ks.length cc] 47) := ⟨_, rfl⟩
  obtain ⟨C, HCe⟩ : ∃ C, Hid (C = w.heap.size) := ⟨_, rfl⟩
  have HC : Hid (W.heap[C]? = some (.cells #[.int .i64 2, .int .i64 id, .int .i64 ck, .string (bs ckey), .string (bs cval), .int .i64 ci, .int .i64 er, .int .i64 rk, .string (bs rval), .int .i64 rver, .slice ao ks.length cc] 47 (0, 0))) := by rw [hW, HCe.out]; exact blk_new _ _
  have KW : Hid (Kept Nil w W) := by rw [hW]; exact (Kept.refl _ _).alloc _
  have HM : Hid (MX w0 W b y c r l an cn ko kc an2 cn2 rks) := h.next KW.out
  have HP : Hid (PX i l.length c r rks) := p
  have hCb : C ≠ b := by have := lt_of_block h.cl; have := HCe.out; omega
  have hCy : C ≠ y := by have := lt_of_block h.rl; have := HCe.out; omega
  have HCn : Hid (w0.heap.size ≤ C) := by have e := HCe.out; have e2 := h.kept.size; show _ ≤ _; omega
  have hi0 := hA.i0
  have hi := hA.i1
  have h9 := hA.n9
  have hck := hA.key
  have hcv := hA.val
  have hk := hA.row
  have hx : c.nx < l.length := p.pc.nx
  have hnu0 := p.pc.nu0
  have hnu1 := p.pc.nu1
  have hla0 := p.pc.la0
  have hla1 := p.pc.la1
  have c0 : W.cell? ⟨C, 0, none⟩ = some (.int .i64 2) := blk_at HC.out 0 rfl
  obtain ⟨nd, hnd⟩ : ∃ nd, l[c.nx] = nd := ⟨_, rfl⟩
  have NX := next_any b l.length cn kc c an ko l W.heap.size nd W HM.out.cl HM.out.rowX rfl hx hnd p.pc.nu0 (by omega) HM.out.far p.pc.la0 (by omega)
  clear h p hk hck hcv hA
  cases hg : goes c with
  | false =>
    have HA : Hid (askV c nd = #[.int .i64 0, .int .i64 0, .int .i64 0, .int .i64 0, .int .i64 0, .string ⟨#[]⟩, .string ⟨#[]⟩, .int .i64 0, .int .i64 0]) := by show _ = _; unfold askV; rw [hg]; rfl
    rw [HA.out, hg] at NX
    go_enter Try.func11, Try.ntmps11
    go_upto_region 1 with fail
    rw [← hW, ← HCe.out]
    clear hW
    go_upto_region 5 with fail
    go_upto_region 6 with (go_at_call 7; go_fit NX; rintro _ w1 ⟨rfl, h1, k1⟩; have M1 : Hid (MX w0 w1 b y (nextC c) r l an cn ko kc an2 cn2 rks) := HM.out.callX k1 h1 (by rw [nextC_ks]; exact HM.out.keepX k1); clear h1 k1)
    obtain ⟨A, HAe⟩ : ∃ A, Hid (A = w1.heap.size) := ⟨_, rfl⟩
    obtain ⟨X, hX⟩ : ∃ X, X = w1.alloc (.cells #[.int .i64 0, .int .i64 0, .int .i64 0, .int .i64 0, .int .i64 0, .string ⟨#[]⟩, .string ⟨#[]⟩, .int .i64 0, .int .i64 0] 34) := ⟨_, rfl⟩
    have HX : Hid (MX w0 X b y (nextC c) r l an cn ko kc an2 cn2 rks ∧ X.heap[A]? = some (.cells #[.int .i64 0, .int .i64 0, .int .i64 0, .int .i64 0, .int .i64 0, .string ⟨#[]⟩, .string ⟨#[]⟩, .int .i64 0, .int .i64 0] 34 (0, 0))) := by
      rw [hX, HAe.out]
      exact ⟨M1.out.next ((Kept.refl _ _).alloc _), blk_new _ _⟩
    rw [← HAe.out, ← hX]
    clear hX
    have NY := rnext_any y l.length cn2 c r an2 l w0.heap.size nd X HX.out.1.rl HP.out.sim HX.out.1.ny rfl hx hnd HP.out.pc.nu0 (by omega) (HX.out.1.farY (by have := HP.out.pc.nx; omega)) HP.out.pc.la0 (by omega)
    rw [HA.out, hg] at NY
    go_upto_region 7 with (go_at_call 25; go_fit NY; rintro _ w2 ⟨rfl, ⟨r', h2, q2, em, er2, ec2⟩, k2⟩; have M2 : Hid (MX w0 w2 b y (nextC c) r' l an cn ko kc an2 cn2 rks ∧ Sim (nextC c) r') := ⟨HX.out.1.callY k2 h2 (by rw [er2, ec2]; exact HX.out.1.rk.one k2 (by have := HX.out.1.newy; omega)), q2⟩; have BA : Hid (w2.heap[A]? = some (.cells #[.int .i64 0, .int .i64 0, .int .i64 0, .int .i64 0, .int .i64 0, .string ⟨#[]⟩, .string ⟨#[]⟩, .int .i64 0, .int .i64 0] 34 (0, 0))) := k2.block _ _ HX.out.2 (fun e => by have e2 : A = y := e; have := lt_of_block M1.out.rl; have := HAe.out; omega); clear h2 k2 q2 em er2 ec2)
    obtain ⟨D, HDe⟩ : ∃ D, Hid (D = w2.heap.size) := ⟨_, rfl⟩
    obtain ⟨Z, hZ⟩ : ∃ Z, Z = w2.alloc (.cells #[.int .i64 0, .int .i64 0, .int .i64 0, .int .i64 0, .int .i64 0, .string ⟨#[]⟩, .string ⟨#[]⟩, .int .i64 0, .int .i64 0] 34) := ⟨_, rfl⟩
    have HZ : Hid (MX w0 Z b y (nextC c) r' l an cn ko kc an2 cn2 rks ∧ Z.heap[A]? = some (.cells #[.int .i64 0, .int .i64 0, .int .i64 0, .int .i64 0, .int .i64 0, .string ⟨#[]⟩, .string ⟨#[]⟩, .int .i64 0, .int .i64 0] 34 (0, 0)) ∧ Z.heap[D]? = some (.cells #[.int .i64 0, .int .i64 0, .int .i64 0, .int .i64 0, .int .i64 0, .string ⟨#[]⟩, .string ⟨#[]⟩, .int .i64 0, .int .i64 0] 34 (0, 0))) := by
      rw [hZ, HDe.out]
      exact ⟨M2.out.1.next ((Kept.refl _ _).alloc _), blk_past BA.out _, blk_new _ _⟩
    rw [← HDe.out, ← hZ]
    clear hZ
    have a0 : Z.cell? ⟨A, 0, none⟩ = some (.int .i64 0) := blk_at HZ.out.2.1 0 rfl
    have a1 : Z.cell? ⟨A, 1, none⟩ = some (.int .i64 0) := blk_at HZ.out.2.1 1 rfl
    have a2 : Z.cell? ⟨A, 2, none⟩ = some (.int .i64 0) := blk_at HZ.out.2.1 2 rfl
    have a3 : Z.cell? ⟨A, 3, none⟩ = some (.int .i64 0) := blk_at HZ.out.2.1 3 rfl
    have a4 : Z.cell? ⟨A, 4, none⟩ = some (.int .i64 0) := blk_at HZ.out.2.1 4 rfl
    have a5 : Z.cell? ⟨A, 5, none⟩ = some (.string ⟨#[]⟩) := blk_at HZ.out.2.1 5 rfl
    have a6 : Z.cell? ⟨A, 6, none⟩ = some (.string ⟨#[]⟩) := blk_at HZ.out.2.1 6 rfl
    have a7 : Z.cell? ⟨A, 7, none⟩ = some (.int .i64 0) := blk_at HZ.out.2.1 7 rfl
    have a8 : Z.cell? ⟨A, 8, none⟩ = some (.int .i64 0) := blk_at HZ.out.2.1 8 rfl
    have d0 : Z.cell? ⟨D, 0, none⟩ = some (.int .i64 0) := blk_at HZ.out.2.2 0 rfl
    have d1 : Z.cell? ⟨D, 1, none⟩ = some (.int .i64 0) := blk_at HZ.out.2.2 1 rfl
    have d2 : Z.cell? ⟨D, 2, none⟩ = some (.int .i64 0) := blk_at HZ.out.2.2 2 rfl
    have d3 : Z.cell? ⟨D, 3, none⟩ = some (.int .i64 0) := blk_at HZ.out.2.2 3 rfl
    have d4 : Z.cell? ⟨D, 4, none⟩ = some (.int .i64 0) := blk_at HZ.out.2.2 4 rfl
    have d5 : Z.cell? ⟨D, 5, none⟩ = some (.string ⟨#[]⟩) := blk_at HZ.out.2.2 5 rfl
    have d6 : Z.cell? ⟨D, 6, none⟩ = some (.string ⟨#[]⟩) := blk_at HZ.out.2.2 6 rfl
    have d7 : Z.cell? ⟨D, 7, none⟩ = some (.int .i64 0) := blk_at HZ.out.2.2 7 rfl
    have d8 : Z.cell? ⟨D, 8, none⟩ = some (.int .i64 0) := blk_at HZ.out.2.2 8 rfl
    go_wp2
    go_ret
    exact ⟨by simp, _, _, _, _, _, HZ.out.1, HP.out.pc.next, M2.out.2, fun e => by rw [nextC_ks]; exact HP.out.res (by rw [nextC_st] at e; exact e)⟩
  | true =>
    by_cases hz : c.se = 0
    · have HA : Hid (askV c nd = #[.int .i64 (c.la + 1), .int .i64 nd, .int .i64 0, .int .i64 0, .int .i64 0, .string (bs []), .string (bs []), .int .i64 0, .int .i64 0]) := by show _ = _; unfold askV; rw [hg, if_pos rfl, if_pos hz]
      rw [HA.out, hg] at NX
      go_enter Try.func11, Try.ntmps11
      go_upto_region 1 with fail
      rw [← hW, ← HCe.out]
      clear hW
      go_upto_region 5 with fail
      go_upto_region 6 with (go_at_call 7; go_fit NX; rintro _ w1 ⟨rfl, h1, k1⟩; have M1 : Hid (MX w0 w1 b y (nextC c) r l an cn ko kc an2 cn2 rks) := HM.out.callX k1 h1 (by rw [nextC_ks]; exact HM.out.keepX k1); clear h1 k1)
      obtain ⟨A, HAe⟩ : ∃ A, Hid (A = w1.heap.size) := ⟨_, rfl⟩
      obtain ⟨X, hX⟩ : ∃ X, X = w1.alloc (.cells #[.int .i64 (c.la + 1), .int .i64 nd, .int .i64 0, .int .i64 0, .int .i64 0, .string (bs []), .string (bs []), .int .i64 0, .int .i64 0] 34) := ⟨_, rfl⟩
      have HX : Hid (MX w0 X b y (nextC c) r l an cn ko kc an2 cn2 rks ∧ X.heap[A]? = some (.cells #[.int .i64 (c.la + 1), .int .i64 nd, .int .i64 0, .int .i64 0, .int .i64 0, .string (bs []), .string (bs []), .int .i64 0, .int .i64 0] 34 (0, 0))) := by
        rw [hX, HAe.out]
        exact ⟨M1.out.next ((Kept.refl _ _).alloc _), blk_new _ _⟩
      rw [← HAe.out, ← hX]
      clear hX
      have NY := rnext_any y l.length cn2 c r an2 l w0.heap.size nd X HX.out.1.rl HP.out.sim HX.out.1.ny rfl hx hnd HP.out.pc.nu0 (by omega) (HX.out.1.farY (by have := HP.out.pc.nx; omega)) HP.out.pc.la0 (by omega)
      rw [HA.out, hg] at NY
      go_upto_region 7 with (go_at_call 25; go_fit NY; rintro _ w2 ⟨rfl, ⟨r', h2, q2, em, er2, ec2⟩, k2⟩; have M2 : Hid (MX w0 w2 b y (nextC c) r' l an cn ko kc an2 cn2 rks ∧ Sim (nextC c) r') := ⟨HX.out.1.callY k2 h2 (by rw [er2, ec2]; exact HX.out.1.rk.one k2 (by have := HX.out.1.newy; omega)), q2⟩; have BA : Hid (w2.heap[A]? = some (.cells #[.int .i64 (c.la + 1), .int .i64 nd, .int .i64 0, .int .i64 0, .int .i64 0, .string (bs []), .string (bs []), .int .i64 0, .int .i64 0] 34 (0, 0))) := k2.block _ _ HX.out.2 (fun e => by have e2 : A = y := e; have := lt_of_block M1.out.rl; have := HAe.out; omega); clear h2 k2 q2 em er2 ec2)
      obtain ⟨D, HDe⟩ : ∃ D, Hid (D = w2.heap.size) := ⟨_, rfl⟩
      obtain ⟨Z, hZ⟩ : ∃ Z, Z = w2.alloc (.cells #[.int .i64 (c.la + 1), .int .i64 nd, .int .i64 0, .int .i64 0, .int .i64 0, .string (bs []), .string (bs []), .int .i64 0, .int .i64 0] 34) := ⟨_, rfl⟩
      have HZ : Hid (MX w0 Z b y (nextC c) r' l an cn ko kc an2 cn2 rks ∧ Z.heap[A]? = some (.cells #[.int .i64 (c.la + 1), .int .i64 nd, .int .i64 0, .int .i64 0, .int .i64 0, .string (bs []), .string (bs []), .int .i64 0, .int .i64 0] 34 (0, 0)) ∧ Z.heap[D]? = some (.cells #[.int .i64 (c.la + 1), .int .i64 nd, .int .i64 0, .int .i64 0, .int .i64 0, .string (bs []), .string (bs []), .int .i64 0, .int .i64 0] 34 (0, 0))) := by
        rw [hZ, HDe.out]
        exact ⟨M2.out.1.next ((Kept.refl _ _).alloc _), blk_past BA.out _, blk_new _ _⟩
      rw [← HDe.out, ← hZ]
      clear hZ
      have a0 : Z.cell? ⟨A, 0, none⟩ = some (.int .i64 (c.la + 1)) := blk_at HZ.out.2.1 0 rfl
      have a1 : Z.cell? ⟨A, 1, none⟩ = some (.int .i64 nd) := blk_at HZ.out.2.1 1 rfl
      have a2 : Z.cell? ⟨A, 2, none⟩ = some (.int .i64 0) := blk_at HZ.out.2.1 2 rfl
      have a3 : Z.cell? ⟨A, 3, none⟩ = some (.int .i64 0) := blk_at HZ.out.2.1 3 rfl
      have a4 : Z.cell? ⟨A, 4, none⟩ = some (.int .i64 0) := blk_at HZ.out.2.1 4 rfl
      have a5 : Z.cell? ⟨A, 5, none⟩ = some (.string (bs [])) := blk_at HZ.out.2.1 5 rfl
      have a6 : Z.cell? ⟨A, 6, none⟩ = some (.string (bs [])) := blk_at HZ.out.2.1 6 rfl
      have a7 : Z.cell? ⟨A, 7, none⟩ = some (.int .i64 0) := blk_at HZ.out.2.1 7 rfl
      have a8 : Z.cell? ⟨A, 8, none⟩ = some (.int .i64 0) := blk_at HZ.out.2.1 8 rfl
      have d0 : Z.cell? ⟨D, 0, none⟩ = some (.int .i64 (c.la + 1)) := blk_at HZ.out.2.2 0 rfl
      have d1 : Z.cell? ⟨D, 1, none⟩ = some (.int .i64 nd) := blk_at HZ.out.2.2 1 rfl
      have d2 : Z.cell? ⟨D, 2, none⟩ = some (.int .i64 0) := blk_at HZ.out.2.2 2 rfl
      have d3 : Z.cell? ⟨D, 3, none⟩ = some (.int .i64 0) := blk_at HZ.out.2.2 3 rfl
      have d4 : Z.cell? ⟨D, 4, none⟩ = some (.int .i64 0) := blk_at HZ.out.2.2 4 rfl
      have d5 : Z.cell? ⟨D, 5, none⟩ = some (.string (bs [])) := blk_at HZ.out.2.2 5 rfl
      have d6 : Z.cell? ⟨D, 6, none⟩ = some (.string (bs [])) := blk_at HZ.out.2.2 6 rfl
      have d7 : Z.cell? ⟨D, 7, none⟩ = some (.int .i64 0) := blk_at HZ.out.2.2 7 rfl
      have d8 : Z.cell? ⟨D, 8, none⟩ = some (.int .i64 0) := blk_at HZ.out.2.2 8 rfl
      go_wp2
      go_ret
      exact ⟨by simp, _, _, _, _, _, HZ.out.1, HP.out.pc.next, M2.out.2, fun e => by rw [nextC_ks]; exact HP.out.res (by rw [nextC_st] at e; exact e)⟩
    · have HA : Hid (askV c nd = #[.int .i64 (c.la + 1), .int .i64 nd, .int .i64 c.se, .int .i64 (c.nu + 1), .int .i64 c.ck, .string (bs c.ckey), .string (bs c.cval), .int .i64 c.ci, .int .i64 0]) := by show _ = _; unfold askV; rw [hg, if_pos rfl, if_neg hz]
      rw [HA.out, hg] at NX
      go_enter Try.func11, Try.ntmps11
      go_upto_region 1 with fail
      rw [← hW, ← HCe.out]
      clear hW
      go_upto_region 5 with fail
      go_upto_region 6 with (go_at_call 7; go_fit NX; rintro _ w1 ⟨rfl, h1, k1⟩; have M1 : Hid (MX w0 w1 b y (nextC c) r l an cn ko kc an2 cn2 rks) := HM.out.callX k1 h1 (by rw [nextC_ks]; exact HM.out.keepX k1); clear h1 k1)
      obtain ⟨A, HAe⟩ : ∃ A, Hid (A = w1.heap.size) := ⟨_, rfl⟩
      obtain ⟨X, hX⟩ : ∃ X, X = w1.alloc (.cells #[.int .i64 (c.la + 1), .int .i64 nd, .int .i64 c.se, .int .i64 (c.nu + 1), .int .i64 c.ck, .string (bs c.ckey), .string (bs c.cval), .int .i64 c.ci, .int .i64 0] 34) := ⟨_, rfl⟩
      have HX : Hid (MX w0 X b y (nextC c) r l an cn ko kc an2 cn2 rks ∧ X.heap[A]? = some (.cells #[.int .i64 (c.la + 1), .int .i64 nd, .int .i64 c.se, .int .i64 (c.nu + 1), .int .i64 c.ck, .string (bs c.ckey), .string (bs c.cval), .int .i64 c.ci, .int .i64 0] 34 (0, 0))) := by
        rw [hX, HAe.out]
        exact ⟨M1.out.next ((Kept.refl _ _).alloc _), blk_new _ _⟩
      rw [← HAe.out, ← hX]
      clear hX
      have NY := rnext_any y l.length cn2 c r an2 l w0.heap.size nd X HX.out.1.rl HP.out.sim HX.out.1.ny rfl hx hnd HP.out.pc.nu0 (by omega) (HX.out.1.farY (by have := HP.out.pc.nx; omega)) HP.out.pc.la0 (by omega)
      rw [HA.out, hg] at NY
      go_upto_region 7 with (go_at_call 25; go_fit NY; rintro _ w2 ⟨rfl, ⟨r', h2, q2, em, er2, ec2⟩, k2⟩; have M2 : Hid (MX w0 w2 b y (nextC c) r' l an cn ko kc an2 cn2 rks ∧ Sim (nextC c) r') := ⟨HX.out.1.callY k2 h2 (by rw [er2, ec2]; exact HX.out.1.rk.one k2 (by have := HX.out.1.newy; omega)), q2⟩; have BA : Hid (w2.heap[A]? = some (.cells #[.int .i64 (c.la + 1), .int .i64 nd, .int .i64 c.se, .int .i64 (c.nu + 1), .int .i64 c.ck, .string (bs c.ckey), .string (bs c.cval), .int .i64 c.ci, .int .i64 0] 34 (0, 0))) := k2.block _ _ HX.out.2 (fun e => by have e2 : A = y := e; have := lt_of_block M1.out.rl; have := HAe.out; omega); clear h2 k2 q2 em er2 ec2)
      obtain ⟨D, HDe⟩ : ∃ D, Hid (D = w2.heap.size) := ⟨_, rfl⟩
      obtain ⟨Z, hZ⟩ : ∃ Z, Z = w2.alloc (.cells #[.int .i64 (c.la + 1), .int .i64 nd, .int .i64 c.se, .int .i64 (c.nu + 1), .int .i64 c.ck, .string (bs c.ckey), .string (bs c.cval), .int .i64 c.ci, .int .i64 0] 34) := ⟨_, rfl⟩
      have HZ : Hid (MX w0 Z b y (nextC c) r' l an cn ko kc an2 cn2 rks ∧ Z.heap[A]? = some (.cells #[.int .i64 (c.la + 1), .int .i64 nd, .int .i64 c.se, .int .i64 (c.nu + 1), .int .i64 c.ck, .string (bs c.ckey), .string (bs c.cval), .int .i64 c.ci, .int .i64 0] 34 (0, 0)) ∧ Z.heap[D]? = some (.cells #[.int .i64 (c.la + 1), .int .i64 nd, .int .i64 c.se, .int .i64 (c.nu + 1), .int .i64 c.ck, .string (bs c.ckey), .string (bs c.cval), .int .i64 c.ci, .int .i64 0] 34 (0, 0))) := by
        rw [hZ, HDe.out]
        exact ⟨M2.out.1.next ((Kept.refl _ _).alloc _), blk_past BA.out _, blk_new _ _⟩
      rw [← HDe.out, ← hZ]
      clear hZ
      have a0 : Z.cell? ⟨A, 0, none⟩ = some (.int .i64 (c.la + 1)) := blk_at HZ.out.2.1 0 rfl
      have a1 : Z.cell? ⟨A, 1, none⟩ = some (.int .i64 nd) := blk_at HZ.out.2.1 1 rfl
      have a2 : Z.cell? ⟨A, 2, none⟩ = some (.int .i64 c.se) := blk_at HZ.out.2.1 2 rfl
      have a3 : Z.cell? ⟨A, 3, none⟩ = some (.int .i64 (c.nu + 1)) := blk_at HZ.out.2.1 3 rfl
      have a4 : Z.cell? ⟨A, 4, none⟩ = some (.int .i64 c.ck) := blk_at HZ.out.2.1 4 rfl
      have a5 : Z.cell? ⟨A, 5, none⟩ = some (.string (bs c.ckey)) := blk_at HZ.out.2.1 5 rfl
      have a6 : Z.cell? ⟨A, 6, none⟩ = some (.string (bs c.cval)) := blk_at HZ.out.2.1 6 rfl
      have a7 : Z.cell? ⟨A, 7, none⟩ = some (.int .i64 c.ci) := blk_at HZ.out.2.1 7 rfl
      have a8 : Z.cell? ⟨A, 8, none⟩ = some (.int .i64 0) := blk_at HZ.out.2.1 8 rfl
      have d0 : Z.cell? ⟨D, 0, none⟩ = some (.int .i64 (c.la + 1)) := blk_at HZ.out.2.2 0 rfl
      have d1 : Z.cell? ⟨D, 1, none⟩ = some (.int .i64 nd) := blk_at HZ.out.2.2 1 rfl
      have d2 : Z.cell? ⟨D, 2, none⟩ = some (.int .i64 c.se) := blk_at HZ.out.2.2 2 rfl
      have d3 : Z.cell? ⟨D, 3, none⟩ = some (.int .i64 (c.nu + 1)) := blk_at HZ.out.2.2 3 rfl
      have d4 : Z.cell? ⟨D, 4, none⟩ = some (.int .i64 c.ck) := blk_at HZ.out.2.2 4 rfl
      have d5 : Z.cell? ⟨D, 5, none⟩ = some (.string (bs c.ckey)) := blk_at HZ.out.2.2 5 rfl
      have d6 : Z.cell? ⟨D, 6, none⟩ = some (.string (bs c.cval)) := blk_at HZ.out.2.2 6 rfl
      have d7 : Z.cell? ⟨D, 7, none⟩ = some (.int .i64 c.ci) := blk_at HZ.out.2.2 7 rfl
      have d8 : Z.cell? ⟨D, 8, none⟩ = some (.int .i64 0) := blk_at HZ.out.2.2 8 rfl
      go_wp2
      go_ret
      exact ⟨by simp, _, _, _, _, _, HZ.out.1, HP.out.pc.next, M2.out.2, fun e => by rw [nextC_ks]; exact HP.out.res (by rw [nextC_st] at e; exact e)⟩

end Go.Proofs.Ytbfleeilpccmcaa
