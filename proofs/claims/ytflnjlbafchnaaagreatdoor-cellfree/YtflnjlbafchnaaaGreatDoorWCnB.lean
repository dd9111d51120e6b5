/-
  Joined: WCn2, WCn3, WCn4, WCn.
-/
import Derived.Test.YtflnjlbafchnaaaGreatDoorWCn1
import Derived.Test.YtflnjlbafchnaaaGreatDoorWCe9
import Derived.BigQuiet
import Derived.BigRegion
import Derived.Deep.DeepCutAuto
import Derived.Deep.DeepFit
import Derived.Deep.RegionHeld3
/-
  CellFree: the pieces of its code; the end.
-/
namespace Go.Proofs.YtflnjlbafchnaaaGreatDoor
open Go.RowKit

def headIsC (n : Nat) : Code → Bool
  | .region k _ _ => k == n
  | .seq a _ => headIsC n a
  | .block _ c => headIsC n c
  | .loop c => headIsC n c
  | _ => false
/-- From the statement on that begins with a region. -/
def findTailC (n : Nat) : Code → Option Code
  | .seq a b => if headIsC n a then some (.seq a b) else match findTailC n a with
    | some c => some c
    | none => findTailC n b
  | .block _ c => findTailC n c
  | .loop c => findTailC n c
  | .cond _ a b => match findTailC n a with
    | some c => some c
    | none => findTailC n b
  | _ => none
noncomputable def fT12 : Code := (Tryz.f9.body.bind (findTailC 12)).getD .skip
noncomputable def fT17 : Code := (Tryz.f9.body.bind (findTailC 17)).getD .skip
noncomputable def fT24 : Code := (Tryz.f9.body.bind (findTailC 24)).getD .skip
set_option maxRecDepth 1000000 in
set_option maxHeartbeats 40000000 in
theorem fTail24 (w0 w X : World) (sb mb P b Q : Nat) (L : Lo) (n : Nat) (ns : List Ml) (J : Nat → Jb) (V : List UInt8 → List UInt8) (M : List UInt8 → Nat) (t : Nat) (x : Bg) (v0 : List UInt8) (n0 u : Nat) (oa : Option Addr) (oc : Nat) (fv0 fv1 fv2 fv3 fv4 fv5 fv6 fv10 fv11 fv14 fv16 fv17 fv18 fv19 fv20 fv21 fv22 fv23 fv24 fv25 fv26 fv27 fv28 fv29 fv30 fv31 fv32 fv33 fv34 fv35 fv36 fv37 fv38 fv39 fv40 fv41 fv42 fv43 fv44 fv45 fv46 fv47 fv48 fv49 fv50 fv51 fv52 fv53 fv54 fv55 fv56 fv57 fv58 fv59 fv60 fv61 fv62 fv63 fv64 fv65 fv66 fv67 fv68 fv69 fv70 fv71 fv72 fv73 fv74 fv75 fv76 fv77 fv78 fv79 fv80 fv81 fv82 fv83 fv84 fv85 fv86 fv87 fv88 fv89 fv90 fv91 fv92 fv93 fv94 fv95 fv96 fv97 fv98 fv99 fv100 fv101 fv102 fv103 fv104 fv105 fv106 fv107 fv108 fv109 fv110 fv111 fv112 fv113 fv114 fv115 fv116 fv117 fv118 fv119 fv120 fv121 fv122 fv123 fv124 fv125 fv126 fv127 fv128 fv129 fv130 fv131 fv132 fv133 fv134 fv135 fv136 fv137 fv138 fv139 fv140 fv141 fv142 fv143 fv144 fv145 fv146 fv147 fv148 fv149 fv150 fv151 fv152 fv153 fv154 fv155 fv156 fv157 fv158 fv159 fv160 fv161 fv162 fv163 fv164 fv165 fv166 fv167 fv168 fv169 fv170 fv171 fv172 fv173 fv174 fv175 fv176 fv177 fv178 fv179 fv180 fv181 fv182 fv183 fv184 fv185 fv186 fv187 fv188 fv189 fv190 fv191 fv192 fv193 fv194 fv195 fv196 fv197 fv198 : Value)
    (HB : Hid (FB w X sb mb P b Q L n ns J V M t x v0 n0 u oa oc)) (HL : Hid (LW w ∧ 14 ≤ w.heap.size)) (HK0 : Hid (Kept Nil w0 w)) (HX : Hid (BgOk x)) (HC : Hid (CmOk x.kd x.k x.v x.m v0 n0)) (h7 : (J n).ph = 7) :
    Code.wp Tryz.prog fT24 (bodyPost Tryz.prog Tryz.f9 fun e w' => e = .returned (.bool true) ∧ Kept Nil w0 w') ⟨#[fv0, fv1, fv2, fv3, fv4, fv5, fv6, .pointer (some ⟨sb, 0, none⟩), .pointer (some ⟨P, 0, none⟩), .pointer (some ⟨b, 0, none⟩), fv10, fv11, .slice oa (onePr x.k v0 n0).length oc, .string (bs x.k), fv14, .pointer (some ⟨Q, 0, none⟩), fv16, fv17, fv18, fv19, fv20, fv21, fv22, fv23, fv24, fv25, fv26, fv27, fv28, fv29, fv30, fv31, fv32, fv33, fv34, fv35, fv36, fv37, fv38, fv39, fv40, fv41, fv42, fv43, fv44, fv45, fv46, fv47, fv48, fv49, fv50, fv51, fv52, fv53, fv54, fv55, fv56, fv57, fv58, fv59, fv60, fv61, fv62, fv63, fv64, fv65, fv66, fv67, fv68, fv69, fv70, fv71, fv72, fv73, fv74, fv75, fv76, fv77, fv78, fv79, fv80, fv81, fv82, fv83, fv84, fv85, fv86, fv87, fv88, fv89, fv90, fv91, fv92, fv93, fv94, fv95, fv96, fv97, fv98, fv99, fv100, fv101, fv102, fv103, fv104, fv105, fv106, fv107, fv108, fv109, fv110, fv111, fv112, fv113, fv114, fv115, fv116, fv117, fv118, fv119, fv120, fv121, fv122, fv123, fv124, fv125, fv126, fv127, fv128, fv129, fv130, fv131, fv132, fv133, fv134, fv135, fv136, fv137, fv138, fv139, fv140, fv141, fv142, fv143, fv144, fv145, fv146, fv147, fv148, fv149, fv150, fv151, fv152, fv153, fv154, fv155, fv156, fv157, fv158, fv159, fv160, fv161, fv162, fv163, fv164, fv165, fv166, fv167, fv168, fv169, fv170, fv171, fv172, fv173, fv174, fv175, fv176, fv177, fv178, fv179, fv180, fv181, fv182, fv183, fv184, fv185, fv186, fv187, fv188, fv189, fv190, fv191, fv192, fv193, fv194, fv195, fv196, fv197, fv198], []⟩ X := by
  conv => arg 2; whnf
  dsimp only
  have H7 : Hid ((J n).ph = 7) := h7
  have HLX : Hid (∀ Y, Kept Nil X Y → LW Y ∧ 14 ≤ Y.heap.size) := fun Y kY => ⟨HL.out.1.kept (HB.out.cm.kw.trans kY), Nat.le_trans HL.out.2 (HB.out.cm.kw.trans kY).size⟩
  have hKL : x.k.length = 1 := abc_len HX.out.k
  have HKL : Hid (x.k.length = 1) := hKL
  have hln : (ns.map Ml.ps).length = 3 := HB.out.sf.cr.len
  obtain ⟨g1, hg1, hg3, hfind, hvm⟩ := HB.out.sf.cr.find HX.out.k
  obtain ⟨v1, Hv1⟩ : ∃ v, Hid (v = V x.k) := ⟨_, rfl⟩
  obtain ⟨n1, Hn1⟩ : ∃ v, Hid (v = M x.k) := ⟨_, rfl⟩
  have HEF : Hid ((x.tg = 0 → v1 = cmV x.kd x.v x.m v0 n0 ∧ n1 = cmN x.kd x.m n0 ∧ (J n).rs = cmR x.kd x.m v0 n0) ∧ (0 < x.tg → v1 = v0 ∧ n1 = n0 ∧ (J n).rs = ⟨1, [], 0, []⟩)) := by rw [Hv1.out, Hn1.out]; exact HB.out.sf.ef.1 h7
  have HG1 : Hid (0 < x.tg → g1 = x.tg) := fun ht => by
    have h1 := HB.out.sf.find HX.out.k h7 ht
    rw [hfind] at h1
    exact (Prod.mk.inj h1).1
  have FD := cfind_any x.k (ns.map Ml.ps) (some ⟨mb, 0, none⟩) 3 X (HB.out.cm.mrow HB.out.sf.cr.ok) (by omega) (by rw [hln]; omega) (HLX.out X (Kept.refl _ _)).2 (HB.out.sf.cr.movs HX.out.k) (HLX.out X (Kept.refl _ _)).1
  rw [hln, hfind, ← Hv1.out, ← Hn1.out] at FD
  unfold FindPost at FD
  simp only at FD
  rw [prV_k] at FD
  obtain ⟨z1, Hz1⟩ : ∃ z, Hid (z = (!decide (v1 = [] ∧ n1 = 0))) := ⟨_, rfl⟩
  rw [← Hz1.out] at FD
  obtain ⟨kk, Hkk⟩ : ∃ z, Hid (z = kOf x.k v1 n1) := ⟨_, rfl⟩
  rw [← Hkk.out] at FD
  have s0 : X.cell? ⟨sb, 0, none⟩ = some (.slice (some ⟨mb, 0, none⟩) 3 3) := blk_at HB.out.cm.sp 0 rfl
  clear hfind hvm hln h7 hKL
  go_wp2_with fail
  go_fit FD
  rintro ee w1 ⟨rfl, k1⟩
  obtain ⟨W1, hW1⟩ : ∃ W, W = w1.alloc (.cells #[.string (bs kk), .string (bs v1), .int .i64 n1] 63) := ⟨_, rfl⟩
  obtain ⟨R1, HR1⟩ : ∃ A, Hid (A = w1.heap.size) := ⟨_, rfl⟩
  have HRB : Hid (W1.heap[R1]? = some (.cells #[.string (bs kk), .string (bs v1), .int .i64 n1] 63 (0, 0))) := by rw [hW1, HR1.out]; exact blk_new _ _
  have KW1 : Hid (Kept Nil X W1) := by rw [hW1]; exact Kept.alloc k1 _
  have HB1 : Hid (FB w W1 sb mb P b Q L n ns J V M t x v0 n0 u oa oc) := HB.out.next KW1.out
  go_upto_region 25 with fail
  rw [← hW1, ← HR1.out]
  clear hW1 HR1 FD k1 s0
  obtain ⟨K, hK⟩ := HB1.out.job
  obtain ⟨hst, _, hks⟩ := HB1.out.stat
  have HKS : Hid ((J n).rs.ks = []) := hks
  have HST : Hid ((J n).st = 2) := by rwa [if_pos H7.out] at hst
  obtain ⟨j, Hj⟩ : ∃ j, Hid (j = J n) := ⟨_, rfl⟩
  rw [← Hj.out] at hK HEF HKS HST
  clear hst hks
  by_cases h0 : x.tg = 0
  · obtain ⟨ev, en, er⟩ := HEF.out.1 h0
    obtain ⟨a1, a2⟩ := ap_one HC.out
    rw [← ev, ← en] at a1
    rw [← er] at a2
    obtain ⟨m0, Hm0⟩ : ∃ m, Hid (m = (onePr x.k v0 n0).length) := ⟨_, rfl⟩
    have AP := apply_any _ oc oa (onePr x.k v0 n0) x.k x.v x.kd x.m W1 (HB1.out.op.row (one_fit HC.out)) HB1.out.op.nilc (by rcases one_cases x.k v0 n0 with h | h <;> omega) (by have := HKL.out; unfold maxLen; omega) (by have := HX.out.v; unfold maxLen; omega)
    rw [a1, a2, ← Hm0.out] at AP
    rw [← Hm0.out]
    obtain ⟨one2, Hone⟩ : ∃ l, Hid (l = onePr x.k v1 n1) := ⟨_, rfl⟩
    rw [← Hone.out] at AP
    obtain ⟨r, Hr⟩ : ∃ r, Hid (r = j.rs) := ⟨_, rfl⟩
    rw [← Hr.out] at AP
    have HRK : Hid (r.ks = []) := by rw [Hr.out]; exact HKS.out
    have p4 : W1.cell? ⟨P, 4, none⟩ = some (.int .i64 0) := by have := blk_at HB1.out.pb 4 rfl; rw [h0] at this; exact this
    have p0 : W1.cell? ⟨P, 0, none⟩ = some (.int .i64 x.kd) := blk_at HB1.out.pb 0 rfl
    have p1 : W1.cell? ⟨P, 1, none⟩ = some (.string (bs x.k)) := blk_at HB1.out.pb 1 rfl
    have p2 : W1.cell? ⟨P, 2, none⟩ = some (.string (bs x.v)) := blk_at HB1.out.pb 2 rfl
    have p3 : W1.cell? ⟨P, 3, none⟩ = some (.int .i64 x.m) := blk_at HB1.out.pb 3 rfl
    have HJW : Hid (JbAt W1 b j K) := hK
    clear ev en er a1 a2 h0 hK
    go_wp2_with fail
    go_fit AP
    rintro ee w5 ⟨a5, c5, ko, kc, rfl, o5, _, k5⟩
    unfold rrV
    obtain ⟨W6, hW6⟩ : ∃ W, W = w5.alloc (.cells #[.int .i64 r.kd, .string (bs r.v), .int .i64 r.n, .slice ko r.ks.length kc] 50) := ⟨_, rfl⟩
    obtain ⟨R, HR⟩ : ∃ A, Hid (A = w5.heap.size) := ⟨_, rfl⟩
    have HRR : Hid (W6.heap[R]? = some (.cells #[.int .i64 r.kd, .string (bs r.v), .int .i64 r.n, .slice ko r.ks.length kc] 50 (0, 0))) := by rw [hW6, HR.out]; exact blk_new _ _
    have KW6 : Hid (Kept Nil W1 W6) := by rw [hW6]; exact Kept.alloc k5 _
    have HO6 : Hid (OwnP W1.heap.size W6 a5 c5 one2) := by rw [hW6]; exact o5.kept ((Kept.refl _ _).alloc _)
    go_upto_region 28 with fail
    rw [← hW6, ← HR.out]
    clear hW6 HR k5 o5 AP p0 p1 p2 p3 p4
    have r0 : W6.cell? ⟨R, 0, none⟩ = some (.int .i64 r.kd) := blk_at HRR.out 0 rfl
    have r1 : W6.cell? ⟨R, 1, none⟩ = some (.string (bs r.v)) := blk_at HRR.out 1 rfl
    have r2 : W6.cell? ⟨R, 2, none⟩ = some (.int .i64 r.n) := blk_at HRR.out 2 rfl
    have r3 : W6.cell? ⟨R, 3, none⟩ = some (.slice ko r.ks.length kc) := blk_at HRR.out 3 rfl
    have LK := clook_any W6.drew b j K ((HJW.out.kept KW6.out).drew)
    unfold stV at LK
    rw [HST.out, ← Hr.out] at LK
    obtain ⟨at9, Hat⟩ : ∃ a, Hid (a = j.at') := ⟨_, rfl⟩
    rw [← Hat.out] at LK
    have hfd : ∀ Y, (Instr.field 76 (.agg #[.int .i64 2, .int .i64 at9, .int .i64 r.kd, .string (bs r.v), .int .i64 r.n, .slice K.ro r.ks.length K.rc]) 2).run Tryz.prog Y = .ok (.agg #[.int .i64 r.kd, .string (bs r.v), .int .i64 r.n, .slice K.ro r.ks.length K.rc]) Y := fun _ => by kernel_rfl
    have SR : ∀ Y, Calls Tryz.prog 40 #[.agg #[.int .i64 r.kd, .string (bs r.v), .int .i64 r.n, .slice ko r.ks.length kc], .agg #[.int .i64 r.kd, .string (bs r.v), .int .i64 r.n, .slice K.ro r.ks.length K.rc]] Y fun e w' => e = .returned (.bool true) ∧ Kept Nil Y w' := fun Y => by
      have := csame_any r HRK.out ko K.ro kc K.rc Y
      unfold rrV at this
      exact this
    have HRY : Hid (∀ Y, Kept Nil W6 Y → Y.cell? ⟨R, 0, none⟩ = some (.int .i64 r.kd) ∧ Y.cell? ⟨R, 1, none⟩ = some (.string (bs r.v)) ∧ Y.cell? ⟨R, 2, none⟩ = some (.int .i64 r.n) ∧ Y.cell? ⟨R, 3, none⟩ = some (.slice ko r.ks.length kc)) := fun Y kY => ⟨blk_at (kY.block _ _ HRR.out (fun x => x)) 0 rfl, blk_at (kY.block _ _ HRR.out (fun x => x)) 1 rfl, blk_at (kY.block _ _ HRR.out (fun x => x)) 2 rfl, blk_at (kY.block _ _ HRR.out (fun x => x)) 3 rfl⟩
    have sD := HRY.out W6.drew (Kept.refl _ _).drew
    have HFIN : Hid (∀ Y, Kept Nil W6 Y → Y.cell? ⟨R1, 0, none⟩ = some (.string (bs kk)) ∧ Y.cell? ⟨R1, 1, none⟩ = some (.string (bs v1)) ∧ Y.cell? ⟨R1, 2, none⟩ = some (.int .i64 n1) ∧ OwnP W1.heap.size Y a5 c5 one2 ∧ Kept Nil w0 Y) := fun Y kY => by
      have hb := (KW6.out.trans kY).block _ _ HRB.out (fun x => x)
      exact ⟨blk_at hb 0 rfl, blk_at hb 1 rfl, blk_at hb 2 rfl, HO6.out.kept kY, HK0.out.trans ((HB1.out.cm.kw.trans KW6.out).trans kY)⟩
    clear r0 r1 r2 r3
    go_region_held3 (fun w' => w'.cell? ⟨R, 0, none⟩ = some (.int .i64 r.kd) ∧ w'.cell? ⟨R, 1, none⟩ = some (.string (bs r.v)) ∧ w'.cell? ⟨R, 2, none⟩ = some (.int .i64 r.n) ∧ w'.cell? ⟨R, 3, none⟩ = some (.slice ko r.ks.length kc)) (first | assumption | go_keep) (first | (go_at_call 28; go_must (go_fit LK); rintro _ wl ⟨rfl, kl⟩; have KL : Hid (Kept Nil W6 wl) := ((Kept.refl _ _).drew).trans kl; have sl := HRY.out wl KL.out; clear kl) | (go_at_call 40; go_must (go_fit (SR _)); rintro _ ws ⟨rfl, ks⟩; have KS : Hid (Kept Nil W6 ws) := KL.out.trans ks; have ss := HRY.out ws KS.out; clear ks))
    all_goals
      obtain ⟨f0, f1, f2, fo, fk⟩ := HFIN.out ws KS.out
      have HFK : Hid (Kept Nil w0 ws) := fk
      have HFO : Hid (OwnP W1.heap.size ws a5 c5 one2) := fo
      clear fk fo
      rcases one_cases x.k v1 n1 with ⟨hl, hz⟩ | ⟨hl, hz, hone, hkk⟩
      · rw [← Hone.out] at hl
        rw [← Hz1.out] at hz
        rw [hl, hz]
        go_upto_region 29 with fail
        go_quiet (fail)
        go_wp2
        go_ret
        exact ⟨rfl, HFK.out.drewN _⟩
      · rw [← Hone.out] at hl hone
        rw [← Hz1.out] at hz
        rw [← Hkk.out] at hkk
        have HON : Hid (one2 = [⟨x.k, v1, n1⟩]) := hone
        rw [hkk] at f0
        rw [hl, hz]
        obtain ⟨g, eg, _⟩ := own_some HFO.out (by omega)
        obtain ⟨d0, d1, d2⟩ : ws.cell? ⟨g, 0, none⟩ = some (.string (bs x.k)) ∧ ws.cell? ⟨g, 1, none⟩ = some (.string (bs v1)) ∧ ws.cell? ⟨g, 2, none⟩ = some (.int .i64 n1) := by
          have ho := HFO.out
          unfold OwnP at ho
          rw [eg, HON.out] at ho
          exact ⟨own_cell ho (j := 0) rfl, own_cell ho (j := 1) rfl, own_cell ho (j := 2) rfl⟩
        rw [eg]
        clear hl hz hone hkk eg
        go_upto_region 29 with fail
        go_quiet (fail)
        go_wp2
        go_ret
        exact ⟨by simp, HFK.out.drewN _⟩
  · have htg : 0 < x.tg := by omega
    obtain ⟨ev, en, er⟩ := HEF.out.2 htg
    have eg := HG1.out htg
    subst ev en
    obtain ⟨tg, Htg⟩ : ∃ g, Hid (g = x.tg) := ⟨_, rfl⟩
    have p4 : W1.cell? ⟨P, 4, none⟩ = some (.int .i64 tg) := by have := blk_at HB1.out.pb 4 rfl; rw [← Htg.out] at this; exact this
    rw [← Htg.out] at eg htg
    rw [eg]
    have htgi : (0 : Int) < tg := by omega
    have htgb : decide ((0 : Int) < tg) = true := decide_eq_true htgi
    have LK := clook_any W1 b j K hK
    unfold stV at LK
    rw [HST.out, er] at LK
    simp only [List.length_nil] at LK
    obtain ⟨at9, Hat⟩ : ∃ a, Hid (a = j.at') := ⟨_, rfl⟩
    rw [← Hat.out] at LK
    have hfd : ∀ Y, (Instr.field 76 (.agg #[.int .i64 2, .int .i64 at9, .int .i64 1, .string (bs []), .int .i64 0, .slice K.ro 0 K.rc]) 2).run Tryz.prog Y = .ok (.agg #[.int .i64 1, .string (bs []), .int .i64 0, .slice K.ro 0 K.rc]) Y := fun _ => by kernel_rfl
    have hfd2 : ∀ Y, (Instr.field 50 (.agg #[.int .i64 1, .string (bs []), .int .i64 0, .slice K.ro 0 K.rc]) 0).run Tryz.prog Y = .ok (.int .i64 1) Y := fun _ => by kernel_rfl
    have HBW : Hid (∀ Y, Kept Nil W1 Y → Y.cell? ⟨P, 4, none⟩ = some (.int .i64 tg) ∧ Y.cell? ⟨R1, 0, none⟩ = some (.string (bs kk)) ∧ Y.cell? ⟨R1, 1, none⟩ = some (.string (bs v1)) ∧ Y.cell? ⟨R1, 2, none⟩ = some (.int .i64 n1) ∧ Y.cell? ⟨Q, 0, none⟩ = some (.string (bs kk)) ∧ Y.cell? ⟨Q, 1, none⟩ = some (.string (bs v1)) ∧ Y.cell? ⟨Q, 2, none⟩ = some (.int .i64 n1) ∧ Kept Nil w0 Y) := fun Y kY => by
      have hb := kY.block _ _ HRB.out (fun x => x)
      have hq := kY.block _ _ HB1.out.qb (fun x => x)
      have hp := kY.block _ _ HB1.out.pb (fun x => x)
      have e4 := blk_at hp 4 rfl
      rw [← Htg.out] at e4
      rw [← Hkk.out] at hq
      exact ⟨e4, blk_at hb 0 rfl, blk_at hb 1 rfl, blk_at hb 2 rfl, blk_at hq 0 rfl, blk_at hq 1 rfl, blk_at hq 2 rfl, HK0.out.trans (HB1.out.cm.kw.trans kY)⟩
    clear hK er
    rcases one_cases x.k v1 n1 with ⟨hl, hz⟩ | ⟨hl, hz, hone, hkk⟩
    · rw [← Hz1.out] at hz
      rw [hl, hz]
      clear hl hz
      go_wp2_with fail
      go_fit LK
      rintro ee w9 ⟨rfl, k9⟩
      obtain ⟨e4, f0, f1, f2, g0', g1', g2', fk⟩ := HBW.out w9 k9
      have HFK : Hid (Kept Nil w0 w9) := fk
      clear LK fk k9 p4
      go_wp2
      go_ret
      exact ⟨by simp, HFK.out⟩
    · rw [← Hz1.out] at hz
      rw [hl, hz]
      clear hl hz hone hkk
      go_wp2_with fail
      go_fit LK
      rintro ee w9 ⟨rfl, k9⟩
      obtain ⟨e4, f0, f1, f2, g0', g1', g2', fk⟩ := HBW.out w9 k9
      have HFK : Hid (Kept Nil w0 w9) := fk
      clear LK fk k9 p4
      go_wp2
      go_ret
      exact ⟨by simp, HFK.out⟩
end Go.Proofs.YtflnjlbafchnaaaGreatDoor

/-
  CellFree: one goes on alone.
-/
namespace Go.Proofs.YtflnjlbafchnaaaGreatDoor
open Go.RowKit

set_option maxRecDepth 1000000 in
set_option maxHeartbeats 40000000 in
theorem fTail17 (w0 w X : World) (sb mb P b Q : Nat) (L : Lo) (ns : List Ml) (J : Nat → Jb) (V : List UInt8 → List UInt8) (M : List UInt8 → Nat) (t : Nat) (x : Bg) (v0 : List UInt8) (n0 : Nat) (oa : Option Addr) (oc : Nat) (fv0 fv1 fv2 fv3 fv4 fv5 fv6 fv10 fv11 fv14 fv16 fv17 fv18 fv19 fv20 fv21 fv22 fv23 fv24 fv25 fv26 fv27 fv28 fv29 fv30 fv31 fv32 fv33 fv34 fv35 fv36 fv37 fv38 fv39 fv40 fv41 fv42 fv43 fv44 fv45 fv46 fv47 fv48 fv49 fv50 fv51 fv52 fv53 fv54 fv55 fv56 fv57 fv58 fv59 fv60 fv61 fv62 fv63 fv64 fv65 fv66 fv67 fv68 fv69 fv70 fv71 fv72 fv73 fv74 fv75 fv76 fv77 fv78 fv79 fv80 fv81 fv82 fv83 fv84 fv85 fv86 fv87 fv88 fv89 fv90 fv91 fv92 fv93 fv94 fv95 fv96 fv97 fv98 fv99 fv100 fv101 fv102 fv103 fv104 fv105 fv106 fv107 fv108 fv109 fv110 fv111 fv112 fv113 fv114 fv115 fv116 fv117 fv118 fv119 fv120 fv121 fv122 fv123 fv124 fv125 fv126 fv127 fv128 fv129 fv130 fv131 fv132 fv133 fv134 fv135 fv136 fv137 fv138 fv139 fv140 fv141 fv142 fv143 fv144 fv145 fv146 fv147 fv148 fv149 fv150 fv151 fv152 fv153 fv154 fv155 fv156 fv157 fv158 fv159 fv160 fv161 fv162 fv163 fv164 fv165 fv166 fv167 fv168 fv169 fv170 fv171 fv172 fv173 fv174 fv175 fv176 fv177 fv178 fv179 fv180 fv181 fv182 fv183 fv184 fv185 fv186 fv187 fv188 fv189 fv190 fv191 fv192 fv193 fv194 fv195 fv196 fv197 fv198 : Value)
    (HA : Hid (FA w X sb mb P b L ns J V M t x)) (HV : Hid (v0 = V x.k ∧ n0 = M x.k)) (HQ : Hid (X.heap[Q]? = some (.cells #[.string (bs (kOf x.k v0 n0)), .string (bs v0), .int .i64 n0] 63 (0, 0)))) (HO : Hid (OwnP w.heap.size X oa oc (onePr x.k v0 n0))) (HL : Hid (LW w ∧ 14 ≤ w.heap.size)) (HK0 : Hid (Kept Nil w0 w)) (HX : Hid (BgOk x)) (HC : Hid (CmOk x.kd x.k x.v x.m v0 n0)) (hn6 : L.ds.length ≤ 6) (ht : t ≤ 16384) :
    Code.wp Tryz.prog fT17 (bodyPost Tryz.prog Tryz.f9 fun e w' => e = .returned (.bool true) ∧ Kept Nil w0 w') ⟨#[fv0, fv1, fv2, fv3, fv4, fv5, fv6, .pointer (some ⟨sb, 0, none⟩), .pointer (some ⟨P, 0, none⟩), .pointer (some ⟨b, 0, none⟩), fv10, fv11, .slice oa (onePr x.k v0 n0).length oc, .string (bs x.k), fv14, .pointer (some ⟨Q, 0, none⟩), fv16, fv17, fv18, fv19, fv20, fv21, fv22, fv23, fv24, fv25, fv26, fv27, fv28, fv29, fv30, fv31, fv32, fv33, fv34, fv35, fv36, fv37, fv38, fv39, fv40, fv41, fv42, fv43, fv44, fv45, fv46, fv47, fv48, fv49, fv50, fv51, fv52, fv53, fv54, fv55, fv56, fv57, fv58, fv59, fv60, fv61, fv62, fv63, fv64, fv65, fv66, fv67, fv68, fv69, fv70, fv71, fv72, fv73, fv74, fv75, fv76, fv77, fv78, fv79, fv80, fv81, fv82, fv83, fv84, fv85, fv86, fv87, fv88, fv89, fv90, fv91, fv92, fv93, fv94, fv95, fv96, fv97, fv98, fv99, fv100, fv101, fv102, fv103, fv104, fv105, fv106, fv107, fv108, fv109, fv110, fv111, fv112, fv113, fv114, fv115, fv116, fv117, fv118, fv119, fv120, fv121, fv122, fv123, fv124, fv125, fv126, fv127, fv128, fv129, fv130, fv131, fv132, fv133, fv134, fv135, fv136, fv137, fv138, fv139, fv140, fv141, fv142, fv143, fv144, fv145, fv146, fv147, fv148, fv149, fv150, fv151, fv152, fv153, fv154, fv155, fv156, fv157, fv158, fv159, fv160, fv161, fv162, fv163, fv164, fv165, fv166, fv167, fv168, fv169, fv170, fv171, fv172, fv173, fv174, fv175, fv176, fv177, fv178, fv179, fv180, fv181, fv182, fv183, fv184, fv185, fv186, fv187, fv188, fv189, fv190, fv191, fv192, fv193, fv194, fv195, fv196, fv197, fv198], []⟩ X := by
  conv => arg 2; whnf
  dsimp only
  obtain ⟨i2, hi2, hx0, hx1, hx2⟩ := info_parts Tryz.infoJp
  obtain ⟨n, Hn⟩ : ∃ n, Hid (n = L.ds.length) := ⟨_, rfl⟩
  obtain ⟨jo, Hjo⟩ : ∃ n, Hid (n = L.jo) := ⟨_, rfl⟩
  obtain ⟨jc, Hjc⟩ : ∃ n, Hid (n = L.jc) := ⟨_, rfl⟩
  obtain ⟨W2, hW2⟩ : ∃ W, W = X.alloc (.cells #[.pointer (some ⟨b, 0, none⟩)] 67) := ⟨_, rfl⟩
  have KW2 : Hid (Kept Nil X W2) := by rw [hW2]; exact (Kept.refl _ _).alloc _
  have HLr : Hid (W2.ownsRow w.heap.size 67 1 (.slice jo n jc) n (L.ds.map jpV)) := by
    have h1 : X.ownsRow w.heap.size 67 1 (.slice L.jo L.ds.length L.jc) L.ds.length (L.ds.map jpV) := HA.out.cm.jr
    rw [← Hn.out, ← Hjo.out, ← Hjc.out] at h1
    rw [hW2]
    exact World.ownsRow.alloc h1 _
  have SR1 : Hid (Src Tryz.prog 1 92 (.slice (some ⟨X.heap.size, 0, none⟩) 1 1) 1 [.pointer (some ⟨b, 0, none⟩)] W2) := by rw [hW2]; exact one_src X 67 92 _ Tryz.underlying92 rfl
  have hsW2 : w.heap.size ≤ W2.heap.size := (HA.out.cm.kw.trans KW2.out).size
  have HN6 : Hid (n ≤ 6) := by show _ ≤ _; rw [Hn.out]; exact hn6
  have HLL : Hid (n + 1 ≤ maxLen ∧ (n + 1) * 8 ≤ 140737488355328) := by have := HN6.out; constructor <;> (try unfold maxLen) <;> omega
  have HS2 : Hid (X.heap[sb]? = some (.cells #[.slice (some ⟨mb, 0, none⟩) 3 3, .slice jo n jc, .slice L.wo L.xs.length L.wc] 94 (0, 0))) := by
    have h1 := HA.out.cm.sp
    rw [← Hn.out, ← Hjo.out, ← Hjc.out] at h1
    exact h1
  have s1 : X.cell? ⟨sb, 1, none⟩ = some (.slice jo n jc) := blk_at HS2.out 1 rfl
  clear hn6
  go_upto_region 18 with (at_builtin; rw [← hW2]; go_must (refine wpList_append_src _ rfl _ _ 92 92 rfl w.heap.size 67 i2 (.pointer none) 1 8 Tryz.underlying92 hi2 hx0 hx1 hx2 rfl (.slice jo n jc) n (L.ds.map jpV) rfl HLr.out (.slice (some ⟨X.heap.size, 0, none⟩) 1 1) 1 [.pointer (some ⟨b, 0, none⟩)] rfl SR1.out HLL.out.1 HLL.out.2 hsW2 ?_); intro a7 c7 w7 ho7 hg7; have HO7 : Hid (w7.ownsRow w.heap.size 67 1 (.slice a7 (n + 1) c7) (n + 1) (L.ds.map jpV ++ [.pointer (some ⟨b, 0, none⟩)])) := ho7; have KG : Hid (Kept (TyG w.heap.size 67) W2 w7) := kept_grown HLr.out hg7; have HS7 : Hid (w7.heap[sb]? = some (.cells #[.slice (some ⟨mb, 0, none⟩) 3 3, .slice jo n jc, .slice L.wo L.xs.length L.wc] 94 (0, 0))) := KG.out.block _ _ (KW2.out.block _ _ HS2.out (fun x => x)) (off_tyG (by decide)); have r7 : w7.cell? ⟨sb, 1, none⟩ = some (.slice jo n jc) := blk_at HS7.out 1 rfl; have rf7 := blk_free HS7.out 1; clear ho7 hg7)
  obtain ⟨X7, hX7⟩ : ∃ X, X = w7.setCell ⟨sb, 1, none⟩ (.slice a7 (n + 1) c7) := ⟨_, rfl⟩
  rw [← hX7]
  have HFB : Hid (FB w X7 sb mb P b Q ⟨a7, c7, L.ds ++ [b], L.wo, L.wc, L.xs⟩ n ns (updj J n (Jb.new x.kd x.k x.v x.m x.tg x.at')) V M t x v0 n0 19 oa oc) := by
    have hS8 : X7.heap[sb]? = some (.cells #[.slice (some ⟨mb, 0, none⟩) 3 3, .slice a7 (n + 1) c7, .slice L.wo L.xs.length L.wc] 94 (0, 0)) := by rw [hX7]; exact blk_set HS7.out 1 _
    have K7 : Kept (TyG w.heap.size 94) w7 X7 := by rw [hX7]; exact one_tyG ((Kept.refl _ _).setCell (p := ⟨sb, 1, none⟩) (fun _ => rfl) _) HS7.out HA.out.cm.sbw
    have kx : Kept (XB w.heap.size) X X7 := (xb_nil KW2.out).trans ((ty_xb KG.out (.inl rfl)).trans (ty_xb K7 (.inr (.inr rfl))))
    have hj := own_ty HO7.out K7 (by decide)
    have hw7 : BegR w.heap.size X7 L.wo L.wc L.xs := own_ty (own_ty (own_kept HA.out.cm.wr KW2.out (fun _ _ _ x => x)) KG.out (by decide)) K7 (by decide)
    have ho7 : OwnP w.heap.size X7 oa oc (onePr x.k v0 n0) := own_ty (own_ty (own_kept HO.out KW2.out (fun _ _ _ x => x)) KG.out (by decide)) K7 (by decide)
    have hP := K7.block _ _ (KG.out.block _ _ (KW2.out.block _ _ HA.out.pb (fun x => x)) (off_tyG (by decide))) (off_tyG (by decide))
    have hQ := K7.block _ _ (KG.out.block _ _ (KW2.out.block _ _ HQ.out (fun x => x)) (off_tyG (by decide))) (off_tyG (by decide))
    obtain ⟨e1, e2⟩ := HV.out
    have hnl : (L.ds ++ [b]).length = n + 1 := by rw [List.length_append, Hn.out]; rfl
    rw [e1, e2] at hQ ho7
    have := HA.out.begin (jo := a7) (jc := c7) HX.out kx hP hQ ho7 (by rw [hnl]; exact hS8) (JRow.push Hn.out hj) hw7
    rw [← Hn.out, ← e1, ← e2] at this
    exact this
  clear hX7 hW2 s1 r7 rf7 SR1 HA HV HQ HO HLr HO7 KG KW2 HS7 HS2 hsW2 HLL
  obtain ⟨L2, HL2⟩ : ∃ l, Hid (l = (⟨a7, c7, L.ds ++ [b], L.wo, L.wc, L.xs⟩ : Lo)) := ⟨_, rfl⟩
  rw [← HL2.out] at HFB
  obtain ⟨J0, HJ0⟩ : ∃ l, Hid (l = updj J n (Jb.new x.kd x.k x.v x.m x.tg x.at')) := ⟨_, rfl⟩
  rw [← HJ0.out] at HFB
  go_upto_block 2 with fail
  go_cut [6, 17, 18] from 109 to 128 (fun _ _ _ wc => Hid (∃ ns2 J2 V2 M2 t2 u2, FB w wc sb mb P b Q L2 n ns2 J2 V2 M2 t2 x v0 n0 u2 oa oc ∧ (J2 n).ph = 7))
  case first =>
    go_wp2_with fail
    go_loopw [6, 17] (fun _ v wr => ∃ (c : Nat) (ns2 : List Ml) (J2 : Nat → Jb) (V2 : List UInt8 → List UInt8) (M2 : List UInt8 → Nat) (u : Nat), c + u ≤ 19 ∧ v = .int .i64 c ∧ Hid (FB w wr sb mb P b Q L2 n ns2 J2 V2 M2 (t + c) x v0 n0 u oa oc)) (fun _ v _ => 19 - (intOf v).toNat)
    case atStart => exact ⟨0, ns, J0, V, M, 19, by omega, rfl, HFB.out⟩
    case round =>
      obtain ⟨c, ns2, J2, V2, M2, u, hcu, rfl, HB⟩ := hrel
      clear HFB
      rename World => wr
      obtain ⟨K, hK⟩ := HB.out.job
      obtain ⟨hst, hph, hks⟩ := HB.out.stat
      obtain ⟨j, Hj⟩ : ∃ j, Hid (j = J2 n) := ⟨_, rfl⟩
      rw [← Hj.out] at hK hst hph
      have LK := clook_any wr b j K hK
      unfold stV at LK
      obtain ⟨rs, Hrs⟩ : ∃ r, Hid (r = j.rs) := ⟨_, rfl⟩
      obtain ⟨at9, Hat⟩ : ∃ r, Hid (r = j.at') := ⟨_, rfl⟩
      rw [← Hrs.out, ← Hat.out] at LK
      by_cases h7 : j.ph = 7
      · rw [hst, if_pos h7] at LK
        have hfd : ∀ Y, (Instr.field 76 (.agg #[.int .i64 2, .int .i64 at9, .int .i64 rs.kd, .string (bs rs.v), .int .i64 rs.n, .slice K.ro rs.ks.length K.rc]) 0).run Tryz.prog Y = .ok (.int .i64 2) Y := fun _ => by kernel_rfl
        have H7 : Hid ((J2 n).ph = 7) := by rw [← Hj.out]; exact h7
        clear h7 hst hph hks hK
        go_wp2_with fail
        go_fit LK
        rintro ee w9 ⟨rfl, k9⟩
        have HF : Hid (∃ ns2 J2 V2 M2 t2 u2, FB w w9 sb mb P b Q L2 n ns2 J2 V2 M2 t2 x v0 n0 u2 oa oc ∧ (J2 n).ph = 7) := ⟨_, _, _, _, _, _, HB.out.next k9, H7.out⟩
        clear LK k9
        go_wp2
        go_meet
        exact HF.out
      · rw [hst, if_neg h7] at LK
        have hfd : ∀ Y, (Instr.field 76 (.agg #[.int .i64 1, .int .i64 at9, .int .i64 rs.kd, .string (bs rs.v), .int .i64 rs.n, .slice K.ro rs.ks.length K.rc]) 0).run Tryz.prog Y = .ok (.int .i64 1) Y := fun _ => by kernel_rfl
        have H6 : Hid ((J2 n).ph ≤ 6) := by rw [← Hj.out]; show _ ≤ _; omega
        clear h7 hst hph hks hK
        go_wp2_with fail
        go_fit LK
        rintro ee w9 ⟨rfl, k9⟩
        have HB9 : Hid (FB w w9 sb mb P b Q L2 n ns2 J2 V2 M2 (t + c) x v0 n0 u oa oc) := HB.out.next k9
        clear LK k9
        obtain ⟨m, Hm⟩ : ∃ m, Hid (m = L2.ds.length) := ⟨_, rfl⟩
        have hmn : m = n + 1 := by rw [Hm.out, HB9.out.ln]
        obtain ⟨jo2, Hjo2⟩ : ∃ n, Hid (n = L2.jo) := ⟨_, rfl⟩
        obtain ⟨jc2, Hjc2⟩ : ∃ n, Hid (n = L2.jc) := ⟨_, rfl⟩
        have s1 : w9.cell? ⟨sb, 1, none⟩ = some (.slice jo2 m jc2) := by
          have := blk_at HB9.out.cm.sp 1 rfl
          rw [← Hm.out, ← Hjo2.out, ← Hjc2.out] at this
          exact this
        have hsub : (m : Int) - 1 = (n : Int) := by omega
        have hsub2 : IntKind.i64.wrap ((m : Int) - 1) = (n : Int) := by rw [IntKind.wrap_i64]; have := HN6.out; omega
        have CS := cstep_any w w9 sb mb L2 ns2 J2 V2 M2 (t + c) n HB9.out.cm (by rw [HB9.out.ln]; exact HB9.out.sf.cr) (by rw [HB9.out.ln]; omega) HL.out.1 HL.out.2
        have HN7 : Hid (n + 1 ≤ 7) := by have := HN6.out; show _ ≤ _; omega
        have htc : t + c < 999999 := by omega
        clear hmn
        have hwn : wrap64 (n : Int) = n := by unfold wrap64; have := HN6.out; omega
        go_wp2_with fail
        (try rw [hsub])
        (try rw [hwn])
        go_fit CS
        intro ee w10 hsp
        obtain ⟨rfl, hu0, ns3, J3, V3, M3, hB3⟩ := HB9.out.step HN7.out htc H6.out hsp
        have HB3 : Hid (FB w w10 sb mb P b Q L2 n ns3 J3 V3 M3 (t + (c + 1)) x v0 n0 (u - 1) oa oc) := hB3
        have hc40 : ¬ (40 : Int) < (c : Int) + 1 := by omega
        have hc40d : decide ((40 : Int) < (c : Int) + 1) = false := decide_eq_false hc40
        clear CS hsp hB3 s1 hsub hsub2
        go_wp2
        go_roundw
        case rel => exact ⟨c + 1, ns3, J3, V3, M3, u - 1, by omega, by go_num, HB3.out⟩
        case measure => simp [intOf]; omega
  case rest =>
    obtain ⟨ns2, J2, V2, M2, t2, u2, hB, h7⟩ := hcut.out
    rename World => w9
    have HB9 : Hid (FB w w9 sb mb P b Q L2 n ns2 J2 V2 M2 t2 x v0 n0 u2 oa oc) := hB
    clear hcut hB
    apply_assumption
    exact fTail24 w0 w w9 sb mb P b Q L2 n ns2 J2 V2 M2 t2 x v0 n0 u2 oa oc _ _ _ _ _ _ _ _ _ _ _ _ _ _ _ _ _ _ _ _ _ _ _ _ _ _ _ _ _ _ _ _ _ _ _ _ _ _ _ _ _ _ _ _ _ _ _ _ _ _ _ _ _ _ _ _ _ _ _ _ _ _ _ _ _ _ _ _ _ _ _ _ _ _ _ _ _ _ _ _ _ _ _ _ _ _ _ _ _ _ _ _ _ _ _ _ _ _ _ _ _ _ _ _ _ _ _ _ _ _ _ _ _ _ _ _ _ _ _ _ _ _ _ _ _ _ _ _ _ _ _ _ _ _ _ _ _ _ _ _ _ _ _ _ _ _ _ _ _ _ _ _ _ _ _ _ _ _ _ _ _ _ _ _ _ _ _ _ _ _ _ _ _ _ _ _ _ _ _ _ _ _ _ _ _ _ _ _ _ _ _ _ _ HB9 HL HK0 HX HC h7
end Go.Proofs.YtflnjlbafchnaaaGreatDoor

/-
  CellFree: the key is looked for.
-/
namespace Go.Proofs.YtflnjlbafchnaaaGreatDoor
open Go.RowKit

set_option maxRecDepth 1000000 in
set_option maxHeartbeats 40000000 in
theorem fTail12 (w0 w X : World) (sb mb P b : Nat) (L : Lo) (ns : List Ml) (J : Nat → Jb) (V : List UInt8 → List UInt8) (M : List UInt8 → Nat) (t : Nat) (x : Bg) (fv0 fv1 fv2 fv3 fv4 fv5 fv6 fv10 fv11 fv12 fv13 fv14 fv15 fv16 fv17 fv18 fv19 fv20 fv21 fv22 fv23 fv24 fv25 fv26 fv27 fv28 fv29 fv30 fv31 fv32 fv33 fv34 fv35 fv36 fv37 fv38 fv39 fv40 fv41 fv42 fv43 fv44 fv45 fv46 fv47 fv48 fv49 fv50 fv51 fv52 fv53 fv54 fv55 fv56 fv57 fv58 fv59 fv60 fv61 fv62 fv63 fv64 fv65 fv66 fv67 fv68 fv69 fv70 fv71 fv72 fv73 fv74 fv75 fv76 fv77 fv78 fv79 fv80 fv81 fv82 fv83 fv84 fv85 fv86 fv87 fv88 fv89 fv90 fv91 fv92 fv93 fv94 fv95 fv96 fv97 fv98 fv99 fv100 fv101 fv102 fv103 fv104 fv105 fv106 fv107 fv108 fv109 fv110 fv111 fv112 fv113 fv114 fv115 fv116 fv117 fv118 fv119 fv120 fv121 fv122 fv123 fv124 fv125 fv126 fv127 fv128 fv129 fv130 fv131 fv132 fv133 fv134 fv135 fv136 fv137 fv138 fv139 fv140 fv141 fv142 fv143 fv144 fv145 fv146 fv147 fv148 fv149 fv150 fv151 fv152 fv153 fv154 fv155 fv156 fv157 fv158 fv159 fv160 fv161 fv162 fv163 fv164 fv165 fv166 fv167 fv168 fv169 fv170 fv171 fv172 fv173 fv174 fv175 fv176 fv177 fv178 fv179 fv180 fv181 fv182 fv183 fv184 fv185 fv186 fv187 fv188 fv189 fv190 fv191 fv192 fv193 fv194 fv195 fv196 fv197 fv198 : Value)
    (HA : Hid (FA w X sb mb P b L ns J V M t x)) (HL : Hid (LW w ∧ 14 ≤ w.heap.size)) (HK0 : Hid (Kept Nil w0 w)) (HX : Hid (BgOk x)) (hn6 : L.ds.length ≤ 6) (ht : t ≤ 16384) :
    Code.wp Tryz.prog fT12 (bodyPost Tryz.prog Tryz.f9 fun e w' => e = .returned (.bool true) ∧ Kept Nil w0 w') ⟨#[fv0, fv1, fv2, fv3, fv4, fv5, fv6, .pointer (some ⟨sb, 0, none⟩), .pointer (some ⟨P, 0, none⟩), .pointer (some ⟨b, 0, none⟩), fv10, fv11, fv12, fv13, fv14, fv15, fv16, fv17, fv18, fv19, fv20, fv21, fv22, fv23, fv24, fv25, fv26, fv27, fv28, fv29, fv30, fv31, fv32, fv33, fv34, fv35, fv36, fv37, fv38, fv39, fv40, fv41, fv42, fv43, fv44, fv45, fv46, fv47, fv48, fv49, fv50, fv51, fv52, fv53, fv54, fv55, fv56, fv57, fv58, fv59, fv60, fv61, fv62, fv63, fv64, fv65, fv66, fv67, fv68, fv69, fv70, fv71, fv72, fv73, fv74, fv75, fv76, fv77, fv78, fv79, fv80, fv81, fv82, fv83, fv84, fv85, fv86, fv87, fv88, fv89, fv90, fv91, fv92, fv93, fv94, fv95, fv96, fv97, fv98, fv99, fv100, fv101, fv102, fv103, fv104, fv105, fv106, fv107, fv108, fv109, fv110, fv111, fv112, fv113, fv114, fv115, fv116, fv117, fv118, fv119, fv120, fv121, fv122, fv123, fv124, fv125, fv126, fv127, fv128, fv129, fv130, fv131, fv132, fv133, fv134, fv135, fv136, fv137, fv138, fv139, fv140, fv141, fv142, fv143, fv144, fv145, fv146, fv147, fv148, fv149, fv150, fv151, fv152, fv153, fv154, fv155, fv156, fv157, fv158, fv159, fv160, fv161, fv162, fv163, fv164, fv165, fv166, fv167, fv168, fv169, fv170, fv171, fv172, fv173, fv174, fv175, fv176, fv177, fv178, fv179, fv180, fv181, fv182, fv183, fv184, fv185, fv186, fv187, fv188, fv189, fv190, fv191, fv192, fv193, fv194, fv195, fv196, fv197, fv198], []⟩ X := by
  conv => arg 2; whnf
  dsimp only
  obtain ⟨i2, hi2, hx0, hx1, hx2⟩ := info_parts Tryz.infoPr
  have hKL : x.k.length = 1 := abc_len HX.out.k
  have hln : (ns.map Ml.ps).length = 3 := HA.out.cr.len
  have HLX : Hid (∀ Y, Kept Nil X Y → LW Y ∧ 14 ≤ Y.heap.size) := fun Y kY => ⟨HL.out.1.kept (HA.out.cm.kw.trans kY), Nat.le_trans HL.out.2 (HA.out.cm.kw.trans kY).size⟩
  obtain ⟨g1, hg1, hg3, hfind, hvm⟩ := HA.out.cr.find HX.out.k
  obtain ⟨v0, Hv0⟩ : ∃ v, Hid (v = V x.k) := ⟨_, rfl⟩
  obtain ⟨n0, Hn0⟩ : ∃ v, Hid (v = M x.k) := ⟨_, rfl⟩
  have HC : Hid (CmOk x.kd x.k x.v x.m v0 n0) := by rw [Hv0.out, Hn0.out]; exact HA.out.cr.cmAt (by omega) (by omega) HX.out
  have FD := cfind_any x.k (ns.map Ml.ps) (some ⟨mb, 0, none⟩) 3 X (HA.out.cm.mrow HA.out.cr.ok) (by omega) (by rw [hln]; omega) (HLX.out X (Kept.refl _ _)).2 (HA.out.cr.movs HX.out.k) (HLX.out X (Kept.refl _ _)).1
  rw [hln, hfind, ← Hv0.out, ← Hn0.out] at FD
  unfold FindPost at FD
  simp only at FD
  rw [prV_k] at FD
  obtain ⟨z1, Hz1⟩ : ∃ z, Hid (z = (!decide (v0 = [] ∧ n0 = 0))) := ⟨_, rfl⟩
  rw [← Hz1.out] at FD
  obtain ⟨kk, Hkk⟩ : ∃ z, Hid (z = kOf x.k v0 n0) := ⟨_, rfl⟩
  rw [← Hkk.out] at FD
  have s0 : X.cell? ⟨sb, 0, none⟩ = some (.slice (some ⟨mb, 0, none⟩) 3 3) := blk_at HA.out.cm.sp 0 rfl
  have p1 : X.cell? ⟨P, 1, none⟩ = some (.string (bs x.k)) := blk_at HA.out.pb 1 rfl
  clear hfind hvm hln hKL
  go_wp2_with fail
  go_fit FD
  rintro ee w1 ⟨rfl, k1⟩
  obtain ⟨W1, hW1⟩ : ∃ W, W = w1.alloc (.cells #[.string (bs kk), .string (bs v0), .int .i64 n0] 63) := ⟨_, rfl⟩
  obtain ⟨Q, HQe⟩ : ∃ A, Hid (A = w1.heap.size) := ⟨_, rfl⟩
  have HQB : Hid (W1.heap[Q]? = some (.cells #[.string (bs kk), .string (bs v0), .int .i64 n0] 63 (0, 0))) := by rw [hW1, HQe.out]; exact blk_new _ _
  have KW1 : Hid (Kept Nil X W1) := by rw [hW1]; exact Kept.alloc k1 _
  go_upto_region 15 with fail
  rw [← hW1, ← HQe.out]
  clear hW1 HQe FD k1 s0 p1
  have HA1 : Hid (FA w W1 sb mb P b L ns J V M t x) := HA.out.next KW1.out
  have hsw : w.heap.size ≤ W1.heap.size := HA1.out.cm.kw.size
  go_upto_if 94 with fail
  go_cut [12, 16] from 84 to 98 (fun v _ wc => Hid (∃ oa oc, v = .slice oa (onePr x.k v0 n0).length oc ∧ OwnP w.heap.size wc oa oc (onePr x.k v0 n0) ∧ Kept Nil W1 wc))
  case first =>
    rcases one_cases x.k v0 n0 with ⟨hl, hz⟩ | ⟨hl, hz, hone, hkk⟩
    · have HF : Hid (∃ oa oc, (.slice none 0 0 : Value) = .slice oa (onePr x.k v0 n0).length oc ∧ OwnP w.heap.size W1 oa oc (onePr x.k v0 n0) ∧ Kept Nil W1 W1) := by
        have e : onePr x.k v0 n0 = [] := List.eq_nil_of_length_eq_zero hl
        rw [e]
        exact ⟨none, 0, rfl, World.ownsRow_nil _ _ _ _, Kept.refl _ _⟩
      rw [← Hz1.out] at hz
      rw [hz]
      clear hl hz
      go_wp2
      go_meet
      exact HF.out
    · rw [← Hz1.out] at hz
      rw [hz]
      rw [← Hkk.out] at hkk
      have HONE : Hid (onePr x.k v0 n0 = [⟨x.k, v0, n0⟩]) := hone
      have q0 : W1.cell? ⟨Q, 0, none⟩ = some (.string (bs x.k)) := by have := blk_at HQB.out 0 rfl; rw [hkk] at this; exact this
      have q1 : W1.cell? ⟨Q, 1, none⟩ = some (.string (bs v0)) := blk_at HQB.out 1 rfl
      have q2 : W1.cell? ⟨Q, 2, none⟩ = some (.int .i64 n0) := blk_at HQB.out 2 rfl
      obtain ⟨W2, hW2⟩ : ∃ W, W = W1.alloc (.cells #[.string (bs x.k), .string (bs v0), .int .i64 n0] 63) := ⟨_, rfl⟩
      have KW2 : Hid (Kept Nil W1 W2) := by rw [hW2]; exact (Kept.refl _ _).alloc _
      have HNR : Hid (W2.ownsRow w.heap.size 63 3 (.slice none 0 0) 0 []) := World.ownsRow_nil _ _ _ _
      have SR1 : Hid (Src Tryz.prog 3 55 (.slice (some ⟨W1.heap.size, 0, none⟩) 1 1) 1 [.string (bs x.k), .string (bs v0), .int .i64 n0] W2) := by
        rw [hW2]
        refine Src.ofSlice _ Tryz.underlying55 ⟨W1.heap.size, 0, .none⟩ 1 1 _ rfl ?_ (fun u hu => by simp at hu; rcases hu with rfl | rfl | rfl <;> rfl)
        intro j u hj
        rw [addr_addE, blk_cell (blk_new W1 (.cells #[.string (bs x.k), .string (bs v0), .int .i64 n0] 63)), ← hj]
        simp
      have hs2 : w.heap.size ≤ W2.heap.size := Nat.le_trans hsw KW2.out.size
      have HKW : Hid (Kept Nil w W2) := HA1.out.cm.kw.trans KW2.out
      clear hl hz hone hkk
      go_wp2_with (at_builtin; rw [← hW2]; go_must (refine wpList_append_src _ rfl _ _ 55 55 rfl w.heap.size 63 i2 (.agg #[.string ⟨#[]⟩, .string ⟨#[]⟩, .int .i64 0]) 3 40 Tryz.underlying55 hi2 hx0 hx1 hx2 rfl (.slice none 0 0) 0 [] rfl HNR.out (.slice (some ⟨W1.heap.size, 0, none⟩) 1 1) 1 [.string (bs x.k), .string (bs v0), .int .i64 n0] rfl SR1.out (by unfold maxLen; omega) (by omega) hs2 ?_); intro a7 c7 w7 ho7 hg7; have HF : Hid (∃ oa oc, (.slice a7 1 c7 : Value) = .slice oa (onePr x.k v0 n0).length oc ∧ OwnP w.heap.size w7 oa oc (onePr x.k v0 n0) ∧ Kept Nil W1 w7) := (by rw [HONE.out]; exact ⟨a7, c7, rfl, ho7, KW2.out.grown0 hg7 (fun g e => by simp [Value.ownBlock] at e)⟩); clear ho7 hg7)
      go_meet
      exact HF.out
  case rest =>
    obtain ⟨oa, oc, e12, ho, kX⟩ := hcut.out
    subst e12
    rename World => w9
    have HA9 : Hid (FA w w9 sb mb P b L ns J V M t x) := HA1.out.next kX
    have HQ9 : Hid (w9.heap[Q]? = some (.cells #[.string (bs (kOf x.k v0 n0)), .string (bs v0), .int .i64 n0] 63 (0, 0))) := by rw [← Hkk.out]; exact kX.block _ _ HQB.out (fun x => x)
    have HO9 : Hid (OwnP w.heap.size w9 oa oc (onePr x.k v0 n0)) := ho
    have HV : Hid (v0 = V x.k ∧ n0 = M x.k) := ⟨Hv0.out, Hn0.out⟩
    clear hcut ho kX
    apply_assumption
    exact fTail17 w0 w w9 sb mb P b Q L ns J V M t x v0 n0 oa oc _ _ _ _ _ _ _ _ _ _ _ _ _ _ _ _ _ _ _ _ _ _ _ _ _ _ _ _ _ _ _ _ _ _ _ _ _ _ _ _ _ _ _ _ _ _ _ _ _ _ _ _ _ _ _ _ _ _ _ _ _ _ _ _ _ _ _ _ _ _ _ _ _ _ _ _ _ _ _ _ _ _ _ _ _ _ _ _ _ _ _ _ _ _ _ _ _ _ _ _ _ _ _ _ _ _ _ _ _ _ _ _ _ _ _ _ _ _ _ _ _ _ _ _ _ _ _ _ _ _ _ _ _ _ _ _ _ _ _ _ _ _ _ _ _ _ _ _ _ _ _ _ _ _ _ _ _ _ _ _ _ _ _ _ _ _ _ _ _ _ _ _ _ _ _ _ _ _ _ _ _ _ _ _ _ _ _ _ _ _ _ _ _ HA9 HV HQ9 HO9 HL HK0 HX HC hn6 ht
end Go.Proofs.YtflnjlbafchnaaaGreatDoor

/-
  CellFree: all of it.
-/
namespace Go.Proofs.YtflnjlbafchnaaaGreatDoor
open Go.RowKit

set_option maxRecDepth 100000 in
set_option maxHeartbeats 8000000 in
theorem cellFree_any (w0 : World) (ro ta : Option Addr) (rc tc : Nat) (rs : List Br) (ts : List Int) (mine : Br) (hL : LW w0) (hw : 14 ≤ w0.heap.size) (hR : BrRow w0.heap.size w0 ro rs) (hT : IntRow w0.heap.size w0 ta ts) (hk : (mine.k.length : Int) ≤ 140737488355328) (hv : (mine.v.length : Int) ≤ 140737488355328) :
    Calls Tryz.prog 9 #[.slice ro rs.length rc, .slice ta ts.length tc, brV mine] w0 fun e w' => e = .returned (.bool true) ∧ Kept Nil w0 w' := by
  have HL0 : Hid (LW w0 ∧ 14 ≤ w0.heap.size) := ⟨hL, hw⟩
  have HR : Hid (BrRow w0.heap.size w0 ro rs) := hR
  have HRT : Hid (IntRow w0.heap.size w0 ta ts) := hT
  clear hL hR hT hw
  obtain ⟨mkd, mk, mv, mm, mtg, mat⟩ := mine
  unfold brV
  simp only at hk hv ⊢
  obtain ⟨w, hW⟩ : ∃ W, W = w0.alloc (.cells #[.int .i64 mkd, .string (bs mk), .string (bs mv), .int .i64 mm, .int .i64 mtg, .int .i64 mat] 91) := ⟨_, rfl⟩
  obtain ⟨B0, HB0⟩ : ∃ A, Hid (A = w0.heap.size) := ⟨_, rfl⟩
  have HBB : Hid (w.heap[B0]? = some (.cells #[.int .i64 mkd, .string (bs mk), .string (bs mv), .int .i64 mm, .int .i64 mtg, .int .i64 mat] 91 (0, 0))) := by rw [hW, HB0.out]; exact blk_new _ _
  have HK0 : Hid (Kept Nil w0 w) := by rw [hW]; exact (Kept.refl _ _).alloc _
  have HL : Hid (LW w ∧ 14 ≤ w.heap.size) := ⟨HL0.out.1.kept HK0.out, Nat.le_trans HL0.out.2 HK0.out.size⟩
  by_cases b1 : (16384 : Int) < (rs.length : Int)
  · have b1d : decide ((16384 : Int) < (rs.length : Int)) = true := decide_eq_true b1
    go_enter Tryz.func9, Tryz.ntmps9
    go_upto_region 1 with fail
    rw [← hW]
    clear hW
    go_wp2
    go_ret
    exact ⟨rfl, HK0.out⟩
  by_cases b2 : (16384 : Int) < (ts.length : Int)
  · have b1d : decide ((16384 : Int) < (rs.length : Int)) = false := decide_eq_false b1
    have b2d : decide ((16384 : Int) < (ts.length : Int)) = true := decide_eq_true b2
    go_enter Tryz.func9, Tryz.ntmps9
    go_upto_region 1 with fail
    rw [← hW]
    clear hW
    go_wp2
    go_ret
    exact ⟨rfl, HK0.out⟩
  have b1d : decide ((16384 : Int) < (rs.length : Int)) = false := decide_eq_false b1
  have b2d : decide ((16384 : Int) < (ts.length : Int)) = false := decide_eq_false b2
  have SP := spreads_any w ro rc rs (by
    intro j hj
    obtain ⟨a, e, hb, r⟩ := (HR.out.kept HK0.out) j hj
    exact ⟨a, e, Nat.lt_of_lt_of_le hb HK0.out.size, r⟩)
  go_enter Tryz.func9, Tryz.ntmps9
  go_upto_region 1 with fail
  rw [← hW, ← HB0.out]
  clear hW HB0
  go_wp2_with fail
  go_fit SP
  intro ee w1 hsp
  obtain ⟨sb, mb, L, J, rfl, hcm, hbg, hl6, _, _⟩ := hsp
  have HM1 : Hid (CM w w1 sb mb L nil3 J) := hcm
  have HBG : Hid (BgI rs L J) := hbg
  have HL6 : Hid (L.ds.length ≤ 6) := hl6
  have HB1 : Hid (w1.heap[B0]? = _) := HM1.out.kw.block _ _ HBB.out (fun x => x)
  have c0 : w1.cell? ⟨B0, 0, none⟩ = some (.int .i64 mkd) := blk_at HB1.out 0 rfl
  have c1 : w1.cell? ⟨B0, 1, none⟩ = some (.string (bs mk)) := blk_at HB1.out 1 rfl
  have c2 : w1.cell? ⟨B0, 2, none⟩ = some (.string (bs mv)) := blk_at HB1.out 2 rfl
  have c3 : w1.cell? ⟨B0, 3, none⟩ = some (.int .i64 mm) := blk_at HB1.out 3 rfl
  have c4 : w1.cell? ⟨B0, 4, none⟩ = some (.int .i64 mtg) := blk_at HB1.out 4 rfl
  have c5 : w1.cell? ⟨B0, 5, none⟩ = some (.int .i64 mat) := blk_at HB1.out 5 rfl
  have JO := jobOf_any mkd mk mv mm mtg mat w1 hk hv
  clear SP hcm hbg hl6 hk hv
  go_wp2_with fail
  go_fit JO
  rintro ee w2 ⟨⟨xkd, xk, xv, xm, xtg, xat⟩, rfl, hx, -, k2⟩
  have HX : Hid (BgOk ⟨xkd, xk, xv, xm, xtg, xat⟩) := hx
  unfold bgV
  simp only
  obtain ⟨W3, hW3⟩ : ∃ W, W = w2.alloc (.cells #[.int .i64 xkd, .string (bs xk), .string (bs xv), .int .i64 xm, .int .i64 xtg, .int .i64 xat] 91) := ⟨_, rfl⟩
  obtain ⟨P, HP⟩ : ∃ A, Hid (A = w2.heap.size) := ⟨_, rfl⟩
  have HPB : Hid (W3.heap[P]? = some (.cells #[.int .i64 xkd, .string (bs xk), .string (bs xv), .int .i64 xm, .int .i64 xtg, .int .i64 xat] 91 (0, 0))) := by rw [hW3, HP.out]; exact blk_new _ _
  have KW3 : Hid (Kept Nil w1 W3) := by rw [hW3]; exact Kept.alloc k2 _
  go_upto_region 5 with fail
  rw [← hW3, ← HP.out]
  clear hW3 HP JO c0 c1 c2 c3 c4 c5 hx k2
  have p0 : W3.cell? ⟨P, 0, none⟩ = some (.int .i64 xkd) := blk_at HPB.out 0 rfl
  have p1 : W3.cell? ⟨P, 1, none⟩ = some (.string (bs xk)) := blk_at HPB.out 1 rfl
  have p2 : W3.cell? ⟨P, 2, none⟩ = some (.string (bs xv)) := blk_at HPB.out 2 rfl
  have p3 : W3.cell? ⟨P, 3, none⟩ = some (.int .i64 xm) := blk_at HPB.out 3 rfl
  have p4 : W3.cell? ⟨P, 4, none⟩ = some (.int .i64 xtg) := blk_at HPB.out 4 rfl
  have p5 : W3.cell? ⟨P, 5, none⟩ = some (.int .i64 xat) := blk_at HPB.out 5 rfl
  have NE := cnew_any 3 xat xkd xk xv xm xtg W3 (by omega) HX.out.at' HX.out.c (by have h1 : xkd ≤ 5 := HX.out.kd.2; omega) (by have h1 : xk.length = 1 := abc_len HX.out.k; omega) (by have h1 : xv.length ≤ 3 := HX.out.v; omega) HX.out.tg HX.out.t2
  go_wp2_with fail
  go_fit NE
  rintro ee w4 ⟨b, rfl, hbg, hjb, k4⟩
  have HA : Hid (FA w w4 sb mb P b L nil3 J (fun _ => []) (fun _ => 0) 0 ⟨xkd, xk, xv, xm, xtg, xat⟩) := by
    refine ⟨HM1.out.next (KW3.out.trans k4), HBG.out.run, k4.block _ _ HPB.out (fun x => x), hjb, fun i hi e => ?_, ?_⟩
    · obtain ⟨K, hK⟩ := HM1.out.jb i hi
      have h1 := lt_of_block hK
      rw [e] at h1
      have h2 := KW3.out.size
      omega
    · have h1 := HM1.out.kw.size
      have h2 := KW3.out.size
      omega
  obtain ⟨x, Hx⟩ : ∃ x : Bg, Hid (x = ⟨xkd, xk, xv, xm, xtg, xat⟩) := ⟨_, rfl⟩
  rw [← Hx.out] at HA HX
  obtain ⟨n, Hn⟩ : ∃ n, Hid (n = L.ds.length) := ⟨_, rfl⟩
  obtain ⟨jo, Hjo⟩ : ∃ n, Hid (n = L.jo) := ⟨_, rfl⟩
  obtain ⟨jc, Hjc⟩ : ∃ n, Hid (n = L.jc) := ⟨_, rfl⟩
  have HSB : Hid (∀ Y ns' J', CM w Y sb mb L ns' J' → Y.cell? ⟨sb, 1, none⟩ = some (.slice jo n jc)) := fun Y ns' J' hY => by
    have := blk_at hY.sp 1 rfl
    rw [← Hjo.out, ← Hn.out, ← Hjc.out] at this
    exact this
  have htl : (ts.length : Int) ≤ 16384 := by omega
  clear NE p0 p1 p2 p3 p4 p5 hbg hjb k4
  go_upto_block 0 with fail
  go_cut [11] from 54 to 79 (fun _ wc => Hid (∃ ns J V M t, FA w wc sb mb P b L ns J V M t x ∧ t ≤ 16384))
  case first =>
    go_wp2_with fail
    go_loopw [11] (fun v wr => ∃ (t : Nat) (ns : List Ml) (J : Nat → Jb) (V : List UInt8 → List UInt8) (M : List UInt8 → Nat), t ≤ ts.length ∧ v = .int .i64 t ∧ Hid (FA w wr sb mb P b L ns J V M t x)) (fun v _ => ts.length - (intOf v).toNat)
    case atStart => exact ⟨0, nil3, J, fun _ => [], fun _ => 0, Nat.zero_le _, rfl, HA.out⟩
    case round =>
      obtain ⟨t, ns, J, V, M, htt, rfl, HB⟩ := hrel
      clear HA
      rename World => wr
      have HF : Hid (∃ ns J V M t, FA w wr sb mb P b L ns J V M t x ∧ t ≤ 16384) := ⟨_, _, _, _, _, HB.out, by omega⟩
      by_cases hlt : t < ts.length
      · have hti : (t : Int) < ts.length := by omega
        have htd : decide ((t : Int) < (ts.length : Int)) = true := decide_eq_true hti
        have s1 := HSB.out wr _ _ HB.out.cm
        by_cases hn0 : 0 < n
        · have hni : (0 : Int) < n := by omega
          have hnd : decide ((0 : Int) < (n : Int)) = true := decide_eq_true hni
          have hn6 : (n : Int) ≤ 6 := by have := HL6.out; rw [Hn.out]; omega
          have HRTw : Hid (IntRow w0.heap.size w ta ts) := HRT.out.nil HK0.out
          obtain ⟨a, e1, hab, c0⟩ := (HRTw.out.nil HB.out.cm.kw) t hlt
          subst e1
          obtain ⟨z, HZ⟩ : ∃ z : Int, Hid (z = ts[t]) := ⟨ts[t], (rfl : ts[t] = ts[t])⟩
          rw [← HZ.out] at c0
          obtain ⟨k, Hk⟩ : ∃ k : Nat, Hid (k = (z % (n : Int)).toNat) := ⟨_, rfl⟩
          have hk0 := Int.emod_nonneg z (show (n : Int) ≠ 0 by omega)
          have hk1 := Int.emod_lt_of_pos z hni
          have HKZ : Hid (z % (n : Int) = (k : Int)) := by show _ = _; rw [Hk.out]; omega
          have PK : ∀ Y, Calls Tryz.prog 20 #[.int .i64 z, .int .i64 n] Y fun e w' => e = .returned (.int .i64 k) ∧ w' = Y := fun Y => by
            have := pickT_any z n Y hni (by omega)
            rw [HKZ.out] at this
            exact this
          have HKN : Hid (k < L.ds.length) := by have := HKZ.out; have h2 := Hn.out; show k < _; omega
          have HBD : Hid (FA w wr.drew sb mb P b L ns J V M t x) := HB.out.next (Kept.refl _ _).drew
          have CS := cstep_any w wr.drew sb mb L ns J V M t k HBD.out.cm HBD.out.cr HKN.out HL.out.1 HL.out.2
          have HST : Hid (∀ ee wa, StepPost w wr.drew sb mb L ns J k ee wa → ∃ z, ee = .returned (.bool z) ∧ (∃ ns' J' V' M', FA w wa sb mb P b L ns' J' V' M' (t + 1) x) ∧ wa.cell? (a.add t) = some (.int .i64 (ts[t])) ∧ wa.cell? ⟨sb, 1, none⟩ = some (.slice jo n jc)) := fun ee wa hp => by
            obtain ⟨z, ns', J', V', M', e1, h1⟩ := HBD.out.step (by have := HL6.out; omega) (by omega) HKN.out hp
            refine ⟨z, e1, ⟨ns', J', V', M', h1⟩, ?_, HSB.out wa _ _ h1.cm⟩
            obtain ⟨a', e2, _, c9⟩ := (HRTw.out.nil h1.cm.kw) t hlt
            cases e2
            exact c9
          have sD := HSB.out wr.drew _ _ HBD.out.cm
          have cD : wr.drew.cell? (a.add t) = some (.int .i64 z) := c0
          rw [← HZ.out] at HST
          clear hk0 hk1 hab
          go_upto_region 11 with fail
          go_region_held3 (fun w' => w'.cell? (a.add t) = some (.int .i64 z) ∧ w'.cell? ⟨sb, 1, none⟩ = some (.slice jo n jc)) (first | assumption | go_keep) (first | (go_at_call 20; go_must (go_fit (PK _)); rintro _ _ ⟨rfl, hw9⟩; rw [hw9]; clear hw9) | (go_at_call 39; go_must (go_fit CS); intro ee wa hp; obtain ⟨zz, he, hF, sa⟩ := HST.out ee wa hp; subst he; have HFA : Hid (∃ ns' J' V' M', FA w wa sb mb P b L ns' J' V' M' (t + 1) x) := hF; clear hp hF))
          all_goals
            obtain ⟨ns', J', V', M', hFA⟩ := HFA.out
            have HFA' : Hid (FA w wa sb mb P b L ns' J' V' M' (t + 1) x) := hFA
            clear HFA hFA CS sa
            go_wp2
            go_roundw
            case rel => exact ⟨t + 1, ns', J', V', M', by omega, by go_num, HFA'.out⟩
            case measure => simp [intOf]; omega
        · obtain rfl : n = 0 := by omega
          have hnd : decide ((0 : Int) < ((0 : Nat) : Int)) = false := decide_eq_false (by omega)
          go_wp2
          go_meet
          exact HF.out
      · have htd : decide ((t : Int) < (ts.length : Int)) = false := decide_eq_false (by omega)
        go_wp2
        go_meet
        exact HF.out
  case rest =>
    obtain ⟨ns, J, V, M, t, hFA, ht⟩ := hcut.out
    rename World => w9
    have HA9 : Hid (FA w w9 sb mb P b L ns J V M t x) := hFA
    have hn6 : L.ds.length ≤ 6 := HL6.out
    clear hcut hFA HA
    apply_assumption
    exact fTail12 w0 w w9 sb mb P b L ns J V M t x _ _ _ _ _ _ _ _ _ _ _ _ _ _ _ _ _ _ _ _ _ _ _ _ _ _ _ _ _ _ _ _ _ _ _ _ _ _ _ _ _ _ _ _ _ _ _ _ _ _ _ _ _ _ _ _ _ _ _ _ _ _ _ _ _ _ _ _ _ _ _ _ _ _ _ _ _ _ _ _ _ _ _ _ _ _ _ _ _ _ _ _ _ _ _ _ _ _ _ _ _ _ _ _ _ _ _ _ _ _ _ _ _ _ _ _ _ _ _ _ _ _ _ _ _ _ _ _ _ _ _ _ _ _ _ _ _ _ _ _ _ _ _ _ _ _ _ _ _ _ _ _ _ _ _ _ _ _ _ _ _ _ _ _ _ _ _ _ _ _ _ _ _ _ _ _ _ _ _ _ _ _ _ _ _ _ _ _ _ _ _ _ _ _ _ _ HA9 HL HK0 HX hn6 ht
end Go.Proofs.YtflnjlbafchnaaaGreatDoor
