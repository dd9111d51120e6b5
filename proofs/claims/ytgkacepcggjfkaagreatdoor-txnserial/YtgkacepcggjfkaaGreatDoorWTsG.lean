/-
  TxnSerial: the law's own transaction, and the rows.
-/
import Derived.Test.YtgkacepcggjfkaaGreatDoorWTsF
namespace Go.Proofs.YtgkacepcggjfkaaGreatDoor
open Go.RowKit

set_option maxRecDepth 1000000 in
set_option maxHeartbeats 40000000 in
theorem tsTail14 (w X : World) (n0 n lc pc tc sc : Nat) (es : List Eb) (lo po ta so : Option Addr) (ts ss : List Int) (fv0 fv3 fv4 fv5 fv6 fv9 fv10 fv11 fv12 fv13 fv14 fv15 fv16 fv17 fv18 fv19 fv20 fv21 fv22 fv23 fv24 fv25 fv26 fv27 fv28 fv29 fv30 fv31 fv32 fv33 fv34 fv35 fv36 fv37 fv38 fv39 fv40 fv41 fv42 fv43 fv44 fv45 fv46 fv47 fv48 fv49 fv50 fv51 fv52 fv53 fv54 fv55 fv56 fv57 fv58 fv59 fv60 fv61 fv62 fv63 fv64 fv65 fv66 fv67 fv68 fv69 fv70 fv71 fv72 fv73 fv74 fv75 fv76 fv77 fv78 fv79 fv80 fv81 fv82 fv83 fv84 fv85 fv86 fv87 fv88 fv89 fv90 fv91 fv92 fv93 fv94 fv95 fv96 fv97 fv98 fv99 fv100 fv101 fv102 fv103 fv104 fv105 fv106 fv107 fv108 fv109 fv110 fv111 fv112 fv113 fv114 fv115 fv116 fv117 fv118 fv119 fv120 fv121 fv122 fv123 fv124 fv125 fv126 fv127 fv128 fv129 fv130 fv131 fv132 fv133 fv134 fv135 fv136 fv137 fv138 fv139 fv140 fv141 fv142 fv143 fv144 fv145 fv146 fv147 fv148 fv149 fv150 fv151 fv152 fv153 fv154 fv155 fv156 fv157 fv158 fv159 fv160 fv161 fv162 fv163 fv164 fv165 fv166 fv167 fv168 fv169 fv170 fv171 fv172 fv173 fv174 fv175 fv176 fv177 fv178 fv179 fv180 fv181 fv182 fv183 fv184 fv185 fv186 fv187 fv188 fv189 fv190 fv191 fv192 fv193 fv194 fv195 fv196 fv197 fv198 fv199 fv200 fv201 fv202 fv203 fv204 fv205 fv206 fv207 fv208 fv209 fv210 fv211 fv212 fv213 fv214 fv215 fv216 fv217 fv218 fv219 fv220 fv221 fv222 fv223 fv224 fv225 fv226 fv227 fv228 fv229 fv230 fv231 fv232 fv233 fv234 fv235 fv236 fv237 fv238 fv239 fv240 fv241 fv242 fv243 fv244 fv245 fv246 fv247 fv248 fv249 fv250 fv251 fv252 fv253 fv254 fv255 : Value)
    (HL : Hid (LD w)) (HRT : Hid (IntRow w.heap.size w ta ts)) (HRS : Hid (IntRow w.heap.size w so ss)) (hts : (ts.length : Int) ≤ 16384) (Hn : Hid (n = es.length)) (hn6 : n ≤ 6) (HB : Hid (Begun0 n0 X lo po lc pc es)) (HID : Hid (∀ j, (hj : j < es.length) → es[j].id = j + 1)) (HTM : Hid (∀ e ∈ es, Tam e.ps)) (HK : Hid (Kept Nil w X)) (Hn0 : Hid (n0 = w.heap.size)) :
    Code.wp Tryz.prog sT14 (bodyPost Tryz.prog Tryz.f4 fun e w' => e = .returned (.bool true) ∧ Kept Nil w w') ⟨#[fv0, .slice ta ts.length tc, .slice so ss.length sc, fv3, fv4, fv5, fv6, .slice lo n lc, .slice po n pc, fv9, fv10, fv11, fv12, fv13, fv14, fv15, fv16, fv17, fv18, fv19, fv20, fv21, fv22, fv23, fv24, fv25, fv26, fv27, fv28, fv29, fv30, fv31, fv32, fv33, fv34, fv35, fv36, fv37, fv38, fv39, fv40, fv41, fv42, fv43, fv44, fv45, fv46, fv47, fv48, fv49, fv50, fv51, fv52, fv53, fv54, fv55, fv56, fv57, fv58, fv59, fv60, fv61, fv62, fv63, fv64, fv65, fv66, fv67, fv68, fv69, fv70, fv71, fv72, fv73, fv74, fv75, fv76, fv77, fv78, fv79, fv80, fv81, fv82, fv83, fv84, fv85, fv86, fv87, fv88, fv89, fv90, fv91, fv92, fv93, fv94, fv95, fv96, fv97, fv98, fv99, fv100, fv101, fv102, fv103, fv104, fv105, fv106, fv107, fv108, fv109, fv110, fv111, fv112, fv113, fv114, fv115, fv116, fv117, fv118, fv119, fv120, fv121, fv122, fv123, fv124, fv125, fv126, fv127, fv128, fv129, fv130, fv131, fv132, fv133, fv134, fv135, fv136, fv137, fv138, fv139, fv140, fv141, fv142, fv143, fv144, fv145, fv146, fv147, fv148, fv149, fv150, fv151, fv152, fv153, fv154, fv155, fv156, fv157, fv158, fv159, fv160, fv161, fv162, fv163, fv164, fv165, fv166, fv167, fv168, fv169, fv170, fv171, fv172, fv173, fv174, fv175, fv176, fv177, fv178, fv179, fv180, fv181, fv182, fv183, fv184, fv185, fv186, fv187, fv188, fv189, fv190, fv191, fv192, fv193, fv194, fv195, fv196, fv197, fv198, fv199, fv200, fv201, fv202, fv203, fv204, fv205, fv206, fv207, fv208, fv209, fv210, fv211, fv212, fv213, fv214, fv215, fv216, fv217, fv218, fv219, fv220, fv221, fv222, fv223, fv224, fv225, fv226, fv227, fv228, fv229, fv230, fv231, fv232, fv233, fv234, fv235, fv236, fv237, fv238, fv239, fv240, fv241, fv242, fv243, fv244, fv245, fv246, fv247, fv248, fv249, fv250, fv251, fv252, fv253, fv254, fv255], []⟩ X := by
  conv => arg 2; whnf
  dsimp only
  obtain ⟨i2, hi2, hx0, hx1, hx2⟩ := info_parts Tryz.infoTp
  obtain ⟨i3, hi3, hy0, hy1, hy2⟩ := info_parts Tryz.infoPs
  obtain ⟨V1, hV1⟩ : ∃ W, W = X.alloc (.cells #[.string ⟨#[122]⟩, .int .i64 5] 29) := ⟨_, rfl⟩
  have KV1 : Hid (Kept Nil X V1) := by rw [hV1]; exact (Kept.refl _ _).alloc _
  have NE : Calls Tryz.prog 10 #[.int .i64 7, .slice (some ⟨X.heap.size, 0, none⟩) 1 1] V1 (NewPost V1 7 [⟨zK, 5⟩]) := by
    have h1 : V1.heap[X.heap.size]? = some (.cells #[.string (bs zK), .int .i64 5] 29 (0, 0)) := by rw [hV1]; exact blk_new _ _
    exact new_any _ 1 _ 7 [⟨zK, 5⟩] V1 (ptr_row h1 (Nat.le_refl _)).row (fun p hp => by rw [List.mem_singleton] at hp; subst hp; unfold maxLen zK; simp) (by simp)
  go_wp2_with fail
  rw [← hV1]
  go_fit NE
  intro ee w3 hp3
  obtain ⟨hgood, qs', b, ap, cp, hperm, hrise, he3, h31, h32, h33, k3⟩ := hp3.resolve_left (fun x => x.1 new7_good)
  subst he3
  have e9 : qs' = [⟨zK, 5⟩] := List.perm_singleton.1 hperm
  subst e9
  have K3 : Hid (Kept Nil w w3) := (HK.out.trans KV1.out).trans k3
  have HB3 : Hid (Begun0 n0 w3 lo po lc pc es) := HB.out.kept (KV1.out.trans k3)
  have hsz3 : n0 ≤ w3.heap.size := by rw [Hn0.out]; exact K3.out.size
  have HNw : Hid (w.heap.size ≤ n0) := by rw [Hn0.out]; exact Nat.le_refl _
  have hszV : n0 ≤ V1.heap.size := by rw [Hn0.out]; exact (HK.out.trans KV1.out).size
  have HT3 : Hid (TxAt w3 b (newTx 7 [⟨zK, 5⟩]) ap none cp 0 ∧ OwnT n0 w3 ap cp [⟨zK, 5⟩] ∧ n0 ≤ b ∧ (newTx 7 [⟨zK, 5⟩]).Ok ∧ RiseT [⟨zK, 5⟩]) := ⟨h31, own_mono h32 hszV, Nat.le_trans hszV h33, newTx_ok hgood hperm, hrise⟩
  obtain ⟨W1, hW1⟩ : ∃ W, W = w3.alloc (.cells #[.pointer (some ⟨b, 0, none⟩)] 24) := ⟨_, rfl⟩
  have HLr : Hid (W1.ownsRow n0 24 1 (.slice lo n lc) n (es.map enP)) := by have := HB3.out.l; unfold LRow at this; rw [← Hn.out] at this; rw [hW1]; exact World.ownsRow.alloc this _
  have KW1 : Hid (Kept Nil w3 W1) := by rw [hW1]; exact (Kept.refl _ _).alloc _
  have SR1 : Hid (Src Tryz.prog 1 53 (.slice (some ⟨w3.heap.size, 0, none⟩) 1 1) 1 [.pointer (some ⟨b, 0, none⟩)] W1) := by rw [hW1]; exact one_src w3 24 53 _ Tryz.underlying53 rfl
  have hsW1 : n0 ≤ W1.heap.size := Nat.le_trans hsz3 KW1.out.size
  have HLL : Hid (n + 1 ≤ maxLen ∧ (n + 1) * 24 ≤ 140737488355328) := by constructor <;> (try unfold maxLen) <;> omega
  have HLM : Hid ((n + 1) * 8 ≤ 140737488355328) := by show _ ≤ _; omega
  clear NE hp3 h31 h32 h33 k3 hgood hperm hrise hV1
  go_upto_region 18 with (at_builtin; rw [← hW1]; go_must (refine wpList_append_src _ rfl _ _ 53 53 rfl n0 24 i2 (.pointer none) 1 8 Tryz.underlying53 hi2 hx0 hx1 hx2 rfl (.slice lo n lc) n (es.map enP) rfl HLr.out (.slice (some ⟨w3.heap.size, 0, none⟩) 1 1) 1 [.pointer (some ⟨b, 0, none⟩)] rfl SR1.out HLL.out.1 HLM.out hsW1 ?_); intro a7 c7 w7 ho7 hg7; have HO7 : Hid (w7.ownsRow n0 24 1 (.slice a7 (n + 1) c7) (n + 1) (es.map enP ++ [.pointer (some ⟨b, 0, none⟩)])) := ho7; have KG : Hid (Kept (TyG n0 24) W1 w7) := kept_grown HLr.out hg7; have K7 : Hid (Kept Nil w w7) := (K3.out.trans KW1.out).grownB HLr.out hg7 HNw.out; clear ho7 hg7)
  obtain ⟨g4, Hg4⟩ : ∃ g, Hid (g = w7.heap.size) := ⟨_, rfl⟩
  obtain ⟨V4, hV4⟩ : ∃ W, W = w7.alloc (.cells #[.string ⟨#[122]⟩, .int .i64 5] 29) := ⟨_, rfl⟩
  have h4 : V4.heap[g4]? = some (.cells #[.string (bs zK), .int .i64 5] 29 (0, 0)) := by rw [hV4, Hg4.out]; exact blk_new _ _
  have hg40 : n0 ≤ g4 := by rw [Hg4.out, Hn0.out]; exact K7.out.size
  have HC4 : Hid (OwnT n0 V4 (some ⟨g4, 0, none⟩) 1 [⟨zK, 5⟩]) := ptr_row h4 hg40
  have KV4 : Hid (Kept Nil w7 V4) := by rw [hV4]; exact (Kept.refl _ _).alloc _
  obtain ⟨e, HE⟩ : ∃ e : Eb, Hid (e = ⟨7, b, ap, cp, some ⟨g4, 0, none⟩, 1, [⟨zK, 5⟩]⟩) := ⟨_, rfl⟩
  obtain ⟨W2, hW2⟩ : ∃ W, W = V4.alloc (.cells #[.slice (some ⟨g4, 0, none⟩) 1 1] 22) := ⟨_, rfl⟩
  have KW2 : Hid (Kept Nil V4 W2) := by rw [hW2]; exact (Kept.refl _ _).alloc _
  have KW7 : Hid (Kept Nil w7 W2) := KV4.out.trans KW2.out
  have HPr : Hid (W2.ownsRow n0 22 1 (.slice po n pc) n (es.map enS)) := by
    have h1 := HB3.out.p
    unfold PRow at h1
    rw [← Hn.out] at h1
    exact own_kept (own_ty (own_kept h1 KW1.out (fun _ _ _ x => x)) KG.out (by decide)) KW7.out (fun _ _ _ x => x)
  have HE7 : Hid (EbOk n0 W2 e ∧ ∀ x ∈ es, EbOk n0 W2 x) := by
    refine ⟨?_, fun x hx => (((HB3.out.ok x hx).kept KW1.out).ty KG.out (by decide) (by decide)).kept KW7.out⟩
    rw [HE.out]
    exact ⟨((HT3.out.1.kept KW1.out).ty KG.out (by decide)).kept KW7.out, own_kept (own_ty (own_kept HT3.out.2.1 KW1.out (fun _ _ _ x => x)) KG.out (by decide)) KW7.out (fun _ _ _ x => x), HC4.out.keptX KW2.out (fun _ _ _ x => x), HT3.out.2.2.1, HT3.out.2.2.2.1, HT3.out.2.2.2.2⟩
  have HPV : Hid (enP e = .pointer (some ⟨b, 0, none⟩) ∧ enS e = .slice (some ⟨g4, 0, none⟩) 1 1) := by rw [HE.out]; exact ⟨rfl, rfl⟩
  have hs7 : V4.heap.size = w7.heap.size + 1 := by rw [hV4]; simp
  have SR2 : Hid (Src Tryz.prog 1 52 (.slice (some ⟨w7.heap.size + 1, 0, none⟩) 1 1) 1 [.slice (some ⟨g4, 0, none⟩) 1 1] W2) := by
    have := one_src V4 22 52 (.slice (some ⟨g4, 0, none⟩) 1 1) Tryz.underlying52 rfl
    rw [hs7] at this
    rw [hW2]
    exact this
  have hsW2 : n0 ≤ W2.heap.size := by rw [Hn0.out]; exact (K7.out.trans KW7.out).size
  have hWW : W2 = (w7.alloc (.cells #[.string ⟨#[122]⟩, .int .i64 5] 29)).alloc (.cells #[.slice (some ⟨w7.heap.size, 0, none⟩) 1 1] 22) := by rw [hW2, hV4, Hg4.out]
  clear h4 hs7 hV4 hW2 hW1
  go_upto_region 20 with (at_builtin; rw [← hWW]; go_must (refine wpList_append_src _ rfl _ _ 52 52 rfl n0 22 i3 (.slice none 0 0) 1 24 Tryz.underlying52 hi3 hy0 hy1 hy2 rfl (.slice po n pc) n (es.map enS) rfl HPr.out (.slice (some ⟨w7.heap.size + 1, 0, none⟩) 1 1) 1 [.slice (some ⟨g4, 0, none⟩) 1 1] rfl SR2.out HLL.out.1 HLL.out.2 hsW2 ?_); intro a8 c8 w8 ho8 hg8; have HO8 : Hid (w8.ownsRow n0 22 1 (.slice a8 (n + 1) c8) (n + 1) (es.map enS ++ [.slice (some ⟨g4, 0, none⟩) 1 1])) := ho8; have KG2 : Hid (Kept (TyG n0 22) W2 w8) := kept_grown HPr.out hg8; have K8 : Hid (Kept Nil w w8) := (K7.out.trans KW7.out).grownB HPr.out hg8 HNw.out; clear ho8 hg8)
  have HBN : Hid (Begun0 n0 w8 a7 a8 c7 c8 (es ++ [e])) := by
    refine ⟨?_, ?_, fun x hx => ?_⟩
    · have h1 := HO7.out
      rw [← HPV.out.1] at h1
      exact own_ty (own_kept (LRow.push Hn.out h1) KW7.out (fun _ _ _ x => x)) KG2.out (by decide)
    · have h1 := HO8.out
      rw [← HPV.out.2] at h1
      exact PRow.push Hn.out h1
    · rcases List.mem_append.1 hx with hx | hx
      · exact (HE7.out.2 x hx).ty KG2.out (by decide) (by decide)
      · rw [List.mem_singleton] at hx
        subst hx
        exact HE7.out.1.ty KG2.out (by decide) (by decide)
  have HA : Hid (All7 (es ++ [e]) ∧ (enAt (es ++ [e]) 7).b = b) := by
    have h1 := All7.of (e := e) (by rw [← Hn.out]; exact hn6) HID.out HTM.out (by rw [HE.out]) (by rw [HE.out])
    exact ⟨h1.1, h1.2.trans (by rw [HE.out])⟩
  obtain ⟨la, hla⟩ : ∃ x, a7 = some x := by
    cases a7 with
    | none => exact absurd (HO7.out.2.resolve_right (fun ⟨_, _, _, h, _⟩ => by simp at h)).2 (by omega)
    | some x => exact ⟨x, rfl⟩
  obtain ⟨pp, hpp⟩ : ∃ x, a8 = some x := by
    cases a8 with
    | none => exact absurd (HO8.out.2.resolve_right (fun ⟨_, _, _, h, _⟩ => by simp at h)).2 (by omega)
    | some x => exact ⟨x, rfl⟩
  subst hla hpp
  obtain ⟨w1, hw1⟩ : ∃ W, W = w8.alloc (.cells #[.int .i64 0, .int .i64 0, .int .i64 0, .int .i64 0] 3) := ⟨_, rfl⟩
  obtain ⟨sb, Hsb⟩ : ∃ g, Hid (g = w8.heap.size) := ⟨_, rfl⟩
  have HS1 : Hid (w1.heap[sb]? = some (.cells #[.int .i64 0, .int .i64 0, .int .i64 0, .int .i64 0] 3 (0, 0))) := by rw [hw1, Hsb.out]; exact blk_new _ _
  have K81 : Hid (Kept Nil w8 w1) := by rw [hw1]; exact (Kept.refl _ _).alloc _
  have HB1 : Hid (Begun0 n0 w1 (some la) (some pp) c7 c8 (es ++ [e])) := HBN.out.kept K81.out
  have HM0 : Hid (MS w w1 n0 sb (es ++ [e]) w1 (tOf (es ++ [e])) [] none 0 0 (numsL (St.of []))) := MS.first HB1.out.ok HA.out.1 (K8.out.trans K81.out) HNw.out (by rw [Hn0.out]; exact (K8.out.trans K81.out).size) HS1.out (by rw [Hsb.out]; exact K8.out.size)
  have HLR : Hid (LR w1 sb (es ++ [e]) la pp) := LR.of HB1.out ⟨_, _, HS1.out⟩
  have HJ0 : Hid (J7 (St.of []) (tOf (es ++ [e]) 7)) := J7.first HA.out.1.z
  have HLN : Hid (n + 1 = (es ++ [e]).length) := by show _ = _; rw [List.length_append, Hn.out]; rfl
  go_cut [16] from 98 to 98 (fun u wc => u = .slice (some ⟨sb, 0, none⟩) 4 4 ∧ wc = w1)
  case first =>
    go_wp2
    rw [← hw1, ← Hsb.out]
    go_meet
    exact ⟨rfl, rfl⟩
  case rest =>
    obtain ⟨e16, ew⟩ := hcut
    subst e16
    rw [ew]
    rw [HLN.out]
    apply_assumption
    exact tsTail21 w w1 n0 sb c8 c7 tc sc b (es ++ [e]) ta so ⟨sb, 0, none⟩ la pp ts ss _ _ _ _ _ _ _ _ _ _ _ _ _ _ _ _ _ _ _ _ _ _ _ _ _ _ _ _ _ _ _ _ _ _ _ _ _ _ _ _ _ _ _ _ _ _ _ _ _ _ _ _ _ _ _ _ _ _ _ _ _ _ _ _ _ _ _ _ _ _ _ _ _ _ _ _ _ _ _ _ _ _ _ _ _ _ _ _ _ _ _ _ _ _ _ _ _ _ _ _ _ _ _ _ _ _ _ _ _ _ _ _ _ _ _ _ _ _ _ _ _ _ _ _ _ _ _ _ _ _ _ _ _ _ _ _ _ _ _ _ _ _ _ _ _ _ _ _ _ _ _ _ _ _ _ _ _ _ _ _ _ _ _ _ _ _ _ _ _ _ _ _ _ _ _ _ _ _ _ _ _ _ _ _ _ _ _ _ _ _ _ _ _ _ _ _ _ _ _ _ _ _ _ _ _ _ _ _ _ _ _ _ _ _ _ _ _ _ _ _ _ _ _ _ _ _ _ _ _ _ _ _ _ _ _ _ _ _ _ _ _ _ _ _ _ _ _ _ _ HM0 HJ0 rfl HL HLR HA.out.1.ke HA.out.1.i7 HA.out.1.al HA.out.1.nd HRT HRS HA.out.1.l7 HA.out.1.l1 HA.out.1.la hts HA.out.2
end Go.Proofs.YtgkacepcggjfkaaGreatDoor
