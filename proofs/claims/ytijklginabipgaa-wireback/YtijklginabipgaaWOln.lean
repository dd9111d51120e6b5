/-
  Joined: WBkR5, WBkN.
-/
import Derived.Test.YtijklginabipgaaWBkR
import Derived.Deep.DeepCutAuto
import Derived.Deep.DeepFit
import Derived.Deep.RegionHeld3
import Derived.Deep.CutBlock
import Derived.Deep.QuietTactic
import Derived.BigQuiet
import Derived.Test.YtijklginabipgaaWOlq
import Derived.Test.YtijklginabipgaaWOle
/-
  WireBack: the region that makes the request.
-/
namespace Go.Proofs.Ytijklginabipgaa
open Go.RowKit

set_option maxRecDepth 1000000 in
set_option maxHeartbeats 40000000 in
theorem backA5 (wx : World) (cl nm tq i0 h nB : Nat) (n0 n1 n2 : Int) (K V rest : List UInt8) (fv0 fv5 fv6 fv7 fv8 fv9 fv10 fv11 fv12 fv13 fv14 fv15 fv16 fv17 fv18 fv19 fv20 fv21 fv22 fv23 fv24 fv25 fv26 fv27 fv28 fv29 fv30 fv31 fv32 fv33 fv34 fv35 fv36 fv37 fv38 fv39 fv40 fv41 fv42 fv43 fv44 fv45 fv46 fv47 fv48 fv49 fv50 fv51 fv52 fv53 fv54 fv55 fv56 fv57 fv58 fv59 fv60 fv61 fv62 fv63 fv64 fv65 fv66 fv67 fv68 fv69 fv70 fv71 fv72 fv73 fv74 fv75 fv76 fv77 fv78 fv79 fv80 fv81 fv82 fv83 fv84 fv85 fv86 fv87 fv88 fv89 fv90 fv91 fv92 fv93 fv94 fv95 fv96 fv97 fv98 fv99 fv100 fv101 fv102 fv103 fv104 fv105 fv106 fv107 fv108 fv109 fv110 fv111 fv112 fv113 fv114 fv115 fv116 fv117 fv118 fv119 fv120 fv121 fv122 fv123 fv124 fv125 fv126 fv127 fv128 fv129 fv130 fv131 fv132 fv133 fv134 fv135 fv136 fv137 fv138 fv139 fv140 fv141 fv142 fv143 fv144 fv145 fv146 fv147 fv148 fv149 fv150 fv151 fv152 fv153 fv154 fv155 fv156 fv157 fv158 fv159 fv160 fv161 fv162 fv163 fv164 fv165 fv166 fv167 fv168 fv169 fv170 fv171 fv172 fv173 fv174 fv175 fv176 fv177 fv178 fv179 fv180 fv181 fv182 fv183 fv184 fv185 fv186 fv187 fv188 fv189 fv190 fv191 fv192 fv193 fv194 fv195 fv196 fv197 fv198 fv199 fv200 fv201 fv202 fv203 fv204 fv205 fv206 fv207 fv208 fv209 fv210 fv211 fv212 fv213 fv214 fv215 fv216 fv217 fv218 fv219 fv220 fv221 fv222 fv223 fv224 fv225 fv226 fv227 fv228 fv229 fv230 fv231 fv232 fv233 fv234 fv235 fv236 fv237 fv238 fv239 fv240 fv241 fv242 fv243 fv244 fv245 fv246 fv247 fv248 fv249 fv250 : Value) (K1 : Act → World → Prop) (Q9 : Exit → Act → World → Prop)
    (hC : ∀ (u9 u37 u38 u39 u40 u41 u42 u43 u44 u45 u46 u47 u48 u49 u50 u51 u52 u53 u54 u55 : Value) (wc : World) (qB : Nat), u9 = .pointer (some ⟨qB, 0, none⟩) → Hid (wc.heap[qB]? = some (.cells #[.int .i64 cl, .int .i64 nm, .int .i64 1, .string (bs (107 :: K.take h)), .string (bs V), .int .i64 0, .int .i64 tq] 79 (0, 0))) → Hid (Kept Nil wx wc) → K1 ⟨#[fv0, .string (bs K), .string (bs V), .string (bs rest), .pointer (some ⟨nB, 0, none⟩), fv5, fv6, fv7, fv8, u9, fv10, fv11, fv12, fv13, fv14, fv15, fv16, fv17, fv18, fv19, fv20, fv21, fv22, fv23, fv24, fv25, fv26, fv27, fv28, fv29, fv30, fv31, fv32, fv33, fv34, fv35, fv36, u37, u38, u39, u40, u41, u42, u43, u44, u45, u46, u47, u48, u49, u50, u51, u52, u53, u54, u55, fv56, fv57, fv58, fv59, fv60, fv61, fv62, fv63, fv64, fv65, fv66, fv67, fv68, fv69, fv70, fv71, fv72, fv73, fv74, fv75, fv76, fv77, fv78, fv79, fv80, fv81, fv82, fv83, fv84, fv85, fv86, fv87, fv88, fv89, fv90, fv91, fv92, fv93, fv94, fv95, fv96, fv97, fv98, fv99, fv100, fv101, fv102, fv103, fv104, fv105, fv106, fv107, fv108, fv109, fv110, fv111, fv112, fv113, fv114, fv115, fv116, fv117, fv118, fv119, fv120, fv121, fv122, fv123, fv124, fv125, fv126, fv127, fv128, fv129, fv130, fv131, fv132, fv133, fv134, fv135, fv136, fv137, fv138, fv139, fv140, fv141, fv142, fv143, fv144, fv145, fv146, fv147, fv148, fv149, fv150, fv151, fv152, fv153, fv154, fv155, fv156, fv157, fv158, fv159, fv160, fv161, fv162, fv163, fv164, fv165, fv166, fv167, fv168, fv169, fv170, fv171, fv172, fv173, fv174, fv175, fv176, fv177, fv178, fv179, fv180, fv181, fv182, fv183, fv184, fv185, fv186, fv187, fv188, fv189, fv190, fv191, fv192, fv193, fv194, fv195, fv196, fv197, fv198, fv199, fv200, fv201, fv202, fv203, fv204, fv205, fv206, fv207, fv208, fv209, fv210, fv211, fv212, fv213, fv214, fv215, fv216, fv217, fv218, fv219, fv220, fv221, fv222, fv223, fv224, fv225, fv226, fv227, fv228, fv229, fv230, fv231, fv232, fv233, fv234, fv235, fv236, fv237, fv238, fv239, fv240, fv241, fv242, fv243, fv244, fv245, fv246, fv247, fv248, fv249, fv250], []⟩ wc)
    (cc0 : wx.cell? ⟨nB, 0, none⟩ = some (.int .i64 n0)) (cc1 : wx.cell? ⟨nB, 1, none⟩ = some (.int .i64 n1)) (cc2 : wx.cell? ⟨nB, 2, none⟩ = some (.int .i64 n2)) (_lN : nB < wx.heap.size) (hp1 : n0 % 1099511627775 = i0) (hp2 : n1 % 1099511627776 = nm) (hp3 : n2 % 1099511627776 = tq) (hw1 : IntKind.i64.wrap (1 + (i0 : Int)) = (cl : Int)) (hK : K.length ≤ 16) (hh : h = K.length / 2) :
    Code.wp Try.prog bR5 (Exit.then K1 Q9) ⟨#[fv0, .string (bs K), .string (bs V), .string (bs rest), .pointer (some ⟨nB, 0, none⟩), fv5, fv6, fv7, fv8, fv9, fv10, fv11, fv12, fv13, fv14, fv15, fv16, fv17, fv18, fv19, fv20, fv21, fv22, fv23, fv24, fv25, fv26, fv27, fv28, fv29, fv30, fv31, fv32, fv33, fv34, fv35, fv36, fv37, fv38, fv39, fv40, fv41, fv42, fv43, fv44, fv45, fv46, fv47, fv48, fv49, fv50, fv51, fv52, fv53, fv54, fv55, fv56, fv57, fv58, fv59, fv60, fv61, fv62, fv63, fv64, fv65, fv66, fv67, fv68, fv69, fv70, fv71, fv72, fv73, fv74, fv75, fv76, fv77, fv78, fv79, fv80, fv81, fv82, fv83, fv84, fv85, fv86, fv87, fv88, fv89, fv90, fv91, fv92, fv93, fv94, fv95, fv96, fv97, fv98, fv99, fv100, fv101, fv102, fv103, fv104, fv105, fv106, fv107, fv108, fv109, fv110, fv111, fv112, fv113, fv114, fv115, fv116, fv117, fv118, fv119, fv120, fv121, fv122, fv123, fv124, fv125, fv126, fv127, fv128, fv129, fv130, fv131, fv132, fv133, fv134, fv135, fv136, fv137, fv138, fv139, fv140, fv141, fv142, fv143, fv144, fv145, fv146, fv147, fv148, fv149, fv150, fv151, fv152, fv153, fv154, fv155, fv156, fv157, fv158, fv159, fv160, fv161, fv162, fv163, fv164, fv165, fv166, fv167, fv168, fv169, fv170, fv171, fv172, fv173, fv174, fv175, fv176, fv177, fv178, fv179, fv180, fv181, fv182, fv183, fv184, fv185, fv186, fv187, fv188, fv189, fv190, fv191, fv192, fv193, fv194, fv195, fv196, fv197, fv198, fv199, fv200, fv201, fv202, fv203, fv204, fv205, fv206, fv207, fv208, fv209, fv210, fv211, fv212, fv213, fv214, fv215, fv216, fv217, fv218, fv219, fv220, fv221, fv222, fv223, fv224, fv225, fv226, fv227, fv228, fv229, fv230, fv231, fv232, fv233, fv234, fv235, fv236, fv237, fv238, fv239, fv240, fv241, fv242, fv243, fv244, fv245, fv246, fv247, fv248, fv249, fv250], []⟩ wx := by
  have HCC : Hid (∀ (u9 u37 u38 u39 u40 u41 u42 u43 u44 u45 u46 u47 u48 u49 u50 u51 u52 u53 u54 u55 : Value) (wc : World) (qB : Nat), u9 = .pointer (some ⟨qB, 0, none⟩) → Hid (wc.heap[qB]? = some (.cells #[.int .i64 cl, .int .i64 nm, .int .i64 1, .string (bs (107 :: K.take h)), .string (bs V), .int .i64 0, .int .i64 tq] 79 (0, 0))) → Hid (Kept Nil wx wc) → K1 ⟨#[fv0, .string (bs K), .string (bs V), .string (bs rest), .pointer (some ⟨nB, 0, none⟩), fv5, fv6, fv7, fv8, u9, fv10, fv11, fv12, fv13, fv14, fv15, fv16, fv17, fv18, fv19, fv20, fv21, fv22, fv23, fv24, fv25, fv26, fv27, fv28, fv29, fv30, fv31, fv32, fv33, fv34, fv35, fv36, u37, u38, u39, u40, u41, u42, u43, u44, u45, u46, u47, u48, u49, u50, u51, u52, u53, u54, u55, fv56, fv57, fv58, fv59, fv60, fv61, fv62, fv63, fv64, fv65, fv66, fv67, fv68, fv69, fv70, fv71, fv72, fv73, fv74, fv75, fv76, fv77, fv78, fv79, fv80, fv81, fv82, fv83, fv84, fv85, fv86, fv87, fv88, fv89, fv90, fv91, fv92, fv93, fv94, fv95, fv96, fv97, fv98, fv99, fv100, fv101, fv102, fv103, fv104, fv105, fv106, fv107, fv108, fv109, fv110, fv111, fv112, fv113, fv114, fv115, fv116, fv117, fv118, fv119, fv120, fv121, fv122, fv123, fv124, fv125, fv126, fv127, fv128, fv129, fv130, fv131, fv132, fv133, fv134, fv135, fv136, fv137, fv138, fv139, fv140, fv141, fv142, fv143, fv144, fv145, fv146, fv147, fv148, fv149, fv150, fv151, fv152, fv153, fv154, fv155, fv156, fv157, fv158, fv159, fv160, fv161, fv162, fv163, fv164, fv165, fv166, fv167, fv168, fv169, fv170, fv171, fv172, fv173, fv174, fv175, fv176, fv177, fv178, fv179, fv180, fv181, fv182, fv183, fv184, fv185, fv186, fv187, fv188, fv189, fv190, fv191, fv192, fv193, fv194, fv195, fv196, fv197, fv198, fv199, fv200, fv201, fv202, fv203, fv204, fv205, fv206, fv207, fv208, fv209, fv210, fv211, fv212, fv213, fv214, fv215, fv216, fv217, fv218, fv219, fv220, fv221, fv222, fv223, fv224, fv225, fv226, fv227, fv228, fv229, fv230, fv231, fv232, fv233, fv234, fv235, fv236, fv237, fv238, fv239, fv240, fv241, fv242, fv243, fv244, fv245, fv246, fv247, fv248, fv249, fv250], []⟩ wc) := hC
  have PK1 := fun X => pick_any n0 1099511627775 X (by decide) (by decide)
  rw [hp1] at PK1
  have PK2 := fun X => pick_any n1 1099511627776 X (by decide) (by decide)
  rw [hp2] at PK2
  have PK3 := fun X => pick_any n2 1099511627776 X (by decide) (by decide)
  rw [hp3] at PK3
  have hsz := bs_size K
  have hK' : (K.length : Int) ≤ 16 := by omega
  have hq1 : ((K.length : Int).tdiv 2) = (h : Int) := by rw [Int.tdiv_eq_ediv_of_nonneg (by omega)]; omega
  have hq2 : IntKind.i64.wrap (h : Int) = (h : Int) := by rw [IntKind.wrap_i64]; omega
  have hq3 : (h : Int) ≤ K.length := by omega
  have hq5 : (h : Int) ≤ (bs K).size := by rw [bs_size]; omega
  have hq6 : h ≤ (bs K).size := by rw [bs_size]; omega
  have hq0 : (0 : Int) ≤ h := by omega
  have hq4 : h ≤ K.length := by omega
  have hex : (bs K).extract 0 h = bs (K.take h) := bs_take _ _
  have hap : (ByteArray.mk #[107]) ++ bs (K.take h) = bs (107 :: K.take h) := bs_append [107] _
  have hz0 : (ByteArray.mk #[107]).size = 1 := rfl
  have hz3 : (ByteArray.mk #[107]).size + (bs (K.take h)).size ≤ 17 := by rw [hz0, bs_size, List.length_take]; omega
  have hz4 : 1 + (bs (K.take h)).size ≤ 17 := by rw [bs_size, List.length_take]; omega
  have hz5 : (1 : Int) + ((bs (K.take h)).size : Int) ≤ 9223372036854775807 := by omega
  have hz6 : ((bs (K.take h)).size : Int) ≤ 16 := by omega
  have hz7 : ¬ (9223372036854775807 : Int) < 1 + ((bs (K.take h)).size : Int) := by omega
  have hmn : min h K.length = h := by omega
  have hz9 : (1 : Int) + (h : Int) ≤ 9223372036854775807 := by omega
  have hz10 : ¬ (9223372036854775807 : Int) < 1 + (h : Int) := by omega
  have hse : ((bs K).extract 0 h).size = h := by rw [bs_take, bs_size, List.length_take]; omega
  have hcat : ∀ X, (Op.stringOp .add (ByteArray.mk #[107]) (bs (K.take h))).run Try.prog X = .ok (.string (bs (107 :: K.take h))) X := fun X => by
    unfold Op.stringOp
    simp only [hz0]
    rw [if_neg (by have e : IntKind.i64.max = 9223372036854775807 := rfl; omega), hap]
    rfl
  have hz8 : ¬ ((((ByteArray.mk #[107]).size + (bs (K.take h)).size : Nat) : Int) > IntKind.i64.max) := by rw [hz0]; have : IntKind.i64.max = 9223372036854775807 := rfl; omega
  have hsz2 : (bs (K.take h)).size ≤ 16 := by rw [bs_size, List.length_take]; omega
  clear hp1 hp2 hp3 hK hh
  clear hC
  conv => arg 2; whnf
  dsimp only
  go_region_held3 (fun w' => w'.cell? ⟨nB, 0, none⟩ = some (.int .i64 n0) ∧ w'.cell? ⟨nB, 1, none⟩ = some (.int .i64 n1) ∧ w'.cell? ⟨nB, 2, none⟩ = some (.int .i64 n2)) (first | assumption | go_keep) (first | (go_at_call 33; first | (go_fit (PK1 _); rintro e wa ⟨rfl, rfl⟩) | (go_fit (PK2 _); rintro e wa ⟨rfl, rfl⟩) | (go_fit (PK3 _); rintro e wa ⟨rfl, rfl⟩)))
  all_goals first
    | exact HCC.out _ _ _ _ _ _ _ _ _ _ _ _ _ _ _ _ _ _ _ _ _ wx.heap.size rfl (blk_new wx _) ((Kept.refl _ _).alloc _).drew

end Go.Proofs.Ytijklginabipgaa

/-
  WireBack, plainly: the request that it makes may be, and comes back.
-/
namespace Go.Proofs.Ytijklginabipgaa
open Go.RowKit

theorem bkRqOk {cl nm tq : Nat} {k V : List UInt8} (h1 : cl ≤ 1099511627775) (h2 : nm ≤ 1099511627775) (h3 : tq ≤ 1099511627775) (h0 : cl ≠ 0) (hk : k.length ≤ 16) (hk0 : k ≠ []) (hV : V.length ≤ 64) : Rq.ok ⟨cl, nm, 1, k, V, 0, tq⟩ = true := by
  have n1 : isNum (cl : Int) = true := by simp only [isNum, Bool.and_eq_true, decide_eq_true_eq]; omega
  have n2 : isNum (nm : Int) = true := by simp only [isNum, Bool.and_eq_true, decide_eq_true_eq]; omega
  have n3 : isNum (tq : Int) = true := by simp only [isNum, Bool.and_eq_true, decide_eq_true_eq]; omega
  have c0 : (cl : Int) ≠ 0 := by omega
  have ke : k.isEmpty = false := by cases k <;> simp_all
  unfold Rq.ok
  simp only [n1, n2, n3, if_neg c0]
  unfold isCmd
  rw [decide_eq_true hk, decide_eq_true hV, ke]
  rfl
theorem bkRqPut {cl nm tq : Nat} {k V : List UInt8} (hq : Rq.ok ⟨cl, nm, 1, k, V, 0, tq⟩ = true) : putReq ⟨cl, nm, 1, k, V, 0, tq⟩ = (encReq cl nm 1 k V 0 tq, 0) := by
  unfold putReq
  rw [if_pos hq]
  rfl
theorem bkRqGet {cl nm tq : Nat} {k V : List UInt8} (hq : Rq.ok ⟨cl, nm, 1, k, V, 0, tq⟩ = true) (h0 : cl ≠ 0) : getReq (encReq cl nm 1 k V 0 tq) = (⟨cl, nm, 1, k, V, 0, tq⟩, 0) := by
  have r := rdReq_enc (cl := cl) (nm := nm) (kd := 1) (ifv := 0) (tm := tq) (key := k) (val := V) hq h0
  unfold getReq rdAll
  rw [r]
  rfl
theorem bkRqLen {cl nm tq : Nat} {k V : List UInt8} (h1 : cl ≤ 1099511627775) (h2 : nm ≤ 1099511627775) (h3 : tq ≤ 1099511627775) (h0 : cl ≠ 0) (hk : k.length ≤ 16) (hV : V.length ≤ 64) : (encReq cl nm 1 k V 0 tq).length ≤ 256 := by
  unfold encReq encCmd
  rw [if_neg h0]
  have a1 := encAll_len [cl, nm, tq] (by intro n hn; simp at hn; omega)
  have a2 := enc_len6 (n := 1) (by omega)
  have a3 := enc_len6 (n := 0) (by omega)
  have a4 := encText_len (l := k) (by omega)
  have a5 := encText_len (l := V) (by omega)
  simp only [List.length_append, List.length_cons, List.length_nil] at a1 ⊢
  omega

end Go.Proofs.Ytijklginabipgaa
