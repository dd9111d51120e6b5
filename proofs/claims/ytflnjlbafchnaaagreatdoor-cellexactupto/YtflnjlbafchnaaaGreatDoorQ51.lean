/-
  Joined: WCLd, WCxL.
-/
import Derived.Test.YtflnjlbafchnaaaGreatDoorRows
import Derived.Test.YtflnjlbafchnaaaGreatDoorQ12
import Derived.ProofKit
import Derived.OpenShut
import Derived.Lay
import Derived.LaidMore
import Derived.SevenTiedAt
import Derived.Stop.LaidErr
import Derived.Stop.Joined
import Derived.Deep.DeepHandedRow
import Derived.SizedLaws
import Derived.Lib.LaidTab
import Derived.Test.YtflnjlbafchnaaaGreatDoorQ50
import Derived.Deep.DeepCutAuto
import Derived.Deep.DeepFit
/-
  What the row's list gives the walk: the library's variables, and the table of words.
-/
namespace Go.Proofs.YtflnjlbafchnaaaGreatDoor
open Go.ChangeShapes Go.WideShapes Go.ChangeAt Go.RowKit

theorem Tryz.starE : "*" ++ "errors.errorString" = "*errors.errorString" := by decide
theorem Tryz.rowE (u : TypeId) (h : Tryz.prog.typeName? 3 u = some "*errors.errorString") : u = 264 :=
  typeName_ptr_named (nm := "errors.errorString") (by rw [Tryz.starE]; kernel_rfl) (by kernel_rfl) (by decide) u (by rw [Tryz.starE]; exact h)
theorem cells_of_strs {H : Type} {enc : TypeId × Value → H} {P : Program} {w : World} {base : Nat} {sp : Nat → Bool} {held : Bool} {fuel : Nat} {t e : TypeId} {n : Nat} {cs : List Value} {ls : List (List UInt8)} {p : List MemPlace}
    (ht : P.underlying t = some (.array n e)) (he : P.underlying e = some .string) (hce : P.cellsOf e = 1) (hct : P.cellsOf t = n)
    (h : DataW.trod enc P w base sp held fuel t cs = some (.agg (ls.map fun l => .lit (.string l)), p)) : cs = ls.map fun l => Value.string (bs l) := by
  cases fuel with
  | zero => simp [DataW.trod] at h
  | succ fuel =>
    simp only [DataW.trod, ht, hce, hct, Nat.mul_one] at h
    split at h
    · rename_i hl
      obtain ⟨xs, hm, hx⟩ := Option.map_eq_some_iff.1 h
      have hxs : xs.map (·.1) = ls.map fun l => (DataW.lit (.string l) : DataW H) := by
        have := congrArg Prod.fst hx
        simpa using this
      have hxl : xs.length = n := by simpa using Lib.mapM_length hm
      have hzl : ls.length = n := by
        have := congrArg List.length hxs
        simp at this
        omega
      apply List.ext_getElem?
      intro i
      by_cases hi : i < n
      · obtain ⟨b, hb, hf⟩ := Lib.mapM_at hm i i (by simp [hi])
        obtain ⟨s, hc, rfl, _⟩ := DataW.trod_string he hf
        have h1 : cs[i]? = some (.string s) := by
          have := congrArg (·[0]?) hc
          simpa [List.getElem?_take, List.getElem?_drop] using this
        have h2 : (xs.map (·.1))[i]? = some (DataW.lit (.string s.data.toList) : DataW H) := by simp [hb]
        rw [hxs] at h2
        simp only [List.getElem?_map, Option.map_eq_some_iff, DataW.lit.injEq, Lit.string.injEq] at h2
        obtain ⟨l, hl', rfl⟩ := h2
        simp [h1, hl', bs_self]
      · rw [List.getElem?_eq_none (by omega), List.getElem?_eq_none (by simp; omega)]
    · cases h
theorem strs_of_head {P : Program} {W : World} {name : String} {ls : List (List UInt8)} {rest : List (String × DataW Unit)} {g : Nat} {t e : TypeId} {n : Nat}
    (hg : P.globalNamed name = some g) (hty : (P.globals[g]?).map (·.type) = some t) (ht : P.underlying t = some (.array n e)) (he : P.underlying e = some .string) (hce : P.cellsOf e = 1) (hct : P.cellsOf t = n)
    (h : laidMet P ((name, .agg (ls.map fun l => .lit (.string l))) :: rest) W) : ∀ (i : Nat) (l : List UInt8), ls[i]? = some l → W.cell? ⟨g, i, none⟩ = some (.string (bs l)) := by
  obtain ⟨ps, ⟨g0, t0, cs0, f0, p0, q0, hg0, ht0, hv0, hd0, _, e0⟩, _, hrows⟩ := h
  obtain rfl := Option.some.inj (hg.symm.trans hg0)
  obtain rfl := Option.some.inj (hty.symm.trans ht0)
  have hcs := cells_of_strs ht he hce hct hd0
  intro i l hi
  rw [World.var?_cell hg0 hv0 i, ← Array.getElem?_toList, hcs]
  simp [hi]
theorem heap14 {W : World} (hS : W.ShapedOpen Tryz.prog) : 14 ≤ W.heap.size := by
  obtain ⟨o, _, h, _⟩ := hS.2 13 (of_decide_eq_true (by kernel_rfl)) (of_decide_eq_true (by kernel_rfl))
  have := lt_of_block h
  omega
theorem lw_of {W : World} {laid : List (String × DataW Unit)} (hl : laid = Rows.cellOneRow.laid) (hL : laidMetH Tryz.prog laid W) (hS : W.ShapedOpen Tryz.prog) : LW W := by
  subst hl
  rw [MakeChecks.laidMetH_plain _ _ _ (by kernel_rfl)] at hL
  have h2 := hL.tail.tail
  have h4 := h2.tail.tail
  have h6 := h4.tail.tail
  have hw := strs_of_head (ls := [[104, 101, 114, 101], [109, 111, 118, 105, 110, 103], [103, 111, 110, 101]]) (show Tryz.prog.globalNamed "quorate/cell.words" = some 1 by kernel_rfl) (show (Tryz.prog.globals[1]?).map (·.type) = some 203 by kernel_rfl) Tryz.underlying203 Tryz.underlying9 (by kernel_rfl) (by kernel_rfl) h6
  refine ⟨⟨?_, ?_, ?_, ?_⟩, hw 0 _ rfl, hw 1 _ rfl, hw 2 _ rfl⟩
  · exact Tryz.laysM146.s1_3 W hS
  · obtain ⟨a1, s1, hv1, _⟩ := laid_sentinel h4.tail (show Tryz.prog.globalNamed "strconv.ErrSyntax" = some 3 by kernel_rfl) (show (Tryz.prog.globals[3]?).map (·.type) = some 200 by kernel_rfl) Tryz.underlying200 Tryz.rowE Tryz.underlying264 Tryz.underlying266 rfl rfl Tryz.underlying9 (by kernel_rfl) (by kernel_rfl)
    exact ⟨_, _, hv1⟩
  · obtain ⟨a1, s1, hv1, _⟩ := laid_sentinel h4 (show Tryz.prog.globalNamed "strconv.ErrRange" = some 4 by kernel_rfl) (show (Tryz.prog.globals[4]?).map (·.type) = some 200 by kernel_rfl) Tryz.underlying200 Tryz.rowE Tryz.underlying264 Tryz.underlying266 rfl rfl Tryz.underlying9 (by kernel_rfl) (by kernel_rfl)
    exact ⟨_, _, hv1⟩
  · exact Lib.tabIs_of_head (show Tryz.prog.globalNamed "internal/strconv.uint64pow10" = some 2 by kernel_rfl) (show (Tryz.prog.globals[2]?).map (·.type) = some 248 by kernel_rfl) Tryz.underlying248 Tryz.underlying190 (by kernel_rfl) (by kernel_rfl) h2
end Go.Proofs.YtflnjlbafchnaaaGreatDoor

/-
  CellExact: the loop.
-/
namespace Go.Proofs.YtflnjlbafchnaaaGreatDoor
open Go.RowKit

def headIsL (n : Nat) : Code → Bool
  | .region k _ _ => k == n
  | .seq a _ => headIsL n a
  | .block _ c => headIsL n c
  | .loop c => headIsL n c
  | _ => false
/-- From the statement on that begins with a region. -/
def findTailL (n : Nat) : Code → Option Code
  | .seq a b => if headIsL n a then some (.seq a b) else match findTailL n a with
    | some c => some c
    | none => findTailL n b
  | .block _ c => findTailL n c
  | .loop c => findTailL n c
  | .cond _ a b => match findTailL n a with
    | some c => some c
    | none => findTailL n b
  | _ => none
noncomputable def lT13 : Code := (Tryz.f6.body.bind (findTailL 13)).getD .skip
theorem StrRow.srcX {B c : Nat} {w : World} {ao : Option Addr} {ks : List (List UInt8)} (h : StrRow B w ao ks) : Src Tryz.prog 1 48 (.slice ao ks.length c) ks.length (kyCells ks) w := by
  have hone : ∀ u ∈ kyCells ks, u.oneCell' = true := fun u hu => by
    unfold kyCells at hu
    obtain ⟨x, _, rfl⟩ := List.mem_map.1 hu
    rfl
  have hlen : (kyCells ks).length = ks.length * 1 := by unfold kyCells; rw [List.length_map]; omega
  cases hes : ks with
  | nil =>
    cases ao with
    | none => exact Src.ofNil _ Tryz.underlying48 c
    | some a => exact Src.ofSlice _ Tryz.underlying48 a 0 c [] rfl (fun j u hj => by simp at hj) (fun u hu => by simp at hu)
  | cons x t =>
    rw [← hes]
    obtain ⟨a, rfl, _⟩ := h 0 (by rw [hes]; simp)
    refine Src.ofSlice _ Tryz.underlying48 a ks.length c _ hlen ?_ hone
    intro j u hj
    have hlt : j < ks.length := by have := (List.getElem?_eq_some_iff.1 hj).1; rw [hlen] at this; omega
    obtain ⟨a', e, _, hc, _⟩ := h j hlt
    simp only [Option.some.injEq] at e
    subst e
    unfold kyCells at hj
    rw [List.getElem?_map, List.getElem?_eq_getElem hlt] at hj
    simp at hj
    rw [← hj]
    exact hc

set_option maxRecDepth 100000 in
set_option maxHeartbeats 1000000 in
set_option maxRecDepth 1000000 in
set_option maxHeartbeats 40000000 in
theorem cxT13 (w X : World) (ba bb n rc : Nat) (ro : Option Addr) (rs : List Re) (j0 : Jb) (K10 : Jn) (K20 : Jk)
    (HA0 : Hid (JbAt X ba j0 K10)) (HB0 : Hid (JdAt X bb j0 K20)) (HO0 : Hid (j0.Ok ∧ ∀ c : Ce, c.Ok → CmOk j0.kd j0.k j0.v j0.m c.v c.n)) (HK0 : Hid (Kept Nil w X))
    (HBB : Hid (w.heap.size ≤ ba ∧ w.heap.size ≤ bb ∧ ba ≠ bb)) (HL : Hid (∀ Y, Kept Nil w Y → LW Y ∧ 14 ≤ Y.heap.size)) (HR : Hid (ReRow w.heap.size w ro rs)) (Hn : Hid (n = rs.length)) (HN : Hid ((n : Int) ≤ 4611686018427387904)) (fv0 fv1 fv2 fv4 fv5 fv6 fv7 fv8 fv9 fv10 fv11 fv12 fv13 fv15 fv17 fv18 fv19 fv20 fv21 fv22 fv23 fv24 fv25 fv26 fv27 fv28 fv29 fv30 fv31 fv32 fv33 fv34 fv35 fv36 fv37 fv38 fv39 fv40 fv41 fv42 fv43 fv44 fv45 fv46 fv47 fv48 fv49 fv50 fv51 fv52 fv53 fv54 fv55 fv56 fv57 fv58 fv59 fv60 fv61 fv62 fv63 fv64 fv65 fv66 fv67 fv68 fv69 fv70 fv71 fv72 fv73 fv74 fv75 fv76 fv77 fv78 fv79 fv80 fv81 fv82 fv83 fv84 fv85 fv86 fv87 fv88 fv89 fv90 fv91 fv92 fv93 fv94 fv95 fv96 fv97 fv98 fv99 fv100 fv101 fv102 fv103 fv104 fv105 fv106 fv107 fv108 fv109 fv110 fv111 fv112 fv113 fv114 fv115 fv116 fv117 fv118 fv119 fv120 fv121 fv122 fv123 fv124 fv125 fv126 fv127 fv128 fv129 fv130 fv131 fv132 fv133 fv134 fv135 fv136 fv137 fv138 fv139 fv140 fv141 fv142 fv143 fv144 fv145 fv146 fv147 fv148 fv149 fv150 fv151 fv152 fv153 fv154 fv155 fv156 fv157 fv158 fv159 fv160 fv161 fv162 fv163 fv164 fv165 fv166 fv167 fv168 fv169 fv170 fv171 fv172 fv173 fv174 fv175 : Value) :
    Code.wp Tryz.prog lT13 (bodyPost Tryz.prog Tryz.f6 (fun e w' => e = .returned (.bool true) ∧ Kept Nil w w')) ⟨#[fv0, fv1, fv2, .slice ro n rc, fv4, fv5, fv6, fv7, fv8, fv9, fv10, fv11, fv12, fv13, .pointer (some ⟨ba, 0, none⟩), fv15, .pointer (some ⟨bb, 0, none⟩), fv17, fv18, fv19, fv20, fv21, fv22, fv23, fv24, fv25, fv26, fv27, fv28, fv29, fv30, fv31, fv32, fv33, fv34, fv35, fv36, fv37, fv38, fv39, fv40, fv41, fv42, fv43, fv44, fv45, fv46, fv47, fv48, fv49, fv50, fv51, fv52, fv53, fv54, fv55, fv56, fv57, fv58, fv59, fv60, fv61, fv62, fv63, fv64, fv65, fv66, fv67, fv68, fv69, fv70, fv71, fv72, fv73, fv74, fv75, fv76, fv77, fv78, fv79, fv80, fv81, fv82, fv83, fv84, fv85, fv86, fv87, fv88, fv89, fv90, fv91, fv92, fv93, fv94, fv95, fv96, fv97, fv98, fv99, fv100, fv101, fv102, fv103, fv104, fv105, fv106, fv107, fv108, fv109, fv110, fv111, fv112, fv113, fv114, fv115, fv116, fv117, fv118, fv119, fv120, fv121, fv122, fv123, fv124, fv125, fv126, fv127, fv128, fv129, fv130, fv131, fv132, fv133, fv134, fv135, fv136, fv137, fv138, fv139, fv140, fv141, fv142, fv143, fv144, fv145, fv146, fv147, fv148, fv149, fv150, fv151, fv152, fv153, fv154, fv155, fv156, fv157, fv158, fv159, fv160, fv161, fv162, fv163, fv164, fv165, fv166, fv167, fv168, fv169, fv170, fv171, fv172, fv173, fv174, fv175], []⟩ X := by
  conv => arg 2; whnf
  dsimp only
  have hn9 : (n : Int) ≤ 4611686018427387904 := HN.out
  go_wp2_with fail
  go_loopw [8, 18] (fun _ u wr => ∃ (i : Nat) (j : Jb) (K1 : Jn) (K2 : Jk), i ≤ n + 1 ∧ u = .int .i64 i ∧ Hid (JbAt wr ba j K1) ∧ Hid (JdAt wr bb j K2) ∧ Hid (j.Ok ∧ ∀ c : Ce, c.Ok → CmOk j.kd j.k j.v j.m c.v c.n) ∧ Hid (Kept Nil w wr)) (fun _ u _ => n + 1 - (intOf u).toNat)
  case atStart => exact ⟨0, j0, K10, K20, by omega, rfl, HA0.out, HB0.out, HO0.out, HK0.out⟩
  case round =>
    clear HA0 HB0 HO0 HK0
    obtain ⟨i, j, K1, K2, hin, rfl, HA, HB, HO, HK⟩ := hrel
    obtain ⟨wo, hwo⟩ : ∃ x : World, x = wr := ⟨_, rfl⟩
    rw [← hwo] at HA HB HK ⊢
    clear hwo
    by_cases hle : i ≤ n
    · have hli : (i : Int) ≤ n := by omega
      have hld : decide ((i : Int) ≤ (n : Int)) = true := decide_eq_true hli
      have NX := cnext_any wo ba j K1 HA.out HO.out.1 (HL.out wo HK.out).1
      have CM := fun (Y : World) (hY : JdAt Y bb j K2) => jcmd_any Y bb j K2 hY HO.out.1
      obtain ⟨nx, Hnx⟩ : ∃ z, Hid (z = j.next) := ⟨_, rfl⟩
      rw [← Hnx.out] at NX
      simp only [← Hnx.out] at CM
      obtain ⟨n1, ⟨ckd, ck, cv, cm⟩, fl⟩ := nx
      unfold CNPost cdV at NX CM
      simp only at NX CM
      clear Hnx
      go_wp2_with fail
      go_fit NX
      rintro _ w1 ⟨rfl, k1⟩
      obtain ⟨W1, hW1⟩ : ∃ Y, Y = w1.alloc (.cells #[.int .i64 ckd, .string (bs ck), .string (bs cv), .int .i64 cm] 31) := ⟨_, rfl⟩
      obtain ⟨A1, HA1e⟩ : ∃ A, Hid (A = w1.heap.size) := ⟨_, rfl⟩
      have HA1 : Hid (W1.heap[A1]? = some (.cells #[.int .i64 ckd, .string (bs ck), .string (bs cv), .int .i64 cm] 31 (0, 0))) := by rw [hW1, HA1e.out]; exact blk_new _ _
      have KW1 : Hid (Kept Nil w1 W1) := by rw [hW1]; exact (Kept.refl _ _).alloc _
      have K1W : Hid (Kept Nil wo W1) := Kept.trans k1 KW1.out
      go_upto_region 17 with fail
      rw [← hW1, ← HA1e.out]
      clear hW1 HA1e NX k1 KW1
      have CM1 := CM W1 (HB.out.kept K1W.out)
      go_wp2_with fail
      go_fit CM1
      rintro _ w2 ⟨rfl, k2⟩
      obtain ⟨W2, hW2⟩ : ∃ Y, Y = w2.alloc (.cells #[.int .i64 ckd, .string (bs ck), .string (bs cv), .int .i64 cm] 31) := ⟨_, rfl⟩
      obtain ⟨A2, HA2e⟩ : ∃ A, Hid (A = w2.heap.size) := ⟨_, rfl⟩
      have HA2 : Hid (W2.heap[A2]? = some (.cells #[.int .i64 ckd, .string (bs ck), .string (bs cv), .int .i64 cm] 31 (0, 0))) := by rw [hW2, HA2e.out]; exact blk_new _ _
      have KW2 : Hid (Kept Nil w2 W2) := by rw [hW2]; exact (Kept.refl _ _).alloc _
      have K2W : Hid (Kept Nil W1 W2) := Kept.trans k2 KW2.out
      go_upto_region 18 with fail
      rw [← hW2, ← HA2e.out]
      clear hW2 HA2e CM1 CM k2 KW2
      have LK : Calls Tryz.prog 28 #[.pointer (some ⟨ba, 0, none⟩)] W2 fun e w' => e = .returned (.agg #[.int .i64 j.st, .int .i64 j.at', .int .i64 j.rs.kd, .string (bs j.rs.v), .int .i64 j.rs.n, .slice none 0 0]) ∧ Kept Nil W2 w' := by
        have h := clook_any W2 ba j K1 (HA.out.kept (K1W.out.trans K2W.out))
        unfold stV at h
        rw [K1.hr.1, K1.hr.2, HO.out.1.rk] at h
        exact h
      go_wp2_with fail
      go_fit LK
      rintro _ w3 ⟨rfl, k3⟩
      obtain ⟨W3, hW3⟩ : ∃ Y, Y = w3.alloc (.cells #[.int .i64 j.st, .int .i64 j.at', .int .i64 j.rs.kd, .string (bs j.rs.v), .int .i64 j.rs.n, .slice none 0 0] 76) := ⟨_, rfl⟩
      obtain ⟨A3, HA3e⟩ : ∃ A, Hid (A = w3.heap.size) := ⟨_, rfl⟩
      have HA3 : Hid (W3.heap[A3]? = some (.cells #[.int .i64 j.st, .int .i64 j.at', .int .i64 j.rs.kd, .string (bs j.rs.v), .int .i64 j.rs.n, .slice none 0 0] 76 (0, 0))) := by rw [hW3, HA3e.out]; exact blk_new _ _
      have KW3 : Hid (Kept Nil w3 W3) := by rw [hW3]; exact (Kept.refl _ _).alloc _
      have K3W : Hid (Kept Nil W2 W3) := Kept.trans k3 KW3.out
      go_upto_region 19 with fail
      rw [← hW3, ← HA3e.out]
      clear hW3 HA3e LK k3 KW3
      have ST : Calls Tryz.prog 29 #[.pointer (some ⟨bb, 0, none⟩)] W3 fun e w' => e = .returned (.agg #[.int .i64 j.st, .int .i64 j.at', .int .i64 j.rs.kd, .string (bs j.rs.v), .int .i64 j.rs.n, .slice K2.ro 0 K2.rc]) ∧ Kept Nil W3 w' := by
        have h := jstatus_any W3 bb j K2 (HB.out.kept ((K1W.out.trans K2W.out).trans K3W.out))
        unfold stV at h
        rw [HO.out.1.rk] at h
        exact h
      go_wp2_with fail
      go_fit ST
      rintro _ w4 ⟨rfl, k4⟩
      obtain ⟨W4, hW4⟩ : ∃ Y, Y = w4.alloc (.cells #[.int .i64 j.st, .int .i64 j.at', .int .i64 j.rs.kd, .string (bs j.rs.v), .int .i64 j.rs.n, .slice K2.ro 0 K2.rc] 76) := ⟨_, rfl⟩
      obtain ⟨A4, HA4e⟩ : ∃ A, Hid (A = w4.heap.size) := ⟨_, rfl⟩
      have HA4 : Hid (W4.heap[A4]? = some (.cells #[.int .i64 j.st, .int .i64 j.at', .int .i64 j.rs.kd, .string (bs j.rs.v), .int .i64 j.rs.n, .slice K2.ro 0 K2.rc] 76 (0, 0))) := by rw [hW4, HA4e.out]; exact blk_new _ _
      have KW4 : Hid (Kept Nil w4 W4) := by rw [hW4]; exact (Kept.refl _ _).alloc _
      have K4W : Hid (Kept Nil W3 W4) := Kept.trans k4 KW4.out
      go_upto_region 20 with fail
      rw [← hW4, ← HA4e.out]
      clear hW4 HA4e ST k4 KW4
      have HA34 : Hid (W4.heap[A3]? = some (.cells #[.int .i64 j.st, .int .i64 j.at', .int .i64 j.rs.kd, .string (bs j.rs.v), .int .i64 j.rs.n, .slice none 0 0] 76 (0, 0))) := K4W.out.block _ _ HA3.out (fun x => x)
      have a0 : W4.cell? ⟨A3, 0, none⟩ = some (.int .i64 j.st) := blk_at HA34.out 0 rfl
      have a1 : W4.cell? ⟨A3, 1, none⟩ = some (.int .i64 j.at') := blk_at HA34.out 1 rfl
      have a2 : W4.cell? ⟨A3, 2, none⟩ = some (.int .i64 j.rs.kd) := blk_at HA34.out 2 rfl
      have a3 : W4.cell? ⟨A3, 3, none⟩ = some (.string (bs j.rs.v)) := blk_at HA34.out 3 rfl
      have a4 : W4.cell? ⟨A3, 4, none⟩ = some (.int .i64 j.rs.n) := blk_at HA34.out 4 rfl
      have a5 : W4.cell? ⟨A3, 5, none⟩ = some (.slice none 0 0) := blk_at HA34.out 5 rfl
      have b0 : W4.cell? ⟨A4, 0, none⟩ = some (.int .i64 j.st) := blk_at HA4.out 0 rfl
      have b1 : W4.cell? ⟨A4, 1, none⟩ = some (.int .i64 j.at') := blk_at HA4.out 1 rfl
      have b2 : W4.cell? ⟨A4, 2, none⟩ = some (.int .i64 j.rs.kd) := blk_at HA4.out 2 rfl
      have b3 : W4.cell? ⟨A4, 3, none⟩ = some (.string (bs j.rs.v)) := blk_at HA4.out 3 rfl
      have b4 : W4.cell? ⟨A4, 4, none⟩ = some (.int .i64 j.rs.n) := blk_at HA4.out 4 rfl
      have b5 : W4.cell? ⟨A4, 5, none⟩ = some (.slice K2.ro 0 K2.rc) := blk_at HA4.out 5 rfl
      have SR : Calls Tryz.prog 30 #[.agg #[.int .i64 j.rs.kd, .string (bs j.rs.v), .int .i64 j.rs.n, .slice none 0 0], .agg #[.int .i64 j.rs.kd, .string (bs j.rs.v), .int .i64 j.rs.n, .slice K2.ro 0 K2.rc]] W4 fun e w' => e = .returned (.bool true) ∧ Kept Nil W4 w' := sameResult_any 0 0 K2.rc j.rs.kd j.rs.n j.rs.v none K2.ro [] W4 (fun k hk => by simp at hk) (fun k hk => by simp at hk) (by simp)
      go_wp2_with fail
      go_fit SR
      rintro _ w5 ⟨rfl, k5⟩
      have K5W : Hid (Kept Nil W4 w5) := k5
      clear SR k5 a0 a1 a2 a3 a4 a5 b0 b1 b2 b3 b4 b5
      have a5 : w5.cell? ⟨A3, 5, none⟩ = some (.slice none 0 0) := blk_at (K5W.out.block _ _ HA34.out (fun x => x)) 5 rfl
      have OV := over0_any w5
      go_wp2_with fail
      go_fit OV
      rintro _ w6 ⟨rfl, k6⟩
      have K6W : Hid (Kept Nil W4 w6) := K5W.out.trans k6
      clear OV k6 a5 K5W
      have KO6 : Hid (Kept Nil wo w6) := ((K1W.out.trans K2W.out).trans (K3W.out.trans K4W.out)).trans K6W.out
      have HQ3 : Hid (w6.heap[A3]? = some (.cells #[.int .i64 j.st, .int .i64 j.at', .int .i64 j.rs.kd, .string (bs j.rs.v), .int .i64 j.rs.n, .slice none 0 0] 76 (0, 0))) := K6W.out.block _ _ HA34.out (fun x => x)
      have HQ4 : Hid (w6.heap[A4]? = some (.cells #[.int .i64 j.st, .int .i64 j.at', .int .i64 j.rs.kd, .string (bs j.rs.v), .int .i64 j.rs.n, .slice K2.ro 0 K2.rc] 76 (0, 0))) := K6W.out.block _ _ HA4.out (fun x => x)
      have HQ1 : Hid (w6.heap[A1]? = some (.cells #[.int .i64 ckd, .string (bs ck), .string (bs cv), .int .i64 cm] 31 (0, 0))) := (((K2W.out.trans K3W.out).trans K4W.out).trans K6W.out).block _ _ HA1.out (fun x => x)
      have HQ2 : Hid (w6.heap[A2]? = some (.cells #[.int .i64 ckd, .string (bs ck), .string (bs cv), .int .i64 cm] 31 (0, 0))) := ((K3W.out.trans K4W.out).trans K6W.out).block _ _ HA2.out (fun x => x)
      have HA6 : Hid (JbAt w6 ba j K1) := HA.out.kept KO6.out
      have HB6 : Hid (JdAt w6 bb j K2) := HB.out.kept KO6.out
      have KW6 : Hid (Kept Nil w w6) := HK.out.trans KO6.out
      clear HA34 HA1 HA2 HA3 HA4 K1W K2W K3W K4W K6W KO6
      have a0 : w6.cell? ⟨A3, 0, none⟩ = some (.int .i64 j.st) := blk_at HQ3.out 0 rfl
      have a1 : w6.cell? ⟨A3, 1, none⟩ = some (.int .i64 j.at') := blk_at HQ3.out 1 rfl
      have b0 : w6.cell? ⟨A4, 0, none⟩ = some (.int .i64 j.st) := blk_at HQ4.out 0 rfl
      have b1 : w6.cell? ⟨A4, 1, none⟩ = some (.int .i64 j.at') := blk_at HQ4.out 1 rfl
      have c0 : w6.cell? ⟨A1, 0, none⟩ = some (.int .i64 ckd) := blk_at HQ1.out 0 rfl
      have c1 : w6.cell? ⟨A1, 1, none⟩ = some (.string (bs ck)) := blk_at HQ1.out 1 rfl
      have c2 : w6.cell? ⟨A1, 2, none⟩ = some (.string (bs cv)) := blk_at HQ1.out 2 rfl
      have c3 : w6.cell? ⟨A1, 3, none⟩ = some (.int .i64 cm) := blk_at HQ1.out 3 rfl
      have d0 : w6.cell? ⟨A2, 0, none⟩ = some (.int .i64 ckd) := blk_at HQ2.out 0 rfl
      have d1 : w6.cell? ⟨A2, 1, none⟩ = some (.string (bs ck)) := blk_at HQ2.out 1 rfl
      have d2 : w6.cell? ⟨A2, 2, none⟩ = some (.string (bs cv)) := blk_at HQ2.out 2 rfl
      have d3 : w6.cell? ⟨A2, 3, none⟩ = some (.int .i64 cm) := blk_at HQ2.out 3 rfl
      go_upto_region 24 with fail
      clear a0 a1 b0 b1 c0 c1 c2 c3 d0 d1 d2 d3 HQ1 HQ2 HQ3 HQ4
      by_cases hlt : i < n
      · have hl1 : (i : Int) < n := by omega
        have hl2 : decide ((i : Int) < (n : Int)) = true := decide_eq_true hl1
        cases fl with
        | false =>
          go_wp2
          go_roundw
          case rel => exact ⟨i + 1, j, K1, K2, by omega, by go_num, HA6.out, HB6.out, HO.out, KW6.out⟩
          case measure => simp [intOf]; omega
        | true =>
          have hil : i < rs.length := by rw [← Hn.out]; exact hlt
          obtain ⟨a, ha, -, -, -, -, -, hks, hv, hkl⟩ := (HR.out.nil KW6.out) i hil
          subst ha
          obtain ⟨y, HYe⟩ : ∃ y : Re, Hid (y = rs[i]) := ⟨rs[i], (rfl : rs[i] = rs[i])⟩
          rw [← HYe.out] at hks hv hkl
          have HRow : Hid (∀ Y, Kept Nil w Y → Y.cell? (a.add (i * 4)) = some (.int .i64 y.r.kd) ∧ Y.cell? ⟨(a.add (i * 4)).block, (a.add (i * 4)).off + 1, none⟩ = some (.string (bs y.r.v)) ∧ Y.cell? ⟨(a.add (i * 4)).block, (a.add (i * 4)).off + 2, none⟩ = some (.int .i64 y.r.n) ∧ Y.cell? ⟨(a.add (i * 4)).block, (a.add (i * 4)).off + 3, none⟩ = some (.slice y.ko y.r.ks.length y.kc)) := fun Y kY => by
            obtain ⟨a', ha', _, g0, g1, g2, g3, _⟩ := (HR.out.nil kY) i hil
            obtain rfl := Option.some.inj ha'
            rw [HYe.out]
            exact ⟨g0, g1, g2, g3⟩
          obtain ⟨⟨rk, rv, rn, rks⟩, ko, kc⟩ := y
          obtain ⟨m, Hm⟩ : ∃ m, Hid (m = rks.length) := ⟨_, rfl⟩
          have HKS : Hid (StrRow w.heap.size w6 ko rks) := hks
          have HV9 : Hid (rv.length ≤ 1048576) := hv
          have HM9 : Hid (m ≤ 1048576) := by show _ ≤ _; rw [Hm.out]; exact hkl
          clear hks hv hkl HYe hil
          have c0 : w6.cell? (a.add (i * 4)) = some (.int .i64 rk) := (HRow.out w6 KW6.out).1
          have c1 : w6.cell? ⟨(a.add (i * 4)).block, (a.add (i * 4)).off + 1, none⟩ = some (.string (bs rv)) := (HRow.out w6 KW6.out).2.1
          have c2 : w6.cell? ⟨(a.add (i * 4)).block, (a.add (i * 4)).off + 2, none⟩ = some (.int .i64 rn) := (HRow.out w6 KW6.out).2.2.1
          have c3 : w6.cell? ⟨(a.add (i * 4)).block, (a.add (i * 4)).off + 3, none⟩ = some (.slice ko m kc) := by rw [Hm.out]; exact (HRow.out w6 KW6.out).2.2.2
          obtain ⟨W7, hW7⟩ : ∃ Y, Y = w6.alloc (.cells #[.int .i64 rk, .string (bs rv), .int .i64 rn, .slice ko m kc] 50) := ⟨_, rfl⟩
          obtain ⟨A7, HA7e⟩ : ∃ A, Hid (A = w6.heap.size) := ⟨_, rfl⟩
          have HA7 : Hid (W7.heap[A7]? = some (.cells #[.int .i64 rk, .string (bs rv), .int .i64 rn, .slice ko m kc] 50 (0, 0))) := by rw [hW7, HA7e.out]; exact blk_new _ _
          have KW7 : Hid (Kept Nil w6 W7) := by rw [hW7]; exact (Kept.refl _ _).alloc _
          go_upto_region 26 with fail
          rw [← hW7]
          have hRa : ba ≠ A7 := by have h1 := lt_of_block HA6.out; have h2 := HA7e.out; omega
          have hRb : bb ≠ A7 := by have h1 := lt_of_block HB6.out; have h2 := HA7e.out; omega
          have HwA : Hid (w.heap.size ≤ A7) := by show _ ≤ _; rw [HA7e.out]; exact KW6.out.size
          rw [← HA7e.out]
          clear hW7 c0 c1 c2 c3
          have c0 : W7.cell? (a.add (i * 4)) = some (.int .i64 rk) := (HRow.out W7 (KW6.out.trans KW7.out)).1
          have c1 : W7.cell? ⟨(a.add (i * 4)).block, (a.add (i * 4)).off + 1, none⟩ = some (.string (bs rv)) := (HRow.out W7 (KW6.out.trans KW7.out)).2.1
          have c2 : W7.cell? ⟨(a.add (i * 4)).block, (a.add (i * 4)).off + 2, none⟩ = some (.int .i64 rn) := (HRow.out W7 (KW6.out.trans KW7.out)).2.2.1
          have c3 : W7.cell? ⟨(a.add (i * 4)).block, (a.add (i * 4)).off + 3, none⟩ = some (.slice ko m kc) := by rw [Hm.out]; exact (HRow.out W7 (KW6.out.trans KW7.out)).2.2.2
          obtain ⟨i0, hi0, hz0, hz1, hz2⟩ := info_parts Tryz.infoSt
          have HNR : Hid (W7.ownsRow w.heap.size 9 1 (.slice none 0 0) 0 []) := World.ownsRow_nil _ _ _ _
          have SRK : Hid (Src Tryz.prog 1 48 (.slice ko m kc) m (kyCells rks) W7) := by
            have h := (HKS.out.kept KW7.out (fun _ _ _ x => x)).srcX (c := kc)
            rw [← Hm.out] at h
            exact h
          have HMX : Hid (0 + m ≤ maxLen ∧ (0 + m) * 16 ≤ 140737488355328) := by have := HM9.out; constructor <;> (try unfold maxLen) <;> omega
          have hz7 : w.heap.size ≤ W7.heap.size := Nat.le_trans KW6.out.size KW7.out.size
          go_upto_region 27 with (at_builtin; go_must (refine wpList_append_src _ rfl _ _ 48 48 rfl w.heap.size 9 i0 (.string ⟨#[]⟩) 1 16 Tryz.underlying48 hi0 hz0 hz1 hz2 rfl (.slice none 0 0) 0 [] rfl HNR.out (.slice ko m kc) m (kyCells rks) rfl SRK.out HMX.out.1 HMX.out.2 hz7 ?_); intro a6 c6 w8 ho8 hg8; have HO8 : Hid (OwnK w.heap.size w8 a6 c6 rks) := (by have e : 0 + m = rks.length := (by rw [Hm.out]; omega); rw [e, List.nil_append] at ho8; exact ho8); have KG8 : Hid (Kept Nil W7 w8) := (Kept.refl _ _).grown hg8 (fun g e => by simp [Value.ownBlock] at e); clear ho8 hg8; have z3 : w8.cell? ⟨A7, 3, none⟩ = some (.slice ko m kc) := blk_at (KG8.out.block _ _ HA7.out (fun x => x)) 3 rfl; have zf3 : w8.frozen? ⟨A7, 3, none⟩ = false := blk_free (KG8.out.block _ _ HA7.out (fun x => x)) 3)
          obtain ⟨W9, hW9⟩ : ∃ Y, Y = w8.setCell ⟨A7, 3, none⟩ (.slice a6 m c6) := ⟨_, rfl⟩
          have HW9 : Hid (W9.heap[A7]? = some (.cells #[.int .i64 rk, .string (bs rv), .int .i64 rn, .slice a6 m c6] 50 (0, 0)) ∧ JbAt W9 ba j K1 ∧ JdAt W9 bb j K2 ∧ Kept Nil w W9 ∧ OwnK w.heap.size W9 a6 c6 rks ∧ Kept Nil w6 W9) := by
            rw [hW9]
            refine ⟨blk_set (KG8.out.block _ _ HA7.out (fun x => x)) 3 _, blk_other (a := ⟨A7, 3, none⟩) ((HA6.out.kept KW7.out).kept KG8.out) hRa _, blk_other (a := ⟨A7, 3, none⟩) ((HB6.out.kept KW7.out).kept KG8.out) hRb _, ((KW6.out.trans KW7.out).trans KG8.out).setNew (p := ⟨A7, 3, none⟩) HwA.out _, ?_, (KW7.out.trans KG8.out).setNew (p := ⟨A7, 3, none⟩) (by rw [HA7e.out]; exact Nat.le_refl _) _⟩
            exact ownsRow_setCell_other HO8.out (fun e => by
              obtain ⟨_, cs, h2⟩ := HO8.out.blkX e
              have h3 := KG8.out.block _ _ HA7.out (fun x => x)
              rw [h3] at h2
              simp at h2) _
          rw [← hW9]
          clear hW9 z3 zf3 HA7 c0 c1 c2 c3 KG8 KW7 HA7e HO8 HNR SRK HMX
          have e0 : W9.cell? ⟨A7, 0, none⟩ = some (.int .i64 rk) := blk_at HW9.out.1 0 rfl
          have e1 : W9.cell? ⟨A7, 1, none⟩ = some (.string (bs rv)) := blk_at HW9.out.1 1 rfl
          have e2 : W9.cell? ⟨A7, 2, none⟩ = some (.int .i64 rn) := blk_at HW9.out.1 2 rfl
          have e3 : W9.cell? ⟨A7, 3, none⟩ = some (.slice a6 m c6) := blk_at HW9.out.1 3 rfl
          have AN : Calls Tryz.prog 32 #[.pointer (some ⟨ba, 0, none⟩), .agg #[.int .i64 rk, .string (bs rv), .int .i64 rn, .slice a6 m c6]] W9 (JPost W9 ba (j.answer ⟨rk, rv, rn, rks⟩)) := by
            rw [Hm.out]
            exact canswer_any W9 ba j K1 HW9.out.2.1 ⟨rk, rv, rn, rks⟩ a6 c6 HO.out.1 (by have := HV9.out; show rv.length < _; omega) (HL.out W9 HW9.out.2.2.2.1).2 (HL.out W9 HW9.out.2.2.2.1).1 HO.out.2
          go_wp2_with fail
          go_fit AN
          rintro _ x1 ⟨rfl, ⟨K3, hj1⟩, kx1⟩
          have HWA : Hid (w.heap.size ≤ ba ∧ w.heap.size ≤ bb ∧ ba ≠ bb) := HBB
          have HX1 : Hid (x1.heap[A7]? = some (.cells #[.int .i64 rk, .string (bs rv), .int .i64 rn, .slice a6 m c6] 50 (0, 0)) ∧ JbAt x1 ba (j.answer ⟨rk, rv, rn, rks⟩) K3 ∧ JdAt x1 bb j K2 ∧ Kept Nil w x1 ∧ OwnK w.heap.size x1 a6 c6 rks) := by
            obtain ⟨h1, h2, h3, h4, h5, h6⟩ := HW9.out
            refine ⟨kx1.block _ _ h1 (fun e => hRa e.symm), hj1, h3.keptX kx1 (fun _ e => HWA.out.2.2 e.symm), h4.under kx1 HWA.out.1, ?_⟩
            exact own_keptX h5 kx1 (fun g o e x => by
              obtain ⟨_, cs', h7⟩ := h5.blkX e
              have h8 : g = ba := x
              rw [h8] at h7
              have h9 := h2
              unfold JbAt at h9
              rw [h9] at h7
              simp at h7)
          clear AN kx1 hj1 e0 e1 e2 e3 HW9
          have c0 : x1.cell? (a.add (i * 4)) = some (.int .i64 rk) := (HRow.out x1 HX1.out.2.2.2.1).1
          have c1 : x1.cell? ⟨(a.add (i * 4)).block, (a.add (i * 4)).off + 1, none⟩ = some (.string (bs rv)) := (HRow.out x1 HX1.out.2.2.2.1).2.1
          have c2 : x1.cell? ⟨(a.add (i * 4)).block, (a.add (i * 4)).off + 2, none⟩ = some (.int .i64 rn) := (HRow.out x1 HX1.out.2.2.2.1).2.2.1
          have c3 : x1.cell? ⟨(a.add (i * 4)).block, (a.add (i * 4)).off + 3, none⟩ = some (.slice ko m kc) := by rw [Hm.out]; exact (HRow.out x1 HX1.out.2.2.2.1).2.2.2
          have TK : Calls Tryz.prog 33 #[.pointer (some ⟨bb, 0, none⟩), .agg #[.int .i64 rk, .string (bs rv), .int .i64 rn, .slice ko m kc]] x1 (JdPost x1 bb (j.answer ⟨rk, rv, rn, rks⟩)) := by
            rw [Hm.out]
            exact jtake_any x1 bb j K2 HX1.out.2.2.1 ⟨rk, rv, rn, rks⟩ ko kc HO.out.1 (by have := HV9.out; show (rv.length : Int) ≤ _; omega) HO.out.2
          go_wp2_with fail
          go_fit TK
          rintro _ x2 ⟨rfl, ⟨K4, hj2⟩, kx2⟩
          have HX2 : Hid (x2.heap[A7]? = some (.cells #[.int .i64 rk, .string (bs rv), .int .i64 rn, .slice a6 m c6] 50 (0, 0)) ∧ JbAt x2 ba (j.answer ⟨rk, rv, rn, rks⟩) K3 ∧ JdAt x2 bb (j.answer ⟨rk, rv, rn, rks⟩) K4 ∧ Kept Nil w x2 ∧ OwnK w.heap.size x2 a6 c6 rks) := by
            obtain ⟨h1, h2, h3, h4, h5⟩ := HX1.out
            refine ⟨kx2.block _ _ h1 (fun e => hRb e.symm), h2.keptX kx2 (fun _ e => HWA.out.2.2 e), hj2, h4.under kx2 HWA.out.2.1, ?_⟩
            exact own_keptX h5 kx2 (fun g o e x => by
              obtain ⟨_, cs', h7⟩ := h5.blkX e
              have h8 : g = bb := x
              rw [h8] at h7
              have h9 := h3
              unfold JdAt at h9
              rw [h9] at h7
              simp at h7)
          clear TK kx2 hj2 c0 c1 c2 c3 HX1
          have e0 : x2.cell? ⟨A7, 0, none⟩ = some (.int .i64 rk) := blk_at HX2.out.1 0 rfl
          have e1 : x2.cell? ⟨A7, 1, none⟩ = some (.string (bs rv)) := blk_at HX2.out.1 1 rfl
          have e2 : x2.cell? ⟨A7, 2, none⟩ = some (.int .i64 rn) := blk_at HX2.out.1 2 rfl
          have e3 : x2.cell? ⟨A7, 3, none⟩ = some (.slice a6 m c6) := blk_at HX2.out.1 3 rfl
          have OT : Calls Tryz.prog 31 #[.slice a6 m c6] x2 fun e w' => e = .returned (.tuple #[]) ∧ x2.grownBy w' (Value.slice a6 rks.length c6).ownBlock := by
            rw [Hm.out]
            exact overTexts_any w.heap.size c6 a6 rks x2 HX2.out.2.2.2.2 HX2.out.2.2.2.1.size (by rw [← Hm.out]; have := HM9.out; omega)
          go_wp2_with fail
          go_fit OT
          rintro _ x3 ⟨rfl, kx3⟩
          have HX3 : Hid (JbAt x3 ba (j.answer ⟨rk, rv, rn, rks⟩) K3 ∧ JdAt x3 bb (j.answer ⟨rk, rv, rn, rks⟩) K4 ∧ Kept Nil w x3) := by
            obtain ⟨_, h2, h3, h4, h5⟩ := HX2.out
            exact ⟨blk_overX h2 (by decide) h5 kx3, blk_overX h3 (by decide) h5 kx3, h4.grown kx3 (fun k e => (h5.blkX e).1)⟩
          have HO3 : Hid ((j.answer ⟨rk, rv, rn, rks⟩).Ok ∧ ∀ c : Ce, c.Ok → CmOk (j.answer ⟨rk, rv, rn, rks⟩).kd (j.answer ⟨rk, rv, rn, rks⟩).k (j.answer ⟨rk, rv, rn, rks⟩).v (j.answer ⟨rk, rv, rn, rks⟩).m c.v c.n) := by
            obtain ⟨s1, s2, s3, s4, _⟩ := Jb.answer_stX j ⟨rk, rv, rn, rks⟩
            refine ⟨HO.out.1.answer _, ?_⟩
            rw [s1, s2, s3, s4]
            exact HO.out.2
          clear OT kx3 HX2 e0 e1 e2 e3
          go_wp2
          go_roundw
          case rel => exact ⟨i + 1, j.answer ⟨rk, rv, rn, rks⟩, K3, K4, by omega, by go_num, HX3.out.1, HX3.out.2.1, HO3.out, HX3.out.2.2⟩
          case measure => simp [intOf]; omega
      · have hl1 : ¬ (i : Int) < n := by omega
        have hl2 : decide ((i : Int) < (n : Int)) = false := decide_eq_false hl1
        go_wp2
        go_roundw
        case rel => exact ⟨i + 1, j, K1, K2, by omega, by go_num, HA6.out, HB6.out, HO.out, KW6.out⟩
        case measure => simp [intOf]; omega
    · have hli : ¬ (i : Int) ≤ n := by omega
      have hld : decide ((i : Int) ≤ (n : Int)) = false := decide_eq_false hli
      go_wp2
      go_ret
      exact ⟨rfl, HK.out⟩
end Go.Proofs.YtflnjlbafchnaaaGreatDoor
