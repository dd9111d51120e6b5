/-
  Joined: WCx8.
-/
import Derived.Test.YtflnjlbafchnaaaGreatDoorQ23
import Derived.Test.YtflnjlbafchnaaaGreatDoorQ33
import Derived.Test.YtflnjlbafchnaaaGreatDoorQ34
import Derived.Deep.DeepCutAuto
import Derived.Deep.RegionHeld3
import Derived.StillTailTactics
/-
  Cells: the document's reads, from where the command has been done on (regions 23, 18).
-/
namespace Go.Proofs.YtflnjlbafchnaaaGreatDoor
open Go.RowKit

def headIsJ (n : Nat) : Code → Bool
  | .region k _ _ => k == n
  | .seq a _ => headIsJ n a
  | .block _ c => headIsJ n c
  | .loop c => headIsJ n c
  | _ => false
/-- From the statement on that begins with a region. -/
def findTailJ (n : Nat) : Code → Option Code
  | .seq a b => if headIsJ n a then some (.seq a b) else match findTailJ n a with
    | some c => some c
    | none => findTailJ n b
  | .block _ c => findTailJ n c
  | .loop c => findTailJ n c
  | .cond _ a b => match findTailJ n a with
    | some c => some c
    | none => findTailJ n b
  | _ => none
noncomputable def jT4 : Code := (Tryz.f92.body.bind (findTailJ 4)).getD .skip
noncomputable def jT18 : Code := (Tryz.f92.body.bind (findTailJ 18)).getD .skip
noncomputable def jT23 : Code := (Tryz.f92.body.bind (findTailJ 23)).getD .skip
set_option maxRecDepth 100000 in
set_option maxHeartbeats 4000000 in
theorem jrT23 (w X : World) (b D E R : Nat) (j u : Jb) (K : Jk) (v' : List UInt8) (n' : Nat) (r : Rr) (ko : Option Addr) (kc : Nat)
    (HJ : Hid (JdAt X b j K)) (HD : Hid (CcAt X D j.sn.s j.sn.h j.sn.g j.sn.n j.sn.v)) (HE : Hid (CcAt X E 0 j.sn.h 0 n' v')) (HR : Hid (X.heap[R]? = some (.cells #[.int .i64 r.kd, .string (bs r.v), .int .i64 r.n, .slice ko r.ks.length kc] 50 (0, 0)))) (HK : Hid (Kept (One b) w X))
    (Hv : Hid (v' = cmV j.kd j.v j.m j.sn.v j.sn.n)) (Hn : Hid (n' = cmN j.kd j.m j.sn.n)) (Hr : Hid (r = cmR j.kd j.m j.sn.v j.sn.n)) (Hu : Hid (u = j.apply)) (fv1 fv2 fv3 fv5 fv6 fv7 fv10 fv11 fv12 fv13 fv14 fv15 fv16 fv17 fv18 fv19 fv20 fv21 fv22 fv23 fv24 fv25 fv26 fv27 fv28 fv29 fv30 fv31 fv32 fv33 fv34 fv35 fv36 fv37 fv38 fv39 fv40 fv41 fv42 fv43 fv44 fv45 fv46 fv47 fv48 fv49 fv50 fv51 fv52 fv53 fv54 fv55 fv56 fv57 fv58 fv59 fv60 fv61 fv62 fv63 fv64 fv65 fv66 fv67 fv68 fv69 fv70 fv71 fv72 fv73 fv74 fv75 fv76 fv77 fv78 fv79 fv80 fv81 fv82 fv83 fv84 fv85 fv86 fv87 fv88 fv89 fv90 fv91 fv92 fv93 fv94 fv95 fv96 fv97 fv98 fv99 fv100 fv101 fv102 fv103 fv104 fv105 fv106 fv107 fv108 fv109 fv110 fv111 fv112 fv113 fv114 fv115 fv116 fv117 fv118 fv119 fv120 fv121 fv122 fv123 fv124 fv125 fv126 fv127 fv128 fv129 fv130 fv131 fv132 fv133 fv134 fv135 fv136 fv137 fv138 fv139 fv140 fv141 fv142 fv143 fv144 fv145 fv146 fv147 fv148 fv149 fv150 fv151 fv152 fv153 fv154 fv155 fv156 fv157 fv158 : Value) :
    Code.wp Tryz.prog jT23 (bodyPost Tryz.prog Tryz.f92 (JdPost w b u)) ⟨#[.pointer (some ⟨b, 0, none⟩), fv1, fv2, fv3, .pointer (some ⟨D, 0, none⟩), fv5, fv6, fv7, .pointer (some ⟨R, 0, none⟩), .pointer (some ⟨E, 0, none⟩), fv10, fv11, fv12, fv13, fv14, fv15, fv16, fv17, fv18, fv19, fv20, fv21, fv22, fv23, fv24, fv25, fv26, fv27, fv28, fv29, fv30, fv31, fv32, fv33, fv34, fv35, fv36, fv37, fv38, fv39, fv40, fv41, fv42, fv43, fv44, fv45, fv46, fv47, fv48, fv49, fv50, fv51, fv52, fv53, fv54, fv55, fv56, fv57, fv58, fv59, fv60, fv61, fv62, fv63, fv64, fv65, fv66, fv67, fv68, fv69, fv70, fv71, fv72, fv73, fv74, fv75, fv76, fv77, fv78, fv79, fv80, fv81, fv82, fv83, fv84, fv85, fv86, fv87, fv88, fv89, fv90, fv91, fv92, fv93, fv94, fv95, fv96, fv97, fv98, fv99, fv100, fv101, fv102, fv103, fv104, fv105, fv106, fv107, fv108, fv109, fv110, fv111, fv112, fv113, fv114, fv115, fv116, fv117, fv118, fv119, fv120, fv121, fv122, fv123, fv124, fv125, fv126, fv127, fv128, fv129, fv130, fv131, fv132, fv133, fv134, fv135, fv136, fv137, fv138, fv139, fv140, fv141, fv142, fv143, fv144, fv145, fv146, fv147, fv148, fv149, fv150, fv151, fv152, fv153, fv154, fv155, fv156, fv157, fv158], []⟩ X := by
  conv => arg 2; whnf
  dsimp only
  have e0 : X.cell? ⟨E, 0, none⟩ = some (.int .i64 0) := blk_at HE.out 0 rfl
  have e1 : X.cell? ⟨E, 1, none⟩ = some (.int .i64 j.sn.h) := blk_at HE.out 1 rfl
  have e2 : X.cell? ⟨E, 2, none⟩ = some (.int .i64 0) := blk_at HE.out 2 rfl
  have e3 : X.cell? ⟨E, 3, none⟩ = some (.int .i64 n') := blk_at HE.out 3 rfl
  have e4 : X.cell? ⟨E, 4, none⟩ = some (.string (bs v')) := blk_at HE.out 4 rfl
  by_cases cf : v'.length ≤ 32 ∧ n' ≤ 999999
  · have t1 : ¬ (999999 : Int) < n' := by omega
    have t2 : ¬ (32 : Int) < (bs v').size := by rw [bs_size]; omega
    by_cases ce : v' = j.sn.v ∧ n' = j.sn.n
    · have hu : u = j.fin r := by rw [Hu.out]; unfold Jb.apply; rw [← Hv.out, ← Hn.out, ← Hr.out, if_neg (by simp only [Decidable.not_not]; exact cf), if_pos ce]
      have EN := jends_any X b j K HJ.out r ko kc
      rw [← hu] at EN
      unfold rrV at EN
      have c1 : ((bs v').toList == (bs j.sn.v).toList) = true := by rw [ce.1]; simp
      have c2 : ((n' : Int) == (j.sn.n : Int)) = true := by rw [ce.2]; simp
      clear cf ce hu Hu Hv Hn Hr
      have d0 : X.cell? ⟨D, 0, none⟩ = some (.int .i64 j.sn.s) := blk_at HD.out 0 rfl
      have d1 : X.cell? ⟨D, 1, none⟩ = some (.int .i64 j.sn.h) := blk_at HD.out 1 rfl
      have d2 : X.cell? ⟨D, 2, none⟩ = some (.int .i64 j.sn.g) := blk_at HD.out 2 rfl
      have d3 : X.cell? ⟨D, 3, none⟩ = some (.int .i64 j.sn.n) := blk_at HD.out 3 rfl
      have d4 : X.cell? ⟨D, 4, none⟩ = some (.string (bs j.sn.v)) := blk_at HD.out 4 rfl
      have r0 : X.cell? ⟨R, 0, none⟩ = some (.int .i64 r.kd) := blk_at HR.out 0 rfl
      have r1 : X.cell? ⟨R, 1, none⟩ = some (.string (bs r.v)) := blk_at HR.out 1 rfl
      have r2 : X.cell? ⟨R, 2, none⟩ = some (.int .i64 r.n) := blk_at HR.out 2 rfl
      have r3 : X.cell? ⟨R, 3, none⟩ = some (.slice ko r.ks.length kc) := blk_at HR.out 3 rfl
      go_wp2_with fail
      go_fit EN
      rintro _ w1 ⟨rfl, h1, k1⟩
      have HY : Hid ((∃ K, JdAt w1 b u K) ∧ Kept (One b) w w1) := ⟨h1, HK.out.trans k1⟩
      clear h1 k1
      go_wp2
      go_end0
      exact ⟨rfl, HY.out⟩
    · have HU2 : Hid (u = { j with nx := ⟨v', n', 0, j.sn.h, 0⟩, re := r, ph := 1 }) := by show _ = _; rw [Hu.out]; unfold Jb.apply; rw [← Hv.out, ← Hn.out, ← Hr.out, if_neg (by simp only [Decidable.not_not]; exact cf), if_neg ce]
      have hbD : b ≠ D := fun e => by have h1 := HJ.out; have h2 := HD.out; unfold JdAt at h1; unfold CcAt at h2; rw [e, h2] at h1; simp at h1
      have hbE : b ≠ E := fun e => by have h1 := HJ.out; have h2 := HE.out; unfold JdAt at h1; unfold CcAt at h2; rw [e, h2] at h1; simp at h1
      have hbR : b ≠ R := fun e => by have h1 := HJ.out; have h2 := HR.out; unfold JdAt at h1; rw [e, h2] at h1; simp at h1
      have hDb := Ne.symm hbD
      have hEb := Ne.symm hbE
      have hRb := Ne.symm hbR
      obtain ⟨Y, hY⟩ : ∃ Y, Y = ((((((((((X.setCell ⟨b, 12, none⟩ (.int .i64 0)).setCell ⟨b, 13, none⟩ (.int .i64 j.sn.h)).setCell ⟨b, 14, none⟩ (.int .i64 0)).setCell ⟨b, 15, none⟩ (.int .i64 n')).setCell ⟨b, 16, none⟩ (.string (bs v'))).setCell ⟨b, 25, none⟩ (.int .i64 r.kd)).setCell ⟨b, 26, none⟩ (.string (bs r.v))).setCell ⟨b, 27, none⟩ (.int .i64 r.n)).setCell ⟨b, 28, none⟩ (.slice ko r.ks.length kc)).setCell ⟨b, 6, none⟩ (.int .i64 2)) := ⟨_, rfl⟩
      have HY : Hid ((∃ K, JdAt Y b u K) ∧ Kept (One b) w Y) := by rw [hY, HU2.out]; exact ⟨⟨_, ((HJ.out.nx5 ⟨v', n', 0, j.sn.h, 0⟩).re4 r ko kc).s6 1⟩, ((((((((((HK.out.setCell (p := ⟨b, 12, none⟩) (fun _ => rfl) _).setCell (p := ⟨b, 13, none⟩) (fun _ => rfl) _).setCell (p := ⟨b, 14, none⟩) (fun _ => rfl) _).setCell (p := ⟨b, 15, none⟩) (fun _ => rfl) _).setCell (p := ⟨b, 16, none⟩) (fun _ => rfl) _).setCell (p := ⟨b, 25, none⟩) (fun _ => rfl) _).setCell (p := ⟨b, 26, none⟩) (fun _ => rfl) _).setCell (p := ⟨b, 27, none⟩) (fun _ => rfl) _).setCell (p := ⟨b, 28, none⟩) (fun _ => rfl) _).setCell (p := ⟨b, 6, none⟩) (fun _ => rfl) _)⟩
      have d0 : X.cell? ⟨D, 0, none⟩ = some (.int .i64 j.sn.s) := blk_at HD.out 0 rfl
      have d1 : X.cell? ⟨D, 1, none⟩ = some (.int .i64 j.sn.h) := blk_at HD.out 1 rfl
      have d2 : X.cell? ⟨D, 2, none⟩ = some (.int .i64 j.sn.g) := blk_at HD.out 2 rfl
      have d3 : X.cell? ⟨D, 3, none⟩ = some (.int .i64 j.sn.n) := blk_at HD.out 3 rfl
      have d4 : X.cell? ⟨D, 4, none⟩ = some (.string (bs j.sn.v)) := blk_at HD.out 4 rfl
      have r0 : X.cell? ⟨R, 0, none⟩ = some (.int .i64 r.kd) := blk_at HR.out 0 rfl
      have r1 : X.cell? ⟨R, 1, none⟩ = some (.string (bs r.v)) := blk_at HR.out 1 rfl
      have r2 : X.cell? ⟨R, 2, none⟩ = some (.int .i64 r.n) := blk_at HR.out 2 rfl
      have r3 : X.cell? ⟨R, 3, none⟩ = some (.slice ko r.ks.length kc) := blk_at HR.out 3 rfl
      have q12 : X.cell? ⟨b, 12, none⟩ = some (.int .i64 j.nx.s) := blk_at HJ.out 12 rfl
      have q13 : X.cell? ⟨b, 13, none⟩ = some (.int .i64 j.nx.h) := blk_at HJ.out 13 rfl
      have q14 : X.cell? ⟨b, 14, none⟩ = some (.int .i64 j.nx.g) := blk_at HJ.out 14 rfl
      have q15 : X.cell? ⟨b, 15, none⟩ = some (.int .i64 j.nx.n) := blk_at HJ.out 15 rfl
      have q16 : X.cell? ⟨b, 16, none⟩ = some (.string (bs j.nx.v)) := blk_at HJ.out 16 rfl
      have q25 : X.cell? ⟨b, 25, none⟩ = some (.int .i64 j.re.kd) := blk_at HJ.out 25 rfl
      have q26 : X.cell? ⟨b, 26, none⟩ = some (.string (bs j.re.v)) := blk_at HJ.out 26 rfl
      have q27 : X.cell? ⟨b, 27, none⟩ = some (.int .i64 j.re.n) := blk_at HJ.out 27 rfl
      have q28 : X.cell? ⟨b, 28, none⟩ = some (.slice K.eo j.re.ks.length K.ec) := blk_at HJ.out 28 rfl
      have q6 : X.cell? ⟨b, 6, none⟩ = some (.int .i64 ((j.ph : Int) + 1)) := blk_at HJ.out 6 rfl
      have f12 : X.frozen? ⟨b, 12, none⟩ = false := blk_free HJ.out 12
      have f13 : X.frozen? ⟨b, 13, none⟩ = false := blk_free HJ.out 13
      have f14 : X.frozen? ⟨b, 14, none⟩ = false := blk_free HJ.out 14
      have f15 : X.frozen? ⟨b, 15, none⟩ = false := blk_free HJ.out 15
      have f16 : X.frozen? ⟨b, 16, none⟩ = false := blk_free HJ.out 16
      have f25 : X.frozen? ⟨b, 25, none⟩ = false := blk_free HJ.out 25
      have f26 : X.frozen? ⟨b, 26, none⟩ = false := blk_free HJ.out 26
      have f27 : X.frozen? ⟨b, 27, none⟩ = false := blk_free HJ.out 27
      have f28 : X.frozen? ⟨b, 28, none⟩ = false := blk_free HJ.out 28
      have f6 : X.frozen? ⟨b, 6, none⟩ = false := blk_free HJ.out 6
      have hne : (((bs v').toList == (bs j.sn.v).toList) = true ∧ ((n' : Int) == (j.sn.n : Int)) = false) ∨ ((bs v').toList == (bs j.sn.v).toList) = false := by
        rw [bs_toList, bs_toList]
        by_cases e : v' = j.sn.v
        · exact .inl ⟨by rw [e]; simp, by have : ¬ n' = j.sn.n := fun e2 => ce ⟨e, e2⟩; simp; omega⟩
        · exact .inr (by simp [e])
      clear cf ce HU2 Hu Hv Hn Hr
      rcases hne with ⟨c1, c2⟩ | c1
      all_goals
        go_wp2
        rw [← hY]
        go_end0
        exact ⟨rfl, HY.out⟩
  · have hu : u = j.finK 4 := by rw [Hu.out]; unfold Jb.apply; rw [← Hv.out, ← Hn.out, if_pos cf]
    clear Hu Hv Hn Hr
    have EN : Calls Tryz.prog 94 #[.pointer (some ⟨b, 0, none⟩), .agg #[.int .i64 4, .string ⟨#[]⟩, .int .i64 0, .slice none 0 0]] X (JdPost X b (j.finK 4)) := jends_any X b j K HJ.out ⟨4, [], 0, []⟩ none 0
    rw [← hu] at EN
    clear hu
    have ht : (999999 : Int) < n' ∨ (¬ (999999 : Int) < n' ∧ (32 : Int) < (bs v').size) := by rw [bs_size]; omega
    clear cf
    rcases ht with t1 | ⟨t1, t2⟩
    all_goals
      go_wp2_with fail
      go_fit EN
      rintro _ w1 ⟨rfl, h1, k1⟩
      have HY : Hid ((∃ K, JdAt w1 b u K) ∧ Kept (One b) w w1) := ⟨h1, HK.out.trans k1⟩
      clear h1 k1
      go_wp2
      go_end0
      exact ⟨rfl, HY.out⟩
set_option maxRecDepth 100000 in
set_option maxHeartbeats 4000000 in
theorem jrT18 (w X : World) (b D lc : Nat) (lo : Option Addr) (ps : List Pr) (j u : Jb) (K : Jk)
    (HJ : Hid (JdAt X b j K)) (HD : Hid (CcAt X D j.sn.s j.sn.h j.sn.g j.sn.n j.sn.v)) (HP : Hid (PairRow X.heap.size X lo ps)) (Hps : Hid (ps = onePr j.k j.sn.v j.sn.n)) (HK : Hid (Kept (One b) w X))
    (HC : Hid (CmOk j.kd j.k j.v j.m j.sn.v j.sn.n)) (Hu : Hid (u = j.apply)) (fv1 fv2 fv3 fv5 fv7 fv8 fv9 fv10 fv11 fv12 fv13 fv14 fv15 fv16 fv17 fv18 fv19 fv20 fv21 fv22 fv23 fv24 fv25 fv26 fv27 fv28 fv29 fv30 fv31 fv32 fv33 fv34 fv35 fv36 fv37 fv38 fv39 fv40 fv41 fv42 fv43 fv44 fv45 fv46 fv47 fv48 fv49 fv50 fv51 fv52 fv53 fv54 fv55 fv56 fv57 fv58 fv59 fv60 fv61 fv62 fv63 fv64 fv65 fv66 fv67 fv68 fv69 fv70 fv71 fv72 fv73 fv74 fv75 fv76 fv77 fv78 fv79 fv80 fv81 fv82 fv83 fv84 fv85 fv86 fv87 fv88 fv89 fv90 fv91 fv92 fv93 fv94 fv95 fv96 fv97 fv98 fv99 fv100 fv101 fv102 fv103 fv104 fv105 fv106 fv107 fv108 fv109 fv110 fv111 fv112 fv113 fv114 fv115 fv116 fv117 fv118 fv119 fv120 fv121 fv122 fv123 fv124 fv125 fv126 fv127 fv128 fv129 fv130 fv131 fv132 fv133 fv134 fv135 fv136 fv137 fv138 fv139 fv140 fv141 fv142 fv143 fv144 fv145 fv146 fv147 fv148 fv149 fv150 fv151 fv152 fv153 fv154 fv155 fv156 fv157 fv158 : Value) :
    Code.wp Tryz.prog jT18 (bodyPost Tryz.prog Tryz.f92 (JdPost w b u)) ⟨#[.pointer (some ⟨b, 0, none⟩), fv1, fv2, fv3, .pointer (some ⟨D, 0, none⟩), fv5, .slice lo ps.length lc, fv7, fv8, fv9, fv10, fv11, fv12, fv13, fv14, fv15, fv16, fv17, fv18, fv19, fv20, fv21, fv22, fv23, fv24, fv25, fv26, fv27, fv28, fv29, fv30, fv31, fv32, fv33, fv34, fv35, fv36, fv37, fv38, fv39, fv40, fv41, fv42, fv43, fv44, fv45, fv46, fv47, fv48, fv49, fv50, fv51, fv52, fv53, fv54, fv55, fv56, fv57, fv58, fv59, fv60, fv61, fv62, fv63, fv64, fv65, fv66, fv67, fv68, fv69, fv70, fv71, fv72, fv73, fv74, fv75, fv76, fv77, fv78, fv79, fv80, fv81, fv82, fv83, fv84, fv85, fv86, fv87, fv88, fv89, fv90, fv91, fv92, fv93, fv94, fv95, fv96, fv97, fv98, fv99, fv100, fv101, fv102, fv103, fv104, fv105, fv106, fv107, fv108, fv109, fv110, fv111, fv112, fv113, fv114, fv115, fv116, fv117, fv118, fv119, fv120, fv121, fv122, fv123, fv124, fv125, fv126, fv127, fv128, fv129, fv130, fv131, fv132, fv133, fv134, fv135, fv136, fv137, fv138, fv139, fv140, fv141, fv142, fv143, fv144, fv145, fv146, fv147, fv148, fv149, fv150, fv151, fv152, fv153, fv154, fv155, fv156, fv157, fv158], []⟩ X := by
  conv => arg 2; whnf
  dsimp only
  obtain ⟨v', Hv⟩ : ∃ v', Hid (v' = cmV j.kd j.v j.m j.sn.v j.sn.n) := ⟨_, rfl⟩
  obtain ⟨n', Hn⟩ : ∃ n', Hid (n' = cmN j.kd j.m j.sn.n) := ⟨_, rfl⟩
  obtain ⟨r, Hr⟩ : ∃ r, Hid (r = cmR j.kd j.m j.sn.v j.sn.n) := ⟨_, rfl⟩
  obtain ⟨PS, HPS⟩ : ∃ PS, Hid (PS = onePr j.k v' n') := ⟨_, rfl⟩
  have hpl : (ps.length : Int) ≤ 3518437208780 := by rw [Hps.out]; unfold onePr; split <;> simp
  have AP := refApply_any X.heap.size lc lo ps j.k j.v j.kd j.m X HP.out hpl (by have := HC.out.ok2; unfold maxLen; omega) (by have := HC.out.oval; unfold maxLen; omega)
  rw [Hps.out, (ap_one HC.out).1, (ap_one HC.out).2, ← Hps.out, ← Hv.out, ← Hn.out, ← Hr.out, ← HPS.out] at AP
  have hcl : (cmV j.kd j.v j.m j.sn.v j.sn.n).length ≤ 64 := by
    have h1 := HC.out.oval; have h2 := HC.out.ov
    unfold cmV
    repeat' split
    all_goals first | omega | (simp; done) | (simp; omega)
  have HFit : Hid (Fit PS) := by
    have h1 := HC.out.ok2
    rw [← Hv.out] at hcl
    show Fit PS
    rw [HPS.out]
    intro p hp
    unfold onePr at hp
    split at hp
    · cases hp
    · rw [List.mem_singleton] at hp
      rw [hp]
      have e1 : j.k.length ≤ maxLen := by unfold maxLen; omega
      have e2 : v'.length ≤ maxLen := by unfold maxLen; omega
      exact ⟨e1, e2⟩
  clear hcl hpl
  have q2 : X.cell? ⟨b, 2, none⟩ = some (.int .i64 j.kd) := blk_at HJ.out 2 rfl
  have q3 : X.cell? ⟨b, 3, none⟩ = some (.string (bs j.k)) := blk_at HJ.out 3 rfl
  have q4 : X.cell? ⟨b, 4, none⟩ = some (.string (bs j.v)) := blk_at HJ.out 4 rfl
  have q5 : X.cell? ⟨b, 5, none⟩ = some (.int .i64 j.m) := blk_at HJ.out 5 rfl
  go_wp2_with fail
  go_fit AP
  rintro _ x1 ⟨lo', lc', ko, kc, rfl, hps, _, k1⟩
  obtain ⟨m, Hm⟩ : ∃ m, Hid (m = PS.length) := ⟨_, rfl⟩
  rw [← Hm.out]
  unfold rrV
  have HP1 : Hid (PairRow x1.heap.size x1 lo' PS) := by
    rcases hps with ⟨e1, e2, e3⟩ | ho
    · have := (HP.out.nil k1).wide (k1.size)
      rw [e1, e2]
      exact this
    · exact ho.row HFit.out
  have HX1 : Hid (JdAt x1 b j K ∧ CcAt x1 D j.sn.s j.sn.h j.sn.g j.sn.n j.sn.v ∧ Kept (One b) w x1) := ⟨HJ.out.kept k1, k1.block _ _ HD.out (fun x => x), HK.out.trans (kept_oneN k1)⟩
  clear hps k1 AP q2 q3 q4 q5
  obtain ⟨Z, hZ⟩ : ∃ Z, Z = (x1.alloc (.cells #[.int .i64 r.kd, .string (bs r.v), .int .i64 r.n, .slice ko r.ks.length kc] 50)) := ⟨_, rfl⟩
  obtain ⟨R, HRe⟩ : ∃ R, Hid (R = x1.heap.size) := ⟨_, rfl⟩
  have HZ : Hid (JdAt Z b j K ∧ CcAt Z D j.sn.s j.sn.h j.sn.g j.sn.n j.sn.v ∧ Kept (One b) w Z ∧ PairRow Z.heap.size Z lo' PS ∧ Z.heap[R]? = some (.cells #[.int .i64 r.kd, .string (bs r.v), .int .i64 r.n, .slice ko r.ks.length kc] 50 (0, 0))) := by
    have k : Kept Nil x1 Z := by rw [hZ]; exact (Kept.refl _ _).alloc _
    exact ⟨HX1.out.1.kept k, k.block _ _ HX1.out.2.1 (fun x => x), HX1.out.2.2.trans (kept_oneN k), (HP1.out.nil k).wide k.size, by rw [hZ, HRe.out]; exact blk_new _ _⟩
  go_upto_region 19 with fail
  rw [← hZ, ← HRe.out]
  clear hZ HRe HX1 HP1
  have d0 : Z.cell? ⟨D, 0, none⟩ = some (.int .i64 j.sn.s) := blk_at HZ.out.2.1 0 rfl
  have d1 : Z.cell? ⟨D, 1, none⟩ = some (.int .i64 j.sn.h) := blk_at HZ.out.2.1 1 rfl
  have d2 : Z.cell? ⟨D, 2, none⟩ = some (.int .i64 j.sn.g) := blk_at HZ.out.2.1 2 rfl
  have d3 : Z.cell? ⟨D, 3, none⟩ = some (.int .i64 j.sn.n) := blk_at HZ.out.2.1 3 rfl
  have d4 : Z.cell? ⟨D, 4, none⟩ = some (.string (bs j.sn.v)) := blk_at HZ.out.2.1 4 rfl
  obtain ⟨Y, hY⟩ : ∃ Y, Y = (Z.alloc (.cells #[.int .i64 0, .int .i64 j.sn.h, .int .i64 0, .int .i64 0, .string ⟨#[]⟩] 140)) := ⟨_, rfl⟩
  obtain ⟨E, HEe⟩ : ∃ E, Hid (E = Z.heap.size) := ⟨_, rfl⟩
  have HY : Hid (JdAt Y b j K ∧ CcAt Y D j.sn.s j.sn.h j.sn.g j.sn.n j.sn.v ∧ Kept (One b) w Y ∧ PairRow E Y lo' PS ∧ Y.heap[R]? = some (.cells #[.int .i64 r.kd, .string (bs r.v), .int .i64 r.n, .slice ko r.ks.length kc] 50 (0, 0)) ∧ CcAt Y E 0 j.sn.h 0 0 [] ∧ b ≠ E ∧ D ≠ E ∧ R ≠ E) := by
    have k : Kept Nil Z Y := by rw [hY]; exact (Kept.refl _ _).alloc _
    obtain ⟨z1, z2, z3, z4, z5⟩ := HZ.out
    have l1 := lt_of_block z1
    have l2 := lt_of_block z2
    have l3 := lt_of_block z5
    have l4 := HEe.out
    exact ⟨z1.kept k, k.block _ _ z2 (fun x => x), z3.trans (kept_oneN k), by rw [HEe.out]; exact z4.nil k, k.block _ _ z5 (fun x => x), by rw [hY, HEe.out]; exact blk_new _ _, by omega, by omega, by omega⟩
  have HwE : Hid (w.heap.size ≤ E) := by show _ ≤ _; rw [HEe.out]; exact HZ.out.2.2.1.size
  go_upto_region 20 with fail
  rw [← hY, ← HEe.out]
  clear hY HEe HZ d0 d1 d2 d3 d4
  go_upto_if 110 with fail
  go_cut [] from 108 to 120 (fun wc => Hid (JdAt wc b j K ∧ CcAt wc D j.sn.s j.sn.h j.sn.g j.sn.n j.sn.v ∧ Kept (One b) w wc ∧ wc.heap[R]? = some (.cells #[.int .i64 r.kd, .string (bs r.v), .int .i64 r.n, .slice ko r.ks.length kc] 50 (0, 0)) ∧ CcAt wc E 0 j.sn.h 0 n' v'))
  case first =>
    obtain ⟨y1, y2, y3, y4, y5, y6, y7, y8, y9⟩ := HY.out
    by_cases c : v' = [] ∧ n' = 0
    · have hl1 : ¬ (0 : Int) < m := by rw [Hm.out, HPS.out, onePr, if_pos c]; simp
      have HF : Hid (JdAt Y b j K ∧ CcAt Y D j.sn.s j.sn.h j.sn.g j.sn.n j.sn.v ∧ Kept (One b) w Y ∧ Y.heap[R]? = some (.cells #[.int .i64 r.kd, .string (bs r.v), .int .i64 r.n, .slice ko r.ks.length kc] 50 (0, 0)) ∧ CcAt Y E 0 j.sn.h 0 n' v') := ⟨y1, y2, y3, y5, by rw [c.1, c.2]; exact y6⟩
      clear y1 y2 y3 y4 y5 y6 y7 y8 y9 c HY HPS Hv Hn Hr
      go_wp2
      go_meet
      exact HF.out
    · have e1 : PS = [⟨j.k, v', n'⟩] := by rw [HPS.out, onePr, if_neg c]
      have hm1 : (0 : Int) < m := by rw [Hm.out, e1]; simp
      rw [e1] at y4
      clear e1
      obtain ⟨a, e2, h2, h3, h4, h5, -, -⟩ := y4 0 (by simp)
      subst e2
      have p0 : Y.cell? (a.add 0) = some (.string (bs j.k)) := h3
      have p1 : Y.cell? ⟨a.block, a.off + 1, none⟩ = some (.string (bs v')) := h4
      have p2 : Y.cell? ⟨a.block, a.off + 2, none⟩ = some (.int .i64 n') := h5
      have p1' : Y.cell? ⟨(a.add 0).block, (a.add 0).off + 1, none⟩ = some (.string (bs v')) := h4
      have p2' : Y.cell? ⟨(a.add 0).block, (a.add 0).off + 2, none⟩ = some (.int .i64 n') := h5
      obtain ⟨F, hF⟩ : ∃ F, F = (Y.setCell ⟨E, 4, none⟩ (.string (bs v'))).setCell ⟨E, 3, none⟩ (.int .i64 n') := ⟨_, rfl⟩
      have hbE : b ≠ E := y7
      have hDE : D ≠ E := y8
      have hRE : R ≠ E := y9
      have HF : Hid (JdAt F b j K ∧ CcAt F D j.sn.s j.sn.h j.sn.g j.sn.n j.sn.v ∧ Kept (One b) w F ∧ F.heap[R]? = some (.cells #[.int .i64 r.kd, .string (bs r.v), .int .i64 r.n, .slice ko r.ks.length kc] 50 (0, 0)) ∧ CcAt F E 0 j.sn.h 0 n' v') := by
        rw [hF]
        refine ⟨blk_other (a := ⟨E, 3, none⟩) (blk_other (a := ⟨E, 4, none⟩) y1 hbE _) hbE _, (y2.off (Ne.symm hDE) 4 _).off (Ne.symm hDE) 3 _, ?_, blk_other (a := ⟨E, 3, none⟩) (blk_other (a := ⟨E, 4, none⟩) y5 hRE _) hRE _, (y6.s4 v').s3 n'⟩
        exact (y3.setNew (p := ⟨E, 4, none⟩) HwE.out _).setNew (p := ⟨E, 3, none⟩) HwE.out _
      have aE : a.block ≠ E := Nat.ne_of_lt h2
      have Ea : E ≠ a.block := Ne.symm aE
      have ef3 : Y.frozen? ⟨E, 3, none⟩ = false := blk_free y6 3
      have ef4 : Y.frozen? ⟨E, 4, none⟩ = false := blk_free y6 4
      have e3 : Y.cell? ⟨E, 3, none⟩ = some (.int .i64 0) := blk_at y6 3 rfl
      have e4 : Y.cell? ⟨E, 4, none⟩ = some (.string ⟨#[]⟩) := blk_at y6 4 rfl
      clear HY HPS Hv Hn Hr y1 y2 y3 y4 y5 y6 y7 y8 y9
      go_wp2
      rw [← hF]
      go_meet
      exact HF.out
  case rest =>
    obtain ⟨h1, h2, h3, h4, h5⟩ := hcut.out
    rename World => w9
    have H1 : Hid (JdAt w9 b j K) := h1
    have H2 : Hid (CcAt w9 D j.sn.s j.sn.h j.sn.g j.sn.n j.sn.v) := h2
    have H3 : Hid (Kept (One b) w w9) := h3
    have H4 : Hid (w9.heap[R]? = some (.cells #[.int .i64 r.kd, .string (bs r.v), .int .i64 r.n, .slice ko r.ks.length kc] 50 (0, 0))) := h4
    have H5 : Hid (CcAt w9 E 0 j.sn.h 0 n' v') := h5
    clear hcut h1 h2 h3 h4 h5 HY
    apply_assumption
    exact jrT23 w w9 b D E R j u K v' n' r ko kc H1 H2 H5 H4 H3 Hv Hn Hr Hu _ _ _ _ _ _ _ _ _ _ _ _ _ _ _ _ _ _ _ _ _ _ _ _ _ _ _ _ _ _ _ _ _ _ _ _ _ _ _ _ _ _ _ _ _ _ _ _ _ _ _ _ _ _ _ _ _ _ _ _ _ _ _ _ _ _ _ _ _ _ _ _ _ _ _ _ _ _ _ _ _ _ _ _ _ _ _ _ _ _ _ _ _ _ _ _ _ _ _ _ _ _ _ _ _ _ _ _ _ _ _ _ _ _ _ _ _ _ _ _ _ _ _ _ _ _ _ _ _ _ _ _ _ _ _ _ _ _ _ _ _ _ _ _ _ _ _ _ _ _ _ _ _ _ _
end Go.Proofs.YtflnjlbafchnaaaGreatDoor
