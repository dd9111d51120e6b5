/-
  TxnFree: could it be committed?
-/
import Derived.Test.YtgkacepcggjfkaaGreatDoorWTfE
import Derived.Test.YtgkacepcggjfkaaGreatDoorWTx4
namespace Go.Proofs.YtgkacepcggjfkaaGreatDoor
open Go.RowKit

set_option maxRecDepth 1000000 in
set_option maxHeartbeats 40000000 in
theorem tfTail25 (w w1 X : World) (n0 pc c B L oc : Nat) (es : List Eb) (own : List Pt) (T : Nat → Tx) (ps : List Pr) (pa oa : Option Addr) (fv0 fv1 fv2 fv3 fv4 fv5 fv6 fv7 fv8 fv9 fv10 fv12 fv13 fv14 fv15 fv16 fv17 fv20 fv21 fv22 fv23 fv24 fv25 fv26 fv27 fv28 fv29 fv30 fv31 fv32 fv33 fv34 fv35 fv36 fv37 fv38 fv39 fv40 fv41 fv42 fv43 fv44 fv45 fv46 fv47 fv48 fv49 fv50 fv51 fv52 fv53 fv54 fv55 fv56 fv57 fv58 fv59 fv60 fv61 fv62 fv63 fv64 fv65 fv66 fv67 fv68 fv69 fv70 fv71 fv72 fv73 fv74 fv75 fv76 fv77 fv78 fv79 fv80 fv81 fv82 fv83 fv84 fv85 fv86 fv87 fv88 fv89 fv90 fv91 fv92 fv93 fv94 fv95 fv96 fv97 fv98 fv99 fv100 fv101 fv102 fv103 fv104 fv105 fv106 fv107 fv108 fv109 fv110 fv111 fv112 fv113 fv114 fv115 fv116 fv117 fv118 fv119 fv120 fv121 fv122 fv123 fv124 fv125 fv126 fv127 fv128 fv129 fv130 fv131 fv132 fv133 fv134 fv135 fv136 fv137 fv138 fv139 fv140 fv141 fv142 fv143 fv144 fv145 fv146 fv147 fv148 fv149 fv150 fv151 fv152 fv153 fv154 fv155 fv156 fv157 fv158 fv159 fv160 fv161 fv162 fv163 fv164 fv165 fv166 fv167 fv168 fv169 fv170 fv171 fv172 fv173 fv174 fv175 fv176 fv177 fv178 fv179 fv180 fv181 fv182 fv183 fv184 fv185 fv186 fv187 fv188 fv189 fv190 fv191 fv192 fv193 fv194 fv195 fv196 fv197 fv198 fv199 fv200 fv201 : Value)
    (HM0 : Hid (FS w w1 n0 es B (St.of ps).num own X T ps pa pc c 0)) (HL : Hid (LD w)) (HN : Hid (∀ p ∈ own, (((St.of ps).num p.k : Nat) : Int) + p.a ≤ 999999999)) (HO : Hid (OwnT n0 X oa oc own)) (HT : Hid (Tam own)) (HLL : Hid (L = own.length)) (hl7 : es.length ≤ 7) (hc : c ≤ 900000) :
    Code.wp Tryz.prog fT25 (bodyPost Tryz.prog Tryz.f5 fun e w' => e = .returned (.bool true) ∧ Kept Nil w w') ⟨#[fv0, fv1, fv2, fv3, fv4, fv5, fv6, fv7, fv8, fv9, fv10, .slice pa ps.length pc, fv12, fv13, fv14, fv15, fv16, fv17, .slice oa L oc, .pointer (some ⟨B, 0, none⟩), fv20, fv21, fv22, fv23, fv24, fv25, fv26, fv27, fv28, fv29, fv30, fv31, fv32, fv33, fv34, fv35, fv36, fv37, fv38, fv39, fv40, fv41, fv42, fv43, fv44, fv45, fv46, fv47, fv48, fv49, fv50, fv51, fv52, fv53, fv54, fv55, fv56, fv57, fv58, fv59, fv60, fv61, fv62, fv63, fv64, fv65, fv66, fv67, fv68, fv69, fv70, fv71, fv72, fv73, fv74, fv75, fv76, fv77, fv78, fv79, fv80, fv81, fv82, fv83, fv84, fv85, fv86, fv87, fv88, fv89, fv90, fv91, fv92, fv93, fv94, fv95, fv96, fv97, fv98, fv99, fv100, fv101, fv102, fv103, fv104, fv105, fv106, fv107, fv108, fv109, fv110, fv111, fv112, fv113, fv114, fv115, fv116, fv117, fv118, fv119, fv120, fv121, fv122, fv123, fv124, fv125, fv126, fv127, fv128, fv129, fv130, fv131, fv132, fv133, fv134, fv135, fv136, fv137, fv138, fv139, fv140, fv141, fv142, fv143, fv144, fv145, fv146, fv147, fv148, fv149, fv150, fv151, fv152, fv153, fv154, fv155, fv156, fv157, fv158, fv159, fv160, fv161, fv162, fv163, fv164, fv165, fv166, fv167, fv168, fv169, fv170, fv171, fv172, fv173, fv174, fv175, fv176, fv177, fv178, fv179, fv180, fv181, fv182, fv183, fv184, fv185, fv186, fv187, fv188, fv189, fv190, fv191, fv192, fv193, fv194, fv195, fv196, fv197, fv198, fv199, fv200, fv201], []⟩ X := by
  conv => arg 2; whnf
  dsimp only
  have hL3 : L ≤ 3 := by rw [HLL.out]; exact HT.out.1.len
  go_upto_block 4 with fail
  go_cut [21, 22] from 119 to 141 (fun v _ wc => Hid (∃ cd : Bool, v = .bool cd ∧ (cd = true ↔ ∀ p ∈ own, 0 ≤ (((St.of ps).num p.k : Nat) : Int) + p.a) ∧ Kept Nil X wc))
  case first =>
    go_wp2_with fail
    go_loopw [21, 22] (fun v u wr => ∃ (i : Nat) (cd : Bool), i ≤ L ∧ v = .bool cd ∧ u = .int .i64 i ∧ Hid (cd = true ↔ ∀ (j : Nat) (p : Pt), own[j]? = some p → j < i → 0 ≤ (((St.of ps).num p.k : Nat) : Int) + p.a) ∧ Hid (Kept Nil X wr)) (fun _ u _ => L - (intOf u).toNat)
    case atStart => exact ⟨0, true, Nat.zero_le _, rfl, rfl, ⟨fun _ j p _ hj => absurd hj (Nat.not_lt_zero _), fun _ => rfl⟩, Kept.refl _ _⟩
    case round =>
      obtain ⟨i, cd, hi, rfl, rfl, HC, HK⟩ := hrel
      by_cases hlt : i < L
      · have hii : (i : Int) < L := by omega
        have hil : i < own.length := by rw [← HLL.out]; exact hlt
        obtain ⟨p, HP⟩ : ∃ p : Pt, Hid (p = own[i]) := ⟨own[i], (rfl : own[i] = own[i])⟩
        have HPS : Hid (own[i]? = some p) := by show _ = _; rw [HP.out]; exact List.getElem?_eq_getElem hil
        have HPM : Hid (p ∈ own) := List.mem_of_getElem? HPS.out
        obtain ⟨q, hq, HCL⟩ : ∃ q, oa = some q ∧ Hid (∀ Y, Kept Nil X Y → Y.cell? (q.add (i * 2)) = some (.string (bs p.k)) ∧ Y.cell? ⟨(q.add (i * 2)).block, (q.add (i * 2)).off + 1, none⟩ = some (.int .i64 p.a)) := by
          obtain ⟨q, h1, _⟩ := HO.out.row i hil
          refine ⟨q, h1, fun Y kY => ?_⟩
          obtain ⟨q', e1, _, e2, e3⟩ := (HO.out.keptX kY (fun _ _ _ x => x)).row i hil
          rw [h1] at e1
          cases e1
          rw [← HP.out] at e2 e3
          exact ⟨e2, e3⟩
        subst hq
        cases cd with
        | true =>
          obtain ⟨z, HZ⟩ : ∃ z : Int, Hid (z = (((St.of ps).num p.k : Nat) : Int)) := ⟨_, rfl⟩
          have hkl : p.k.length ≤ 15 := by obtain ⟨x, _, e⟩ := HT.out.1.key p HPM.out; rw [e]; show 1 ≤ 15; decide
          have NU : ∀ Y, Kept Nil X Y → Calls Tryz.prog 23 #[.slice pa ps.length pc, .string (bs p.k)] Y fun e w' => e = .returned (.int .i64 z) ∧ Kept Nil Y w' := fun Y kY => by
            have hm := HM0.out.next kY
            obtain ⟨q1, q2, q3⟩ := hm.mf.pairs
            have := number_any _ pc pa ps p.k Y (HL.out.kept hm.mf.kw) q1 q2 q3 (by omega)
            rw [num_of hm.mf.run.room.ok hkl, ← HZ.out] at this
            exact this
          have hz0 : 0 ≤ z := by rw [HZ.out]; omega
          have hz1 : z ≤ 999999999 := by
            rw [HZ.out]
            have : (St.of ps).num p.k ≤ 999999999 := settled_most (hdOf_ok _) _
            omega
          have ha := HT.out.1.add p HPM.out
          have hwz : IntKind.i64.wrap (z + p.a) = z + p.a := by rw [IntKind.wrap_i64]; omega
          have KD : Hid (Kept Nil X wr.drew) := HK.out.drew
          have sD := HCL.out wr.drew KD.out
          have NU1 := NU wr.drew KD.out
          obtain ⟨cd2, HC2⟩ : ∃ b : Bool, Hid (b = decide (0 ≤ z + p.a)) := ⟨_, rfl⟩
          have HCN : Hid (cd2 = true ↔ ∀ (j : Nat) (p : Pt), own[j]? = some p → j < i + 1 → 0 ≤ (((St.of ps).num p.k : Nat) : Int) + p.a) := by
            rw [HC2.out, decide_eq_true_eq, HZ.out]
            refine ⟨fun h j p' hp' hj => ?_, fun h => h i p HPS.out (by omega)⟩
            by_cases ej : j < i
            · exact HC.out.1 rfl j p' hp' ej
            · have e2 : j = i := by omega
              rw [e2, HPS.out] at hp'
              cases hp'
              exact h
          have hgq : decide (z + p.a ≥ 0) = cd2 := HC2.out.symm
          have hgq2 : decide (0 ≤ z + p.a) = cd2 := HC2.out.symm
          clear ha
          go_upto_region 29 with fail
          go_region_held3 (fun w' => w'.cell? (q.add (i * 2)) = some (.string (bs p.k)) ∧ w'.cell? ⟨(q.add (i * 2)).block, (q.add (i * 2)).off + 1, none⟩ = some (.int .i64 p.a)) (first | assumption | go_keep) (first | (go_at_call 23; go_must (go_fit NU1; rintro e wa ⟨rfl, ka⟩; have Ka : Hid (Kept Nil X wa) := KD.out.trans ka; have sc := HCL.out wa Ka.out)))
          all_goals
            go_wp2
            (try rw [hgq])
            (try rw [hgq2])
            go_roundw
            case rel => exact ⟨i + 1, cd2, by omega, rfl, by go_num, HCN.out, Ka.out⟩
            case measure => simp [intOf]; omega
        | false =>
          have HCN : Hid (false = true ↔ ∀ (j : Nat) (p : Pt), own[j]? = some p → j < i + 1 → 0 ≤ (((St.of ps).num p.k : Nat) : Int) + p.a) := ⟨fun h => (by cases h), fun h => HC.out.2 (fun j p hp hj => h j p hp (by omega))⟩
          go_upto_region 29 with fail
          go_quiet (fail)
          go_wp2
          go_roundw
          case rel => exact ⟨i + 1, false, by omega, rfl, by go_num, HCN.out, HK.out.drewN _⟩
          case measure => simp [intOf]; omega
      · obtain rfl : i = L := by omega
        have hirr : ¬ (i : Int) < i := by omega
        have HF : Hid (∃ cd' : Bool, (.bool cd : Value) = .bool cd' ∧ (cd' = true ↔ ∀ p ∈ own, 0 ≤ (((St.of ps).num p.k : Nat) : Int) + p.a) ∧ Kept Nil X wr) := by
          refine ⟨cd, rfl, ?_, HK.out⟩
          rw [HC.out]
          refine ⟨fun h p hp => ?_, fun h j p hp _ => h p (List.mem_of_getElem? hp)⟩
          obtain ⟨j, hj, e⟩ := List.getElem_of_mem hp
          exact h j p (by rw [← e]; exact List.getElem?_eq_getElem hj) (by rw [HLL.out]; exact hj)
        go_wp2
        go_meet
        exact HF.out
  case rest =>
    obtain ⟨cd, e21, hcd, kX⟩ := hcut.out
    subst e21
    rename World => w6
    have HM6 : Hid (FS w w1 n0 es B (St.of ps).num own w6 T ps pa pc c 0) := HM0.out.next kX
    clear hcut
    apply_assumption
    exact tfTail30 w w1 w6 n0 pc c B es (St.of ps).num own T ps pa cd _ _ _ _ _ _ _ _ _ _ _ _ _ _ _ _ _ _ _ _ _ _ _ _ _ _ _ _ _ _ _ _ _ _ _ _ _ _ _ _ _ _ _ _ _ _ _ _ _ _ _ _ _ _ _ _ _ _ _ _ _ _ _ _ _ _ _ _ _ _ _ _ _ _ _ _ _ _ _ _ _ _ _ _ _ _ _ _ _ _ _ _ _ _ _ _ _ _ _ _ _ _ _ _ _ _ _ _ _ _ _ _ _ _ _ _ _ _ _ _ _ _ _ _ _ _ _ _ _ _ _ _ _ _ _ _ _ _ _ _ _ _ _ _ _ _ _ _ _ _ _ _ _ _ _ _ _ _ _ _ _ _ _ _ _ _ _ _ _ _ _ _ _ _ _ _ _ _ _ _ _ _ _ _ _ _ _ _ _ _ _ _ _ _ _ _ _ _ _ HM6 HL HN hcd hl7 hc
end Go.Proofs.YtgkacepcggjfkaaGreatDoor
