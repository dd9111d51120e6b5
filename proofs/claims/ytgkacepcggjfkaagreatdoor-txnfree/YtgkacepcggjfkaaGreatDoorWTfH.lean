/-
  TxnFree: the others' rounds.
-/
import Derived.Test.YtgkacepcggjfkaaGreatDoorWTfG
import Derived.Test.YtgkacepcggjfkaaGreatDoorWTfB
namespace Go.Proofs.YtgkacepcggjfkaaGreatDoor
open Go.RowKit

theorem off_xtF {w1 : World} {n0 g : Nat} {es : List Eb} {t : TypeId} {cs : Array Value} {fr : Nat × Nat} (h : ∀ e ∈ es, EbOk n0 w1 e) (hg : w1.heap[g]? = some (.cells cs t fr)) (h1 : t ≠ 106) : ∀ o, ¬ XT w1.heap.size w1.heap.size (InE es) (dOf es).b g o := fun o x => by
  have hl := lt_of_block hg
  rcases x with x | x | ⟨i, hi, x⟩
  · omega
  · omega
  · obtain ⟨c2, f2, hs⟩ := (h _ (enAt_mem hi).1).tx.type
    have x' : (enAt es i).b = g := x
    rw [x', hg] at hs
    simp at hs
    exact h1 hs.2.1
theorem LRF.of {w1 : World} {n0 lc : Nat} {es : List Eb} {la : Addr} (h : ∀ e ∈ es, EbOk n0 w1 e) (hl : LRow n0 w1 (some la) lc es) : LRF w1 es la := fun X hX k hk =>
  own_at hl hX (fun g cs hg => off_xtF h hg (by decide)) (by rw [List.getElem?_map, List.getElem?_eq_getElem hk]; rfl)
theorem FO.first {w w1 : World} {n0 : Nat} {es : List Eb} (h : ∀ e ∈ es, EbOk n0 w1 e) (ht : ∀ e ∈ es, Tam e.ps) (h6 : es.length ≤ 6) (hk : Kept Nil w w1) (hn : w.heap.size ≤ n0) (hn1 : n0 ≤ w1.heap.size) : FO w w1 n0 es w1 (tOf es) [] none 0 0 := by
  refine ⟨⟨⟨dOf es, rfl, TM.first h⟩, Run.first h (fun e he p hp => ?_), World.ownsRow_nil _ _ _ _, Kept.refl _ _, hk, fun _ hi => Nat.le_trans hn (h _ (enAt_mem hi).1).ge, hk.size, hn1⟩, fun k => .inl rfl, fun k => ?_, fun _ => rfl⟩
  · obtain ⟨i, hi, e2⟩ := (ht e he).1.key p hp
    rw [e2]
    exact (low_keys hi).1
  · have hl : ∀ l : List Nat, leftZ l (tOf es) = 9 * l.length := fun l => by
      induction l with
      | nil => rfl
      | cons x l ih =>
        unfold leftZ at ih ⊢
        simp only [List.map_cons, List.sum_cons, List.length_cons]
        rw [ih, if_neg (show ¬ (tOf es x).st = 2 from by show ¬ (1 : Nat) = 2; decide)]
        omega
    rw [hl, List.length_map, num_nil]
    omega
set_option maxRecDepth 1000000 in
set_option maxHeartbeats 40000000 in
theorem tfTail11 (w w1 : World) (n0 n lc tc mc : Nat) (es : List Eb) (lo ta ma : Option Addr) (ts : List Int) (ms : List Pt) (fv0 fv3 fv4 fv5 fv6 fv8 fv9 fv10 fv11 fv12 fv13 fv14 fv15 fv16 fv17 fv18 fv19 fv20 fv21 fv22 fv23 fv24 fv25 fv26 fv27 fv28 fv29 fv30 fv31 fv32 fv33 fv34 fv35 fv36 fv37 fv38 fv39 fv40 fv41 fv42 fv43 fv44 fv45 fv46 fv47 fv48 fv49 fv50 fv51 fv52 fv53 fv54 fv55 fv56 fv57 fv58 fv59 fv60 fv61 fv62 fv63 fv64 fv65 fv66 fv67 fv68 fv69 fv70 fv71 fv72 fv73 fv74 fv75 fv76 fv77 fv78 fv79 fv80 fv81 fv82 fv83 fv84 fv85 fv86 fv87 fv88 fv89 fv90 fv91 fv92 fv93 fv94 fv95 fv96 fv97 fv98 fv99 fv100 fv101 fv102 fv103 fv104 fv105 fv106 fv107 fv108 fv109 fv110 fv111 fv112 fv113 fv114 fv115 fv116 fv117 fv118 fv119 fv120 fv121 fv122 fv123 fv124 fv125 fv126 fv127 fv128 fv129 fv130 fv131 fv132 fv133 fv134 fv135 fv136 fv137 fv138 fv139 fv140 fv141 fv142 fv143 fv144 fv145 fv146 fv147 fv148 fv149 fv150 fv151 fv152 fv153 fv154 fv155 fv156 fv157 fv158 fv159 fv160 fv161 fv162 fv163 fv164 fv165 fv166 fv167 fv168 fv169 fv170 fv171 fv172 fv173 fv174 fv175 fv176 fv177 fv178 fv179 fv180 fv181 fv182 fv183 fv184 fv185 fv186 fv187 fv188 fv189 fv190 fv191 fv192 fv193 fv194 fv195 fv196 fv197 fv198 fv199 fv200 fv201 : Value)
    (HB : Hid (∀ e ∈ es, EbOk n0 w1 e)) (HLo : Hid (LRow n0 w1 lo lc es)) (Hn : Hid (n = es.length)) (hn6 : n ≤ 6) (HID : Hid (∀ j, (hj : j < es.length) → es[j].id = j + 1)) (HTM : Hid (∀ e ∈ es, Tam e.ps)) (HK : Hid (Kept Nil w w1)) (Hn0 : Hid (n0 = w.heap.size)) (HL : Hid (LD w)) (HRT : Hid (IntRow w.heap.size w ta ts)) (hts : (ts.length : Int) ≤ 16384) (HMI : Hid (PtRow w.heap.size w ma ms)) (hms : (ms.length : Int) ≤ 140737488355328) (HMK : Hid (∀ p ∈ ms, p.k.length ≤ 140737488355328)) :
    Code.wp Tryz.prog fT11 (bodyPost Tryz.prog Tryz.f5 fun e w' => e = .returned (.bool true) ∧ Kept Nil w w') ⟨#[fv0, .slice ta ts.length tc, .slice ma ms.length mc, fv3, fv4, fv5, fv6, .slice lo n lc, fv8, fv9, fv10, fv11, fv12, fv13, fv14, fv15, fv16, fv17, fv18, fv19, fv20, fv21, fv22, fv23, fv24, fv25, fv26, fv27, fv28, fv29, fv30, fv31, fv32, fv33, fv34, fv35, fv36, fv37, fv38, fv39, fv40, fv41, fv42, fv43, fv44, fv45, fv46, fv47, fv48, fv49, fv50, fv51, fv52, fv53, fv54, fv55, fv56, fv57, fv58, fv59, fv60, fv61, fv62, fv63, fv64, fv65, fv66, fv67, fv68, fv69, fv70, fv71, fv72, fv73, fv74, fv75, fv76, fv77, fv78, fv79, fv80, fv81, fv82, fv83, fv84, fv85, fv86, fv87, fv88, fv89, fv90, fv91, fv92, fv93, fv94, fv95, fv96, fv97, fv98, fv99, fv100, fv101, fv102, fv103, fv104, fv105, fv106, fv107, fv108, fv109, fv110, fv111, fv112, fv113, fv114, fv115, fv116, fv117, fv118, fv119, fv120, fv121, fv122, fv123, fv124, fv125, fv126, fv127, fv128, fv129, fv130, fv131, fv132, fv133, fv134, fv135, fv136, fv137, fv138, fv139, fv140, fv141, fv142, fv143, fv144, fv145, fv146, fv147, fv148, fv149, fv150, fv151, fv152, fv153, fv154, fv155, fv156, fv157, fv158, fv159, fv160, fv161, fv162, fv163, fv164, fv165, fv166, fv167, fv168, fv169, fv170, fv171, fv172, fv173, fv174, fv175, fv176, fv177, fv178, fv179, fv180, fv181, fv182, fv183, fv184, fv185, fv186, fv187, fv188, fv189, fv190, fv191, fv192, fv193, fv194, fv195, fv196, fv197, fv198, fv199, fv200, fv201], []⟩ w1 := by
  conv => arg 2; whnf
  dsimp only
  have hsz1 : n0 ≤ w1.heap.size := by rw [Hn0.out]; exact HK.out.size
  have HF0 : Hid (FO w w1 n0 es w1 (tOf es) [] none 0 0) := FO.first HB.out HTM.out (by rw [← Hn.out]; exact hn6) HK.out (by rw [Hn0.out]; exact Nat.le_refl _) hsz1
  have H6 : Hid (∀ e ∈ es, e.id ≤ 6) := fun e he => by
    obtain ⟨j, hj, e2⟩ := List.getElem_of_mem he
    have := HID.out j hj
    rw [e2] at this
    have := Hn.out
    omega
  have HND : Hid ((es.map Eb.id).Nodup) := by
    show List.Nodup _
    rw [List.nodup_iff_pairwise_ne, List.pairwise_iff_getElem]
    intro i j hi hj hlt
    simp only [List.getElem_map]
    rw [HID.out i (by simpa using hi), HID.out j (by simpa using hj)]
    omega
  have HA9 : Hid (∀ e ∈ es, ∀ p ∈ e.ps, p.a ≤ 9) := fun e he p hp => ((HTM.out e he).1.add p hp).2
  go_upto_block 2 with fail
  go_cut [11, 12, 13, 14, 15, 16, 17] from 66 to 105 (fun v _ _ _ _ _ _ wc => Hid (∃ (ps : List Pr) (pa : Option Addr) (pc c : Nat) (T : Nat → Tx), v = .slice pa ps.length pc ∧ c ≤ 16384 ∧ FO w w1 n0 es wc T ps pa pc c))
  case first =>
    go_wp2_with fail
    go_loopw [11, 12] (fun v u wr => ∃ (j : Nat) (ps : List Pr) (pa : Option Addr) (pc : Nat) (T : Nat → Tx), j ≤ ts.length ∧ v = .slice pa ps.length pc ∧ u = .int .i64 j ∧ Hid (FO w w1 n0 es wr T ps pa pc j)) (fun _ u _ => ts.length - (intOf u).toNat)
    case atStart => exact ⟨0, [], none, 0, tOf es, Nat.zero_le _, rfl, rfl, HF0.out⟩
    case round =>
      obtain ⟨j, ps, pa, pc, T, hj, rfl, rfl, HM⟩ := hrel
      clear HF0
      obtain ⟨wo, hwo⟩ : ∃ x : World, x = wr := ⟨_, rfl⟩
      rw [← hwo] at HM ⊢
      clear hwo
      have HOUT : Hid (∃ (ps' : List Pr) (pa' : Option Addr) (pc' c : Nat) (T : Nat → Tx), (.slice pa ps.length pc : Value) = .slice pa' ps'.length pc' ∧ c ≤ 16384 ∧ FO w w1 n0 es wo T ps' pa' pc' c) := ⟨ps, pa, pc, j, T, rfl, by omega, HM.out⟩
      by_cases hlt : j < ts.length
      · have hji : (j : Int) < ts.length := by omega
        have hjd : decide ((j : Int) < (ts.length : Int)) = true := decide_eq_true hji
        rcases Nat.eq_zero_or_pos n with hz | hz
        · have hnd : decide ((0 : Int) < (n : Int)) = false := decide_eq_false (by omega)
          have hnn : ¬ (0 : Int) < (n : Int) := by omega
          clear hz
          go_wp2
          go_meet
          exact HOUT.out
        · have hnd : (0 : Int) < (n : Int) := by omega
          obtain ⟨la, hla⟩ : ∃ x, lo = some x := by
            cases lo with
            | none => exact absurd (HLo.out.2.resolve_right (fun ⟨_, _, _, h, _⟩ => by simp at h)).2 (by have := Hn.out; omega)
            | some x => exact ⟨x, rfl⟩
          subst hla
          have HLR : Hid (LRF w1 es la) := LRF.of HB.out HLo.out
          obtain ⟨a, e1, _, c0⟩ := (HRT.out.nil HM.out.mf.kw) j hlt
          subst e1
          obtain ⟨z, HZ⟩ : ∃ z : Int, Hid (z = ts[j]) := ⟨ts[j], (rfl : ts[j] = ts[j])⟩
          rw [← HZ.out] at c0
          have PK := pickT_any z n wo hnd (by omega)
          obtain ⟨k, Hk⟩ : ∃ k : Nat, Hid (k = (z % (n : Int)).toNat) := ⟨_, rfl⟩
          have hk0 := Int.emod_nonneg z (show (n : Int) ≠ 0 by omega)
          have hk1 := Int.emod_lt_of_pos z hnd
          have HKZ : Hid (z % (n : Int) = (k : Int)) := by show _ = _; rw [Hk.out]; omega
          rw [HKZ.out] at PK
          have hkl : k < es.length := by have := HKZ.out; have := Hn.out; omega
          clear hk0 hk1
          go_upto_region 15 with fail
          go_cut [13] from 77 to 83 (fun u wc => u = .int .i64 k ∧ wc = wo)
          case first =>
            go_wp2_with fail
            go_fit PK
            rintro ee w2 ⟨rfl, hw2⟩
            rw [hw2]
            go_wp2
            go_meet
            exact ⟨rfl, rfl⟩
          case rest =>
            obtain ⟨e13, ew⟩ := hcut
            subst e13
            rw [ew]
            clear PK HOUT
            have en := Hn.out
            subst en
            apply_assumption
            refine tfTail16 w w1 wo n0 pc j k lc es T ps pa la es[k] _ _ _ _ _ _ _ _ _ _ _ _ _ _ _ _ _ _ _ _ _ _ _ _ _ _ _ _ _ _ _ _ _ _ _ _ _ _ _ _ _ _ _ _ _ _ _ _ _ _ _ _ _ _ _ _ _ _ _ _ _ _ _ _ _ _ _ _ _ _ _ _ _ _ _ _ _ _ _ _ _ _ _ _ _ _ _ _ _ _ _ _ _ _ _ _ _ _ _ _ _ _ _ _ _ _ _ _ _ _ _ _ _ _ _ _ _ _ _ _ _ _ _ _ _ _ _ _ _ _ _ _ _ _ _ _ _ _ _ _ _ _ _ _ _ _ _ _ _ _ _ _ _ _ _ _ _ _ _ _ _ _ _ _ _ _ _ _ _ _ _ _ _ _ _ _ _ _ _ _ _ _ _ _ _ _ _ _ _ _ _ _ _ _ _ _ _ _ _ _ _ ?_ HM HL HLR HA9 HND (by omega) (by omega) hkl rfl
            intro u11 u14 u15 u16 u17 u84 u85 u86 u87 u88 u89 u90 u91 u92 u93 u94 u95 u96 u97 u98 u99 u100 u101 u102 u103 u104 u105 ps2 pa2 pc2 T2 wz h1
            obtain ⟨e11, h1b⟩ := h1.out
            subst e11
            have HM2 : Hid (FO w w1 n0 es wz T2 ps2 pa2 pc2 (j + 1)) := h1b
            clear h1 h1b
            apply_assumption
            go_wp2
            go_roundw
            case rel =>
              first
                | exact ⟨j + 1, ps2, pa2, pc2, T2, by omega, rfl, by go_num, HM2.out⟩
                | ((repeat (apply Exists.intro)); refine ⟨?rr, rfl⟩; exact ⟨j + 1, ps2, pa2, pc2, T2, by omega, rfl, by go_num, HM2.out⟩)
            case measure => simp [intOf]; omega
      · obtain rfl : j = ts.length := by omega
        have hirr : ¬ (ts.length : Int) < ts.length := by omega
        have hjd : decide ((ts.length : Int) < (ts.length : Int)) = false := decide_eq_false hirr
        go_wp2
        go_meet
        exact HOUT.out
  case rest =>
    obtain ⟨ps, pa, pc, c, T, e11, hc, hF⟩ := hcut.out
    subst e11
    rename World => w6
    clear hcut HF0
    apply_assumption
    exact tfTail21 w w1 w6 n0 pc c mc es T ps pa ma ms _ _ _ _ _ _ _ _ _ _ _ _ _ _ _ _ _ _ _ _ _ _ _ _ _ _ _ _ _ _ _ _ _ _ _ _ _ _ _ _ _ _ _ _ _ _ _ _ _ _ _ _ _ _ _ _ _ _ _ _ _ _ _ _ _ _ _ _ _ _ _ _ _ _ _ _ _ _ _ _ _ _ _ _ _ _ _ _ _ _ _ _ _ _ _ _ _ _ _ _ _ _ _ _ _ _ _ _ _ _ _ _ _ _ _ _ _ _ _ _ _ _ _ _ _ _ _ _ _ _ _ _ _ _ _ _ _ _ _ _ _ _ _ _ _ _ _ _ _ _ _ _ _ _ _ _ _ _ _ _ _ _ _ _ _ _ _ _ _ _ _ _ _ _ _ _ _ _ _ _ _ _ _ _ _ _ _ _ _ _ _ _ _ _ _ _ _ _ _ _ hF HL HMI hms HMK H6 (by have := Hn.out; omega) (by omega) Hn0
end Go.Proofs.YtgkacepcggjfkaaGreatDoor
