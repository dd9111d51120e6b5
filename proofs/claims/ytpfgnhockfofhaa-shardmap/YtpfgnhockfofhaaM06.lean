/-
  Joined: WDg4.
-/
import Derived.Test.YtpfgnhockfofhaaM04
/-
  Delegations: slices.CompactFunc: of bounds of one host that stand one behind the other the first stays.
-/
namespace Go.Proofs.Ytpfgnhockfofhaa
open Go.RowKit

/-- The first of each run of one host. -/
def cmpF : Option Int → List Bd → List Bd
  | _, [] => []
  | p, x :: t => (if p = some x.h then [] else [x]) ++ cmpF (some x.h) t
def lastH : Option Int → List Bd → Option Int
  | p, [] => p
  | _, x :: t => lastH (some x.h) t
theorem cmpF_snoc (x : Bd) : ∀ (l : List Bd) (p : Option Int), cmpF p (l ++ [x]) = cmpF p l ++ (if lastH p l = some x.h then [] else [x])
  | [], p => by
    show (if p = some x.h then [] else [x]) ++ [] = [] ++ (if p = some x.h then [] else [x])
    rw [List.append_nil, List.nil_append]
  | y :: t, p => by
    show (if p = some y.h then [] else [y]) ++ cmpF (some y.h) (t ++ [x]) = ((if p = some y.h then [] else [y]) ++ cmpF (some y.h) t) ++ (if lastH (some y.h) t = some x.h then [] else [x])
    rw [cmpF_snoc x t, List.append_assoc]
theorem lastH_snoc (x : Bd) : ∀ (l : List Bd) (p : Option Int), lastH p (l ++ [x]) = some x.h
  | [], _ => rfl
  | _ :: t, _ => lastH_snoc x t _
def compB (l : List Bd) : List Bd := cmpF none l
theorem lastH_take {l : List Bd} {k : Nat} (h0 : 0 < k) (hk : k ≤ l.length) : lastH none (l.take k) = some (l[k - 1]'(by omega)).h := by
  obtain ⟨m, rfl⟩ : ∃ m, k = m + 1 := ⟨k - 1, by omega⟩
  rw [List.take_succ_eq_append_getElem (by omega), lastH_snoc]
  rfl
theorem compB_next {l : List Bd} {k : Nat} (h0 : 0 < k) (hk : k < l.length) : compB (l.take (k + 1)) = compB (l.take k) ++ (if l[k].h = (l[k - 1]'(by omega)).h then [] else [l[k]]) := by
  unfold compB
  rw [List.take_succ_eq_append_getElem hk, cmpF_snoc, lastH_take h0 (by omega)]
  congr 1
  by_cases e : l[k].h = (l[k - 1]'(by omega)).h
  · rw [if_pos e, if_pos (by rw [e])]
  · rw [if_neg e, if_neg (fun h => e (Option.some.inj h).symm)]
theorem compB_one {l : List Bd} (h : l.length < 2) : compB l = l := by
  match l, h with
  | [], _ => rfl
  | [x], _ => rfl
theorem cmpF_len : ∀ (l : List Bd) (p : Option Int), (cmpF p l).length ≤ l.length
  | [], _ => Nat.le_refl _
  | x :: t, p => by
    show ((if p = some x.h then [] else [x]) ++ cmpF (some x.h) t).length ≤ _
    rw [List.length_append, List.length_cons]
    have := cmpF_len t (some x.h)
    split <;> simp <;> omega

theorem OwnB.cell2 {B g c j : Nat} {w : World} {ps : List Bd} (h : OwnB B w (some ⟨g, 0, none⟩) c ps) (hj : j < ps.length) : w.cell? ⟨g, j * 2, none⟩ = some (.string (bs ps[j].f)) ∧ w.cell? ⟨g, j * 2 + 1, none⟩ = some (.int .i64 ps[j].h) ∧ w.frozen? ⟨g, j * 2, none⟩ = false ∧ w.frozen? ⟨g, j * 2 + 1, none⟩ = false := by
  obtain ⟨g', e, _, _, _, _, hc⟩ := h.cells (by omega)
  cases e
  exact hc j hj
theorem OwnB.head {B g c i : Nat} {w : World} {fs : List Bd} (h : OwnB B w (some ⟨g, 0, none⟩) c fs) (hi : i ≤ fs.length) : OwnB B w (some ⟨g, 0, none⟩) c (fs.take i) := by
  obtain ⟨g', cs, e0, hb, hh, h1, h2, h3, h4⟩ := h.block (by simp)
  cases e0
  have hl : (fs.take i).length = i := by rw [List.length_take]; omega
  refine ⟨by rw [bdCells_len], .inr ⟨g, c, cs, rfl, hb, hh, by omega, h2, h3, ?_⟩⟩
  rw [hl, bdCells_take, ← h4, List.take_take, Nat.min_eq_left (by omega)]
theorem OwnB.behind {B g c o : Nat} {w : World} {fs : List Bd} (h : OwnB B w (some ⟨g, 0, none⟩) c fs) (ho : fs.length * 2 ≤ o) (vs : List Value) : OwnB B (w.setCells g o vs) (some ⟨g, 0, none⟩) c fs := by
  obtain ⟨g', cur, e0, hb, hh, h1, h2, h3, h4⟩ := h.block (by simp)
  cases e0
  obtain ⟨cs', e1, e2, e3⟩ := blk_setCellsK vs o w cur hh
  refine ⟨h.1, .inr ⟨g, c, cs', rfl, hb, e1, h1, h2, by rw [e2]; exact h3, ?_⟩⟩
  rw [← h4]
  apply List.ext_getElem?
  intro i
  rw [List.getElem?_take, List.getElem?_take]
  split
  · rename_i hi
    rw [Array.getElem?_toList, Array.getElem?_toList, e3 i, if_neg (by omega)]
  · rfl
theorem zeroBd_one (n : Nat) : ∀ v ∈ (Builtin.zeroCells (Value.cells (.agg #[.string ⟨#[]⟩, .int .i64 0])) n).toList, v.oneCell' = true := fun v hv => by
  obtain ⟨i, hi, rfl⟩ := List.getElem_of_mem hv
  simp [Builtin.zeroCells, Value.cells]
  have : i % 2 = 0 ∨ i % 2 = 1 := by omega
  rcases this with e | e <;> rw [e] <;> rfl
theorem zeroBd_len (n : Nat) : (Builtin.zeroCells (Value.cells (.agg #[.string ⟨#[]⟩, .int .i64 0])) n).toList.length = n * 2 := by simp [Builtin.zeroCells, Value.cells]
def zsBd (n : Nat) : List Value := (Builtin.zeroCells (Value.cells (.agg #[.string ⟨#[]⟩, .int .i64 0])) n).toList
theorem run_clearBd (w : World) (ty : TypeId) (b o n c : Nat) (hn : 0 < n) (hc : ∀ j, j < n * 2 → (w.cell? ⟨b, o + j, none⟩).isSome = true) (hf : ∀ j, j < n * 2 → w.frozen? ⟨b, o + j, none⟩ = false) :
    (Builtin.clear_ #[103] ty #[.slice (some ⟨b, o, none⟩) n c]).run Try.prog w = .ok (.tuple #[]) (w.setCells b o (zsBd n)) := by
  have hst := run_storeCells_cells (P := Try.prog) b o (Builtin.zeroCells (Value.cells (.agg #[.string ⟨#[]⟩, .int .i64 0])) n).toList 0 w (by rw [zeroBd_len]; simpa using hc) (by rw [zeroBd_len]; simpa using hf) (zeroBd_one n)
  simp only [Nat.add_zero] at hst
  obtain ⟨m, rfl⟩ : ∃ m, n = m + 1 := ⟨n - 1, by omega⟩
  unfold zsBd
  simp [Builtin.clear_, run_underlying Try.underlying103, hst]
theorem kept_oneB {g i : Nat} {w X : World} (h : Kept (One g) w X) (u : Value) : Kept (One g) w (X.setCell ⟨g, i, none⟩ u) := h.setCell (p := ⟨g, i, none⟩) (fun _ => rfl) u
theorem kept_onesB {g o : Nat} {w X : World} (h : Kept (One g) w X) (vs : List Value) : Kept (One g) w (X.setCells g o vs) := by
  have hg : X.grownBy (X.setCells g o vs) (some g) := grownBy_setCellsK g _ _ (grown_reflK _ _)
  refine h.trans ⟨hg.os, hg.tape, hg.output, hg.size, fun k ob ho hx => ?_⟩
  rw [hg.block k (lt_of_block ho) (fun e => hx (by cases e; rfl))]
  exact ho

set_option maxRecDepth 100000 in
set_option maxHeartbeats 4000000 in
theorem compactB_any (B c g : Nat) (fs : List Bd) (w : World) (h : OwnB B w (some ⟨g, 0, none⟩) c fs) :
    Calls Try.prog 73 #[.slice (some ⟨g, 0, none⟩) fs.length c, .func (.func 74) #[] #[]] w fun e w' => e = .returned (.slice (some ⟨g, 0, none⟩) (compB fs).length c) ∧ OwnB B w' (some ⟨g, 0, none⟩) c (compB fs) ∧ Kept (One g) w w' := by
  have HO : Hid (OwnB B w (some ⟨g, 0, none⟩) c fs) := h
  have PF := fun X (x y : Bd) => same_any x y X
  unfold bdV at PF
  obtain ⟨_, _, e0, _, _, hlc, hcm, _⟩ := h.block (by simp)
  clear e0
  have hcm : c ≤ 9223372036854775807 := hcm
  obtain ⟨rs, HRS⟩ : ∃ rs, Hid (rs = compB fs) := ⟨_, rfl⟩
  rw [← HRS.out]
  clear h
  by_cases h2 : fs.length < 2
  · have h2i : (fs.length : Int) < 2 := by omega
    have HE : Hid (rs = fs) := by show _ = _; rw [HRS.out]; exact compB_one h2
    rw [HE.out]
    go_enter Try.func73, Try.ntmps73
    go_wp2
    go_ret
    exact ⟨rfl, HO.out, Kept.refl _ _⟩
  · have h2i : ¬ (fs.length : Int) < 2 := by omega
    go_enter Try.func73, Try.ntmps73
    go_wp2
    go_loopw [5] (fun u wr => ∃ i : Nat, u = .int .i64 i ∧ 0 < i ∧ i ≤ fs.length ∧ Hid (compB (fs.take i) = fs.take i) ∧ Hid (Kept Nil w wr)) (fun u _ => fs.length - (intOf u).toNat)
    case atStart => exact ⟨1, rfl, by omega, by omega, compB_one (by rw [List.length_take]; omega), Kept.refl _ _⟩
    case round =>
      obtain ⟨i, rfl, hi0, hin, HC, HK⟩ := hrel
      by_cases hlt : i < fs.length
      · have hli : (i : Int) < fs.length := by omega
        have hl1 : i - 1 < fs.length := by omega
        have HR : Hid (OwnB B wr (some ⟨g, 0, none⟩) c fs) := HO.out.kept HK.out
        obtain ⟨c0, c1, _⟩ := HR.out.cell2 hlt
        obtain ⟨d0, d1, _⟩ := HR.out.cell2 hl1
        obtain ⟨y, HY⟩ : ∃ y : Bd, Hid (y = fs[i]) := ⟨fs[i], (rfl : fs[i] = fs[i])⟩
        obtain ⟨x, HX⟩ : ∃ x : Bd, Hid (x = fs[i - 1]) := ⟨fs[i - 1], (rfl : fs[i - 1] = fs[i - 1])⟩
        rw [← HY.out] at c0 c1
        rw [← HX.out] at d0 d1
        have hw1 : IntKind.i64.wrap ((i : Int) - 1) = ((i - 1 : Nat) : Int) := by rw [IntWalk.i64_in _ (by omega)]; omega
        have hi2 : ((i - 1 : Nat) : Int) < fs.length := by omega
        have PY := PF wr.drew y x
        have hlo : wr.cell? ⟨g, i * 2, none⟩ = some (.string (bs y.f)) ∧ wr.cell? ⟨g, i * 2 + 1, none⟩ = some (.int .i64 y.h) ∧ wr.cell? ⟨g, (i - 1) * 2, none⟩ = some (.string (bs x.f)) ∧ wr.cell? ⟨g, (i - 1) * 2 + 1, none⟩ = some (.int .i64 x.h) := ⟨c0, c1, d0, d1⟩
        by_cases he : y.h = x.h
        · have hd : decide (y.h = x.h) = true := decide_eq_true he
          rw [hd] at PY
          have HE : Hid (fs[i].h = fs[i - 1].h) := by show _ = _; rw [← HY.out, ← HX.out]; exact he
          clear hd he
          go_wp2_with fail
          go_region_held3 (fun w' => w'.cell? ⟨g, i * 2, none⟩ = some (.string (bs y.f)) ∧ w'.cell? ⟨g, i * 2 + 1, none⟩ = some (.int .i64 y.h) ∧ w'.cell? ⟨g, (i - 1) * 2, none⟩ = some (.string (bs x.f)) ∧ w'.cell? ⟨g, (i - 1) * 2 + 1, none⟩ = some (.int .i64 x.h)) (first | assumption | go_keep) (first | (go_fit PY; rintro e wa ⟨rfl, ka⟩; have Ka : Hid (Kept Nil wr wa) := (Kept.refl _ _).drew.trans ka; have q0 := cell_kept Ka.out (fun _ x => x) c0; have q1 := cell_kept Ka.out (fun _ x => x) c1; have q2 := cell_kept Ka.out (fun _ x => x) d0; have q3 := cell_kept Ka.out (fun _ x => x) d1))
          have HRa : Hid (OwnB B wa (some ⟨g, 0, none⟩) c fs) := HR.out.kept Ka.out
          have HKa : Hid (Kept Nil w wa) := HK.out.trans Ka.out
          have hic : (i : Int) < (c : Int) := by omega
          have hii : (i : Int) ≤ (fs.length : Int) := by omega
          clear q0 q1 q2 q3 c0 c1 d0 d1 hlo hw1 hi2 PY
          obtain ⟨wo, hwo⟩ : ∃ x : World, x = wr := ⟨_, rfl⟩
          rw [← hwo] at HR HK Ka
          clear hwo
          go_wp2
          go_loopw [5, 7] (fun u v wq => ∃ j k : Nat, ∃ gs : List Bd, u = .int .i64 j ∧ v = .int .i64 k ∧ 0 < k ∧ i + k ≤ fs.length ∧ i ≤ j ∧ j + 1 ≤ i + k ∧ Hid (gs.length = fs.length) ∧ Hid (gs.take j = compB (fs.take (i + k))) ∧ Hid (gs.drop (i + k - 1) = fs.drop (i + k - 1)) ∧ Hid (OwnB B wq (some ⟨g, 0, none⟩) c gs) ∧ Hid (Kept (One g) w wq)) (fun _ v _ => fs.length - (intOf v).toNat)
          case atStart => exact ⟨i, 1, fs, rfl, rfl, by omega, by omega, by omega, by omega, rfl, (by
            show fs.take i = compB (fs.take (i + 1))
            rw [compB_next hi0 hlt, HC.out, if_pos HE.out, List.append_nil]), rfl, HRa.out, HKa.out.mono (fun _ _ x => x.elim)⟩
          case round =>
            obtain ⟨j, k, gs, rfl, rfl, hk0, hkn, hij, hjk, HL, HT, HD, HG, HKq⟩ := hrel
            by_cases hkl : i + k < fs.length
            · have hki : (k : Int) < ((fs.length - i : Nat) : Int) := by omega
              have hkj : (k : Int) < (fs.length : Int) - (i : Int) := by omega
              have hgk : i + k < gs.length := by rw [HL.out]; exact hkl
              have hgk1 : i + (k - 1) < gs.length := by omega
              have hgj : j < gs.length := by omega
              obtain ⟨c0, c1, _⟩ := HG.out.cell2 hgk
              obtain ⟨d0, d1, _⟩ := HG.out.cell2 hgk1
              obtain ⟨_, _, z0, z1⟩ := HG.out.cell2 hgj
              obtain ⟨y', HY'⟩ : ∃ y : Bd, Hid (y = gs[i + k]) := ⟨gs[i + k], (rfl : gs[i + k] = gs[i + k])⟩
              obtain ⟨x', HX'⟩ : ∃ x : Bd, Hid (x = gs[i + (k - 1)]) := ⟨gs[i + (k - 1)], (rfl : gs[i + (k - 1)] = gs[i + (k - 1)])⟩
              rw [← HY'.out] at c0 c1
              rw [← HX'.out] at d0 d1
              rw [Nat.add_mul] at c0 c1 d0 d1
              have HYf : Hid (y' = fs[i + k]) := by
                show y' = fs[i + k]
                rw [HY'.out]
                have e := congrArg (fun l => l[1]?) HD.out
                simp only [List.getElem?_drop] at e
                rw [show i + k - 1 + 1 = i + k by omega, List.getElem?_eq_getElem hgk, List.getElem?_eq_getElem hkl] at e
                exact Option.some.inj e
              have HXf : Hid (x' = fs[i + k - 1]) := by
                show x' = fs[i + k - 1]
                rw [HX'.out]
                have e := congrArg (fun l => l[0]?) HD.out
                simp only [List.getElem?_drop, Nat.add_zero] at e
                rw [List.getElem?_eq_getElem (by omega), List.getElem?_eq_getElem (by omega)] at e
                have e := Option.some.inj e
                have e2 : gs[i + k - 1]'(by omega) = gs[i + (k - 1)] := by congr 1; omega
                rw [← e2]
                exact e
              have hw1 : IntKind.i64.wrap ((k : Int) - 1) = ((k - 1 : Nat) : Int) := by rw [IntWalk.i64_in _ (by omega)]; omega
              have hi2 : ((k - 1 : Nat) : Int) < ((fs.length - i : Nat) : Int) := by omega
              have PY := PF wr.drew y' x'
              by_cases he : y'.h = x'.h
              · have hd : decide (y'.h = x'.h) = true := decide_eq_true he
                rw [hd] at PY
                have HE' : Hid (fs[i + k].h = fs[i + k - 1].h) := by show _ = _; rw [← HYf.out, ← HXf.out]; exact he
                clear hd he
                go_wp2_with fail
                go_region_held3 (fun w' => w'.cell? ⟨g, i * 2 + k * 2, none⟩ = some (.string (bs y'.f)) ∧ w'.cell? ⟨g, i * 2 + k * 2 + 1, none⟩ = some (.int .i64 y'.h) ∧ w'.cell? ⟨g, i * 2 + (k - 1) * 2, none⟩ = some (.string (bs x'.f)) ∧ w'.cell? ⟨g, i * 2 + (k - 1) * 2 + 1, none⟩ = some (.int .i64 x'.h)) (first | assumption | go_keep) (first | (go_fit PY; rintro e wb ⟨rfl, kb⟩; have Kb : Hid (Kept Nil wr wb) := (Kept.refl _ _).drew.trans kb; have q0 := cell_kept Kb.out (fun _ x => x) c0; have q1 := cell_kept Kb.out (fun _ x => x) c1; have q2 := cell_kept Kb.out (fun _ x => x) d0; have q3 := cell_kept Kb.out (fun _ x => x) d1))
                go_wp2
                go_roundw
                case rel => exact ⟨j, k + 1, gs, rfl, by go_num, by omega, by omega, by omega, by omega, HL.out, (by
                  show gs.take j = compB (fs.take (i + (k + 1)))
                  rw [show i + (k + 1) = i + k + 1 by omega, compB_next (by omega) hkl, if_pos HE'.out, List.append_nil, HT.out]), (by
                  show gs.drop (i + (k + 1) - 1) = fs.drop (i + (k + 1) - 1)
                  rw [show i + (k + 1) - 1 = i + k - 1 + 1 by omega, ← List.drop_drop, ← List.drop_drop, HD.out]), HG.out.kept Kb.out, HKq.out.trans (Kb.out.mono (fun _ _ x => x.elim))⟩
                case measure => simp [intOf]; omega
              · have hd : decide (y'.h = x'.h) = false := decide_eq_false he
                rw [hd] at PY
                have HE' : Hid (¬ fs[i + k].h = fs[i + k - 1].h) := by show ¬ _; rw [← HYf.out, ← HXf.out]; exact he
                clear hd he
                go_wp2_with fail
                go_region_held3 (fun w' => w'.cell? ⟨g, i * 2 + k * 2, none⟩ = some (.string (bs y'.f)) ∧ w'.cell? ⟨g, i * 2 + k * 2 + 1, none⟩ = some (.int .i64 y'.h) ∧ w'.cell? ⟨g, i * 2 + (k - 1) * 2, none⟩ = some (.string (bs x'.f)) ∧ w'.cell? ⟨g, i * 2 + (k - 1) * 2 + 1, none⟩ = some (.int .i64 x'.h)) (first | assumption | go_keep) (first | (go_fit PY; rintro e wb ⟨rfl, kb⟩; have Kb : Hid (Kept Nil wr wb) := (Kept.refl _ _).drew.trans kb; have q0 := cell_kept Kb.out (fun _ x => x) c0; have q1 := cell_kept Kb.out (fun _ x => x) c1; have q2 := cell_kept Kb.out (fun _ x => x) d0; have q3 := cell_kept Kb.out (fun _ x => x) d1))
                have HGb : Hid (OwnB B wb (some ⟨g, 0, none⟩) c gs) := HG.out.kept Kb.out
                clear z0 z1
                obtain ⟨v0, v1, z0, z1⟩ := HGb.out.cell2 hgj
                have hji : (j : Int) < fs.length := by omega
                go_wp2
                go_roundw
                case rel => exact ⟨j + 1, k + 1, gs.set j y', by go_num, by go_num, by omega, by omega, by omega, by omega, (by show (gs.set j y').length = _; rw [List.length_set]; exact HL.out), (by
                  show (gs.set j y').take (j + 1) = compB (fs.take (i + (k + 1)))
                  rw [show i + (k + 1) = i + k + 1 by omega, compB_next (by omega) hkl, if_neg HE'.out, List.take_succ_eq_append_getElem (by rw [List.length_set]; exact hgj), List.getElem_set_self, List.take_set_of_le (Nat.le_refl _), HT.out, HYf.out]), (by
                  show (gs.set j y').drop (i + (k + 1) - 1) = fs.drop (i + (k + 1) - 1)
                  rw [List.drop_set_of_lt (by omega), show i + (k + 1) - 1 = i + k - 1 + 1 by omega, ← List.drop_drop, ← List.drop_drop, HD.out]), HGb.out.set2 hgj y', kept_oneB (kept_oneB (HKq.out.trans (Kb.out.mono (fun _ _ x => x.elim))) _) _⟩
                case measure => simp [intOf]; omega
            · have hkn2 : i + k = fs.length := by omega
              have hki : ¬ (k : Int) < ((fs.length - i : Nat) : Int) := by omega
              have hkj : ¬ (k : Int) < (fs.length : Int) - (i : Int) := by omega
              have hji : (j : Int) ≤ (fs.length : Int) := by omega
              have hjc : (j : Int) < (c : Int) := by omega
              have hlc2 : (fs.length : Int) ≤ (c : Int) := by omega
              obtain ⟨cs, hcs⟩ : ∃ cs, Hid (wr.heap[g]? = some (.cells cs 120 (0, 0)) ∧ cs.size = c * 2) := by
                obtain ⟨g', cs', e1, _, hh, _, _, h3, _⟩ := HG.out.block (by simp)
                cases e1
                exact ⟨cs', (⟨hh, h3⟩ : _ ∧ _)⟩
              have hcl : ∀ ty, (Builtin.clear_ #[103] ty #[.slice (some ⟨g, j * 2, none⟩) (fs.length - j) (c - j)]).run Try.prog wr = .ok (.tuple #[]) (wr.setCells g (j * 2) (zsBd (fs.length - j))) := fun ty => run_clearBd wr ty g (j * 2) (fs.length - j) (c - j) (by omega) (fun q hq => by rw [blk_cell hcs.out.1, Array.getElem?_eq_getElem (by rw [hcs.out.2]; omega)]; rfl) (fun q hq => blk_free hcs.out.1 _)
              have HF : Hid (gs.take j = rs) := by show _ = _; rw [HT.out, hkn2, List.take_length, HRS.out]
              have hli2 : Hid ((gs.take j).length = j) := by show _ = _; rw [List.length_take, HL.out]; omega
              go_wp2
              go_ret
              rw [← HF.out]
              exact ⟨by rw [hli2.out]; rfl, (HG.out.head (by rw [HL.out]; omega)).behind (by rw [hli2.out]; exact Nat.le_refl _) _, kept_onesB HKq.out _⟩
        · have hd : decide (y.h = x.h) = false := decide_eq_false he
          rw [hd] at PY
          have HE : Hid (¬ fs[i].h = fs[i - 1].h) := by show ¬ _; rw [← HY.out, ← HX.out]; exact he
          clear hd he
          go_wp2_with fail
          go_region_held3 (fun w' => w'.cell? ⟨g, i * 2, none⟩ = some (.string (bs y.f)) ∧ w'.cell? ⟨g, i * 2 + 1, none⟩ = some (.int .i64 y.h) ∧ w'.cell? ⟨g, (i - 1) * 2, none⟩ = some (.string (bs x.f)) ∧ w'.cell? ⟨g, (i - 1) * 2 + 1, none⟩ = some (.int .i64 x.h)) (first | assumption | go_keep) (first | (go_fit PY; rintro e wa ⟨rfl, ka⟩; have Ka : Hid (Kept Nil wr wa) := (Kept.refl _ _).drew.trans ka; have q0 := cell_kept Ka.out (fun _ x => x) c0; have q1 := cell_kept Ka.out (fun _ x => x) c1; have q2 := cell_kept Ka.out (fun _ x => x) d0; have q3 := cell_kept Ka.out (fun _ x => x) d1))
          go_wp2
          go_roundw
          case rel => exact ⟨i + 1, by go_num, by omega, by omega, (by
            show compB (fs.take (i + 1)) = fs.take (i + 1)
            rw [compB_next hi0 hlt, HC.out, if_neg HE.out, List.take_succ_eq_append_getElem hlt]), HK.out.trans Ka.out⟩
          case measure => simp [intOf]; omega
      · obtain rfl : i = fs.length := by omega
        have hirr : ¬ (fs.length : Int) < fs.length := by omega
        have HE : Hid (rs = fs) := by show _ = _; rw [HRS.out]; have := HC.out; rwa [List.take_length] at this
        go_wp2
        go_ret
        exact ⟨by rw [HE.out]; rfl, by rw [HE.out]; exact HO.out.kept HK.out, HK.out.mono (fun _ _ x => x.elim)⟩

end Go.Proofs.Ytpfgnhockfofhaa
