/-
  Joined: WKv9, WKvN.
-/
import Derived.Test.YtflnjlbafchnaaaGreatDoorWOld
import Derived.Test.YtflnjlbafchnaaaGreatDoorWKv4
/-
  kv: the keys that begin with a key.
-/
namespace Go.Proofs.YtflnjlbafchnaaaGreatDoor
open Go.RowKit

def prefB (s p : List UInt8) : Bool := decide (s.take p.length = p)
set_option maxRecDepth 100000 in
set_option maxHeartbeats 1000000 in
theorem prefixL_any (s p : List UInt8) (w : World) :
    Calls Tryz.prog 171 #[.string (bs s), .string (bs p)] w fun e w' => e = .returned (.bool (prefB s p)) ∧ w' = w := by
  have hds : (bs s).size = s.length := bs_size _
  have hdp : (bs p).size = p.length := bs_size _
  obtain ⟨r, HR⟩ : ∃ r : Bool, Hid (r = prefB s p) := ⟨_, rfl⟩
  rw [← HR.out]
  by_cases hl : p.length ≤ s.length
  · have hli : (p.length : Int) ≤ (s.length : Int) := by omega
    go_enter Tryz.func171, Tryz.ntmps171
    go_wp2
    go_ret
    refine ⟨?_, rfl⟩
    rw [HR.out]
    unfold prefB
    rw [← bs_beqK, ← bs_take]
    rfl
  · have hli : ¬ (p.length : Int) ≤ (s.length : Int) := by omega
    have HF : Hid (r = false) := by
      show _ = _
      rw [HR.out]
      unfold prefB
      rw [decide_eq_false_iff_not]
      intro e
      have := congrArg List.length e
      rw [List.length_take] at this
      omega
    go_enter Tryz.func171, Tryz.ntmps171
    go_wp2
    go_ret
    exact ⟨by rw [HF.out]; rfl, rfl⟩

set_option maxRecDepth 100000 in
set_option maxHeartbeats 1000000 in
theorem prefix_any (s p : List UInt8) (w : World) :
    Calls Tryz.prog 153 #[.string (bs s), .string (bs p)] w fun e w' => e = .returned (.bool (prefB s p)) ∧ w' = w := by
  go_enter Tryz.func153, Tryz.ntmps153
  go_wp2_with fail
  go_fit (prefixL_any s p w)
  rintro e w1 ⟨rfl, rfl⟩
  go_wp2
  go_ret
  exact ⟨rfl, rfl⟩
def plcP (p : Pr → Bool) (fs : List Pr) : Int := if fs.findIdx p < fs.length then (fs.findIdx p : Int) else -1
theorem plcP_hit {p : Pr → Bool} {fs : List Pr} {k : Nat} (hk : k < fs.length) (hp : p fs[k] = true) (hn : ∀ j, (hj : j < fs.length) → j < k → p fs[j] = false) : plcP p fs = k := by
  have : fs.findIdx p = k := (List.findIdx_eq hk).2 ⟨hp, fun j hj => hn j (by omega) hj⟩
  unfold plcP
  rw [this, if_pos hk]
theorem plcP_miss {p : Pr → Bool} {fs : List Pr} (hn : ∀ j, (hj : j < fs.length) → p fs[j] = false) : plcP p fs = -1 := by
  have : fs.findIdx p = fs.length := List.findIdx_eq_length.2 (fun x hx => by
    obtain ⟨j, hj, rfl⟩ := List.getElem_of_mem hx
    exact hn j hj)
  unfold plcP
  rw [this, if_neg (by omega)]
/-- What the closure asks: is the key no longer ahead? -/
def offK (key : List UInt8) (p : Pr) : Bool := !prefB p.k key
set_option maxRecDepth 100000 in
set_option maxHeartbeats 1000000 in
theorem offK_any (f : Pr) (key : List UInt8) (C b : Nat) (w : World) (hc : w.cell? ⟨C, 0, none⟩ = some (.pointer (some ⟨b, 0, none⟩))) (hk : w.cell? ⟨b, 0, none⟩ = some (.string (bs key))) :
    Calls Tryz.prog 152 #[.agg #[.string (bs f.k), .string (bs f.v), .int .i64 f.n], .pointer (some ⟨C, 0, none⟩)] w fun e w' => e = .returned (.bool (offK key f)) ∧ Kept Nil w w' := by
  have PF := fun X => prefix_any f.k key X
  obtain ⟨r, HR⟩ : ∃ r : Bool, Hid (r = prefB f.k key) := ⟨_, rfl⟩
  have HK : Hid (offK key f = !r) := by show _ = _; rw [HR.out]; rfl
  rw [HK.out]
  rw [← HR.out] at PF
  have hl1 := World.block_lt_of_cell? w _ hc
  have hl2 := World.block_lt_of_cell? w _ hk
  simp only at hl1 hl2
  go_enter Tryz.func152, Tryz.ntmps152
  go_wp2_with fail
  go_region_with (go_at_call 153; go_must (go_fit (PF _)); rintro e w1 ⟨rfl, rfl⟩)
  all_goals
    go_wp2
    go_ret
    exact ⟨rfl, ((Kept.refl _ _).alloc _).drew⟩

set_option maxRecDepth 100000 in
set_option maxHeartbeats 2000000 in
theorem indexP_any (B c C b : Nat) (ao : Option Addr) (fs : List Pr) (key : List UInt8) (w : World) (h : PairRow B w ao fs) (hl : (fs.length : Int) ≤ 9223372036854775807) (hc : w.cell? ⟨C, 0, none⟩ = some (.pointer (some ⟨b, 0, none⟩))) (hkk : w.cell? ⟨b, 0, none⟩ = some (.string (bs key))) :
    Calls Tryz.prog 151 #[.slice ao fs.length c, .func (.func 152) #[] #[.pointer (some ⟨C, 0, none⟩)]] w fun e w' => e = .returned (.int .i64 (plcP (offK key) fs)) ∧ Kept Nil w w' := by
  have HR : Hid (PairRow B w ao fs) := h
  have PF := fun (X : World) (hX : Kept Nil w X) (f : Pr) => offK_any f key C b X (cell_kept hX (fun _ x => x) hc) (cell_kept hX (fun _ x => x) hkk)
  obtain ⟨p, HP⟩ : ∃ p : Pr → Bool, Hid (p = offK key) := ⟨_, rfl⟩
  rw [← HP.out] at PF ⊢
  clear h hc hkk
  go_enter Tryz.func151, Tryz.ntmps151
  go_wp2
  go_loopw [8] (fun i wr => ∃ k : Nat, k ≤ fs.length ∧ i = .int .i64 k ∧ Hid (∀ j, (hj : j < fs.length) → j < k → p fs[j] = false) ∧ Hid (Kept Nil w wr)) (fun i _ => fs.length - (intOf i).toNat)
  case atStart => exact ⟨0, Nat.zero_le _, rfl, fun j _ h => by omega, Kept.refl _ _⟩
  case round =>
    obtain ⟨k, hk, rfl, HN, HK⟩ := hrel
    by_cases hlt : k < fs.length
    · obtain ⟨a, rfl, hb, hc0, hc1, hc2, _, _⟩ := HR.out.nil HK.out k hlt
      have hki : (k : Int) < fs.length := by omega
      obtain ⟨y, HY⟩ : ∃ y : Pr, Hid (y = fs[k]) := ⟨fs[k], (rfl : fs[k] = fs[k])⟩
      rw [← HY.out] at hc0 hc1 hc2
      have PY := PF wr HK.out y
      cases hp : p y with
      | true =>
        rw [hp] at PY
        have HPY : Hid (p y = true) := hp
        clear hp
        go_wp2_with fail
        go_fit PY
        rintro e w1 ⟨rfl, k1⟩
        have K1 : Hid (Kept Nil w w1) := HK.out.trans k1
        clear k1 PY
        go_wp2
        go_ret
        exact ⟨by rw [plcP_hit hlt (by rw [← HY.out]; exact HPY.out) HN.out]; rfl, K1.out⟩
      | false =>
        rw [hp] at PY
        have HPY : Hid (p y = false) := hp
        clear hp
        go_wp2_with fail
        go_fit PY
        rintro e w1 ⟨rfl, k1⟩
        have K1 : Hid (Kept Nil w w1) := HK.out.trans k1
        clear k1 PY
        go_wp2
        go_roundw
        case rel => exact ⟨k + 1, by omega, by go_num, fun j hj hjk => (by
          by_cases e : j = k
          · subst e; rw [← HY.out]; exact HPY.out
          · exact HN.out j hj (by omega)), K1.out⟩
        case measure => simp [intOf]; omega
    · obtain rfl : k = fs.length := by omega
      go_wp2
      go_ret
      exact ⟨by rw [plcP_miss (fun j hj => HN.out j hj hj)]; rfl, HK.out⟩

end Go.Proofs.YtflnjlbafchnaaaGreatDoor

/-
  The map, plainly: what the document's loops make of sorted pairs.
-/
namespace Go.Proofs.YtflnjlbafchnaaaGreatDoor
open Go.RowKit

/-- The pairs whose keys begin with a key, so many at most (0: all). -/
def listP (key : List UInt8) (most : Int) (L : List Pr) : List Pr := if 0 < most ∧ most < ((L.take (L.findIdx (offK key))).length : Int) then (L.take (L.findIdx (offK key))).take most.toNat else L.take (L.findIdx (offK key))
theorem pref_cons (c a : UInt8) (q k : List UInt8) : prefB (c :: q) (a :: k) = (c == a && prefB q k) := by
  unfold prefB
  simp [Bool.beq_eq_decide_eq]
theorem pref_nil (q : List UInt8) : prefB q [] = true := by simp [prefB]
theorem nil_pref (a : UInt8) (k : List UInt8) : prefB [] (a :: k) = false := by simp [prefB]
theorem pref_less : ∀ (s p : List UInt8), prefB s p = true → lessB s p = false
  | s, [], _ => less_nil_right s
  | [], a :: p, h => by rw [nil_pref] at h; cases h
  | c :: s, a :: p, h => by
    rw [pref_cons] at h
    simp only [Bool.and_eq_true, beq_iff_eq] at h
    obtain ⟨rfl, h⟩ := h
    rw [less_cons, pref_less s p h]
    have : ¬ c < c := by rw [UInt8.lt_iff_toNat_lt]; omega
    simp [this]
theorem off_mono : ∀ (key p q : List UInt8), lessB p key = false → prefB p key = false → lessB p q = true → prefB q key = false
  | [], p, _, _, h, _ => by rw [pref_nil] at h; cases h
  | a :: k, [], _, h, _, _ => by cases h
  | a :: k, b :: p, [], _, _, h => by rw [less_nil_right] at h; cases h
  | a :: k, b :: p, c :: q, h1, h2, h3 => by
    rw [less_cons] at h1 h3
    rw [pref_cons] at h2 ⊢
    simp only [Bool.or_eq_false_iff, decide_eq_false_iff_not] at h1
    simp only [Bool.or_eq_true, decide_eq_true_eq, Bool.and_eq_true, beq_iff_eq] at h3
    by_cases hca : c = a
    · subst hca
      rcases h3 with h3 | ⟨rfl, h3⟩
      · exact absurd h3 h1.1
      · have i1 : lessB p k = false := by simpa using h1.2
        have i2 : prefB p k = false := by simpa using h2
        simp [off_mono k p q i1 i2 h3]
    · simp [hca]
theorem filter_run (key : List UInt8) : ∀ {L : List Pr}, Srt L → (∀ p ∈ L, lessB p.k key = false) → L.filter (fun p => prefB p.k key) = L.take (L.findIdx (offK key))
  | [], _, _ => rfl
  | p :: t, h, hl => by
    obtain ⟨g1, g2⟩ := List.pairwise_cons.1 h
    rw [List.findIdx_cons]
    cases hp : prefB p.k key with
    | true =>
      rw [List.filter_cons_of_pos (by exact hp), show offK key p = false by unfold offK; rw [hp]; rfl]
      simp only [cond_false, List.take_succ_cons]
      rw [filter_run key g2 (fun x hx => hl x (List.mem_cons_of_mem _ hx))]
    | false =>
      rw [List.filter_cons_of_neg (by rw [hp]; simp), show offK key p = true by unfold offK; rw [hp]; rfl]
      simp only [cond_true, List.take_zero]
      rw [List.filter_eq_nil_iff]
      intro q hq
      rw [off_mono key p.k q.k (hl p (by simp)) hp (g1 q hq)]
      simp
theorem filter_all {key : List UInt8} {ps : List Pr} (h : Srt ps) : ps.filter (fun p => prefB p.k key) = (ps.drop (lowP key ps)).take ((ps.drop (lowP key ps)).findIdx (offK key)) := by
  have hd : Srt (ps.drop (lowP key ps)) := h.sublist (List.drop_sublist _ _)
  rw [← filter_run key hd (fun p hp => by
    obtain ⟨j, hj, rfl⟩ := List.getElem_of_mem hp
    rw [List.length_drop] at hj
    rw [List.getElem_drop]
    exact lowP_ge h (by omega) (by omega))]
  conv => lhs; rw [← List.take_append_drop (lowP key ps) ps, List.filter_append]
  have : (ps.take (lowP key ps)).filter (fun p => prefB p.k key) = [] := by
    rw [List.filter_eq_nil_iff]
    intro p hp hx
    obtain ⟨j, hj, rfl⟩ := List.getElem_of_mem hp
    rw [List.length_take] at hj
    rw [List.getElem_take] at hx
    have h1 := lowP_lt (key := key) (ps := ps) (j := j) (by omega) (by omega)
    rw [pref_less _ _ hx] at h1
    cases h1
  rw [this, List.nil_append]
/-- One round of the document's put. -/
def stepP (key : List UInt8) (x : Pr) (s : List Pr × Bool) (p : Pr) : List Pr × Bool :=
  let t := if s.2 = false ∧ lessB p.k key = false then (s.1 ++ [x], true) else s
  if p.k = key then t else (t.1 ++ [p], t.2)
def foldP (key : List UInt8) (x : Pr) (ps : List Pr) : List Pr × Bool := ps.foldl (stepP key x) ([], false)
def outP (key : List UInt8) (x : Pr) (ps : List Pr) : List Pr := if (foldP key x ps).2 = true then (foldP key x ps).1 else (foldP key x ps).1 ++ [x]
theorem foldP_snoc {key : List UInt8} {x : Pr} {ps : List Pr} {k : Nat} (hk : k < ps.length) : foldP key x (ps.take (k + 1)) = stepP key x (foldP key x (ps.take k)) ps[k] := by
  unfold foldP
  rw [List.take_succ_eq_append_getElem hk, List.foldl_append]
  rfl
theorem fold_less (key : List UInt8) (x : Pr) : ∀ (A : List Pr) (o : List Pr), (∀ p ∈ A, lessB p.k key = true) → A.foldl (stepP key x) (o, false) = (o ++ A, false)
  | [], o, _ => by simp
  | p :: t, o, h => by
    have h0 := h p (by simp)
    have hne : p.k ≠ key := fun e => by rw [e, less_irrefl] at h0; cases h0
    rw [List.foldl_cons, show stepP key x (o, false) p = (o ++ [p], false) by unfold stepP; simp [h0, hne], fold_less key x t _ (fun q hq => h q (by simp [hq]))]
    simp
theorem fold_done (key : List UInt8) (x : Pr) : ∀ (A : List Pr) (o : List Pr), (∀ p ∈ A, p.k ≠ key) → A.foldl (stepP key x) (o, true) = (o ++ A, true)
  | [], o, _ => by simp
  | p :: t, o, h => by
    have h0 := h p (by simp)
    rw [List.foldl_cons, show stepP key x (o, true) p = (o ++ [p], true) by unfold stepP; simp [h0], fold_done key x t _ (fun q hq => h q (by simp [hq]))]
    simp
theorem there_getElem {key : List UInt8} {ps : List Pr} (hl : lowP key ps < ps.length) : isThere key ps = decide (ps[lowP key ps].k = key) := by
  unfold isThere
  rw [List.getElem?_eq_getElem hl]
theorem there_end {key : List UInt8} {ps : List Pr} (hl : ¬ lowP key ps < ps.length) : isThere key ps = false := by
  unfold isThere
  rw [List.getElem?_eq_none (by omega)]
theorem ne_past {key : List UInt8} {ps : List Pr} (h : Srt ps) {j : Nat} (hj : j < ps.length) (hl : lowP key ps < j) : ps[j].k ≠ key := fun e => by
  have h1 := List.pairwise_iff_getElem.1 h (lowP key ps) j (by omega) hj hl
  rw [e, lowP_ge h (by omega) (Nat.le_refl _)] at h1
  cases h1
theorem ne_before {key : List UInt8} {ps : List Pr} {j : Nat} (hj : j < ps.length) (hl : j < lowP key ps) : ps[j].k ≠ key := fun e => by
  have h1 := lowP_lt hj hl
  rw [e, less_irrefl] at h1
  cases h1
theorem out_is {key : List UInt8} {x : Pr} {ps : List Pr} (h : Srt ps) : outP key x ps = if isThere key ps = true then ps.set (lowP key ps) x else insP (lowP key ps) x ps := by
  have hf : foldP key x ps = (ps.drop (lowP key ps)).foldl (stepP key x) (ps.take (lowP key ps), false) := by
    unfold foldP
    conv => lhs; rw [← List.take_append_drop (lowP key ps) ps, List.foldl_append]
    rw [fold_less key x (ps.take (lowP key ps)) [] (fun p hp => by
      obtain ⟨j, hj, rfl⟩ := List.getElem_of_mem hp
      rw [List.length_take] at hj
      rw [List.getElem_take]
      exact lowP_lt (by omega) (by omega)), List.nil_append]
  by_cases hl : lowP key ps < ps.length
  · have hr : ∀ p ∈ ps.drop (lowP key ps + 1), p.k ≠ key := fun p hp => by
      obtain ⟨j, hj, rfl⟩ := List.getElem_of_mem hp
      rw [List.length_drop] at hj
      rw [List.getElem_drop]
      exact ne_past h (by omega) (by omega)
    rw [List.drop_eq_getElem_cons hl, List.foldl_cons] at hf
    have h0 := lowP_ge h hl (Nat.le_refl _)
    by_cases he : ps[lowP key ps].k = key
    · rw [there_getElem hl, if_pos (by simp [he])]
      have hs : stepP key x (ps.take (lowP key ps), false) ps[lowP key ps] = (ps.take (lowP key ps) ++ [x], true) := by unfold stepP; simp [he, less_irrefl]
      rw [hs, fold_done key x _ _ hr] at hf
      unfold outP
      rw [hf, if_pos rfl, List.set_eq_take_append_cons_drop, if_pos hl]
      simp
    · rw [there_getElem hl, if_neg (by simp [he])]
      have hs : stepP key x (ps.take (lowP key ps), false) ps[lowP key ps] = (ps.take (lowP key ps) ++ [x] ++ [ps[lowP key ps]], true) := by unfold stepP; simp [h0, he]
      rw [hs, fold_done key x _ _ hr] at hf
      unfold outP insP
      rw [hf, if_pos rfl]
      conv => rhs; rw [List.drop_eq_getElem_cons hl]
      simp
  · rw [there_end hl, if_neg (by simp)]
    rw [List.drop_eq_nil_of_le (by omega), List.foldl_nil] at hf
    unfold outP insP
    rw [hf, if_neg (by simp), List.drop_eq_nil_of_le (by omega)]
/-- The number of a key's pair; -1: there is none. -/
def getP (key : List UInt8) (ps : List Pr) : Int := if isThere key ps = true then (lowP key ps : Int) else -1
theorem getP_hit {key : List UInt8} {ps : List Pr} (h : Srt ps) {j : Nat} (hj : j < ps.length) (he : ps[j].k = key) : getP key ps = j := by
  have h1 : lowP key ps = j := by
    by_cases a : lowP key ps < j
    · exact absurd he (ne_past h hj a)
    · by_cases b : j < lowP key ps
      · exact absurd he (ne_before hj b)
      · omega
  unfold getP
  have h2 : ps[lowP key ps]'(by omega) = ps[j] := by simp only [h1]
  rw [there_getElem (by omega), if_pos (by rw [h2]; simp [he]), h1]
theorem getP_miss {key : List UInt8} {ps : List Pr} (hn : ∀ j, (hj : j < ps.length) → ps[j].k ≠ key) : getP key ps = -1 := by
  unfold getP
  rw [if_neg]
  by_cases hl : lowP key ps < ps.length
  · rw [there_getElem hl]
    simpa using hn _ hl
  · rw [there_end hl]
    simp
/-- One round of the document's list. -/
def stepL (key : List UInt8) (most : Int) (o : List (List UInt8)) (p : Pr) : List (List UInt8) := if prefB p.k key = true ∧ (most = 0 ∨ (o.length : Int) < most) then o ++ [p.k] else o
def foldL (key : List UInt8) (most : Int) (ps : List Pr) : List (List UInt8) := ps.foldl (stepL key most) []
theorem foldL_snoc {key : List UInt8} {most : Int} {ps : List Pr} {k : Nat} (hk : k < ps.length) : foldL key most (ps.take (k + 1)) = stepL key most (foldL key most (ps.take k)) ps[k] := by
  unfold foldL
  rw [List.take_succ_eq_append_getElem hk, List.foldl_append]
  rfl
def cutL (most : Int) (L : List Pr) : List Pr := if 0 < most ∧ most < (L.length : Int) then L.take most.toNat else L
theorem foldL_go (key : List UInt8) (most : Int) (hm : 0 ≤ most) : ∀ (ps : List Pr) (o : List Pr), ps.foldl (stepL key most) ((cutL most o).map Pr.k) = (cutL most (o ++ ps.filter (fun p => prefB p.k key))).map Pr.k
  | [], o => by simp
  | p :: t, o => by
    rw [List.foldl_cons]
    cases hp : prefB p.k key with
    | false =>
      rw [List.filter_cons_of_neg (by rw [hp]; simp), show stepL key most ((cutL most o).map Pr.k) p = (cutL most o).map Pr.k by unfold stepL; simp [hp]]
      exact foldL_go key most hm t o
    | true =>
      rw [List.filter_cons_of_pos (by exact hp)]
      have e : stepL key most ((cutL most o).map Pr.k) p = (cutL most (o ++ [p])).map Pr.k := by
        unfold stepL
        rw [List.length_map]
        by_cases h0 : most = 0
        · subst h0
          simp [cutL, hp]
        · by_cases hlt : (o.length : Int) < most
          · have e1 : cutL most o = o := by unfold cutL; rw [if_neg (by omega)]
            have e2 : cutL most (o ++ [p]) = o ++ [p] := by unfold cutL; rw [if_neg (by simp; omega)]
            rw [e1, e2, if_pos ⟨hp, Or.inr hlt⟩]
            simp
          · have e1 : cutL most o = o.take most.toNat := by
              unfold cutL
              split
              · rfl
              · rw [List.take_of_length_le (by omega)]
            have e2 : cutL most (o ++ [p]) = o.take most.toNat := by
              unfold cutL
              rw [if_pos (by simp; omega), List.take_append_of_le_length (by omega)]
            rw [e1, e2, if_neg]
            rw [List.length_take]
            omega
      rw [e, foldL_go key most hm t (o ++ [p])]
      simp
theorem foldL_is {key : List UInt8} {most : Int} {ps : List Pr} (h : Srt ps) (hm : 0 ≤ most) : foldL key most ps = (listP key most (ps.drop (lowP key ps))).map Pr.k := by
  have g := foldL_go key most hm ps []
  rw [show (cutL most ([] : List Pr)).map Pr.k = [] by unfold cutL; split <;> simp, List.nil_append, filter_all h] at g
  unfold foldL
  rw [g]
  rfl

end Go.Proofs.YtflnjlbafchnaaaGreatDoor
