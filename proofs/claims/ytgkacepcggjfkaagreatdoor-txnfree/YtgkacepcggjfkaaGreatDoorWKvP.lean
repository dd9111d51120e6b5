/-
  KvMap, plainly: pairs, and beside them keys with their values.
-/
import Derived.Test.YtgkacepcggjfkaaGreatDoorWKv12
namespace Go.Proofs.YtgkacepcggjfkaaGreatDoor
open Go.RowKit

theorem mem_iff_at {ps : List Pr} {p : Pr} : p ∈ ps ↔ ∃ j, ∃ hj : j < ps.length, ps[j] = p := List.mem_iff_getElem
theorem there_no {key : List UInt8} {ps : List Pr} (h : Srt ps) (ht : isThere key ps = false) : ∀ p ∈ ps, p.k ≠ key := fun p hp e => by
  obtain ⟨j, hj, rfl⟩ := List.getElem_of_mem hp
  have := getP_hit h hj e
  unfold getP at this
  rw [ht] at this
  simp at this
theorem there_yes {key : List UInt8} {ps : List Pr} (h : Srt ps) {p : Pr} (hp : p ∈ ps) (e : p.k = key) : isThere key ps = true := by
  cases ht : isThere key ps with
  | true => rfl
  | false => exact absurd e (there_no h ht p hp)
theorem there_low {key : List UInt8} {ps : List Pr} (h : Srt ps) {j : Nat} (hj : j < ps.length) (e : ps[j].k = key) : lowP key ps = j := by
  have g := getP_hit h hj e
  have ht := there_yes h (List.getElem_mem hj) e
  unfold getP at g
  rw [ht] at g
  simp at g
  omega
theorem spot_at {key : List UInt8} {ps : List Pr} (h : Srt ps) {p : Pr} (hp : p ∈ ps) (e : p.k = key) : spotV key ps = p.v ∧ spotN key ps = p.n := by
  obtain ⟨j, hj, rfl⟩ := List.getElem_of_mem hp
  have hl := there_low h hj e
  have ht := there_yes h hp e
  unfold spotV spotN
  rw [ht, hl, List.getElem?_eq_getElem hj]
  exact ⟨rfl, rfl⟩
theorem take_less {key : List UInt8} {ps : List Pr} {a : Pr} (ha : a ∈ ps.take (lowP key ps)) : lessB a.k key = true := by
  obtain ⟨j, hj, rfl⟩ := List.getElem_of_mem ha
  rw [List.length_take] at hj
  rw [List.getElem_take]
  exact lowP_lt (by omega) (by omega)
theorem drop_not {key : List UInt8} {ps : List Pr} (h : Srt ps) {a : Pr} (ha : a ∈ ps.drop (lowP key ps)) : lessB a.k key = false := by
  obtain ⟨j, hj, rfl⟩ := List.getElem_of_mem ha
  rw [List.length_drop] at hj
  rw [List.getElem_drop]
  exact lowP_ge h (by omega) (by omega)
theorem srt_ins {key : List UInt8} {ps : List Pr} (h : Srt ps) (ht : isThere key ps = false) {x : Pr} (hx : x.k = key) : Srt (insP (lowP key ps) x ps) := by
  have hd : ∀ q ∈ ps.drop (lowP key ps), lessB key q.k = true := fun q hq => less_total (drop_not h hq) (there_no h ht q (List.mem_of_mem_drop hq))
  unfold insP Srt
  rw [List.pairwise_append, List.pairwise_cons]
  refine ⟨h.sublist (List.take_sublist _ _), ⟨fun q hq => by rw [hx]; exact hd q hq, h.sublist (List.drop_sublist _ _)⟩, fun a ha b hb => ?_⟩
  rcases List.mem_cons.1 hb with rfl | hb
  · rw [hx]; exact take_less ha
  · exact less_trans (take_less ha) (hd b hb)
theorem srt_set {ps : List Pr} (h : Srt ps) {i : Nat} (hi : i < ps.length) {x : Pr} (hx : x.k = ps[i].k) : Srt (ps.set i x) := by
  have g := List.pairwise_iff_getElem.1 h
  refine List.pairwise_iff_getElem.2 fun a b ha hb hab => ?_
  rw [List.length_set] at ha hb
  rw [List.getElem_set, List.getElem_set]
  split <;> split
  · omega
  · rename_i e _
    subst e
    rw [hx]
    exact g i b hi hb hab
  · rename_i _ e
    subst e
    rw [hx]
    exact g a i ha hi hab
  · exact g a b ha hb hab
theorem srt_del {ps : List Pr} (h : Srt ps) (i : Nat) : Srt (delP i ps) := by
  unfold delP
  refine List.Pairwise.sublist ?_ h
  conv => rhs; rw [← List.take_append_drop i ps]
  refine List.Sublist.append (List.Sublist.refl _) ?_
  rw [show ps.drop (i + 1) = (ps.drop i).drop 1 by rw [List.drop_drop]]
  exact List.drop_sublist _ _
theorem mem_ins {i : Nat} {x p : Pr} {ps : List Pr} : p ∈ insP i x ps ↔ p = x ∨ p ∈ ps := by
  unfold insP
  constructor
  · intro h
    rcases List.mem_append.1 h with h | h
    · exact .inr (List.mem_of_mem_take h)
    · rcases List.mem_cons.1 h with h | h
      · exact .inl h
      · exact .inr (List.mem_of_mem_drop h)
  · rintro (rfl | h)
    · simp
    · rw [← List.take_append_drop i ps] at h
      rcases List.mem_append.1 h with h | h
      · exact List.mem_append_left _ h
      · exact List.mem_append_right _ (List.mem_cons_of_mem _ h)
theorem mem_set_of {i : Nat} {x p : Pr} {ps : List Pr} (hi : i < ps.length) (hp : p ∈ ps) (hne : p.k ≠ ps[i].k) : p ∈ ps.set i x := by
  obtain ⟨j, hj, rfl⟩ := List.getElem_of_mem hp
  have hji : i ≠ j := fun e => by subst e; exact hne rfl
  have : (ps.set i x)[j]'(by rw [List.length_set]; exact hj) = ps[j] := by rw [List.getElem_set, if_neg hji]
  rw [← this]
  exact List.getElem_mem _
theorem mem_set_new {i : Nat} {x : Pr} {ps : List Pr} (hi : i < ps.length) : x ∈ ps.set i x := List.mem_iff_getElem.2 ⟨i, by rw [List.length_set]; exact hi, by rw [List.getElem_set, if_pos rfl]⟩
theorem nodup_inj {l : List (List UInt8)} (h : l.Nodup) {i j : Nat} (hi : i < l.length) (hj : j < l.length) (e : l[i] = l[j]) : i = j := by
  have g := List.pairwise_iff_getElem.1 h
  rcases Nat.lt_trichotomy i j with h1 | h1 | h1
  · exact absurd e (g i j hi hj h1)
  · exact h1
  · exact absurd e.symm (g j i hj hi h1)
theorem mem_del_of {i : Nat} {p : Pr} {ps : List Pr} (hi : i < ps.length) (hp : p ∈ ps) (hne : p.k ≠ ps[i].k) : p ∈ delP i ps := by
  unfold delP
  rw [← List.take_append_drop i ps] at hp
  rcases List.mem_append.1 hp with h | h
  · exact List.mem_append_left _ h
  · rw [List.drop_eq_getElem_cons hi] at h
    rcases List.mem_cons.1 h with rfl | h
    · exact absurd rfl hne
    · exact List.mem_append_right _ h
theorem mem_del {i : Nat} {p : Pr} {ps : List Pr} (hp : p ∈ delP i ps) : p ∈ ps := by
  unfold delP at hp
  rcases List.mem_append.1 hp with h | h
  · exact List.mem_of_mem_take h
  · exact List.mem_of_mem_drop h
/-- What KvMap holds of a map: pairs, and beside them keys with their values. -/
structure MI (t : Int) (ps : List Pr) (ks vs : List (List UInt8)) : Prop where
  ok : pairsOk ps = true
  lk : ks.length = ps.length
  lv : vs.length = ps.length
  nd : ks.Nodup
  has : ∀ j, (hj : j < ks.length) → (hv : j < vs.length) → ∃ p ∈ ps, p.k = ks[j] ∧ p.v = vs[j]
  all : ∀ p ∈ ps, p.k ∈ ks
  ver : ∀ p ∈ ps, p.n ≤ t
theorem MI.zero : MI 0 [] [] [] := ⟨rfl, rfl, rfl, List.nodup_nil, fun j hj _ => absurd hj (by simp), (fun p hp => by cases hp), (fun p hp => by cases hp)⟩
theorem MI.mono {t t' : Int} {ps : List Pr} {ks vs : List (List UInt8)} (h : MI t ps ks vs) (ht : t ≤ t') : MI t' ps ks vs := ⟨h.ok, h.lk, h.lv, h.nd, h.has, h.all, fun p hp => Int.le_trans (h.ver p hp) ht⟩
theorem ok_of {ps : List Pr} (h1 : ps.length ≤ 32) (h2 : Srt ps) (h3 : ∀ p ∈ ps, prOk p = true) : pairsOk ps = true := by
  unfold pairsOk
  rw [decide_eq_true h1, srt_rise h2 h3 (fun x hx => by cases hx)]
  rfl
theorem MI.look {t : Int} {ps : List Pr} {ks vs : List (List UInt8)} (h : MI t ps ks vs) {j : Nat} (hj : j < ks.length) (hv : j < vs.length) : isThere ks[j] ps = true ∧ spotV ks[j] ps = vs[j] := by
  obtain ⟨p, hp, e1, e2⟩ := h.has j hj hv
  obtain ⟨_, hs, _⟩ := pairs_ok h.ok
  exact ⟨there_yes hs hp e1, by rw [(spot_at hs hp e1).1, e2]⟩
theorem MI.absent {t : Int} {ps : List Pr} {ks vs : List (List UInt8)} (h : MI t ps ks vs) {key : List UInt8} (hk : key ∉ ks) : isThere key ps = false := by
  cases ht : isThere key ps with
  | false => rfl
  | true =>
    obtain ⟨hl, e, _⟩ := there_at ht
    exact absurd (e ▸ h.all _ (List.getElem_mem hl)) hk
theorem prOk_mk {key x : List UInt8} {n : Int} (h1 : key ≠ []) (h2 : key.length ≤ 16) (h3 : x.length ≤ 64) (h4 : 1 ≤ n) (h5 : n ≤ 1099511627775) : prOk ⟨key, x, n⟩ = true := by
  unfold prOk isCnt
  simp [h1, h2, h3, h4, h5]
theorem MI.ins {t : Int} {ps : List Pr} {ks vs : List (List UInt8)} (h : MI t ps ks vs) {key x : List UInt8} (hk : key ∉ ks) (hl : ps.length < 32) (h1 : key ≠ []) (h2 : key.length ≤ 16) (h3 : x.length ≤ 64) (ht : 0 ≤ t) : MI (t + 1) (insP (lowP key ps) ⟨key, x, 0 + 1⟩ ps) (ks ++ [key]) (vs ++ [x]) := by
  obtain ⟨_, hs, hp⟩ := pairs_ok h.ok
  have hab := h.absent hk
  have hln : (insP (lowP key ps) ⟨key, x, 0 + 1⟩ ps).length = ps.length + 1 := insP_len (lowP_le key ps)
  refine ⟨ok_of (by rw [hln]; omega) (srt_ins hs hab rfl) (fun p hpp => ?_), by rw [hln, List.length_append, h.lk]; rfl, by rw [hln, List.length_append, h.lv]; rfl, ?_, fun j hj hv => ?_, fun p hpp => ?_, fun p hpp => ?_⟩
  · rcases mem_ins.1 hpp with rfl | hpp
    · exact prOk_mk h1 h2 h3 (by omega) (by omega)
    · exact hp p hpp
  · rw [List.nodup_append]
    refine ⟨h.nd, by simp, fun a ha b hb e => ?_⟩
    have : b = key := by simpa using hb
    subst this
    subst e
    exact hk ha
  · by_cases hjk : j < ks.length
    · rw [List.getElem_append_left hjk, List.getElem_append_left (by rw [h.lv, ← h.lk]; exact hjk)]
      obtain ⟨p, hpp, e⟩ := h.has j hjk (by rw [h.lv, ← h.lk]; exact hjk)
      exact ⟨p, mem_ins.2 (.inr hpp), e⟩
    · have e1 : j = ks.length := by rw [List.length_append] at hj; simp at hj; omega
      have e2 : ks.length = vs.length := by rw [h.lk, h.lv]
      refine ⟨⟨key, x, 0 + 1⟩, mem_ins.2 (.inl rfl), ?_, ?_⟩
      · rw [List.getElem_append_right (by omega)]; simp
      · rw [List.getElem_append_right (by omega)]; simp
  · rcases mem_ins.1 hpp with rfl | hpp
    · simp
    · exact List.mem_append_left _ (h.all p hpp)
  · rcases mem_ins.1 hpp with rfl | hpp
    · show (0 : Int) + 1 ≤ t + 1; omega
    · have := h.ver p hpp; omega
theorem MI.put {t : Int} {ps : List Pr} {ks vs : List (List UInt8)} (h : MI t ps ks vs) {x : List UInt8} {j : Nat} (hj : j < ks.length) (h3 : x.length ≤ 64) (ht : t < 1099511627775) : MI (t + 1) (ps.set (lowP ks[j] ps) ⟨ks[j], x, spotN ks[j] ps + 1⟩) ks (vs.set j x) := by
  obtain ⟨h32, hs, hp⟩ := pairs_ok h.ok
  obtain ⟨p0, hp0, e1, e2⟩ := h.has j hj (by rw [h.lv, ← h.lk]; exact hj)
  obtain ⟨i, hi, rfl⟩ := List.getElem_of_mem hp0
  have hl := there_low hs hi e1
  have hn := (spot_at hs hp0 e1).2
  have hv0 := h.ver _ hp0
  obtain ⟨g1, g2, g3, g4, g5⟩ := prOk_iff (hp _ hp0)
  rw [hl, hn]
  refine ⟨ok_of (by rw [List.length_set]; exact h32) (srt_set hs hi (by exact e1.symm)) (fun p hpp => ?_), by rw [List.length_set]; exact h.lk, by rw [List.length_set, List.length_set]; exact h.lv, h.nd, fun q hq hv => ?_, fun p hpp => ?_, fun p hpp => ?_⟩
  · rcases List.mem_or_eq_of_mem_set hpp with hpp | rfl
    · exact hp p hpp
    · rw [e1] at g1 g2
      exact prOk_mk g1 g2 h3 (by omega) (by omega)
  · rw [List.length_set] at hv
    by_cases hqj : j = q
    · subst hqj
      exact ⟨_, mem_set_new hi, rfl, by rw [List.getElem_set, if_pos rfl]⟩
    · obtain ⟨p, hpp, e3, e4⟩ := h.has q hq hv
      refine ⟨p, mem_set_of hi hpp (fun e => hqj ?_), e3, by rw [List.getElem_set, if_neg hqj]; exact e4⟩
      have : ks[j] = ks[q] := by rw [← e1, ← e, e3]
      exact nodup_inj h.nd hj hq this
  · rcases List.mem_or_eq_of_mem_set hpp with hpp | rfl
    · exact h.all p hpp
    · exact List.getElem_mem hj
  · rcases List.mem_or_eq_of_mem_set hpp with hpp | rfl
    · have := h.ver p hpp; omega
    · show ps[i].n + 1 ≤ t + 1; omega
theorem MI.del {t : Int} {ps : List Pr} {ks vs : List (List UInt8)} (h : MI t ps ks vs) {j : Nat} (hj : j < ks.length) : MI t (delP (lowP ks[j] ps) ps) (ks.take j ++ ks.drop (j + 1)) (vs.take j ++ vs.drop (j + 1)) := by
  obtain ⟨h32, hs, hp⟩ := pairs_ok h.ok
  obtain ⟨p0, hp0, e1, e2⟩ := h.has j hj (by rw [h.lv, ← h.lk]; exact hj)
  obtain ⟨i, hi, rfl⟩ := List.getElem_of_mem hp0
  have hl := there_low hs hi e1
  rw [hl]
  have hln := delP_len hi
  have hnd : (ks.take j ++ ks.drop (j + 1)).Nodup := by
    have := h.nd
    rw [← List.take_append_drop j ks] at this
    refine List.Nodup.sublist ?_ this
    refine List.Sublist.append (List.Sublist.refl _) ?_
    rw [show ks.drop (j + 1) = (ks.drop j).drop 1 by rw [List.drop_drop]]
    exact List.drop_sublist _ _
  have hat : ∀ (zs : List (List UInt8)) (q : Nat) (hq : q < (zs.take j ++ zs.drop (j + 1)).length) (hz : j < zs.length), ∃ hr : (if q < j then q else q + 1) < zs.length, (zs.take j ++ zs.drop (j + 1))[q] = zs[if q < j then q else q + 1] := fun zs q hq hz => by
    have hq' := hq
    rw [List.length_append, List.length_take, List.length_drop] at hq'
    by_cases hqj : q < j
    · refine ⟨by rw [if_pos hqj]; omega, ?_⟩
      rw [List.getElem_append_left (by rw [List.length_take]; omega), List.getElem_take]
      simp only [if_pos hqj]
    · refine ⟨by rw [if_neg hqj]; omega, ?_⟩
      rw [List.getElem_append_right (by rw [List.length_take]; omega), List.getElem_drop]
      simp only [if_neg hqj, List.length_take, Nat.min_eq_left (Nat.le_of_lt hz)]
      congr 1
      omega
  refine ⟨ok_of (by rw [hln]; omega) (srt_del hs i) (fun p hpp => hp p (mem_del hpp)), ?_, ?_, hnd, fun q hq hv => ?_, fun p hpp => ?_, fun p hpp => h.ver p (mem_del hpp)⟩
  · rw [hln, List.length_append, List.length_take, List.length_drop]; have := h.lk; omega
  · rw [hln, List.length_append, List.length_take, List.length_drop]; have := h.lv; have := h.lk; omega
  · obtain ⟨r1, f1⟩ := hat ks q hq hj
    obtain ⟨r2, f2⟩ := hat vs q hv (by rw [h.lv, ← h.lk]; exact hj)
    obtain ⟨p, hpp, e3, e4⟩ := h.has _ r1 r2
    rw [f1, f2]
    refine ⟨p, mem_del_of hi hpp (fun e => ?_), e3, e4⟩
    have hx : ks[if q < j then q else q + 1] = ks[j] := by rw [← e3, e, e1]
    have := nodup_inj h.nd r1 hj hx
    split at this <;> omega
  · have hk := h.all p (mem_del hpp)
    obtain ⟨m, hm, e3⟩ := List.getElem_of_mem hk
    have hmj : m ≠ j := fun e => by
      subst e
      -- the deleted key
      obtain ⟨u, hu, e4⟩ := List.getElem_of_mem hpp
      unfold delP at hpp
      rcases List.mem_append.1 hpp with hq | hq
      · obtain ⟨a, ha, e5⟩ := List.getElem_of_mem hq
        rw [List.length_take] at ha
        rw [List.getElem_take] at e5
        have hlt := List.pairwise_iff_getElem.1 hs a i (by omega) hi (by omega)
        rw [e5, e1, ← e3, less_irrefl] at hlt
        cases hlt
      · obtain ⟨a, ha, e5⟩ := List.getElem_of_mem hq
        rw [List.length_drop] at ha
        rw [List.getElem_drop] at e5
        have hlt := List.pairwise_iff_getElem.1 hs i (i + 1 + a) hi (by omega) (by omega)
        rw [e5, e1, ← e3, less_irrefl] at hlt
        cases hlt
    rw [← e3]
    by_cases hlt : m < j
    · refine List.mem_append_left _ ?_
      rw [List.mem_take_iff_getElem]
      exact ⟨m, by omega, rfl⟩
    · refine List.mem_append_right _ ?_
      rw [List.mem_drop_iff_getElem]
      exact ⟨m - (j + 1), by omega, by congr 1; omega⟩

end Go.Proofs.YtgkacepcggjfkaaGreatDoor
