/-
  Transactions, plainly: what a Get tells and a Swap makes of what stands under the keys.
-/
import Derived.Test.YtgkacepcggjfkaaGreatDoorWKvP
import Derived.Test.YtgkacepcggjfkaaGreatDoorWTx4
namespace Go.Proofs.YtgkacepcggjfkaaGreatDoor

theorem spot_abs {key : List UInt8} {ps : List Pr} (h : ∀ p ∈ ps, p.k ≠ key) : spotV key ps = [] ∧ spotN key ps = 0 := by
  have ht : isThere key ps = false := by
    cases ht : isThere key ps with
    | false => rfl
    | true =>
      obtain ⟨hl, e, _⟩ := there_at ht
      exact absurd e (h _ (List.getElem_mem hl))
  unfold spotV spotN
  rw [ht]
  simp
/-- Two maps that have the same pairs under a key say the same of it. -/
theorem spot_same {key : List UInt8} {ps qs : List Pr} (hp : Srt ps) (hq : Srt qs) (h : ∀ p : Pr, p.k = key → (p ∈ ps ↔ p ∈ qs)) : spotV key qs = spotV key ps ∧ spotN key qs = spotN key ps := by
  by_cases hc : ∃ p ∈ ps, p.k = key
  · obtain ⟨p, hm, e⟩ := hc
    have h1 := spot_at hp hm e
    have h2 := spot_at hq ((h p e).1 hm) e
    exact ⟨by rw [h1.1, h2.1], by rw [h1.2, h2.2]⟩
  · have h1 := spot_abs (key := key) (ps := ps) (fun p hm e => hc ⟨p, hm, e⟩)
    have h2 := spot_abs (key := key) (ps := qs) (fun p hm e => hc ⟨p, (h p e).2 hm, e⟩)
    exact ⟨by rw [h1.1, h2.1], by rw [h1.2, h2.2]⟩
/-- A Get. -/
theorem get_ap {ps : List Pr} {key : List UInt8} (hok : pairsOk ps = true) (hc : isCmd 2 key [] 0 = true) : apP 2 key [] 0 ps = ps ∧ apR 2 key [] 0 ps = (if spotN key ps = 0 then ⟨2, [], 0, []⟩ else ⟨1, spotV key ps, spotN key ps, []⟩) := by
  unfold apP apR
  rw [hok, hc]
  exact ⟨rfl, rfl⟩
theorem get_tells {ps : List Pr} {key : List UInt8} (hok : pairsOk ps = true) (hc : isCmd 2 key [] 0 = true) : tells ps key = spotV key ps := by
  unfold tells
  rw [(get_ap hok hc).2]
  by_cases hz : spotN key ps = 0
  · rw [if_pos hz]
    have : isThere key ps = false := by
      cases ht : isThere key ps with
      | false => rfl
      | true => exact absurd hz ((spot_ok hok key).2.1.2 ht)
    unfold spotV
    rw [this]
    rfl
  · rw [if_neg hz]
    rfl
/-- A Swap that finds another version: nothing is done. -/
theorem swap_no {ps : List Pr} {key val : List UInt8} {m : Int} (hok : pairsOk ps = true) (hc : isCmd 4 key val m = true) (hn : spotN key ps ≠ m) : apP 4 key val m ps = ps ∧ (apR 4 key val m ps).kd ≠ 1 := by
  unfold apP apR
  rw [hok, hc]
  refine ⟨?_, ?_⟩
  · show swapP key val m (spotN key ps) (lowP key ps) ps = ps
    unfold swapP
    rw [if_neg hn]
  · show (swapRr val (spotV key ps) m (spotN key ps) ps.length).kd ≠ 1
    unfold swapRr
    rw [if_neg hn]
    unfold tellRr
    split <;> simp
structure SwapOk (ps qs : List Pr) (key val : List UInt8) (m : Int) : Prop where
  ok : pairsOk qs = true
  v : spotV key qs = val
  n : spotN key qs = m + 1
  oth : ∀ k, k ≠ key → spotV k qs = spotV k ps ∧ spotN k qs = spotN k ps
  mem : ∀ p ∈ qs, p.k = key ∨ ∃ q ∈ ps, q.k = p.k
/-- A Swap that finds the version, where there is room. -/
theorem swap_yes {ps : List Pr} {key val : List UInt8} {m : Int} (hok : pairsOk ps = true) (hc : isCmd 4 key val m = true) (hn : spotN key ps = m) (hl : m = 0 → ps.length < 32) (hm : m < 1099511627775) (hkey : key ≠ []) :
    apR 4 key val m ps = ⟨1, [], m + 1, []⟩ ∧ SwapOk ps (apP 4 key val m ps) key val m := by
  obtain ⟨h32, hs, hp⟩ := pairs_ok hok
  have hv := (isCmd_val hc).1
  have hm0 := (isCmd_val hc).2
  have hk16 : key.length ≤ 16 := by
    unfold isCmd at hc
    simp at hc
    exact hc.1.1.1
  have hroom : roomB ps.length (spotN key ps) val = true := by
    unfold roomB
    rw [hn]
    simp only [Bool.and_eq_true, Bool.not_eq_true', Bool.and_eq_false_iff, decide_eq_false_iff_not, decide_eq_true_eq]
    refine ⟨?_, hv, hm⟩
    by_cases e : m = 0
    · exact .inr (by have := hl e; omega)
    · exact .inl e
  have e1 : putP key val (spotN key ps) (lowP key ps) ps = (if spotN key ps = 0 then insP (lowP key ps) ⟨key, val, spotN key ps + 1⟩ ps else ps.set (lowP key ps) ⟨key, val, spotN key ps + 1⟩) := by
    unfold putP
    exact if_neg (by rw [hroom]; simp)
  have e2 : putRr val (spotN key ps) ps.length = ⟨1, [], spotN key ps + 1, []⟩ := by
    unfold putRr
    exact if_neg (by rw [hroom]; simp)
  unfold apP apR
  rw [hok, hc]
  have hP : doP 4 key val m (spotV key ps) (spotN key ps) (lowP key ps) ps = putP key val (spotN key ps) (lowP key ps) ps := by
    show swapP key val m (spotN key ps) (lowP key ps) ps = _
    unfold swapP
    rw [if_pos hn]
  have hR : doR 4 key val m (spotV key ps) (spotN key ps) (lowP key ps) ps = putRr val (spotN key ps) ps.length := by
    show swapRr val (spotV key ps) m (spotN key ps) ps.length = _
    unfold swapRr
    rw [if_pos hn]
  simp only [Bool.and_self, if_true]
  rw [hP, hR, e1, e2, hn]
  refine ⟨rfl, ?_⟩
  by_cases hz : m = 0
  · rw [if_pos hz]
    have hab : isThere key ps = false := by
      cases ht : isThere key ps with
      | false => rfl
      | true => exact absurd (hn.trans hz) ((spot_ok hok key).2.1.2 ht)
    have hs2 : Srt (insP (lowP key ps) ⟨key, val, m + 1⟩ ps) := srt_ins hs hab rfl
    have hno := there_no hs hab
    have hsp := spot_at hs2 (mem_ins.2 (.inl rfl)) (rfl : (⟨key, val, m + 1⟩ : Pr).k = key)
    refine ⟨ok_of (by rw [insP_len (lowP_le key ps)]; have := hl hz; omega) hs2 (fun p hpp => ?_), hsp.1, hsp.2, fun k hk => ?_, fun p hpp => ?_⟩
    · rcases mem_ins.1 hpp with rfl | hpp
      · exact prOk_mk hkey hk16 hv (by omega) (by omega)
      · exact hp p hpp
    · exact spot_same hs hs2 (fun p e => ⟨fun h => mem_ins.2 (.inr h), fun h => by
        rcases mem_ins.1 h with rfl | h
        · exact absurd e.symm hk
        · exact h⟩)
    · rcases mem_ins.1 hpp with rfl | hpp
      · exact .inl rfl
      · exact .inr ⟨p, hpp, rfl⟩
  · rw [if_neg hz]
    have hth : isThere key ps = true := (spot_ok hok key).2.1.1 (by rw [hn]; exact hz)
    obtain ⟨hi, ek, _, en⟩ := there_at hth
    have hs2 : Srt (ps.set (lowP key ps) ⟨key, val, m + 1⟩) := srt_set hs hi (by rw [ek])
    have hsp := spot_at hs2 (mem_set_new hi) (rfl : (⟨key, val, m + 1⟩ : Pr).k = key)
    have huniq : ∀ p ∈ ps, p.k = key → p = ps[lowP key ps] := fun p hpp e => by
      obtain ⟨j, hj, rfl⟩ := List.getElem_of_mem hpp
      have := there_low hs hj e
      simp only [this]
    refine ⟨ok_of (by rw [List.length_set]; exact h32) hs2 (fun p hpp => ?_), hsp.1, hsp.2, fun k hk => ?_, fun p hpp => ?_⟩
    · rcases List.mem_or_eq_of_mem_set hpp with hpp | rfl
      · exact hp p hpp
      · exact prOk_mk hkey hk16 hv (by omega) (by omega)
    · refine spot_same hs hs2 (fun p e => ⟨fun h => mem_set_of hi h (fun e2 => hk ?_), fun h => ?_⟩)
      · rw [← e, e2, ek]
      · rcases List.mem_or_eq_of_mem_set h with h | rfl
        · exact h
        · exact absurd e.symm hk
    · rcases List.mem_or_eq_of_mem_set hpp with hpp | rfl
      · exact .inr ⟨p, hpp, rfl⟩
      · exact .inl rfl
end Go.Proofs.YtgkacepcggjfkaaGreatDoor
