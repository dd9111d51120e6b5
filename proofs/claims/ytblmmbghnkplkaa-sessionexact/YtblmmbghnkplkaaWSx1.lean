/-
  SessionExact: what the document's Run does, and that it is the same (plain).
-/
import Derived.Test.YtblmmbghnkplkaaWSeF
namespace Go.Proofs.Ytblmmbghnkplkaa
open Go.RowKit

def SrtS (ss : List Ss) : Prop := ss.Pairwise fun a b => a.cl < b.cl
/-- The document's way to put a session among others, of which some stay. -/
def goIn (cl : Int) (x : Ss) : Bool → List (Ss × Bool) → List Ss
  | done, [] => if done = true then [] else [x]
  | done, (s, k) :: t => (if done = false ∧ cl < s.cl then [x] else []) ++ (if k = true then [s] else []) ++ goIn cl x (done || decide (cl < s.cl)) t
def kept (L : List (Ss × Bool)) : List Ss := (L.filter fun p => p.2).map Prod.fst
theorem kept_cons (s : Ss) (k : Bool) (t : List (Ss × Bool)) : kept ((s, k) :: t) = (if k = true then [s] else []) ++ kept t := by
  unfold kept
  cases k <;> rfl
theorem goIn_done (cl : Int) (x : Ss) : ∀ L : List (Ss × Bool), goIn cl x true L = kept L
  | [] => rfl
  | (s, k) :: t => by
    rw [kept_cons]
    unfold goIn
    rw [if_neg (by simp), Bool.true_or, goIn_done cl x t, List.nil_append]
theorem kept_mem {L : List (Ss × Bool)} {s : Ss} (h : s ∈ kept L) : s ∈ L.map Prod.fst := by
  unfold kept at h
  obtain ⟨p, hp, rfl⟩ := List.mem_map.1 h
  exact List.mem_map.2 ⟨p, (List.mem_filter.1 hp).1, rfl⟩
theorem low_cons_lt {cl : Int} {s : Ss} {t : List Ss} (h : s.cl < cl) : lowS cl (s :: t) = lowS cl t + 1 := by
  unfold lowS
  rw [List.findIdx_cons, decide_eq_false (by omega)]
  rfl
theorem low_zero {cl : Int} {ss : List Ss} (h : ∀ s ∈ ss, cl ≤ s.cl) : lowS cl ss = 0 := by
  cases ss with
  | nil => rfl
  | cons s t =>
    unfold lowS
    rw [List.findIdx_cons, decide_eq_true (h s (List.mem_cons_self ..))]
    rfl
theorem goIn_is (cl : Int) (x : Ss) : ∀ L : List (Ss × Bool), SrtS (L.map Prod.fst) → (∀ s ∈ L.map Prod.fst, s.cl ≠ cl) → goIn cl x false L = insS (lowS cl (kept L)) x (kept L)
  | [], _, _ => rfl
  | (s, k) :: t, hs, hn => by
    have hs2 := List.pairwise_cons.1 hs
    have hsn := hn s (List.mem_cons_self ..)
    by_cases hc : cl < s.cl
    · have h0 : ∀ y ∈ kept ((s, k) :: t), cl ≤ y.cl := fun y hy => by
        have h1 := kept_mem hy
        rcases List.mem_cons.1 h1 with rfl | h1
        · exact Int.le_of_lt hc
        · have := hs2.1 y h1
          have h3 : s.cl < y.cl := this
          omega
      rw [low_zero h0]
      unfold goIn
      rw [if_pos ⟨rfl, hc⟩, decide_eq_true hc, Bool.or_true, goIn_done, kept_cons]
      rfl
    · have hlt : s.cl < cl := by omega
      have ih := goIn_is cl x t hs2.2 (fun y hy => hn y (List.mem_cons_of_mem _ hy))
      unfold goIn
      rw [if_neg (fun h => hc h.2), decide_eq_false hc, Bool.or_false, ih, kept_cons]
      cases k with
      | false => rfl
      | true =>
        rw [if_pos rfl]
        show s :: insS (lowS cl (kept t)) x (kept t) = insS (lowS cl (s :: kept t)) x (s :: kept t)
        rw [low_cons_lt hlt]
        rfl
/-- Flags that leave out one place. -/
def flagAt (full : Bool) (old : Nat) : Nat → List Ss → List (Ss × Bool)
  | _, [] => []
  | i, s :: t => (s, !full || decide (i ≠ old)) :: flagAt full old (i + 1) t
theorem flag_fst (full : Bool) (old : Nat) : ∀ (ss : List Ss) (i : Nat), (flagAt full old i ss).map Prod.fst = ss
  | [], _ => rfl
  | s :: t, i => by
    show s :: (flagAt full old (i + 1) t).map Prod.fst = _
    rw [flag_fst full old t (i + 1)]
theorem flag_all (old : Nat) : ∀ (ss : List Ss) (i : Nat), kept (flagAt false old i ss) = ss
  | [], _ => rfl
  | s :: t, i => by
    show kept ((s, true) :: flagAt false old (i + 1) t) = _
    rw [kept_cons, flag_all old t (i + 1)]
    rfl
theorem flag_past (old : Nat) : ∀ (ss : List Ss) (i : Nat), old < i → kept (flagAt true old i ss) = ss
  | [], _, _ => rfl
  | s :: t, i, h => by
    show kept ((s, !true || decide (i ≠ old)) :: flagAt true old (i + 1) t) = _
    rw [kept_cons, flag_past old t (i + 1) (by omega), decide_eq_true (by omega)]
    rfl
theorem flag_one (old : Nat) : ∀ (ss : List Ss) (i : Nat), SrtS ss → i ≤ old → (h : old - i < ss.length) → kept (flagAt true old i ss) = ss.filter fun f => !decide (f.cl = (ss[old - i]'h).cl)
  | [], _, _, _, h => by simp at h
  | s :: t, i, hs, hi, h => by
    have hs2 := List.pairwise_cons.1 hs
    show kept ((s, !true || decide (i ≠ old)) :: flagAt true old (i + 1) t) = _
    rw [kept_cons]
    by_cases e : i = old
    · subst e
      rw [flag_past i t (i + 1) (by omega)]
      have e0 : (s :: t)[i - i]'h = s := by simp
      rw [e0, List.filter_cons, if_neg (by simp), List.filter_eq_self.2 (fun f hf => by
        have h1 : s.cl < f.cl := hs2.1 f hf
        have h2 : f.cl ≠ s.cl := by omega
        simp [h2])]
      simp
    · have hl : old - (i + 1) < t.length := by simp at h; omega
      have ih := flag_one old t (i + 1) hs2.2 (by omega) hl
      have e1 : (s :: t)[old - i]'h = t[old - (i + 1)] := by
        have e2 : old - i = (old - (i + 1)) + 1 := by omega
        simp only [e2, List.getElem_cons_succ]
      rw [ih, e1, List.filter_cons, decide_eq_true e]
      have h1 : s.cl < (t[old - (i + 1)]).cl := hs2.1 _ (List.getElem_mem hl)
      have h2 : s.cl ≠ (t[old - (i + 1)]).cl := by omega
      rw [if_pos (show (!true || true) = true from rfl), if_pos (by rw [decide_eq_false h2]; rfl)]
      rfl

/-- Where the least Seen stands first, so far. -/
def oldAt (ss : List Ss) : Nat → Nat → List Ss → Nat
  | old, _, [] => old
  | old, i, s :: t => oldAt ss (if s.sn < ((ss[old]?).map Ss.sn).getD 0 then i else old) (i + 1) t
theorem oldAt_is (ss : List Ss) : ∀ (t : List Ss) (i old : Nat) (m : Ss), ss.drop i = t → ss[old]? = some m → ∃ h : oldAt ss old i t < ss.length, ss[oldAt ss old i t] = minFromS m t
  | [], _, old, m, _, hm => by
    have h1 := List.getElem?_eq_some_iff.1 hm
    exact ⟨h1.1, h1.2⟩
  | s :: t, i, old, m, hd, hm => by
    have hi : i < ss.length := by
      rcases Nat.lt_or_ge i ss.length with h | h
      · exact h
      · rw [List.drop_eq_nil_of_le h] at hd
        cases hd
    have hd2 := hd
    rw [List.drop_eq_getElem_cons hi] at hd2
    obtain ⟨e1, e2⟩ := List.cons.inj hd2
    have hg : ((ss[old]?).map Ss.sn).getD 0 = m.sn := by rw [hm]; rfl
    show ∃ h : oldAt ss (if s.sn < ((ss[old]?).map Ss.sn).getD 0 then i else old) (i + 1) t < ss.length, ss[oldAt ss (if s.sn < ((ss[old]?).map Ss.sn).getD 0 then i else old) (i + 1) t] = minFromS (if s.sn < m.sn then s else m) t
    rw [hg]
    by_cases hc : s.sn < m.sn
    · simp only [if_pos hc]
      exact oldAt_is ss t (i + 1) i s e2 (by rw [List.getElem?_eq_getElem hi, e1])
    · simp only [if_neg hc]
      exact oldAt_is ss t (i + 1) old m e2 hm
/-- The document's list behind a session that is opened. -/
def refIn (ss : List Ss) (tm cl : Int) : List Ss := goIn cl (newS cl tm) false (flagAt (decide (ss.length = 8)) (oldAt ss 0 0 ss) 0 ss)
theorem refIn_is {ss : List Ss} {tm cl : Int} (hs : SrtS ss) (hl : ss.length ≤ 8) (hn : ∀ s ∈ ss, s.cl ≠ cl) : refIn ss tm cl = insS (lowS cl (roomS ss)) (newS cl tm) (roomS ss) := by
  unfold refIn
  rw [goIn_is cl (newS cl tm) _ (by rw [flag_fst]; exact hs) (by rw [flag_fst]; exact hn)]
  have hk : kept (flagAt (decide (ss.length = 8)) (oldAt ss 0 0 ss) 0 ss) = roomS ss := by
    unfold roomS
    by_cases h8 : ss.length < 8
    · rw [if_pos h8, decide_eq_false (by omega), flag_all]
    · rw [if_neg h8, decide_eq_true (by omega)]
      cases ss with
      | nil => simp at h8
      | cons s t =>
        obtain ⟨h1, h2⟩ := oldAt_is (s :: t) (s :: t) 0 0 s rfl rfl
        have h3 : minFromS s (s :: t) = minFromS s t := by
          show minFromS (if s.sn < s.sn then s else s) t = _
          rw [if_neg (by omega)]
        rw [h3] at h2
        have h4 := flag_one (oldAt (s :: t) 0 0 (s :: t)) (s :: t) 0 hs (Nat.zero_le _) (by simpa using h1)
        rw [h4]
        simp only [Nat.sub_zero, h2]
        rfl
  rw [hk]
/-- Where a client stands, as the document looks for it. -/
theorem find_low {ss : List Ss} {cl : Int} (hs : SrtS ss) {i : Nat} (hi : i < ss.length) (he : ss[i].cl = cl) : isS cl ss = true ∧ lowS cl ss = i := by
  have hlow : lowS cl ss = i := by
    unfold lowS
    refine (List.findIdx_eq hi).2 ⟨decide_eq_true (by omega), fun j hj => decide_eq_false (by
      have := List.pairwise_iff_getElem.1 hs j i (by omega) hi hj
      omega)⟩
  refine ⟨?_, hlow⟩
  unfold isS
  rw [hlow, List.getElem?_eq_getElem hi]
  exact decide_eq_true he
theorem find_none {ss : List Ss} {cl : Int} (hn : ∀ s ∈ ss, s.cl ≠ cl) : isS cl ss = false := by
  unfold isS
  cases h : ss[lowS cl ss]? with
  | none => rfl
  | some e =>
    obtain ⟨h1, h2⟩ := List.getElem?_eq_some_iff.1 h
    exact decide_eq_false (hn e (by rw [← h2]; exact List.getElem_mem h1))

end Go.Proofs.Ytblmmbghnkplkaa
