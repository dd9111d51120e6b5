/-
  What an act makes of files, as the document's answer goes about it; the two are the same where no name is there twice.
-/
import Derived.Test.YtnmkccdcgmajgaaWAct5
namespace Go.Proofs.Ytnmkccdcgmajgaa
open Go.RowKit

def wasF (nm : List UInt8) (fs : List Fi) : List UInt8 := fs.foldl (fun u f => if isF nm f = true then f.2 else u) []
def thereF (nm : List UInt8) (fs : List Fi) : Bool := fs.any (isF nm)
theorem wasF_snoc (nm : List UInt8) (fs : List Fi) (f : Fi) : wasF nm (fs ++ [f]) = if isF nm f = true then f.2 else wasF nm fs := by unfold wasF; rw [List.foldl_append]; rfl
theorem thereF_snoc (nm : List UInt8) (fs : List Fi) (f : Fi) : thereF nm (fs ++ [f]) = (thereF nm fs || isF nm f) := by unfold thereF; rw [List.any_append]; simp
def updF (nm d : List UInt8) (f : Fi) : Fi := if isF nm f = true then (f.1, d) else f
def keepF (what : Int) (nm tn : List UInt8) (th : Bool) (f : Fi) : Bool := !(isF nm f && (what == 7 || what == 4)) && !(th && what == 4 && isF tn f)
def outF (what : Int) (nm tn d : List UInt8) (th : Bool) (fs : List Fi) : List Fi := (fs.filter (keepF what nm tn th)).map (updF nm d)
theorem outF_snoc (what : Int) (nm tn d : List UInt8) (th : Bool) (fs : List Fi) (f : Fi) : outF what nm tn d th (fs ++ [f]) = outF what nm tn d th fs ++ if keepF what nm tn th f = true then [updF nm d f] else [] := by
  unfold outF
  rw [List.filter_append, List.map_append]
  congr 1
  cases h : keepF what nm tn th f <;> simp [h]
theorem outF_len (what : Int) (nm tn d : List UInt8) (th : Bool) (fs : List Fi) : (outF what nm tn d th fs).length ≤ fs.length := by
  unfold outF
  rw [List.length_map]
  exact List.length_filter_le _ _
def datF (what : Int) (was dt : List UInt8) (sz : Int) : List UInt8 := if what = 1 then dt else if what = 2 then was ++ dt else if what = 6 then was.take sz.toNat else was
def refZ (fs : List Fi) (what : Int) (nm tn dt : List UInt8) (sz : Int) : List Fi :=
  (outF what nm tn (datF what (wasF nm fs) dt sz) (thereF nm fs) fs ++ if thereF nm fs = false ∧ (what = 1 ∨ what = 2) then [(nm, datF what (wasF nm fs) dt sz)] else []) ++ if thereF nm fs = true ∧ what = 4 then [(tn, wasF nm fs)] else []

theorem isF_inF (nm : List UInt8) (f : Fi) : inF [nm] f = isF nm f := by simp [inF, isF]
theorem isF_inF2 (nm tn : List UInt8) (f : Fi) : inF [nm, tn] f = (isF nm f || isF tn f) := by simp [inF, isF]
theorem was_no {nm : List UInt8} : ∀ {fs : List Fi} (u : List UInt8), (∀ f ∈ fs, isF nm f = false) → fs.foldl (fun u f => if isF nm f = true then f.2 else u) u = u
  | [], _, _ => rfl
  | f :: t, u, h => by
    rw [List.foldl_cons, h f (by simp), if_neg (by simp)]
    exact was_no u (fun x hx => h x (by simp [hx]))
theorem upd_no {nm d : List UInt8} {fs : List Fi} (h : ∀ f ∈ fs, isF nm f = false) : fs.map (updF nm d) = fs := by
  conv => rhs; rw [← List.map_id fs]
  exact List.map_congr_left fun f hf => by unfold updF; rw [h f hf]; rfl
theorem datF_at (fs : List Fi) (k : Nat) (hk : k < fs.length) : datAt fs k = fs[k].2 := by
  unfold datAt
  rw [if_neg (by omega)]
  simp [hk]

theorem ref_eq {fs : List Fi} (hn : (fs.map (·.1)).Nodup) (what : Int) (nm tn dt : List UInt8) (sz : Int) : refZ fs what nm tn dt sz = actZ fs what nm tn dt sz := by
  rcases plc_cases (isF nm) fs with ⟨ep, hall⟩ | ⟨k, hk, ep, ht, hlow⟩
  · have hth : thereF nm fs = false := by unfold thereF; rw [List.any_eq_false]; exact fun f hf => by rw [hall f hf]; simp
    have hw : wasF nm fs = [] := was_no [] hall
    have ho : ∀ d, outF what nm tn d false fs = fs := fun d => by
      unfold outF
      rw [List.filter_eq_self.2 (fun f hf => by unfold keepF; rw [hall f hf]; simp)]
      exact upd_no hall
    have hf7 : (fs.filter fun f => !inF [nm] f) = fs := List.filter_eq_self.2 fun f hf => by rw [isF_inF, hall f hf]; rfl
    unfold refZ
    rw [hth, hw, ho]
    unfold actZ putZ
    rw [ep, hf7]
    by_cases h1 : what = 1
    · subst h1; simp [datF]
    by_cases h2 : what = 2
    · subst h2; simp [datF, datAt]
    simp [h1, h2]
  · have hnm : fs[k].1 = nm := of_decide_eq_true ht
    have hoth : ∀ j, (hj : j < fs.length) → j ≠ k → isF nm fs[j] = false := fun j hj hne => by
      refine decide_eq_false fun e => hne ?_
      have hp := List.pairwise_iff_getElem.1 hn
      by_cases hlt : j < k
      · exact (hp j k (by simpa using hj) (by simpa using hk) hlt (by simp [e, hnm])).elim
      by_cases hgt : k < j
      · exact (hp k j (by simpa using hk) (by simpa using hj) hgt (by simp [e, hnm])).elim
      omega
    have hth : thereF nm fs = true := List.any_eq_true.2 ⟨fs[k], List.getElem_mem hk, ht⟩
    have hsp : fs = fs.take k ++ fs[k] :: fs.drop (k + 1) := by rw [← List.drop_eq_getElem_cons hk, List.take_append_drop]
    have hL : ∀ f ∈ fs.take k, isF nm f = false := fun f hf => by
      obtain ⟨j, hj, rfl⟩ := List.getElem_of_mem hf
      rw [List.length_take] at hj
      rw [List.getElem_take]
      exact hoth j (by omega) (by omega)
    have hR : ∀ f ∈ fs.drop (k + 1), isF nm f = false := fun f hf => by
      obtain ⟨j, hj, rfl⟩ := List.getElem_of_mem hf
      rw [List.length_drop] at hj
      rw [List.getElem_drop]
      exact hoth _ (by omega) (by omega)
    have hw : wasF nm fs = fs[k].2 := by
      conv => lhs; rw [hsp]
      unfold wasF
      rw [List.foldl_append, was_no [] hL, List.foldl_cons, if_pos ht, was_no _ hR]
    have hmap : ∀ d, fs.map (updF nm d) = fs.set k (fs[k].1, d) := fun d => by
      apply List.ext_getElem
      · simp
      · intro j h1 h2
        rw [List.getElem_map, List.getElem_set]
        split
        · rename_i e; subst e; unfold updF; rw [if_pos ht]
        · rename_i e; unfold updF; rw [hoth j (by simpa using h1) (fun e2 => e e2.symm)]; rfl
    have hda : datAt fs (k : Int) = fs[k].2 := datF_at fs k hk
    have hk0 : ¬ ((k : Int) < 0) := by omega
    have hkeep : what ≠ 4 → what ≠ 7 → ∀ d, outF what nm tn d true fs = fs.set k (fs[k].1, d) := fun h4 h7 d => by
      unfold outF
      rw [List.filter_eq_self.2 (fun f hf => by unfold keepF; rw [beq_eq_false_iff_ne.2 h4, beq_eq_false_iff_ne.2 h7]; simp), hmap]
    unfold refZ
    rw [hth, hw]
    unfold actZ putZ
    rw [ep, hda]
    by_cases h4 : what = 4
    · subst h4
      have h6 : ∀ d, outF 4 nm tn d true fs = fs.filter fun f => !inF [nm, tn] f := fun d => by
        unfold outF
        rw [show (fs.filter (keepF 4 nm tn true)) = fs.filter fun f => !inF [nm, tn] f from List.filter_congr fun f _ => by unfold keepF; rw [isF_inF2]; cases isF nm f <;> cases isF tn f <;> rfl]
        exact upd_no fun f hf => by
          have := (List.mem_filter.1 hf).2
          rw [isF_inF2] at this
          cases h : isF nm f
          · rfl
          · rw [h] at this; simp at this
      rw [h6]
      simp [hk0]
    by_cases h7 : what = 7
    · subst h7
      have h6 : ∀ d, outF 7 nm tn d true fs = fs.filter fun f => !inF [nm] f := fun d => by
        unfold outF
        rw [show (fs.filter (keepF 7 nm tn true)) = fs.filter fun f => !inF [nm] f from List.filter_congr fun f _ => by unfold keepF; rw [isF_inF]; cases isF nm f <;> simp]
        exact upd_no fun f hf => by
          have := (List.mem_filter.1 hf).2
          rw [isF_inF] at this
          cases h : isF nm f
          · rfl
          · rw [h] at this; simp at this
      rw [h6]
      simp
    rw [hkeep h4 h7]
    by_cases h1 : what = 1
    · subst h1; simp [datF, hk0, hk]
    by_cases h2 : what = 2
    · subst h2; simp [datF, hk0, hk]
    by_cases h6 : what = 6
    · subst h6; simp [datF, hk0, hk]
    simp [h1, h2, h6, h4, h7, datF]
    exact List.set_getElem_self hk

/-! what stays so: no name twice; how much there is -/
theorem names_set {fs : List Fi} {k : Nat} (hk : k < fs.length) (x : List UInt8) : (fs.set k (fs[k].1, x)).map (·.1) = fs.map (·.1) := by
  rw [List.map_set]
  apply List.ext_getElem
  · simp
  · intro j h1 h2
    rw [List.getElem_set]
    split
    · rename_i e; subst e; simp
    · rfl
structure FOk (fs : List Fi) (n L : Nat) : Prop where
  nod : (fs.map (·.1)).Nodup
  len : fs.length ≤ n
  dat : ∀ f ∈ fs, f.2.length ≤ L
theorem datAt_len {fs : List Fi} {n L : Nat} (h : FOk fs n L) (i : Int) : (datAt fs i).length ≤ L := by
  unfold datAt
  split
  · simp
  · cases hg : fs[i.toNat]? with
    | none => simp
    | some f => simpa using h.dat f (List.mem_of_getElem? hg)
theorem putZ_ok {fs : List Fi} {n L : Nat} (h : FOk fs n L) (nm x : List UInt8) {M : Nat} (hL : L ≤ M) (hx : x.length ≤ M) : FOk (putZ fs nm x) (n + 1) M := by
  rcases plc_cases (isF nm) fs with ⟨ep, hall⟩ | ⟨k, hk, ep, ht, _⟩
  · have e : putZ fs nm x = fs ++ [(nm, x)] := by unfold putZ; rw [ep, if_pos (by omega)]
    rw [e]
    refine ⟨?_, by simp; exact h.len, fun f hf => ?_⟩
    · rw [List.map_append]
      refine List.nodup_append.2 ⟨h.nod, by simp, fun a ha b hb => ?_⟩
      simp at hb
      subst hb
      obtain ⟨f, hf, rfl⟩ := List.mem_map.1 ha
      exact of_decide_eq_false (hall f hf)
    · rcases List.mem_append.1 hf with hf | hf
      · exact Nat.le_trans (h.dat f hf) hL
      · simp at hf; subst hf; exact hx
  · have e : putZ fs nm x = fs.set k (fs[k].1, x) := by
      unfold putZ
      rw [ep, if_neg (by omega)]
      simp [hk]
    rw [e]
    refine ⟨by rw [names_set hk]; exact h.nod, by rw [List.length_set]; exact Nat.le_succ_of_le h.len, fun f hf => ?_⟩
    rcases List.mem_or_eq_of_mem_set hf with hf | rfl
    · exact Nat.le_trans (h.dat f hf) hL
    · exact hx
theorem filter_ok {fs : List Fi} {n L : Nat} (h : FOk fs n L) (p : Fi → Bool) : FOk (fs.filter p) n L :=
  ⟨(List.filter_sublist.map _).nodup h.nod, Nat.le_trans (List.length_filter_le _ _) h.len, fun f hf => h.dat f (List.mem_filter.1 hf).1⟩
theorem FOk.more {fs : List Fi} {n L m M : Nat} (h : FOk fs n L) (h1 : n ≤ m) (h2 : L ≤ M) : FOk fs m M := ⟨h.nod, Nat.le_trans h.len h1, fun f hf => Nat.le_trans (h.dat f hf) h2⟩
theorem actZ_ok {fs : List Fi} {n L : Nat} (h : FOk fs n L) (what : Int) (nm tn dt : List UInt8) (sz : Int) : FOk (actZ fs what nm tn dt sz) (n + 1) (L + dt.length) := by
  unfold actZ
  split
  · exact putZ_ok h nm dt (Nat.le_add_right _ _) (Nat.le_add_left _ _)
  split
  · refine putZ_ok h nm _ (Nat.le_add_right _ _) ?_
    have := datAt_len h (plc (isF nm) fs)
    rw [List.length_append]
    omega
  split
  · rcases plc_cases (isF nm) fs with ⟨ep, _⟩ | ⟨k, hk, ep, _, _⟩
    · rw [ep, if_pos (by omega)]; exact h.more (Nat.le_succ _) (Nat.le_add_right _ _)
    · have hk0 : ¬ ((k : Int) < 0) := by omega
      rw [ep, if_neg hk0, datF_at fs k hk, show ((k : Int).toNat) = k by omega, List.getElem?_eq_getElem hk]
      show FOk (fs.set k (fs[k].1, _)) _ _
      refine ⟨by rw [names_set hk]; exact h.nod, by rw [List.length_set]; exact Nat.le_succ_of_le h.len, fun f hf => ?_⟩
      rcases List.mem_or_eq_of_mem_set hf with hf | rfl
      · exact Nat.le_trans (h.dat f hf) (Nat.le_add_right _ _)
      · show (List.take _ _).length ≤ _
        rw [List.length_take]
        have := h.dat fs[k] (List.getElem_mem hk)
        omega
  split
  · rcases plc_cases (isF nm) fs with ⟨ep, _⟩ | ⟨k, hk, ep, _, _⟩
    · rw [ep, if_pos (by omega)]; exact h.more (Nat.le_succ _) (Nat.le_add_right _ _)
    · have hk0 : ¬ ((k : Int) < 0) := by omega
      rw [ep, if_neg hk0]
      have hf := filter_ok h fun f => !inF [nm, tn] f
      have hd := datAt_len h (k : Int)
      refine ⟨?_, by simp; exact hf.len, fun f hm => ?_⟩
      · rw [List.map_append]
        refine List.nodup_append.2 ⟨hf.nod, by simp, fun a ha b hb => ?_⟩
        simp at hb
        rw [hb]
        obtain ⟨f, hm, rfl⟩ := List.mem_map.1 ha
        have := (List.mem_filter.1 hm).2
        rw [isF_inF2] at this
        intro e
        rw [show isF tn f = true from decide_eq_true e] at this
        simp at this
      · rcases List.mem_append.1 hm with hm | hm
        · exact Nat.le_trans (hf.dat f hm) (Nat.le_add_right _ _)
        · simp at hm; rw [hm]; show (datAt fs (k : Int)).length ≤ _; omega
  split
  · exact (filter_ok h _).more (Nat.le_succ _) (Nat.le_add_right _ _)
  · exact h.more (Nat.le_succ _) (Nat.le_add_right _ _)
theorem fok_nil : FOk [] 0 0 := ⟨List.nodup_nil, Nat.le_refl _, fun f hf => by cases hf⟩

end Go.Proofs.Ytnmkccdcgmajgaa
