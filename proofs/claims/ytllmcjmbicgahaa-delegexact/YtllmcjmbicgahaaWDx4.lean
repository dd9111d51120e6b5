/-
  DelegExact, plainly: the document's answer says the same.
-/
import Derived.Test.YtllmcjmbicgahaaWDx2
namespace Go.Proofs.Ytllmcjmbicgahaa
open Go.RowKit

/-- Texts rise. -/
def SrtT (l : List (List UInt8)) : Prop := l.Pairwise fun a b => lessB a b = true
theorem insT_take {out : List (List UInt8)} {x y : List UInt8} (h : y ∈ out.take (out.findIdx (fun y => !lessB y x))) : lessB y x = true := by
  obtain ⟨j, hj, rfl⟩ := List.getElem_of_mem h
  rw [List.length_take] at hj
  have := List.not_of_lt_findIdx (p := fun y => !lessB y x) (xs := out) (i := j) (by omega)
  rw [List.getElem_take]
  simpa using this
theorem insT_drop {out : List (List UInt8)} (hs : SrtT out) {x y : List UInt8} (h : y ∈ out.drop (out.findIdx (fun y => !lessB y x))) : lessB y x = false := by
  obtain ⟨j, hj, rfl⟩ := List.getElem_of_mem h
  rw [List.length_drop] at hj
  rw [List.getElem_drop]
  have hl : out.findIdx (fun y => !lessB y x) < out.length := by omega
  have h0 : (!lessB out[out.findIdx (fun y => !lessB y x)] x) = true := List.findIdx_getElem (p := fun y => !lessB y x) (w := hl)
  have h1 : lessB out[out.findIdx (fun y => !lessB y x)] x = false := by simpa using h0
  by_cases e : j = 0
  · subst e; exact h1
  · have := List.pairwise_iff_getElem.1 hs (out.findIdx (fun y => !lessB y x)) (out.findIdx (fun y => !lessB y x) + j) hl (by omega) (by omega)
    cases hx : lessB out[out.findIdx (fun y => !lessB y x) + j] x with
    | false => rfl
    | true => rw [less_trans this hx] at h1; cases h1
theorem insT_srt {out : List (List UInt8)} (hs : SrtT out) (x : List UInt8) : SrtT (insT out x) ∧ ∀ y, y ∈ insT out x ↔ y = x ∨ y ∈ out := by
  unfold insT
  by_cases e : out[out.findIdx (fun y => !lessB y x)]? = some x
  · rw [if_pos e]
    refine ⟨hs, fun y => ⟨.inr, ?_⟩⟩
    rintro (rfl | h)
    · exact List.mem_of_getElem? e
    · exact h
  · rw [if_neg e]
    have hd : ∀ y ∈ out.drop (out.findIdx (fun y => !lessB y x)), lessB x y = true := fun y hy => by
      refine less_total (insT_drop hs hy) (fun eq => ?_)
      subst eq
      obtain ⟨j, hj, ej⟩ := List.getElem_of_mem hy
      rw [List.length_drop] at hj
      rw [List.getElem_drop] at ej
      have hl : out.findIdx (fun z => !lessB z y) < out.length := by omega
      by_cases e0 : j = 0
      · subst e0
        simp only [Nat.add_zero] at ej
        exact e (by rw [List.getElem?_eq_getElem hl, ej])
      · have h1 := List.pairwise_iff_getElem.1 hs (out.findIdx (fun z => !lessB z y)) (out.findIdx (fun z => !lessB z y) + j) hl (by omega) (by omega)
        rw [ej] at h1
        have h0 : (!lessB out[out.findIdx (fun z => !lessB z y)] y) = true := List.findIdx_getElem (p := fun z => !lessB z y) (w := hl)
        rw [h1] at h0
        cases h0
    refine ⟨?_, fun y => ?_⟩
    · rw [List.append_assoc]
      refine List.pairwise_append.2 ⟨hs.sublist (List.take_sublist _ _), List.pairwise_cons.2 ⟨hd, hs.sublist (List.drop_sublist _ _)⟩, fun a ha b hb => ?_⟩
      have h1 := insT_take ha
      rcases List.mem_cons.1 hb with rfl | hb
      · exact h1
      · exact less_trans h1 (hd b hb)
    · rw [List.append_assoc, List.mem_append, List.mem_append, List.mem_singleton]
      have : y ∈ out ↔ y ∈ out.take (out.findIdx (fun y => !lessB y x)) ∨ y ∈ out.drop (out.findIdx (fun y => !lessB y x)) := by
        rw [← List.mem_append, List.take_append_drop]
      rw [this]
      constructor
      · rintro (h | h | h)
        · exact .inr (.inl h)
        · exact .inl h
        · exact .inr (.inr h)
      · rintro (h | h | h)
        · exact .inr (.inl h)
        · exact .inl h
        · exact .inr (.inr h)
theorem fold_srt : ∀ (l out : List (List UInt8)), SrtT out → SrtT (l.foldl insT out) ∧ ∀ y, y ∈ l.foldl insT out ↔ y ∈ l ∨ y ∈ out
  | [], out, h => ⟨h, fun y => by simp⟩
  | x :: t, out, h => by
    obtain ⟨h1, h2⟩ := insT_srt h x
    obtain ⟨h3, h4⟩ := fold_srt t (insT out x) h1
    refine ⟨h3, fun y => ?_⟩
    rw [List.foldl_cons, h4 y, h2 y, List.mem_cons]
    constructor
    · rintro (h | h | h)
      · exact .inl (.inr h)
      · exact .inl (.inl h)
      · exact .inr h
    · rintro ((h | h) | h)
      · exact .inr (.inl h)
      · exact .inl h
      · exact .inr (.inr h)
theorem edges_srt (l : List Bd) (fr up : List UInt8) : SrtT (edgesL l fr up) := (fold_srt _ [] List.Pairwise.nil).1
theorem edges_mem (l : List Bd) (fr up y : List UInt8) : y ∈ edgesL l fr up ↔ y = fr ∨ y = up ∨ ∃ b ∈ l, b.f = y := by
  unfold edgesL
  rw [(fold_srt _ [] List.Pairwise.nil).2 y]
  simp
theorem fold_len : ∀ (l out : List (List UInt8)), (l.foldl insT out).length ≤ out.length + l.length
  | [], out => by simp
  | x :: t, out => by
    have h1 := insT_len out x
    have h2 := fold_len t (insT out x)
    rw [List.foldl_cons, List.length_cons]
    omega
theorem edges_len (l : List Bd) (fr up : List UInt8) : (edgesL l fr up).length ≤ l.length + 2 := by
  have h := fold_len (fr :: up :: l.map Bd.f) []
  have e : (fr :: up :: l.map Bd.f).length = l.length + 2 := by simp
  rw [e, List.length_nil, Nat.zero_add] at h
  exact h
/-- Whom a key is given to. -/
def giveH (l : List Bd) (fr up : List UInt8) (ho : Int) (key : List UInt8) : Int := if inR key fr up = true then ho else hoF key l
def labL (l : List Bd) (fr up : List UInt8) (ho : Int) : List Bd := (edgesL l fr up).map fun e => ⟨e, giveH l fr up ho e⟩
def delegL (l : List Bd) (fr up : List UInt8) (ho : Int) : List Bd := compB (labL l fr up ho)
theorem lab_srt (l : List Bd) (fr up : List UInt8) (ho : Int) : SrtB (labL l fr up ho) := by
  unfold labL SrtB
  rw [List.pairwise_map]
  exact edges_srt l fr up
theorem first_nil {l : List Bd} (h : firstE l = true) : ∃ b ∈ l, b.f = [] := by
  cases l with
  | nil => cases h
  | cons x t =>
    refine ⟨x, by simp, ?_⟩
    cases hh : x.f with
    | nil => rfl
    | cons a b => have : x.f.isEmpty = true := h; rw [hh] at this; cases this
theorem lab_first {l : List Bd} (h : firstE l = true) (fr up : List UInt8) (ho : Int) : firstE (labL l fr up ho) = true := by
  have hm : ([] : List UInt8) ∈ edgesL l fr up := (edges_mem l fr up []).2 (.inr (.inr (first_nil h)))
  have hs := edges_srt l fr up
  unfold labL
  cases he : edgesL l fr up with
  | nil => rw [he] at hm; cases hm
  | cons x t =>
    rw [he] at hm hs
    show x.isEmpty = true
    rcases List.mem_cons.1 hm with e | hm
    · rw [← e]; rfl
    · have := (List.pairwise_cons.1 hs).1 [] hm
      rw [less_nil_right] at this
      cases this
theorem hoR_congr {key key' : List UInt8} : ∀ {l : List Bd} {d : Int}, (∀ b ∈ l, lessB key b.f = lessB key' b.f) → hoR d l key = hoR d l key'
  | [], _, _ => rfl
  | x :: t, d, h => by
    show (if lessB key x.f = true then d else hoR x.h t key) = (if lessB key' x.f = true then d else hoR x.h t key')
    rw [h x (by simp), hoR_congr (fun b hb => h b (by simp [hb]))]
theorem give_congr {l : List Bd} (hs : SrtB l) {fr up : List UInt8} {ho : Int} {key key' : List UInt8} (h : ∀ e ∈ edgesL l fr up, lessB key e = lessB key' e) : giveH l fr up ho key = giveH l fr up ho key' := by
  have h1 : inR key fr up = inR key' fr up := by
    unfold inR
    rw [h fr ((edges_mem l fr up fr).2 (.inl rfl)), h up ((edges_mem l fr up up).2 (.inr (.inl rfl)))]
  unfold giveH
  rw [h1, hoF_is hs, hoF_is hs, hoR_congr (fun b hb => h b.f ((edges_mem l fr up b.f).2 (.inr (.inr ⟨b, hb, rfl⟩))))]
theorem lab_ho {l : List Bd} (h : Sh l) (fr up : List UInt8) (ho : Int) (key : List UInt8) : hoR 0 (labL l fr up ho) key = giveH l fr up ho key := by
  have hS := lab_srt l fr up ho
  have hF := lab_first h.fst fr up ho
  have hE := edges_srt l fr up
  have hn : 0 < (labL l fr up ho).findIdx (gtP key) := by
    cases hL : labL l fr up ho with
    | nil => rw [hL] at hF; cases hF
    | cons x t =>
      rw [List.findIdx_cons]
      have hx : x.f = [] := by rw [hL] at hF; cases hh : x.f with | nil => rfl | cons a b => have : x.f.isEmpty = true := hF; rw [hh] at this; cases this
      have : gtP key x = false := by unfold gtP; rw [hx]; exact less_nil_right _
      rw [this]
      simp
  have hle : (labL l fr up ho).findIdx (gtP key) ≤ (labL l fr up ho).length := List.findIdx_le_length
  obtain ⟨i, hi⟩ : ∃ i, (labL l fr up ho).findIdx (gtP key) = i + 1 := ⟨_, (Nat.sub_add_cancel hn).symm⟩
  have hil : i < (labL l fr up ho).length := by omega
  have hel : i < (edgesL l fr up).length := by simpa [labL] using hil
  have hb : ∀ j, (hj : j < (labL l fr up ho).length) → j ≤ i → lessB key (labL l fr up ho)[j].f = false := fun j hj hji => by
    have := List.not_of_lt_findIdx (p := gtP key) (xs := labL l fr up ho) (i := j) (by omega)
    unfold gtP at this
    simpa using this
  have ha : ∀ j, (hj : j < (labL l fr up ho).length) → i < j → lessB key (labL l fr up ho)[j].f = true := fun j hj hij => by
    have h0 : gtP key (labL l fr up ho)[i + 1] = true := by
      have hw : (labL l fr up ho).findIdx (gtP key) < (labL l fr up ho).length := by omega
      have := List.findIdx_getElem (p := gtP key) (xs := labL l fr up ho) (w := hw)
      simpa only [hi] using this
    by_cases e : j = i + 1
    · subst e; exact h0
    · exact less_trans h0 (hS.at (by omega) hj (by omega))
  rw [hoR_own hS hil key (hb i hil (Nat.le_refl _)) (fun hj => ha (i + 1) hj (by omega))]
  have e1 : (labL l fr up ho)[i] = ⟨(edgesL l fr up)[i], giveH l fr up ho (edgesL l fr up)[i]⟩ := by simp [labL]
  rw [e1]
  refine give_congr h.srt (fun e he => ?_)
  obtain ⟨j, hj, rfl⟩ := List.getElem_of_mem he
  have hjl : j < (labL l fr up ho).length := by simpa [labL] using hj
  have e2 : (labL l fr up ho)[j].f = (edgesL l fr up)[j] := by simp [labL]
  by_cases hij : j ≤ i
  · have h1 := hb j hjl hij
    rw [e2] at h1
    rw [h1]
    by_cases e : j = i
    · subst e; exact less_irrefl _
    · exact less_asymD (List.pairwise_iff_getElem.1 hE j i hj hel (by omega))
  · have h1 := ha j hjl (by omega)
    rw [e2] at h1
    rw [h1]
    exact List.pairwise_iff_getElem.1 hE i j hel hj (by omega)
theorem deleg_sh {l : List Bd} (h : Sh l) (fr up : List UInt8) (ho : Int) : Sh (delegL l fr up ho) :=
  ⟨(lab_srt l fr up ho).sublist (cmpF_sub _ _), cmpF_alt _ _, compB_first (lab_first h.fst fr up ho)⟩
/-- The document's answer is the program's. -/
theorem deleg_is {l : List Bd} (h : Sh l) (fr up : List UInt8) (ho : Int) : delegL l fr up ho = setB l fr up ho := by
  refine (deleg_sh h fr up ho).uniq (h.set fr up ho) (fun key => ?_)
  unfold delegL
  rw [compB_ho key (lab_srt l fr up ho), lab_ho h, h.ho]
  unfold giveH
  rw [hoF_is h.srt]
/-- Has a host all, by the edges. -/
def hasE (l : List Bd) (fr up : List UInt8) (ho : Int) : Bool := (edgesL l fr up).all (fun e => !inR e fr up || decide (hoF e l = ho)) && someR fr up
theorem has_is {l : List Bd} (h : Sh l) (fr up : List UInt8) (ho : Int) : hasB l fr up ho = hasE l fr up ho := by
  unfold hasB hasE
  cases hs : someR fr up with
  | false => rw [Bool.false_and, Bool.false_and, Bool.and_false]
  | true =>
    rw [Bool.true_and, Bool.and_true, hoAt_is]
    have hfr : inR fr fr up = true := by rw [inR_self]; exact hs
    apply Bool.eq_iff_iff.2
    rw [Bool.and_eq_true, decide_eq_true_eq, Bool.not_eq_true', List.any_eq_false, List.all_eq_true]
    constructor
    · rintro ⟨h1, h2⟩ e he
      cases hi : inR e fr up with
      | false => rfl
      | true =>
        rw [Bool.not_true, Bool.false_or, decide_eq_true_eq, hoF_is h.srt]
        have hn : 0 < l.findIdx (gtP e) := by
          obtain ⟨b, _, _⟩ := first_nil h.fst
          cases hL : l with
          | nil => have := h.fst; rw [hL] at this; cases this
          | cons x t =>
            rw [List.findIdx_cons]
            have hx : x.f = [] := by have hF := h.fst; rw [hL] at hF; cases hh : x.f with | nil => rfl | cons a b => have : x.f.isEmpty = true := hF; rw [hh] at this; cases this
            have : gtP e x = false := by unfold gtP; rw [hx]; exact less_nil_right _
            rw [this]
            simp
        obtain ⟨i, hi1⟩ : ∃ i, l.findIdx (gtP e) = i + 1 := ⟨_, (Nat.sub_add_cancel hn).symm⟩
        have hle : l.findIdx (gtP e) ≤ l.length := List.findIdx_le_length
        have hil : i < l.length := by omega
        have hb : lessB e l[i].f = false := by
          have := List.not_of_lt_findIdx (p := gtP e) (xs := l) (i := i) (by omega)
          unfold gtP at this
          simpa using this
        have ha : ∀ hj : i + 1 < l.length, lessB e l[i + 1].f = true := fun hj => by
          have hw : l.findIdx (gtP e) < l.length := by omega
          have := List.findIdx_getElem (p := gtP e) (xs := l) (w := hw)
          have h9 : gtP e l[i + 1] = true := by simpa only [hi1] using this
          exact h9
        rw [hoR_own h.srt hil e hb ha]
        unfold inR at hi
        simp only [Bool.and_eq_true, Bool.or_eq_true, Bool.not_eq_true'] at hi
        cases hlf : lessB l[i].f fr with
        | true =>
          rw [← hoR_own h.srt hil (d := 0) fr (less_asymD hlf) (fun hj => le_less_trans hi.1 (ha hj))]
          exact h1
        | false =>
          have h3 := h2 l[i] (List.getElem_mem hil)
          have hin : inR l[i].f fr up = true := by
            unfold inR
            rw [hlf]
            simp only [Bool.not_false, Bool.true_and, Bool.or_eq_true]
            rcases hi.2 with h4 | h4
            · exact .inl h4
            · exact .inr (le_less_trans hb h4)
          unfold othP at h3
          rw [hin, Bool.and_true] at h3
          simpa using h3
    · intro h1
      constructor
      · have := h1 fr ((edges_mem l fr up fr).2 (.inl rfl))
        rw [hfr, Bool.not_true, Bool.false_or, decide_eq_true_eq, hoF_is h.srt] at this
        exact this
      · intro x hx ht
        unfold othP at ht
        simp only [Bool.and_eq_true, Bool.not_eq_true', decide_eq_false_iff_not] at ht
        have := h1 x.f ((edges_mem l fr up x.f).2 (.inr (.inr ⟨x, hx, rfl⟩)))
        rw [ht.2, Bool.not_true, Bool.false_or, decide_eq_true_eq, hoF_is h.srt] at this
        obtain ⟨j, hj, rfl⟩ := List.getElem_of_mem hx
        rw [hoR_own h.srt hj _ (less_irrefl _) (fun hj2 => h.srt.at hj hj2 (by omega))] at this
        exact ht.1 this

end Go.Proofs.Ytllmcjmbicgahaa
