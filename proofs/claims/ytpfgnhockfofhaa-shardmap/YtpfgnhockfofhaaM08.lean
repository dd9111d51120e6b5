/-
  Joined: WDgM, WDf0, WDx1, WDx2.
-/
import Derived.Test.YtpfgnhockfofhaaM07
import Derived.Deep.DeepCutAuto
import Derived.Test.YtpfgnhockfofhaaM03
import Derived.Deep.LoopGhost
/-
  Delegations, plainly: bounds as a function of keys.
-/
namespace Go.Proofs.Ytpfgnhockfofhaa
open Go.RowKit

theorem less_nil_left {x : List UInt8} (h : lessB [] x = false) : x = [] := by
  cases x with
  | nil => rfl
  | cons a t => cases h
/-- x < y ≤ z. -/
theorem less_le_trans {x y z : List UInt8} (h : lessB x y = true) (k : lessB z y = false) : lessB x z = true := by
  by_cases e : z = y
  · rw [e]; exact h
  · exact less_trans h (less_total k e)
/-- x ≤ y < z. -/
theorem le_less_trans {x y z : List UInt8} (h : lessB y x = false) (k : lessB y z = true) : lessB x z = true := by
  by_cases e : x = y
  · rw [e]; exact k
  · exact less_trans (less_total h (fun x => e x.symm)) k
/-- x ≤ y ≤ z. -/
theorem le_le_trans {x y z : List UInt8} (h : lessB y x = false) (k : lessB z y = false) : lessB z x = false := by
  cases hz : lessB z x with
  | false => rfl
  | true => have := less_le_trans hz h; rw [k] at this; cases this

def hoR : Int → List Bd → List UInt8 → Int
  | d, [], _ => d
  | d, x :: t, key => if lessB key x.f = true then d else hoR x.h t key
def lastHo : Int → List Bd → Int
  | d, [] => d
  | _, x :: t => lastHo x.h t
def AltB : Option Int → List Bd → Prop
  | _, [] => True
  | p, x :: t => p ≠ some x.h ∧ AltB (some x.h) t
theorem hoR_idx (key : List UInt8) : ∀ (ps : List Bd) (d : Int), hoR d ps key = if ps.findIdx (gtP key) = 0 then d else match ps[ps.findIdx (gtP key) - 1]? with | some x => x.h | none => 0
  | [], d => rfl
  | x :: t, d => by
    show (if lessB key x.f = true then d else hoR x.h t key) = _
    rw [List.findIdx_cons]
    cases hx : gtP key x with
    | true =>
      rw [if_pos (show lessB key x.f = true from hx)]
      rfl
    | false =>
      have hx' : lessB key x.f = false := hx
      rw [hx', if_neg (by decide), hoR_idx key t x.h]
      simp only [cond_false]
      generalize t.findIdx (gtP key) = n
      cases n with
      | zero => rfl
      | succ m => simp
theorem hoAt_is (key : List UInt8) (ps : List Bd) : hoAt key ps = hoR 0 ps key := (hoR_idx key ps 0).symm
theorem hoR_app {key : List UInt8} {B : List Bd} : ∀ {A : List Bd} {d : Int}, (∀ x ∈ A, lessB key x.f = false) → hoR d (A ++ B) key = hoR (lastHo d A) B key
  | [], _, _ => rfl
  | x :: t, d, h => by
    show (if lessB key x.f = true then d else hoR x.h (t ++ B) key) = _
    rw [h x (by simp), if_neg (by decide), hoR_app (fun y hy => h y (by simp [hy]))]
    rfl
theorem hoR_all {key : List UInt8} {B : List Bd} {d : Int} (h : ∀ x ∈ B, lessB key x.f = true) : hoR d B key = d := by
  cases B with
  | nil => rfl
  | cons x t =>
    show (if lessB key x.f = true then d else hoR x.h t key) = _
    rw [h x (by simp), if_pos rfl]
theorem hoR_stop {key : List UInt8} {B : List Bd} : ∀ {A : List Bd} {d : Int}, (∀ x ∈ B, lessB key x.f = true) → hoR d (A ++ B) key = hoR d A key
  | [], _, h => hoR_all h
  | x :: t, d, h => by
    show (if lessB key x.f = true then d else hoR x.h (t ++ B) key) = (if lessB key x.f = true then d else hoR x.h t key)
    rw [hoR_stop h]
theorem take_ge {fr : List UInt8} {ps : List Bd} {x : Bd} (h : x ∈ ps.take (ps.findIdx (geP fr))) : lessB x.f fr = true := by
  obtain ⟨j, hj, rfl⟩ := List.getElem_of_mem h
  rw [List.length_take] at hj
  have := List.not_of_lt_findIdx (p := geP fr) (xs := ps) (i := j) (by omega)
  rw [List.getElem_take]
  unfold geP at this
  simpa using this
theorem drop_ge {fr : List UInt8} {ps : List Bd} (hs : SrtB ps) {x : Bd} (h : x ∈ ps.drop (ps.findIdx (geP fr))) : lessB x.f fr = false := by
  obtain ⟨j, hj, rfl⟩ := List.getElem_of_mem h
  rw [List.length_drop] at hj
  rw [List.getElem_drop]
  have hl : ps.findIdx (geP fr) < ps.length := by omega
  have h0 : geP fr ps[ps.findIdx (geP fr)] = true := List.findIdx_getElem (w := hl)
  have h9 : (!lessB ps[ps.findIdx (geP fr) + j].f fr) = true := hs.ge fr _ (ps.findIdx (geP fr) + j) hl (by omega) (by omega) h0
  simpa using h9
theorem take_gt {up : List UInt8} {ps : List Bd} {x : Bd} (h : x ∈ ps.take (ps.findIdx (gtP up))) : lessB up x.f = false := by
  obtain ⟨j, hj, rfl⟩ := List.getElem_of_mem h
  rw [List.length_take] at hj
  have := List.not_of_lt_findIdx (p := gtP up) (xs := ps) (i := j) (by omega)
  rw [List.getElem_take]
  unfold gtP at this
  simpa using this
theorem drop_gt {up : List UInt8} {ps : List Bd} (hs : SrtB ps) {x : Bd} (h : x ∈ ps.drop (ps.findIdx (gtP up))) : lessB up x.f = true := by
  obtain ⟨j, hj, rfl⟩ := List.getElem_of_mem h
  rw [List.length_drop] at hj
  rw [List.getElem_drop]
  have hl : ps.findIdx (gtP up) < ps.length := by omega
  have h0 : gtP up ps[ps.findIdx (gtP up)] = true := List.findIdx_getElem (w := hl)
  exact hs.gt up _ (ps.findIdx (gtP up) + j) hl (by omega) (by omega) h0
theorem some_less {fr up : List UInt8} (h : someR fr up = true) (hu : up ≠ []) : lessB fr up = true := by
  unfold someR at h
  cases up with
  | nil => exact absurd rfl hu
  | cons x t => simpa using h
/-- Who has a key behind a range is given. -/
theorem ho_set {ps : List Bd} (hs : SrtB ps) {fr up : List UInt8} (h : someR fr up = true) (ho : Int) (key : List UInt8) : hoR 0 (setL ps fr up ho) key = if inR key fr up = true then ho else hoR 0 ps key := by
  have hR : ∀ x ∈ (if up = [] then [] else (⟨up, hoAt up ps⟩ : Bd) :: ps.drop (ps.findIdx (gtP up))), lessB fr x.f = true := fun x hx => by
    by_cases hu : up = []
    · rw [if_pos hu] at hx; cases hx
    · rw [if_neg hu] at hx
      rcases List.mem_cons.1 hx with rfl | hx
      · exact some_less h hu
      · exact less_trans (some_less h hu) (drop_gt hs hx)
  unfold setL
  rw [List.append_assoc]
  cases hk : lessB key fr with
  | true =>
    have hi : inR key fr up = false := by unfold inR; rw [hk]; rfl
    have e0 : (if inR key fr up = true then ho else hoR 0 ps key) = hoR 0 ps key := by rw [hi]; rfl
    rw [e0, hoR_stop (fun x hx => by
      rcases List.mem_append.1 hx with hx | hx
      · rw [List.mem_singleton] at hx; subst hx; exact hk
      · exact less_trans hk (hR x hx))]
    conv => rhs; rw [← List.take_append_drop (ps.findIdx (geP fr)) ps]
    rw [hoR_stop (fun x hx => less_le_trans hk (drop_ge hs hx))]
  | false =>
    rw [hoR_app (fun x hx => le_le_trans (less_asymD (take_ge hx)) hk)]
    show (if lessB key fr = true then _ else hoR ho _ key) = _
    rw [hk, if_neg (by decide)]
    by_cases hu : up = []
    · have hi : inR key fr up = true := by unfold inR; rw [hk, hu]; rfl
      rw [if_pos hu, hi, if_pos rfl]
      rfl
    · rw [if_neg hu]
      show (if lessB key up = true then ho else hoR (hoAt up ps) _ key) = _
      have he : up.isEmpty = false := by cases up with | nil => exact absurd rfl hu | cons x t => rfl
      have hi : inR key fr up = lessB key up := by unfold inR; rw [hk, he]; rfl
      rw [hi]
      cases hku : lessB key up with
      | true => rw [if_pos rfl, if_pos rfl]
      | false =>
        rw [if_neg (by decide), if_neg (by decide), hoAt_is]
        conv => rhs; rw [← List.take_append_drop (ps.findIdx (gtP up)) ps]
        rw [hoR_app (fun x hx => le_le_trans (take_gt hx) hku)]
        congr 1
        conv => lhs; rw [← List.take_append_drop (ps.findIdx (gtP up)) ps]
        rw [hoR_app (fun x hx => take_gt hx)]
        exact hoR_all (fun x hx => drop_gt hs hx)
theorem srt_set {ps : List Bd} (hs : SrtB ps) {fr up : List UInt8} (h : someR fr up = true) (ho : Int) : SrtB (setL ps fr up ho) := by
  unfold setL
  have hA : SrtB (ps.take (ps.findIdx (geP fr)) ++ [(⟨fr, ho⟩ : Bd)]) := by
    refine List.pairwise_append.2 ⟨hs.sublist (List.take_sublist _ _), List.pairwise_singleton _ _, fun a ha b hb => ?_⟩
    rw [List.mem_singleton] at hb
    subst hb
    exact take_ge ha
  by_cases hu : up = []
  · rw [if_pos hu, List.append_nil]; exact hA
  · rw [if_neg hu]
    have hfu := some_less h hu
    refine List.pairwise_append.2 ⟨hA, List.pairwise_cons.2 ⟨fun b hb => drop_gt hs hb, hs.sublist (List.drop_sublist _ _)⟩, fun a ha b hb => ?_⟩
    have h1 : lessB a.f up = true := by
      rcases List.mem_append.1 ha with ha | ha
      · exact less_trans (take_ge ha) hfu
      · rw [List.mem_singleton] at ha
        subst ha
        exact hfu
    rcases List.mem_cons.1 hb with rfl | hb
    · exact h1
    · exact less_trans h1 (drop_gt hs hb)
theorem first_set {ps : List Bd} (hf : firstE ps = true) (fr up : List UInt8) (ho : Int) : firstE (setL ps fr up ho) = true := by
  cases ps with
  | nil => cases hf
  | cons x t =>
    have hx : x.f = [] := by cases hh : x.f with | nil => rfl | cons a b => have : x.f.isEmpty = true := hf; rw [hh] at this; cases this
    unfold setL
    rw [List.findIdx_cons]
    cases hg : geP fr x with
    | true =>
      have : lessB x.f fr = false := by unfold geP at hg; simpa using hg
      rw [hx] at this
      have := less_nil_left this
      subst this
      rfl
    | false =>
      simp only [cond_false]
      rw [List.take_succ_cons]
      exact hf
theorem cmpF_sub : ∀ (l : List Bd) (p : Option Int), (cmpF p l).Sublist l
  | [], _ => List.Sublist.refl _
  | x :: t, p => by
    show ((if p = some x.h then [] else [x]) ++ cmpF (some x.h) t).Sublist _
    by_cases e : p = some x.h
    · rw [if_pos e]; exact (cmpF_sub t _).cons _
    · rw [if_neg e]; exact (cmpF_sub t _).cons_cons _
theorem cmpF_alt : ∀ (l : List Bd) (p : Option Int), AltB p (cmpF p l)
  | [], _ => trivial
  | x :: t, p => by
    show AltB p ((if p = some x.h then [] else [x]) ++ cmpF (some x.h) t)
    by_cases e : p = some x.h
    · rw [if_pos e, e]; exact cmpF_alt t _
    · rw [if_neg e]; exact ⟨e, cmpF_alt t _⟩
theorem cmpF_ho (key : List UInt8) : ∀ (l : List Bd) (d : Int), SrtB l → hoR d (cmpF (some d) l) key = hoR d l key
  | [], _, _ => rfl
  | x :: t, d, h => by
    obtain ⟨h1, h2⟩ := List.pairwise_cons.1 h
    show hoR d ((if some d = some x.h then [] else [x]) ++ cmpF (some x.h) t) key = if lessB key x.f = true then d else hoR x.h t key
    by_cases e : d = x.h
    · rw [if_pos (by rw [e]), List.nil_append, e, cmpF_ho key t x.h h2]
      cases hk : lessB key x.f with
      | true => rw [if_pos rfl]; exact hoR_all (fun y hy => less_trans hk (h1 y hy))
      | false => rw [if_neg (by decide)]
    · rw [if_neg (fun h => e (Option.some.inj h))]
      show (if lessB key x.f = true then d else hoR x.h (cmpF (some x.h) t) key) = _
      rw [cmpF_ho key t x.h h2]
theorem compB_ho (key : List UInt8) {l : List Bd} (h : SrtB l) : hoR 0 (compB l) key = hoR 0 l key := by
  cases l with
  | nil => rfl
  | cons x t =>
    show (if lessB key x.f = true then 0 else hoR x.h (cmpF (some x.h) t) key) = (if lessB key x.f = true then 0 else hoR x.h t key)
    rw [cmpF_ho key t x.h (List.pairwise_cons.1 h).2]
theorem compB_first {l : List Bd} (h : firstE l = true) : firstE (compB l) = true := by
  cases l with
  | nil => cases h
  | cons x t => exact h
/-- Bounds that may be, but for what hosts and keys are. -/
structure Sh (ps : List Bd) : Prop where
  srt : SrtB ps
  alt : AltB none ps
  fst : firstE ps = true
theorem Sh.pos {ps : List Bd} (h : Sh ps) : 0 < ps.length := by
  have := h.fst
  cases ps with
  | nil => cases this
  | cons x t => simp
theorem Sh.set {ps : List Bd} (h : Sh ps) (fr up : List UInt8) (ho : Int) : Sh (setB ps fr up ho) := by
  unfold setB
  cases hs : someR fr up with
  | false => rw [if_neg (by decide)]; exact h
  | true => rw [if_pos rfl]; exact ⟨(srt_set h.srt hs ho).sublist (cmpF_sub _ _), cmpF_alt _ _, compB_first (first_set h.fst fr up ho)⟩
theorem Sh.ho {ps : List Bd} (h : Sh ps) (fr up : List UInt8) (ho : Int) (key : List UInt8) : hoR 0 (setB ps fr up ho) key = if inR key fr up = true then ho else hoR 0 ps key := by
  unfold setB
  cases hs : someR fr up with
  | false =>
    rw [if_neg (by decide), if_neg]
    intro hi
    unfold inR at hi
    unfold someR at hs
    simp only [Bool.and_eq_true, Bool.or_eq_true, Bool.not_eq_true', Bool.or_eq_false_iff] at hi hs
    rcases hi.2 with h2 | h2
    · rw [hs.1] at h2; cases h2
    · have := le_less_trans hi.1 h2
      rw [hs.2] at this
      cases this
  | true => rw [if_pos rfl, compB_ho key (srt_set h.srt hs ho), ho_set h.srt hs]
theorem uniqT : ∀ (l1 l2 : List Bd) (d : Int), SrtB l1 → SrtB l2 → AltB (some d) l1 → AltB (some d) l2 → (∀ key, hoR d l1 key = hoR d l2 key) → l1 = l2
  | [], [], _, _, _, _, _, _ => rfl
  | [], y :: t, d, _, _, _, a2, h => by
    have := h y.f
    have e : hoR d (y :: t) y.f = hoR y.h t y.f := by show (if lessB y.f y.f = true then d else hoR y.h t y.f) = _; rw [less_irrefl, if_neg (by decide)]
    rename_i _ s2 _
    rw [e, hoR_all (fun x hx => (List.pairwise_cons.1 s2).1 x hx)] at this
    exact absurd (congrArg some this) a2.1
  | x :: t, [], d, s1, _, a1, _, h => by
    have := h x.f
    have e : hoR d (x :: t) x.f = hoR x.h t x.f := by show (if lessB x.f x.f = true then d else hoR x.h t x.f) = _; rw [less_irrefl, if_neg (by decide)]
    rw [e, hoR_all (fun y hy => (List.pairwise_cons.1 s1).1 y hy)] at this
    exact absurd (congrArg some this.symm) a1.1
  | x :: t, y :: u, d, s1, s2, a1, a2, h => by
    obtain ⟨p1, q1⟩ := List.pairwise_cons.1 s1
    obtain ⟨p2, q2⟩ := List.pairwise_cons.1 s2
    have ex : ∀ key, hoR d (x :: t) key = if lessB key x.f = true then d else hoR x.h t key := fun _ => rfl
    have ey : ∀ key, hoR d (y :: u) key = if lessB key y.f = true then d else hoR y.h u key := fun _ => rfl
    have hxx : hoR d (x :: t) x.f = x.h := by rw [ex, less_irrefl, if_neg (by decide), hoR_all p1]
    have hyy : hoR d (y :: u) y.f = y.h := by rw [ey, less_irrefl, if_neg (by decide), hoR_all p2]
    have hf : x.f = y.f := by
      cases hl : lessB x.f y.f with
      | true =>
        have := h x.f
        rw [hxx, ey, hl, if_pos rfl] at this
        exact absurd (congrArg some this.symm) a1.1
      | false =>
        by_cases e : x.f = y.f
        · exact e
        · have hl2 := less_total hl e
          have := h y.f
          rw [hyy, ex, hl2, if_pos rfl] at this
          exact absurd (congrArg some this) a2.1
    have hh : x.h = y.h := by have := h x.f; rw [hxx] at this; rw [this, hf, hyy]
    have hxy : x = y := by cases x; cases y; cases hf; cases hh; rfl
    subst hxy
    rw [uniqT t u x.h q1 q2 a1.2 a2.2 (fun key => by
      have := h key
      rw [ex, ey] at this
      cases hk : lessB key x.f with
      | true => rw [hoR_all (fun y hy => less_trans hk (p1 y hy)), hoR_all (fun y hy => less_trans hk (p2 y hy))]
      | false => rw [hk, if_neg (by decide), if_neg (by decide)] at this; exact this)]
/-- Bounds that say the same are the same. -/
theorem Sh.uniq {l1 l2 : List Bd} (h1 : Sh l1) (h2 : Sh l2) (h : ∀ key, hoR 0 l1 key = hoR 0 l2 key) : l1 = l2 := by
  cases l1 with
  | nil => cases h1.fst
  | cons x t =>
    cases l2 with
    | nil => cases h2.fst
    | cons y u =>
      have hx : x.f = [] := by cases hh : x.f with | nil => rfl | cons a b => have : x.f.isEmpty = true := h1.fst; rw [hh] at this; cases this
      have hy : y.f = [] := by cases hh : y.f with | nil => rfl | cons a b => have : y.f.isEmpty = true := h2.fst; rw [hh] at this; cases this
      obtain ⟨p1, q1⟩ := List.pairwise_cons.1 h1.srt
      obtain ⟨p2, q2⟩ := List.pairwise_cons.1 h2.srt
      have ex : ∀ key, hoR 0 (x :: t) key = hoR x.h t key := fun key => by show (if lessB key x.f = true then 0 else hoR x.h t key) = _; rw [hx, less_nil_right, if_neg (by decide)]
      have ey : ∀ key, hoR 0 (y :: u) key = hoR y.h u key := fun key => by show (if lessB key y.f = true then 0 else hoR y.h u key) = _; rw [hy, less_nil_right, if_neg (by decide)]
      have hh : x.h = y.h := by
        have := h []
        rw [ex, ey, hoR_all (fun z hz => by have := p1 z hz; rw [hx] at this; exact this), hoR_all (fun z hz => by have := p2 z hz; rw [hy] at this; exact this)] at this
        exact this
      have hxy : x = y := by cases x; cases y; cases hx; cases hy; cases hh; rfl
      subst hxy
      rw [uniqT t u x.h q1 q2 h1.alt.2 h2.alt.2 (fun key => by rw [← ex, ← ey]; exact h key)]
theorem vRise_some : ∀ {l : List Bd} {q : Bd}, vRise (some q) l = true → (∀ x ∈ l, bdOk x = true ∧ lessB q.f x.f = true) ∧ SrtB l ∧ AltB (some q.h) l
  | [], _, _ => ⟨fun x hx => absurd hx (List.not_mem_nil), List.Pairwise.nil, trivial⟩
  | x :: t, q, h => by
    unfold vRise at h
    simp only [Bool.and_eq_true] at h
    obtain ⟨⟨h1, h2⟩, h3⟩ := h
    unfold followB at h2
    simp only [Bool.and_eq_true, Bool.not_eq_true', decide_eq_false_iff_not] at h2
    obtain ⟨i1, i2, i3⟩ := vRise_some h3
    refine ⟨fun y hy => ?_, List.pairwise_cons.2 ⟨fun y hy => (i1 y hy).2, i2⟩, ⟨fun e => h2.2 (Option.some.inj e), i3⟩⟩
    rcases List.mem_cons.1 hy with rfl | hy
    · exact ⟨h1, h2.1⟩
    · exact ⟨(i1 y hy).1, less_trans h2.1 (i1 y hy).2⟩
theorem some_vRise : ∀ {l : List Bd} {q : Bd}, (∀ x ∈ l, bdOk x = true ∧ lessB q.f x.f = true) → SrtB l → AltB (some q.h) l → vRise (some q) l = true
  | [], _, _, _, _ => by unfold vRise; rfl
  | x :: t, q, h, hs, ha => by
    obtain ⟨p, s⟩ := List.pairwise_cons.1 hs
    unfold vRise
    simp only [Bool.and_eq_true]
    refine ⟨⟨(h x (by simp)).1, ?_⟩, some_vRise (fun y hy => ⟨(h y (by simp [hy])).1, p y hy⟩) s ha.2⟩
    unfold followB
    rw [(h x (by simp)).2, Bool.true_and, Bool.not_eq_true', decide_eq_false_iff_not]
    exact fun e => ha.1 (by rw [e])
theorem valid_sh {l : List Bd} : validB l = true ↔ Sh l ∧ ∀ x ∈ l, bdOk x = true := by
  unfold validB
  constructor
  · intro h
    simp only [Bool.and_eq_true] at h
    obtain ⟨h1, h2⟩ := h
    cases l with
    | nil => cases h1
    | cons x t =>
      unfold vRise at h2
      simp only [Bool.and_eq_true, Bool.and_true] at h2
      obtain ⟨i1, i2, i3⟩ := vRise_some h2.2
      refine ⟨⟨List.pairwise_cons.2 ⟨fun y hy => (i1 y hy).2, i2⟩, ⟨by simp, i3⟩, h1⟩, fun y hy => ?_⟩
      rcases List.mem_cons.1 hy with rfl | hy
      · exact h2.1
      · exact (i1 y hy).1
  · rintro ⟨h, hb⟩
    rw [h.fst, Bool.true_and]
    cases l with
    | nil => rfl
    | cons x t =>
      obtain ⟨p, s⟩ := List.pairwise_cons.1 h.srt
      unfold vRise
      simp only [Bool.and_eq_true, Bool.and_true]
      exact ⟨hb x (by simp), some_vRise (fun y hy => ⟨hb y (by simp [hy]), p y hy⟩) s h.alt.2⟩
theorem hoR_mem : ∀ (l : List Bd) (d : Int) (key : List UInt8), hoR d l key = d ∨ ∃ x ∈ l, hoR d l key = x.h
  | [], _, _ => .inl rfl
  | x :: t, d, key => by
    show (if lessB key x.f = true then d else hoR x.h t key) = d ∨ ∃ y ∈ x :: t, (if lessB key x.f = true then d else hoR x.h t key) = y.h
    cases lessB key x.f with
    | true => exact .inl rfl
    | false =>
      rw [if_neg (by decide)]
      rcases hoR_mem t x.h key with h | ⟨y, hy, h⟩
      · exact .inr ⟨x, by simp, h⟩
      · exact .inr ⟨y, by simp [hy], h⟩
theorem hoR_node {l : List Bd} (h : Sh l) (hb : ∀ x ∈ l, bdOk x = true) (key : List UInt8) : isNd (hoR 0 l key) = true := by
  cases l with
  | nil => cases h.fst
  | cons x t =>
    have hx : x.f = [] := by cases hh : x.f with | nil => rfl | cons a b => have : x.f.isEmpty = true := h.fst; rw [hh] at this; cases this
    have ok : ∀ y ∈ x :: t, isNd y.h = true := fun y hy => by have := hb y hy; unfold bdOk at this; simp only [Bool.and_eq_true] at this; exact this.1
    have ex : hoR 0 (x :: t) key = hoR x.h t key := by show (if lessB key x.f = true then 0 else hoR x.h t key) = _; rw [hx, less_nil_right, if_neg (by decide)]
    rw [ex]
    rcases hoR_mem t x.h key with e | ⟨y, hy, e⟩
    · rw [e]; exact ok x (by simp)
    · rw [e]; exact ok y (by simp [hy])
theorem set_valid {l : List Bd} (h : validB l = true) {fr up : List UInt8} {ho : Int} (hf : fr.length ≤ 16) (hu : up.length ≤ 16) (hn : isNd ho = true) : validB (setB l fr up ho) = true := by
  obtain ⟨hs, hb⟩ := valid_sh.1 h
  refine valid_sh.2 ⟨hs.set fr up ho, fun x hx => ?_⟩
  unfold setB at hx
  cases hsm : someR fr up with
  | false => rw [hsm, if_neg (by decide)] at hx; exact hb x hx
  | true =>
    rw [hsm, if_pos rfl] at hx
    have hx := (cmpF_sub _ _).subset hx
    unfold setL at hx
    rcases List.mem_append.1 hx with hx | hx
    · rcases List.mem_append.1 hx with hx | hx
      · exact hb x (List.mem_of_mem_take hx)
      · rw [List.mem_singleton] at hx
        subst hx
        unfold bdOk
        rw [hn, decide_eq_true hf]
        rfl
    · by_cases e : up = []
      · rw [if_pos e] at hx; cases hx
      · rw [if_neg e] at hx
        rcases List.mem_cons.1 hx with rfl | hx
        · unfold bdOk
          simp only [hoAt_is, hoR_node hs hb, decide_eq_true hu]
          rfl
        · exact hb x (List.mem_of_mem_drop hx)
theorem hoR_own {l : List Bd} (h : SrtB l) {i : Nat} (hi : i < l.length) {d : Int} (key : List UInt8) (h1 : lessB key l[i].f = false) (h2 : ∀ hj : i + 1 < l.length, lessB key l[i + 1].f = true) : hoR d l key = l[i].h := by
  have e : l.findIdx (gtP key) = i + 1 := by
    refine findIdx_is (by omega) (fun j hj hji => ?_) (fun j hj hij => ?_)
    · unfold gtP
      by_cases e : j = i
      · subst e; exact h1
      · exact le_le_trans (less_asymD (h.at hj hi (by omega))) h1
    · have h3 := h2 (by omega)
      by_cases e : j = i + 1
      · subst e; exact h3
      · exact less_trans h3 (h.at (by omega) hj (by omega))
  rw [hoR_idx, e, if_neg (by omega), Nat.add_sub_cancel, List.getElem?_eq_getElem hi]
theorem setB_len (l : List Bd) (fr up : List UInt8) (ho : Int) : (setB l fr up ho).length ≤ l.length + 2 := by
  unfold setB
  split
  · have h1 := cmpF_len (setL l fr up ho) none
    have h2 : (setL l fr up ho).length ≤ l.length + 2 := by
      rename_i hs
      unfold setL
      by_cases e : up = []
      · rw [if_pos e]; simp [List.length_take]; omega
      · rw [if_neg e]
        have : l.findIdx (geP fr) ≤ l.findIdx (gtP up) := by
          by_cases hn : l.findIdx (gtP up) < l.findIdx (geP fr)
          · have hlp : l.findIdx (gtP up) < l.length := by have := List.findIdx_le_length (p := geP fr) (xs := l); omega
            have a1 : gtP up l[l.findIdx (gtP up)] = true := List.findIdx_getElem (w := hlp)
            have a2 := List.not_of_lt_findIdx hn
            unfold gtP at a1
            unfold geP at a2
            have a3 : lessB l[l.findIdx (gtP up)].f fr = true := by simpa using a2
            have := less_trans (less_trans a1 a3) (some_less hs e)
            rw [less_irrefl] at this
            cases this
          · omega
        simp [List.length_take, List.length_drop]
        omega
    unfold compB
    omega
  · omega

end Go.Proofs.Ytpfgnhockfofhaa

/-
  DelegFunction: rows of what was given, rows of texts; keyOf, pick.
-/
namespace Go.Proofs.Ytpfgnhockfofhaa
open Go.RowKit

/-! ### texts of one's own -/
def tdCells (ns : List (List UInt8)) : List Value := ns.map fun n => Value.string (bs n)
def OwnTd (B : Nat) (w : World) (ao : Option Addr) (c : Nat) (ns : List (List UInt8)) : Prop := w.ownsRow B 9 1 (.slice ao ns.length c) ns.length (tdCells ns)
theorem tdCells_len (ns : List (List UInt8)) : (tdCells ns).length = ns.length * 1 := by simp [tdCells]
theorem tdCells_one (ns : List (List UInt8)) : ∀ v ∈ tdCells ns, v.oneCell' = true := fun u hu => by
  obtain ⟨n, _, rfl⟩ := List.mem_map.1 hu
  rfl
theorem OwnTd.kept {B c : Nat} {w w' : World} {ao : Option Addr} {ns : List (List UInt8)} (h : OwnTd B w ao c ns) (hk : Kept Nil w w') : OwnTd B w' ao c ns := own_kept h hk (fun _ _ _ x => x.elim)
theorem OwnTd.cell {B c : Nat} {w : World} {ao : Option Addr} {ks : List (List UInt8)} (h : OwnTd B w ao c ks) {j : Nat} (hj : j < ks.length) : ∃ g, ao = some ⟨g, 0, none⟩ ∧ g < w.heap.size ∧ w.cell? ⟨g, j, none⟩ = some (.string (bs ks[j])) := by
  rcases h.2 with ⟨h1, _⟩ | ⟨g, cap, cur, hv, hb, hh, h1, h2, h3, h4⟩
  · simp at h1
    rw [h1.2.1] at hj
    simp at hj
  · simp only [Value.slice.injEq] at hv
    obtain ⟨rfl, _, _⟩ := hv
    refine ⟨g, rfl, lt_of_block hh, ?_⟩
    rw [blk_cell hh]
    have := congrArg (fun l => l[j]?) h4
    simp only [List.getElem?_take, if_pos (show j < ks.length * 1 by omega), Array.getElem?_toList] at this
    rw [this]
    simp [tdCells, hj]
theorem Try.infoTd : (Try.prog.info? 9).map (fun i => (i.zero, i.size, i.bytes)) = some (some (.string ⟨#[]⟩), 1, 16) := by kernel_rfl
theorem own_farD {B size n : Nat} {e : TypeId} {w w' : World} {v : Value} {xs : List Value} {ob : Option Nat} (h : w.ownsRow B e size v n xs) (hg : w.grownBy w' ob) (hne : ∀ g, v.ownBlock = some g → ob ≠ some g) : w'.ownsRow B e size v n xs := by
  refine ⟨h.1, h.2.imp id ?_⟩
  rintro ⟨g, cap, cur, hv, hb, hh, h3⟩
  refine ⟨g, cap, cur, hv, hb, ?_, h3⟩
  rw [hg.block g (lt_of_block hh) (fun e => hne g (by rw [hv]; rfl) e.symm)]
  exact hh
end Go.Proofs.Ytpfgnhockfofhaa

/-
  DelegExact: the document's within, HostOf, SameBounds, IsDelegation.
-/
namespace Go.Proofs.Ytpfgnhockfofhaa
open Go.RowKit

/-- The last bound that is not behind a key. -/
def hoF (key : List UInt8) (ps : List Bd) : Int := ps.foldl (fun h b => if lessB key b.f = true then h else b.h) 0
theorem hoF_next {key : List UInt8} {ps : List Bd} {k : Nat} (h : k < ps.length) : hoF key (ps.take (k + 1)) = if lessB key ps[k].f = true then hoF key (ps.take k) else ps[k].h := by
  unfold hoF
  rw [List.take_succ_eq_append_getElem h, List.foldl_append]
  rfl
theorem foldl_all {key : List UInt8} : ∀ {ps : List Bd} {d : Int}, (∀ x ∈ ps, lessB key x.f = true) → ps.foldl (fun h b => if lessB key b.f = true then h else b.h) d = d
  | [], _, _ => rfl
  | x :: t, d, h => by
    rw [List.foldl_cons, if_pos (h x (by simp)), foldl_all (fun y hy => h y (by simp [hy]))]
theorem hoF_go {key : List UInt8} : ∀ {ps : List Bd} {d : Int}, SrtB ps → ps.foldl (fun h b => if lessB key b.f = true then h else b.h) d = hoR d ps key
  | [], _, _ => rfl
  | x :: t, d, h => by
    obtain ⟨p, s⟩ := List.pairwise_cons.1 h
    rw [List.foldl_cons]
    show _ = if lessB key x.f = true then d else hoR x.h t key
    cases hk : lessB key x.f with
    | true => rw [if_pos rfl, if_pos rfl, foldl_all (fun y hy => less_trans hk (p y hy))]
    | false => rw [if_neg (by decide), if_neg (by decide), hoF_go s]
theorem hoF_is {key : List UInt8} {ps : List Bd} (h : SrtB ps) : hoF key ps = hoR 0 ps key := hoF_go h
end Go.Proofs.Ytpfgnhockfofhaa

/-
  DelegExact: the document's edges.
-/
namespace Go.Proofs.Ytpfgnhockfofhaa
open Go.RowKit

theorem OwnTd.block {B c : Nat} {w : World} {ao : Option Addr} {ks : List (List UInt8)} (h : OwnTd B w ao c ks) (h0 : ao ≠ none) : ∃ g cs, ao = some ⟨g, 0, none⟩ ∧ B ≤ g ∧ w.heap[g]? = some (.cells cs 9 (0, 0)) ∧ ks.length ≤ c ∧ c ≤ maxLen ∧ cs.size = c ∧ cs.toList.take ks.length = tdCells ks := by
  rcases h.2 with ⟨h1, h2⟩ | ⟨g, cap, cur, hv, hb, hh, h1, h2, h3, h4⟩
  · simp only [Value.slice.injEq] at h1
    exact absurd h1.1 h0
  · simp only [Value.slice.injEq] at hv
    obtain ⟨rfl, _, rfl⟩ := hv
    exact ⟨g, cur, rfl, hb, hh, h1, h2, by omega, by rw [Nat.mul_one] at h4; exact h4⟩
theorem OwnTd.none {B c : Nat} {w : World} {ks : List (List UInt8)} (h : OwnTd B w none c ks) : ks = [] ∧ c = 0 := by
  rcases h.2 with ⟨h1, _⟩ | ⟨g, cap, cur, hv, _⟩
  · simp at h1
    exact ⟨h1.1, h1.2⟩
  · simp at hv
theorem OwnTd.mono {B B' c : Nat} {w : World} {ao : Option Addr} {ps : List (List UInt8)} (h : OwnTd B w ao c ps) (hb : B' ≤ B) : OwnTd B' w ao c ps := by
  refine ⟨h.1, h.2.imp id ?_⟩
  rintro ⟨g, cap, cur, h1, h2, h3⟩
  exact ⟨g, cap, cur, h1, Nat.le_trans hb h2, h3⟩
theorem OwnTd.cellT {B c g j : Nat} {w : World} {ks : List (List UInt8)} (h : OwnTd B w (some ⟨g, 0, .none⟩) c ks) (hj : j < ks.length) : w.cell? ⟨g, j, .none⟩ = some (.string (bs ks[j])) := by
  obtain ⟨g', e, _, hc⟩ := h.cell hj
  cases e
  exact hc
theorem OwnTd.head {B g c i : Nat} {w : World} {fs : List (List UInt8)} (h : OwnTd B w (some ⟨g, 0, .none⟩) c fs) (hi : i ≤ fs.length) : w.ownsRow B 9 1 (.slice (some ⟨g, 0, .none⟩) i c) i (tdCells (fs.take i)) := by
  obtain ⟨g', cs, e0, hb, hh, h1, h2, h3, h4⟩ := h.block (by simp)
  cases e0
  refine ⟨by rw [tdCells_len, List.length_take]; omega, .inr ⟨g, c, cs, rfl, hb, hh, by omega, h2, by omega, ?_⟩⟩
  rw [Nat.mul_one, show tdCells (fs.take i) = (tdCells fs).take i by simp [tdCells, List.map_take], ← h4, List.take_take, Nat.min_eq_left hi]
theorem OwnTd.srcD {B g c i d : Nat} {w : World} {fs : List (List UInt8)} (h : OwnTd B w (some ⟨g, 0, .none⟩) c fs) : Src Try.prog 1 54 (.slice (some ⟨g, i, .none⟩) (fs.length - i) d) (fs.length - i) (tdCells (fs.drop i)) w := by
  refine Src.ofSlice _ Try.underlying54 ⟨g, i, .none⟩ (fs.length - i) d _ (by rw [tdCells_len, List.length_drop]) ?_ (tdCells_one _)
  intro j u hj
  have hlt : j < fs.length - i := by have := (List.getElem?_eq_some_iff.1 hj).1; simpa [tdCells] using this
  have hc := h.cellT (j := i + j) (by omega)
  have e : (⟨g, i, .none⟩ : Addr).add j = ⟨g, i + j, .none⟩ := by unfold Addr.add; split <;> simp_all
  rw [e, hc, ← hj]
  simp [tdCells, show i + j < fs.length by omega]
theorem OwnTd.src {B c : Nat} {w : World} {ao : Option Addr} {fs : List (List UInt8)} (h : OwnTd B w ao c fs) : Src Try.prog 1 54 (.slice ao fs.length c) fs.length (tdCells fs) w := by
  cases ao with
  | none =>
    obtain ⟨rfl, rfl⟩ := h.none
    exact Src.ofNil _ Try.underlying54 0
  | some a =>
    obtain ⟨g, cs, e0, _⟩ := h.block (by simp)
    cases e0
    exact h.srcD (i := 0)
theorem oneT_src (w : World) (x : List UInt8) : Src Try.prog 1 54 (.slice (some ⟨w.heap.size, 0, .none⟩) 1 1) 1 [.string (bs x)] (w.alloc (.cells #[.string (bs x)] 9)) := by
  refine Src.ofSlice _ Try.underlying54 ⟨w.heap.size, 0, .none⟩ 1 1 _ rfl ?_ (fun u hu => by simp at hu; subst hu; rfl)
  intro j u hj
  have : j = 0 := by have := (List.getElem?_eq_some_iff.1 hj).1; simpa using this
  subst this
  rw [addr_addE, blk_cell (blk_new w (.cells #[.string (bs x)] 9)), ← hj]
  rfl
theorem OwnTd.app {B c n m : Nat} {w : World} {ao : Option Addr} {fs gs : List (List UInt8)} (hn : n = fs.length) (hm : m = gs.length) (h : w.ownsRow B 9 1 (.slice ao (n + m) c) (n + m) (tdCells fs ++ tdCells gs)) : OwnTd B w ao c (fs ++ gs) := by
  subst hn
  subst hm
  show World.ownsRow _ _ _ _ _ _ _
  rw [List.length_append, show tdCells (fs ++ gs) = tdCells fs ++ tdCells gs by simp [tdCells]]
  exact h

end Go.Proofs.Ytpfgnhockfofhaa
