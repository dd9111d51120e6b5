/-
  Joined: WDx4, WDx3.
-/
import Derived.Test.YtpfgnhockfofhaaGreatH10
/-
  DelegExact, plainly: the document's answer says the same.
-/
namespace Go.Proofs.YtpfgnhockfofhaaGreat
open Go.RowKit

/-- Texts rise. -/
def SrtT (l : List (List UInt8)) : Prop := l.Pairwise fun a b => lessB a b = true
theorem insT_take {out : List (List UInt8)} {x y : List UInt8} (h : y ∈ out.take (out.findIdx (fun y => !lessB y x))) : lessB y x = true := by
  obtain ⟨j, hj, rfl⟩ := List.getElem_of_mem h
  rw [List.length_take] at hj
  have := List.not_of_lt_findIdx (p := fun y => !lessB y x) (xs := out) (i := j) (by omega)
  rw [List.getElem_take]
  simpa using this
theorem insT_drop {out : List (List UInt8)} (hs : SrtT out) {x y : List UInt8} (h : y ∈ out.drop (out.findIdx (fun y => !lessB y x))) : lessB y x = false := by
  obtain ⟨j, hj, rfl⟩ := List.getElem_of_mem h
  rw [List.length_drop] at hj
  rw [List.getElem_drop]
  have hl : out.findIdx (fun y => !lessB y x) < out.length := by omega
  have h0 : (!lessB out[out.findIdx (fun y => !lessB y x)] x) = true := List.findIdx_getElem (p := fun y => !lessB y x) (w := hl)
  have h1 : lessB out[out.findIdx (fun y => !lessB y x)] x = false := by simpa using h0
  by_cases e : j = 0
  · subst e; exact h1
  · have := List.pairwise_iff_getElem.1 hs (out.findIdx (fun y => !lessB y x)) (out.findIdx (fun y => !lessB y x) + j) hl (by omega) (by omega)
    cases hx : lessB out[out.findIdx (fun y => !lessB y x) + j] x with
    | false => rfl
    | true => rw [less_trans this hx] at h1; cases h1
theorem insT_srt {out : List (List UInt8)} (hs : SrtT out) (x : List UInt8) : SrtT (insT out x) ∧ ∀ y, y ∈ insT out x ↔ y = x ∨ y ∈ out := by
  unfold insT
  by_cases e : out[out.findIdx (fun y => !lessB y x)]? = some x
  · rw [if_pos e]
    refine ⟨hs, fun y => ⟨.inr, ?_⟩⟩
    rintro (rfl | h)
    · exact List.mem_of_getElem? e
    · exact h
  · rw [if_neg e]
    have hd : ∀ y ∈ out.drop (out.findIdx (fun y => !lessB y x)), lessB x y = true := fun y hy => by
      refine less_total (insT_drop hs hy) (fun eq => ?_)
      subst eq
      obtain ⟨j, hj, ej⟩ := List.getElem_of_mem hy
      rw [List.length_drop] at hj
      rw [List.getElem_drop] at ej
      have hl : out.findIdx (fun z => !lessB z y) < out.length := by omega
      by_cases e0 : j = 0
      · subst e0
        simp only [Nat.add_zero] at ej
        exact e (by rw [List.getElem?_eq_getElem hl, ej])
      · have h1 := List.pairwise_iff_getElem.1 hs (out.findIdx (fun z => !lessB z y)) (out.findIdx (fun z => !lessB z y) + j) hl (by omega) (by omega)
        rw [ej] at h1
        have h0 : (!lessB out[out.findIdx (fun z => !lessB z y)] y) = true := List.findIdx_getElem (p := fun z => !lessB z y) (w := hl)
        rw [h1] at h0
        cases h0
    refine ⟨?_, fun y => ?_⟩
    · rw [List.append_assoc]
      refine List.pairwise_append.2 ⟨hs.sublist (List.take_sublist _ _), List.pairwise_cons.2 ⟨hd, hs.sublist (List.drop_sublist _ _)⟩, fun a ha b hb => ?_⟩
      have h1 := insT_take ha
      rcases List.mem_cons.1 hb with rfl | hb
      · exact h1
      · exact less_trans h1 (hd b hb)
    · rw [List.append_assoc, List.mem_append, List.mem_append, List.mem_singleton]
      have : y ∈ out ↔ y ∈ out.take (out.findIdx (fun y => !lessB y x)) ∨ y ∈ out.drop (out.findIdx (fun y => !lessB y x)) := by
        rw [← List.mem_append, List.take_append_drop]
      rw [this]
      constructor
      · rintro (h | h | h)
        · exact .inr (.inl h)
        · exact .inl h
        · exact .inr (.inr h)
      · rintro (h | h | h)
        · exact .inr (.inl h)
        · exact .inl h
        · exact .inr (.inr h)
theorem fold_srt : ∀ (l out : List (List UInt8)), SrtT out → SrtT (l.foldl insT out) ∧ ∀ y, y ∈ l.foldl insT out ↔ y ∈ l ∨ y ∈ out
  | [], out, h => ⟨h, fun y => by simp⟩
  | x :: t, out, h => by
    obtain ⟨h1, h2⟩ := insT_srt h x
    obtain ⟨h3, h4⟩ := fold_srt t (insT out x) h1
    refine ⟨h3, fun y => ?_⟩
    rw [List.foldl_cons, h4 y, h2 y, List.mem_cons]
    constructor
    · rintro (h | h | h)
      · exact .inl (.inr h)
      · exact .inl (.inl h)
      · exact .inr h
    · rintro ((h | h) | h)
      · exact .inr (.inl h)
      · exact .inl h
      · exact .inr (.inr h)
theorem edges_srt (l : List Bd) (fr up : List UInt8) : SrtT (edgesL l fr up) := (fold_srt _ [] List.Pairwise.nil).1
theorem edges_mem (l : List Bd) (fr up y : List UInt8) : y ∈ edgesL l fr up ↔ y = fr ∨ y = up ∨ ∃ b ∈ l, b.f = y := by
  unfold edgesL
  rw [(fold_srt _ [] List.Pairwise.nil).2 y]
  simp
theorem fold_len : ∀ (l out : List (List UInt8)), (l.foldl insT out).length ≤ out.length + l.length
  | [], out => by simp
  | x :: t, out => by
    have h1 := insT_len out x
    have h2 := fold_len t (insT out x)
    rw [List.foldl_cons, List.length_cons]
    omega
theorem edges_len (l : List Bd) (fr up : List UInt8) : (edgesL l fr up).length ≤ l.length + 2 := by
  have h := fold_len (fr :: up :: l.map Bd.f) []
  have e : (fr :: up :: l.map Bd.f).length = l.length + 2 := by simp
  rw [e, List.length_nil, Nat.zero_add] at h
  exact h
/-- Whom a key is given to. -/
def giveH (l : List Bd) (fr up : List UInt8) (ho : Int) (key : List UInt8) : Int := if inR key fr up = true then ho else hoF key l
def labL (l : List Bd) (fr up : List UInt8) (ho : Int) : List Bd := (edgesL l fr up).map fun e => ⟨e, giveH l fr up ho e⟩
def delegL (l : List Bd) (fr up : List UInt8) (ho : Int) : List Bd := compB (labL l fr up ho)
theorem lab_srt (l : List Bd) (fr up : List UInt8) (ho : Int) : SrtB (labL l fr up ho) := by
  unfold labL SrtB
  rw [List.pairwise_map]
  exact edges_srt l fr up
theorem first_nil {l : List Bd} (h : firstE l = true) : ∃ b ∈ l, b.f = [] := by
  cases l with
  | nil => cases h
  | cons x t =>
    refine ⟨x, by simp, ?_⟩
    cases hh : x.f with
    | nil => rfl
    | cons a b => have : x.f.isEmpty = true := h; rw [hh] at this; cases this
theorem lab_first {l : List Bd} (h : firstE l = true) (fr up : List UInt8) (ho : Int) : firstE (labL l fr up ho) = true := by
  have hm : ([] : List UInt8) ∈ edgesL l fr up := (edges_mem l fr up []).2 (.inr (.inr (first_nil h)))
  have hs := edges_srt l fr up
  unfold labL
  cases he : edgesL l fr up with
  | nil => rw [he] at hm; cases hm
  | cons x t =>
    rw [he] at hm hs
    show x.isEmpty = true
    rcases List.mem_cons.1 hm with e | hm
    · rw [← e]; rfl
    · have := (List.pairwise_cons.1 hs).1 [] hm
      rw [less_nil_right] at this
      cases this
theorem hoR_congr {key key' : List UInt8} : ∀ {l : List Bd} {d : Int}, (∀ b ∈ l, lessB key b.f = lessB key' b.f) → hoR d l key = hoR d l key'
  | [], _, _ => rfl
  | x :: t, d, h => by
    show (if lessB key x.f = true then d else hoR x.h t key) = (if lessB key' x.f = true then d else hoR x.h t key')
    rw [h x (by simp), hoR_congr (fun b hb => h b (by simp [hb]))]
theorem give_congr {l : List Bd} (hs : SrtB l) {fr up : List UInt8} {ho : Int} {key key' : List UInt8} (h : ∀ e ∈ edgesL l fr up, lessB key e = lessB key' e) : giveH l fr up ho key = giveH l fr up ho key' := by
  have h1 : inR key fr up = inR key' fr up := by
    unfold inR
    rw [h fr ((edges_mem l fr up fr).2 (.inl rfl)), h up ((edges_mem l fr up up).2 (.inr (.inl rfl)))]
  unfold giveH
  rw [h1, hoF_is hs, hoF_is hs, hoR_congr (fun b hb => h b.f ((edges_mem l fr up b.f).2 (.inr (.inr ⟨b, hb, rfl⟩))))]
theorem lab_ho {l : List Bd} (h : Sh l) (fr up : List UInt8) (ho : Int) (key : List UInt8) : hoR 0 (labL l fr up ho) key = giveH l fr up ho key := by
  have hS := lab_srt l fr up ho
  have hF := lab_first h.fst fr up ho
  have hE := edges_srt l fr up
  have hn : 0 < (labL l fr up ho).findIdx (gtP key) := by
    cases hL : labL l fr up ho with
    | nil => rw [hL] at hF; cases hF
    | cons x t =>
      rw [List.findIdx_cons]
      have hx : x.f = [] := by rw [hL] at hF; cases hh : x.f with | nil => rfl | cons a b => have : x.f.isEmpty = true := hF; rw [hh] at this; cases this
      have : gtP key x = false := by unfold gtP; rw [hx]; exact less_nil_right _
      rw [this]
      simp
  have hle : (labL l fr up ho).findIdx (gtP key) ≤ (labL l fr up ho).length := List.findIdx_le_length
  obtain ⟨i, hi⟩ : ∃ i, (labL l fr up ho).findIdx (gtP key) = i + 1 := ⟨_, (Nat.sub_add_cancel hn).symm⟩
  have hil : i < (labL l fr up ho).length := by omega
  have hel : i < (edgesL l fr up).length := by simpa [labL] using hil
  have hb : ∀ j, (hj : j < (labL l fr up ho).length) → j ≤ i → lessB key (labL l fr up ho)[j].f = false := fun j hj hji => by
    have := List.not_of_lt_findIdx (p := gtP key) (xs := labL l fr up ho) (i := j) (by omega)
    unfold gtP at this
    simpa using this
  have ha : ∀ j, (hj : j < (labL l fr up ho).length) → i < j → lessB key (labL l fr up ho)[j].f = true := fun j hj hij => by
    have h0 : gtP key (labL l fr up ho)[i + 1] = true := by
      have hw : (labL l fr up ho).findIdx (gtP key) < (labL l fr up ho).length := by omega
      have := List.findIdx_getElem (p := gtP key) (xs := labL l fr up ho) (w := hw)
      simpa only [hi] using this
    by_cases e : j = i + 1
    · subst e; exact h0
    · exact less_trans h0 (hS.at (by omega) hj (by omega))
  rw [hoR_own hS hil key (hb i hil (Nat.le_refl _)) (fun hj => ha (i + 1) hj (by omega))]
  have e1 : (labL l fr up ho)[i] = ⟨(edgesL l fr up)[i], giveH l fr up ho (edgesL l fr up)[i]⟩ := by simp [labL]
  rw [e1]
  refine give_congr h.srt (fun e he => ?_)
  obtain ⟨j, hj, rfl⟩ := List.getElem_of_mem he
  have hjl : j < (labL l fr up ho).length := by simpa [labL] using hj
  have e2 : (labL l fr up ho)[j].f = (edgesL l fr up)[j] := by simp [labL]
  by_cases hij : j ≤ i
  · have h1 := hb j hjl hij
    rw [e2] at h1
    rw [h1]
    by_cases e : j = i
    · subst e; exact less_irrefl _
    · exact less_asymD (List.pairwise_iff_getElem.1 hE j i hj hel (by omega))
  · have h1 := ha j hjl (by omega)
    rw [e2] at h1
    rw [h1]
    exact List.pairwise_iff_getElem.1 hE i j hel hj (by omega)
theorem deleg_sh {l : List Bd} (h : Sh l) (fr up : List UInt8) (ho : Int) : Sh (delegL l fr up ho) :=
  ⟨(lab_srt l fr up ho).sublist (cmpF_sub _ _), cmpF_alt _ _, compB_first (lab_first h.fst fr up ho)⟩
/-- The document's answer is the program's. -/
theorem deleg_is {l : List Bd} (h : Sh l) (fr up : List UInt8) (ho : Int) : delegL l fr up ho = setB l fr up ho := by
  refine (deleg_sh h fr up ho).uniq (h.set fr up ho) (fun key => ?_)
  unfold delegL
  rw [compB_ho key (lab_srt l fr up ho), lab_ho h, h.ho]
  unfold giveH
  rw [hoF_is h.srt]
/-- Has a host all, by the edges. -/
def hasE (l : List Bd) (fr up : List UInt8) (ho : Int) : Bool := (edgesL l fr up).all (fun e => !inR e fr up || decide (hoF e l = ho)) && someR fr up
theorem has_is {l : List Bd} (h : Sh l) (fr up : List UInt8) (ho : Int) : hasB l fr up ho = hasE l fr up ho := by
  unfold hasB hasE
  cases hs : someR fr up with
  | false => rw [Bool.false_and, Bool.false_and, Bool.and_false]
  | true =>
    rw [Bool.true_and, Bool.and_true, hoAt_is]
    have hfr : inR fr fr up = true := by rw [inR_self]; exact hs
    apply Bool.eq_iff_iff.2
    rw [Bool.and_eq_true, decide_eq_true_eq, Bool.not_eq_true', List.any_eq_false, List.all_eq_true]
    constructor
    · rintro ⟨h1, h2⟩ e he
      cases hi : inR e fr up with
      | false => rfl
      | true =>
        rw [Bool.not_true, Bool.false_or, decide_eq_true_eq, hoF_is h.srt]
        have hn : 0 < l.findIdx (gtP e) := by
          obtain ⟨b, _, _⟩ := first_nil h.fst
          cases hL : l with
          | nil => have := h.fst; rw [hL] at this; cases this
          | cons x t =>
            rw [List.findIdx_cons]
            have hx : x.f = [] := by have hF := h.fst; rw [hL] at hF; cases hh : x.f with | nil => rfl | cons a b => have : x.f.isEmpty = true := hF; rw [hh] at this; cases this
            have : gtP e x = false := by unfold gtP; rw [hx]; exact less_nil_right _
            rw [this]
            simp
        obtain ⟨i, hi1⟩ : ∃ i, l.findIdx (gtP e) = i + 1 := ⟨_, (Nat.sub_add_cancel hn).symm⟩
        have hle : l.findIdx (gtP e) ≤ l.length := List.findIdx_le_length
        have hil : i < l.length := by omega
        have hb : lessB e l[i].f = false := by
          have := List.not_of_lt_findIdx (p := gtP e) (xs := l) (i := i) (by omega)
          unfold gtP at this
          simpa using this
        have ha : ∀ hj : i + 1 < l.length, lessB e l[i + 1].f = true := fun hj => by
          have hw : l.findIdx (gtP e) < l.length := by omega
          have := List.findIdx_getElem (p := gtP e) (xs := l) (w := hw)
          have h9 : gtP e l[i + 1] = true := by simpa only [hi1] using this
          exact h9
        rw [hoR_own h.srt hil e hb ha]
        unfold inR at hi
        simp only [Bool.and_eq_true, Bool.or_eq_true, Bool.not_eq_true'] at hi
        cases hlf : lessB l[i].f fr with
        | true =>
          rw [← hoR_own h.srt hil (d := 0) fr (less_asymD hlf) (fun hj => le_less_trans hi.1 (ha hj))]
          exact h1
        | false =>
          have h3 := h2 l[i] (List.getElem_mem hil)
          have hin : inR l[i].f fr up = true := by
            unfold inR
            rw [hlf]
            simp only [Bool.not_false, Bool.true_and, Bool.or_eq_true]
            rcases hi.2 with h4 | h4
            · exact .inl h4
            · exact .inr (le_less_trans hb h4)
          unfold othP at h3
          rw [hin, Bool.and_true] at h3
          simpa using h3
    · intro h1
      constructor
      · have := h1 fr ((edges_mem l fr up fr).2 (.inl rfl))
        rw [hfr, Bool.not_true, Bool.false_or, decide_eq_true_eq, hoF_is h.srt] at this
        exact this
      · intro x hx ht
        unfold othP at ht
        simp only [Bool.and_eq_true, Bool.not_eq_true', decide_eq_false_iff_not] at ht
        have := h1 x.f ((edges_mem l fr up x.f).2 (.inr (.inr ⟨x, hx, rfl⟩)))
        rw [ht.2, Bool.not_true, Bool.false_or, decide_eq_true_eq, hoF_is h.srt] at this
        obtain ⟨j, hj, rfl⟩ := List.getElem_of_mem hx
        rw [hoR_own h.srt hj _ (less_irrefl _) (fun hj2 => h.srt.at hj hj2 (by omega))] at this
        exact ht.1 this

end Go.Proofs.YtpfgnhockfofhaaGreat

/-
  DelegExact: the document's Delegate, HasAll.
-/
namespace Go.Proofs.YtpfgnhockfofhaaGreat
open Go.RowKit

theorem cmpF_last : ∀ (l : List Bd) (p : Option Int), (match (cmpF p l).getLast? with | some x => some x.h | none => p) = lastH p l
  | [], _ => rfl
  | x :: t, p => by
    have ih := cmpF_last t (some x.h)
    show (match ((if p = some x.h then [] else [x]) ++ cmpF (some x.h) t).getLast? with | some x => some x.h | none => p) = lastH (some x.h) t
    rw [← ih, List.getLast?_append]
    cases hc : (cmpF (some x.h) t).getLast? with
    | some y => rfl
    | none =>
      by_cases e : p = some x.h
      · rw [if_pos e]; exact e
      · rw [if_neg e]; rfl
theorem comp_last {L : List Bd} {i : Nat} (h0 : 0 < i) (hi : i ≤ L.length) : ∃ hn : 0 < (compB (L.take i)).length, ((compB (L.take i))[(compB (L.take i)).length - 1]'(by omega)).h = (L[i - 1]'(by omega)).h := by
  have h := cmpF_last (L.take i) none
  rw [lastH_take h0 hi] at h
  cases hc : (cmpF none (L.take i)).getLast? with
  | none => rw [hc] at h; cases h
  | some y =>
    rw [hc] at h
    have hne : cmpF none (L.take i) ≠ [] := fun e => by rw [e] at hc; cases hc
    have hn : 0 < (compB (L.take i)).length := List.length_pos_iff.2 hne
    refine ⟨hn, ?_⟩
    have e2 : (compB (L.take i))[(compB (L.take i)).length - 1]? = some y := by rw [← List.getLast?_eq_getElem?]; exact hc
    rw [List.getElem?_eq_getElem (by omega)] at e2
    rw [Option.some.inj e2]
    exact Option.some.inj h
theorem oneB_src (w : World) (x : Bd) : Src Tryz.prog 2 63 (.slice (some ⟨w.heap.size, 0, none⟩) 1 1) 1 [.string (bs x.f), .int .i64 x.h] (w.alloc (.cells #[.string (bs x.f), .int .i64 x.h] 62)) := by
  refine Src.ofSlice _ Tryz.underlying63 ⟨w.heap.size, 0, none⟩ 1 1 _ rfl ?_ (fun u hu => by simp at hu; rcases hu with rfl | rfl <;> rfl)
  intro j u hj
  rw [addr_addE, blk_cell (blk_new w (.cells #[.string (bs x.f), .int .i64 x.h] 62)), ← hj]
  simp
theorem lab_len (l : List Bd) (fr up : List UInt8) (ho : Int) : (labL l fr up ho).length = (edgesL l fr up).length := by simp [labL]
theorem lab_at {l : List Bd} {fr up : List UInt8} {ho : Int} {i : Nat} (hi : i < (edgesL l fr up).length) : (labL l fr up ho)[i]'(by rw [lab_len]; exact hi) = ⟨(edgesL l fr up)[i], giveH l fr up ho (edgesL l fr up)[i]⟩ := by simp [labL]

set_option maxRecDepth 100000 in
set_option maxHeartbeats 8000000 in
theorem delegate_any (B c : Nat) (a : Addr) (ps : List Bd) (fr up : List UInt8) (ho : Int) (w : World) (h : BdRow B w (some a) ps) (hl : (ps.length : Int) ≤ 5864062014800) :
    Calls Tryz.prog 51 #[.slice (some a) ps.length c, .string (bs fr), .string (bs up), .int .i64 ho] w fun e w' => ∃ ao co, e = .returned (.slice ao (delegL ps fr up ho).length co) ∧ OwnB w.heap.size w' ao co (delegL ps fr up ho) ∧ Kept Nil w w' := by
  have HR : Hid (BdRow B w (some a) ps) := h
  obtain ⟨i0, hi, hz0, hz1, hz2⟩ := info_parts Tryz.infoBd
  have ED := edges_any B c a ps fr up w h hl
  have hel := edges_len ps fr up
  obtain ⟨L, HL⟩ : ∃ L, Hid (L = labL ps fr up ho) := ⟨_, rfl⟩
  have HLn : Hid (L.length = (edgesL ps fr up).length) := by show _ = _; rw [HL.out]; exact lab_len _ _ _ _
  have HLa : Hid (∀ i, (hi : i < (edgesL ps fr up).length) → L[i]? = some ⟨(edgesL ps fr up)[i], giveH ps fr up ho (edgesL ps fr up)[i]⟩) := fun i hi => by
    rw [HL.out, List.getElem?_eq_getElem (by rw [lab_len]; exact hi), lab_at hi]
  obtain ⟨rs, HRS⟩ : ∃ rs, Hid (rs = delegL ps fr up ho) := ⟨_, rfl⟩
  have HRE : Hid (rs = compB L) := by show _ = _; rw [HRS.out, HL.out]; rfl
  rw [← HRS.out]
  generalize edgesL ps fr up = es at *
  have HO := fun (y : List UInt8) (X : World) (kX : Kept Nil w X) => hostOf_any B c a ps y X (HR.out.nil kX) (by omega)
  have WI := fun (y : List UInt8) (X : World) => within_any y fr up X
  clear h
  go_enter Tryz.func51, Tryz.ntmps51
  go_wp2_with fail
  go_fit ED
  rintro e w1 ⟨aE, cE, rfl, oE, kE⟩
  have HE : Hid (OwnTd w.heap.size w1 aE cE es) := oE
  have K1 : Hid (Kept Nil w w1) := kE
  clear oE kE ED
  go_wp2
  go_loopw [10, 11] (fun s u wr => ∃ i co : Nat, ∃ ao : Option Addr, ∃ out : List Bd, i ≤ es.length ∧ u = .int .i64 i ∧ s = .slice ao out.length co ∧ Hid (out = compB (L.take i)) ∧ out.length ≤ i ∧ Hid (OwnB w1.heap.size wr ao co out) ∧ Hid (Kept Nil w1 wr)) (fun _ u _ => es.length - (intOf u).toNat)
  case atStart => exact ⟨0, 0, none, [], Nat.zero_le _, rfl, rfl, rfl, Nat.le_refl _, World.ownsRow_nil _ _ _ _, Kept.refl _ _⟩
  case round =>
    obtain ⟨i, co, ao, out, hin, rfl, rfl, HOut, hon, HOw, HK⟩ := hrel
    by_cases hlt : i < es.length
    · have hli : (i : Int) < es.length := by omega
      obtain ⟨gE, eE, _, c0⟩ := (HE.out.kept HK.out).cell hlt
      cases eE
      obtain ⟨y, HY⟩ : ∃ y : List UInt8, Hid (y = es[i]) := ⟨es[i], (rfl : es[i] = es[i])⟩
      rw [← HY.out] at c0
      have HCy : ∀ X, Kept Nil wr X → X.cell? ⟨gE, i, none⟩ = some (.string (bs y)) := fun X kX => cell_kept kX (fun _ x => x) c0
      obtain ⟨g, HG⟩ : ∃ g, Hid (g = giveH ps fr up ho y) := ⟨_, rfl⟩
      have HLi : Hid (L[i]? = some ⟨y, g⟩) := by show _ = _; rw [HLa.out i hlt, HG.out, HY.out]
      have hLl : i < L.length := by rw [HLn.out]; exact hlt
      have HLi2 : Hid (L[i] = ⟨y, g⟩) := by have e := HLi.out; rw [List.getElem?_eq_getElem hLl] at e; exact Option.some.inj e
      obtain ⟨hy, HHy⟩ : ∃ z, Hid (z = hoF y ps) := ⟨_, rfl⟩
      obtain ⟨b, HBe⟩ : ∃ z, Hid (z = inR y fr up) := ⟨_, rfl⟩
      have HGe : Hid (g = if b = true then ho else hy) := by show _ = _; rw [HG.out, HBe.out, HHy.out]; rfl
      have HOy := HO y wr (K1.out.trans HK.out)
      have WIy := WI y wr
      rw [← HHy.out] at HOy
      rw [← HBe.out] at WIy
      go_wp2_with fail
      go_fit HOy
      rintro e _ ⟨rfl, hw9⟩
      rw [hw9]
      clear hw9 HOy
      go_wp2_with fail
      go_fit WIy
      rintro e _ ⟨rfl, hw9⟩
      rw [hw9]
      clear hw9 WIy
      go_upto_if 38 with fail
      go_cut [12] (fun s wc => s = .int .i64 g ∧ Hid (wc = wr))
      case first =>
        cases b with
        | true =>
          go_wp2
          go_meet
          exact ⟨by rw [HGe.out]; rfl, rfl⟩
        | false =>
          go_wp2
          go_meet
          exact ⟨by rw [HGe.out]; rfl, rfl⟩
      case rest =>
        obtain ⟨rfl, hwc⟩ := hcut
        rw [hwc.out]
        clear hwc
        obtain ⟨t, HTt⟩ : ∃ t : Bool, Hid (t = decide (i = 0 ∨ (L[i - 1]?).map Bd.h ≠ some g)) := ⟨_, rfl⟩
        have HNx : Hid (compB (L.take (i + 1)) = out ++ (if t = true then [⟨y, g⟩] else [])) := by
          show _ = _
          by_cases h0 : i = 0
          · have et : t = true := by rw [HTt.out]; exact decide_eq_true (.inl h0)
            rw [et, if_pos rfl, HOut.out, List.take_succ_eq_append_getElem hLl, HLi2.out, h0]
            rfl
          · have e1 : (L[i - 1]?).map Bd.h = some (L[i - 1]'(by omega)).h := by rw [List.getElem?_eq_getElem (by omega)]; rfl
            rw [compB_next (by omega) hLl, ← HOut.out, HLi2.out]
            congr 1
            by_cases e : g = (L[i - 1]'(by omega)).h
            · have et : t = false := by rw [HTt.out, e1, e]; simp [h0]
              rw [et, if_pos e]
              rfl
            · have et : t = true := by rw [HTt.out, e1]; exact decide_eq_true (.inr (fun x => e (Option.some.inj x).symm))
              rw [et, if_neg e]
              rfl
        go_upto_region 11 with fail
        go_cut [53] from 19 to 62 (fun s wc => s = .bool t ∧ Hid (wc = wr))
        case first =>
          by_cases h0 : i = 0
          · have et : Hid (t = true) := by show _ = _; rw [HTt.out]; exact decide_eq_true (.inl h0)
            have hol : out.length = 0 := by omega
            go_wp2
            go_meet
            exact ⟨by rw [et.out], rfl⟩
          · obtain ⟨hn, hlast⟩ := comp_last (L := L) (i := i) (by omega) (by omega)
            have e1 : (L[i - 1]?).map Bd.h = some (L[i - 1]'(by omega)).h := by rw [List.getElem?_eq_getElem (by omega)]; rfl
            have hon0 : 0 < out.length := by rw [HOut.out]; exact hn
            have hlt1 : out.length - 1 < out.length := by omega
            obtain ⟨gO, eO, _, _, _, _, hc⟩ := HOw.out.cells hon0
            cases eO
            obtain ⟨_, d1, _, _⟩ := hc (out.length - 1) hlt1
            obtain ⟨z, HZ⟩ : ∃ z : Int, Hid (z = out[out.length - 1].h) := ⟨out[out.length - 1].h, (rfl : out[out.length - 1].h = out[out.length - 1].h)⟩
            rw [← HZ.out] at d1
            have HZe : Hid (z = (L[i - 1]'(by omega)).h) := by
              show _ = _
              rw [HZ.out, ← hlast]
              have e := HOut.out
              subst e
              rfl
            have HTe : Hid (t = decide (z ≠ g)) := by
              show _ = _
              rw [HTt.out, e1, ← HZe.out]
              simp [h0]
            clear hc e1 hlast HZe
            have hn0 : ¬ (out.length : Int) = 0 := by omega
            have hn0b : ((out.length : Int) == 0) = false := beq_eq_false_iff_ne.2 hn0
            have hn1 : ((out.length : Int) - 1) < out.length := by omega
            have hn2 : 0 ≤ ((out.length : Int) - 1) := by omega
            go_wp2
            go_meet
            exact ⟨by rw [HTe.out]; first | rfl | (simp; rfl), rfl⟩
        case rest =>
          obtain ⟨rfl, hwc⟩ := hcut
          rw [hwc.out]
          clear hwc
          have HLe : Hid ((compB (L.take (i + 1))).length ≤ i + 1) := by have := cmpF_len (L.take (i + 1)) none; rw [List.length_take] at this; show (cmpF none (L.take (i + 1))).length ≤ _; omega
          cases t with
          | false =>
            have HNe : Hid (out = compB (L.take (i + 1))) := by show _ = _; rw [HNx.out]; exact (List.append_nil _).symm
            go_wp2
            go_roundw
            case rel => exact ⟨i + 1, co, ao, out, by omega, by go_num, rfl, HNe.out, by omega, HOw.out, HK.out⟩
            case measure => simp [intOf]; omega
          | true =>
            have HNe : Hid (out ++ [(⟨y, g⟩ : Bd)] = compB (L.take (i + 1))) := by show _ = _; rw [HNx.out]; rfl
            have HLL : Hid (out.length + 1 ≤ maxLen ∧ (out.length + 1) * 24 ≤ 140737488355328) := by constructor <;> (try unfold maxLen) <;> omega
            have HOo : Hid (wr.ownsRow w1.heap.size 62 2 (.slice ao out.length co) out.length (bdCells out)) := HOw.out
            have SRC : Hid (Src Tryz.prog 2 63 (.slice (some ⟨wr.heap.size, 0, none⟩) 1 1) 1 [.string (bs y), .int .i64 g] (wr.alloc (.cells #[.string (bs y), .int .i64 g] 62))) := oneB_src wr ⟨y, g⟩
            go_wp2_with (at_builtin; go_must (refine wpList_append_src _ rfl _ _ 63 63 rfl w1.heap.size 62 i0 (.agg #[.string ⟨#[]⟩, .int .i64 0]) 2 24 Tryz.underlying63 hi hz0 hz1 hz2 rfl (.slice ao out.length co) out.length (bdCells out) rfl (World.ownsRow.alloc HOo.out _) (.slice (some ⟨wr.heap.size, 0, none⟩) 1 1) 1 [.string (bs y), .int .i64 g] rfl SRC.out HLL.out.1 HLL.out.2 (le_alloc HK.out.size _) ?_); intro ao' co' w9 ho9 hg9; have HO9 : Hid (OwnB w1.heap.size w9 ao' co' (out ++ [(⟨y, g⟩ : Bd)])) := OwnB.push ho9; have K9 : Hid (Kept Nil w1 w9) := (HK.out.alloc _).grown hg9 (fun k hk => own_row HOo.out k hk); clear ho9 hg9)
            go_roundw
            case rel => exact ⟨i + 1, co', ao', out ++ [(⟨y, g⟩ : Bd)], by omega, by go_num, by rw [List.length_append]; rfl, HNe.out, by rw [List.length_append]; show out.length + 1 ≤ i + 1; omega, HO9.out, K9.out⟩
            case measure => simp [intOf]; omega
    · obtain rfl : i = es.length := by omega
      have hirr : ¬ (es.length : Int) < es.length := by omega
      have HEq : Hid (out = rs) := by show _ = _; rw [HRE.out, HOut.out, ← HLn.out, List.take_length]
      go_wp2
      go_ret
      exact ⟨ao, co, by rw [← HEq.out]; rfl, by rw [← HEq.out]; exact HOw.out.mono K1.out.size, K1.out.trans HK.out⟩

set_option maxRecDepth 100000 in
set_option maxHeartbeats 8000000 in
theorem hasAll_any (B c : Nat) (a : Addr) (ps : List Bd) (fr up : List UInt8) (ho : Int) (w : World) (h : BdRow B w (some a) ps) (hl : (ps.length : Int) ≤ 5864062014800) :
    Calls Tryz.prog 47 #[.slice (some a) ps.length c, .string (bs fr), .string (bs up), .int .i64 ho] w fun e w' => e = .returned (.bool (hasE ps fr up ho)) ∧ Kept Nil w w' := by
  have HR : Hid (BdRow B w (some a) ps) := h
  have ED := edges_any B c a ps fr up w h hl
  have hel := edges_len ps fr up
  obtain ⟨z, HZ⟩ : ∃ z, Hid (z = hasE ps fr up ho) := ⟨_, rfl⟩
  rw [← HZ.out]
  have HZe : Hid (z = ((edgesL ps fr up).all (fun e => !inR e fr up || decide (hoF e ps = ho)) && someR fr up)) := HZ.out
  generalize edgesL ps fr up = es at *
  have HO := fun (y : List UInt8) (X : World) (kX : Kept Nil w X) => hostOf_any B c a ps y X (HR.out.nil kX) (by omega)
  have WI := fun (y : List UInt8) (X : World) => within_any y fr up X
  have t1 := bs_toList fr
  have t2 := bs_toList up
  clear h HZ
  go_enter Tryz.func47, Tryz.ntmps47
  go_wp2_with fail
  go_fit ED
  rintro e w1 ⟨aE, cE, rfl, oE, kE⟩
  have HE : Hid (OwnTd w.heap.size w1 aE cE es) := oE
  have K1 : Hid (Kept Nil w w1) := kE
  clear oE kE ED
  go_wp2
  go_loopw [10] (fun u wr => ∃ i : Nat, i ≤ es.length ∧ u = .int .i64 i ∧ Hid (z = ((es.drop i).all (fun e => !inR e fr up || decide (hoF e ps = ho)) && someR fr up)) ∧ Hid (wr = w1)) (fun u _ => es.length - (intOf u).toNat)
  case atStart => exact ⟨0, Nat.zero_le _, rfl, HZe.out, rfl⟩
  case round =>
    obtain ⟨i, hin, rfl, HI, hwr⟩ := hrel
    rw [hwr.out]
    clear hwr
    by_cases hlt : i < es.length
    · have hli : (i : Int) < es.length := by omega
      obtain ⟨gE, eE, _, c0⟩ := HE.out.cell hlt
      cases eE
      have HN : Hid (z = ((!inR es[i] fr up || decide (hoF es[i] ps = ho)) && ((es.drop (i + 1)).all (fun e => !inR e fr up || decide (hoF e ps = ho)) && someR fr up))) := by
        have e := HI.out
        rw [List.drop_eq_getElem_cons hlt, List.all_cons, Bool.and_assoc] at e
        exact e
      obtain ⟨y, HY⟩ : ∃ y : List UInt8, Hid (y = es[i]) := ⟨es[i], (rfl : es[i] = es[i])⟩
      rw [← HY.out] at c0 HN
      obtain ⟨hy, HHy⟩ : ∃ z, Hid (z = hoF y ps) := ⟨_, rfl⟩
      obtain ⟨b, HBe⟩ : ∃ z, Hid (z = inR y fr up) := ⟨_, rfl⟩
      rw [← HHy.out, ← HBe.out] at HN
      have HOy := HO y w1 K1.out
      have WIy := WI y w1
      rw [← HHy.out] at HOy
      rw [← HBe.out] at WIy
      go_wp2_with fail
      go_fit WIy
      rintro e _ ⟨rfl, hw9⟩
      rw [hw9]
      clear hw9 WIy
      cases b with
      | false =>
        go_wp2
        go_roundw
        case rel => exact ⟨i + 1, by omega, by go_num, HN.out, trivial⟩
        case measure => simp [intOf]; omega
      | true =>
        by_cases he : hy = ho
        · have hb : (hy == ho) = true := by simp [he]
          have HN2 : Hid (z = ((es.drop (i + 1)).all (fun e => !inR e fr up || decide (hoF e ps = ho)) && someR fr up)) := by have e := HN.out; rw [decide_eq_true he] at e; exact e
          go_wp2_with fail
          go_fit HOy
          rintro e _ ⟨rfl, hw9⟩
          rw [hw9]
          clear hw9 HOy
          go_wp2
          go_roundw
          case rel => exact ⟨i + 1, by omega, by go_num, HN2.out, trivial⟩
          case measure => simp [intOf]; omega
        · have hb : (hy == ho) = false := beq_eq_false_iff_ne.2 he
          have HN2 : Hid (z = false) := by have e := HN.out; rw [decide_eq_false he] at e; exact e
          go_wp2_with fail
          go_fit HOy
          rintro e _ ⟨rfl, hw9⟩
          rw [hw9]
          clear hw9 HOy
          go_wp2
          go_ret
          exact ⟨by rw [HN2.out]; rfl, K1.out⟩
    · obtain rfl : i = es.length := by omega
      have hirr : ¬ (es.length : Int) < es.length := by omega
      have HF : Hid (z = someR fr up) := by have e := HI.out; rw [List.drop_length] at e; exact e
      by_cases hu : up = []
      · have HF2 : Hid (z = true) := by show _ = _; rw [HF.out, hu]; rfl
        have a2 : up.isEmpty = true := by rw [hu]; rfl
        clear hu
        go_wp2
        go_ret
        exact ⟨by rw [HF2.out]; rfl, K1.out⟩
      · have a2 : up.isEmpty = false := by cases hx : up with | nil => exact absurd hx hu | cons x t => rfl
        have HF2 : Hid (z = Op.bytesLess fr up) := by show _ = _; rw [HF.out]; unfold someR; rw [a2]; rfl
        go_wp2
        go_ret
        exact ⟨by rw [HF2.out]; first | rfl | simp, K1.out⟩
end Go.Proofs.YtpfgnhockfofhaaGreat
