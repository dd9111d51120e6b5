/-
  Cells, plainly: a text read word by word (the document's way) says the same.
-/
import Derived.Test.YtflnjlbafchnaaaGreatDoorWTmB
namespace Go.Proofs.YtflnjlbafchnaaaGreatDoor
open Go.RowKit Go.Lib

def tw (l : List UInt8) : List UInt8 := l.takeWhile (· ≠ 32)
def dw (l : List UInt8) : List UInt8 := l.dropWhile (· ≠ 32)
def Blk (r : List UInt8) : Prop := r = [] ∨ ∃ t, r = 32 :: t
theorem tw_dw (l : List UInt8) : tw l ++ dw l = l := List.takeWhile_append_dropWhile
theorem tw_nb : ∀ (l : List UInt8), ∀ c ∈ tw l, c ≠ 32
  | [], c, hc => by simp [tw] at hc
  | d :: t, c, hc => by
    unfold tw at hc
    by_cases h : d = 32
    · simp [h] at hc
    · rw [List.takeWhile_cons, if_pos (by simp [h])] at hc
      rcases List.mem_cons.1 hc with rfl | hc
      · exact h
      · exact tw_nb t c hc
theorem dw_blk : ∀ (l : List UInt8), Blk (dw l)
  | [] => .inl rfl
  | c :: t => by
    unfold dw
    by_cases h : c = 32
    · rw [h]; exact .inr ⟨t, by simp⟩
    · rw [List.dropWhile_cons, if_pos (by simp [h])]
      exact dw_blk t
theorem tw_app {a r : List UInt8} (h : ∀ c ∈ a, c ≠ 32) (hr : Blk r) : tw (a ++ r) = a ∧ dw (a ++ r) = r := by
  induction a with
  | nil =>
    rcases hr with rfl | ⟨t, rfl⟩
    · exact ⟨rfl, rfl⟩
    · exact ⟨by simp [tw], by simp [dw]⟩
  | cons c a ih =>
    obtain ⟨h1, h2⟩ := ih (fun x hx => h x (List.mem_cons_of_mem _ hx))
    have hc := h c (List.mem_cons_self ..)
    refine ⟨?_, ?_⟩
    · show (c :: (a ++ r)).takeWhile _ = _
      rw [List.takeWhile_cons, if_pos (by simp [hc])]
      exact congrArg (c :: ·) h1
    · show (c :: (a ++ r)).dropWhile _ = _
      rw [List.dropWhile_cons, if_pos (by simp [hc])]
      exact h2
/-- A blank, and a number; what is behind it. -/
def nmD (m : Nat) : List UInt8 → Option Nat × List UInt8
  | [] => (none, [])
  | c :: t => if c = 32 then (amt m (tw t), dw t) else (none, c :: t)
theorem nmD_of {m v : Nat} {r : List UInt8} (h : v ≤ m) (hr : Blk r) : nmD m (32 :: (decDigits v ++ r)) = (some v, r) := by
  obtain ⟨h1, h2⟩ := tw_app (digits_nb v) hr
  show (if (32 : UInt8) = 32 then (amt m (tw (decDigits v ++ r)), dw (decDigits v ++ r)) else (none, 32 :: (decDigits v ++ r))) = _
  rw [if_pos rfl, h1, h2, amt_digits h]
theorem nmD_some {m v : Nat} {r r' : List UInt8} (h : nmD m r = (some v, r')) : v ≤ m ∧ r = 32 :: (decDigits v ++ r') ∧ Blk r' := by
  cases r with
  | nil => simp [nmD] at h
  | cons c t =>
    have h : (if c = 32 then (amt m (tw t), dw t) else (none, c :: t)) = (some v, r') := h
    by_cases hc : c = 32
    · rw [if_pos hc] at h
      simp only [Prod.mk.injEq] at h
      obtain ⟨h1, h2⟩ := amt_some h.1
      refine ⟨h1, ?_, by rw [← h.2]; exact dw_blk t⟩
      rw [hc, ← h2, ← h.2, tw_dw]
    · rw [if_neg hc] at h
      simp at h
def tlD (s h g : Nat) (r : List UInt8) : Option Ce :=
  if r = [] then some ⟨[], 0, s, h, g⟩
  else match (nmD 999999 r).1 with
    | none => none
    | some n => if n < 1 ∨ s = 2 ∨ (nmD 999999 r).2.take 2 ≠ [32, 61] ∨ 34 < (nmD 999999 r).2.length then none else some ⟨(nmD 999999 r).2.drop 2, n, s, h, g⟩
def hdD (s : Nat) (r : List UInt8) : Option Ce :=
  match (nmD 999999 r).1 with
  | none => none
  | some h => if s = 0 then tlD s h 0 (nmD 999999 r).2 else match (nmD 4 (nmD 999999 r).2).1 with
    | none => none
    | some g => if g < 1 then none else tlD s h g (nmD 4 (nmD 999999 r).2).2
/-- What a text says, word by word. -/
def ceD (l : List UInt8) : Option Ce :=
  match sayOf (tw l) with
  | none => none
  | some s => hdD s (dw l)
theorem tail_blk (v : List UInt8) (n : Nat) : Blk (ceTail v n) := by
  unfold ceTail
  split
  · exact .inl rfl
  · exact .inr ⟨_, rfl⟩
theorem tlD_of {v : List UInt8} {n s h g : Nat} (hn : n ≤ 999999) (hv : v.length ≤ 32) (hvn : n = 0 → v = []) (hs : s = 2 → n = 0) : tlD s h g (ceTail v n) = some ⟨v, n, s, h, g⟩ := by
  unfold tlD
  by_cases c : v = [] ∧ n = 0
  · have e : ceTail v n = [] := if_pos c
    rw [if_pos e, c.1, c.2]
  · have n1 : 1 ≤ n := by
      rcases Nat.eq_zero_or_pos n with e | e
      · exact absurd ⟨hvn e, e⟩ c
      · exact e
    have e : ceTail v n = 32 :: (decDigits n ++ 32 :: 61 :: v) := if_neg c
    rw [e, if_neg (by simp), nmD_of hn (.inr ⟨_, rfl⟩)]
    have e2 : ¬ (n < 1 ∨ s = 2 ∨ (32 :: 61 :: v).take 2 ≠ [32, 61] ∨ 34 < (32 :: 61 :: v).length) := by
      rintro (a | a | a | a)
      · omega
      · have := hs a; omega
      · exact a rfl
      · simp at a; omega
    simp only
    rw [if_neg e2]
    rfl
theorem ceD_txt {c : Ce} (o : c.Ok) : ceD (ceTxt c) = some c := by
  obtain ⟨v, n, s, h, g⟩ := c
  have ov : v.length ≤ 32 := o.v
  have on : n ≤ 999999 := o.n
  have ovn : n = 0 → v = [] := o.vn
  have os : s ≤ 2 := o.s
  have oh : h ≤ 999999 := o.h
  have og0 : s = 0 → g = 0 := o.g0
  have og1 : s ≠ 0 → 1 ≤ g ∧ g ≤ 4 := o.g1
  have ogo : s = 2 → n = 0 := o.gone
  unfold ceD
  have et : ceTxt ⟨v, n, s, h, g⟩ = cw s ++ 32 :: (decDigits h ++ ((if s = 0 then [] else 32 :: decDigits g) ++ ceTail v n)) := rfl
  obtain ⟨h1, h2⟩ := tw_app (a := cw s) (r := 32 :: (decDigits h ++ ((if s = 0 then [] else 32 :: decDigits g) ++ ceTail v n))) (cw_nb s) (.inr ⟨_, rfl⟩)
  rw [et, h1, h2, sayOf_cw os]
  simp only
  unfold hdD
  by_cases c : s = 0
  · rw [if_pos c, List.nil_append, nmD_of oh (tail_blk v n)]
    simp only
    rw [if_pos c, tlD_of on ov ovn ogo, og0 c]
  · obtain ⟨g1, g4⟩ := og1 c
    rw [if_neg c, List.cons_append, nmD_of oh (.inr ⟨_, rfl⟩)]
    simp only
    rw [if_neg c, nmD_of g4 (tail_blk v n)]
    simp only
    rw [if_neg (by omega), tlD_of on ov ovn ogo]
theorem tlD_some {s h g : Nat} {r : List UInt8} {c : Ce} (e : tlD s h g r = some c) : c.s = s ∧ c.h = h ∧ c.g = g ∧ r = ceTail c.v c.n ∧ c.v.length ≤ 32 ∧ c.n ≤ 999999 ∧ (c.n = 0 → c.v = []) ∧ (s = 2 → c.n = 0) := by
  unfold tlD at e
  by_cases h0 : r = []
  · rw [if_pos h0] at e
    cases e
    exact ⟨rfl, rfl, rfl, h0, by simp, by simp, fun _ => rfl, fun _ => rfl⟩
  · rw [if_neg h0] at e
    obtain ⟨o, r3, hq⟩ : ∃ o r3, nmD 999999 r = (o, r3) := ⟨_, _, rfl⟩
    rw [hq] at e
    cases o with
    | none => simp at e
    | some n =>
      simp only at e
      split at e
      · cases e
      · rename_i hc
        simp only [not_or, Nat.not_lt, Decidable.not_not] at hc
        obtain ⟨a1, a2, a3, a4⟩ := hc
        cases e
        obtain ⟨b1, b2, b3⟩ := nmD_some hq
        have er : r3 = 32 :: 61 :: r3.drop 2 := by
          have := List.take_append_drop 2 r3
          rw [a3] at this
          exact this.symm
        refine ⟨rfl, rfl, rfl, ?_, by show (r3.drop 2).length ≤ 32; rw [List.length_drop]; omega, b1, fun e => by have e' : n = 0 := e; omega, fun e => absurd e a2⟩
        show r = ceTail (r3.drop 2) n
        unfold ceTail
        rw [if_neg (by omega), ← er]
        exact b2
theorem ceD_some {l : List UInt8} {c : Ce} (e : ceD l = some c) : l = ceTxt c ∧ c.Ok := by
  unfold ceD at e
  cases hs : sayOf (tw l) with
  | none => rw [hs] at e; cases e
  | some s =>
    rw [hs] at e
    obtain ⟨s2, sw⟩ := sayOf_some hs
    simp only at e
    unfold hdD at e
    obtain ⟨o, r1, hq⟩ : ∃ o r1, nmD 999999 (dw l) = (o, r1) := ⟨_, _, rfl⟩
    rw [hq] at e
    cases o with
    | none => simp at e
    | some h =>
      simp only at e
      obtain ⟨b1, b2, b3⟩ := nmD_some hq
      have el : l = cw s ++ 32 :: (decDigits h ++ r1) := by rw [← sw, ← b2, tw_dw]
      by_cases c0 : s = 0
      · rw [if_pos c0] at e
        obtain ⟨e1, e2, e3, e4, e5, e6, e7, e8⟩ := tlD_some e
        refine ⟨?_, ⟨e5, e6, e7, by rw [e1]; exact s2, by rw [e2]; exact b1, fun _ => e3, fun x => absurd (e1.trans c0) x, fun x => e8 (e1.symm.trans x)⟩⟩
        unfold ceTxt
        rw [e1, e2, if_pos c0, ← e4, el]
        rfl
      · rw [if_neg c0] at e
        obtain ⟨o2, r2, hq2⟩ : ∃ o r2, nmD 4 r1 = (o, r2) := ⟨_, _, rfl⟩
        rw [hq2] at e
        cases o2 with
        | none => simp at e
        | some g =>
          simp only at e
          split at e
          · cases e
          · rename_i hg
            obtain ⟨d1, d2, d3⟩ := nmD_some hq2
            obtain ⟨e1, e2, e3, e4, e5, e6, e7, e8⟩ := tlD_some e
            refine ⟨?_, ⟨e5, e6, e7, by rw [e1]; exact s2, by rw [e2]; exact b1, fun x => absurd (e1.symm.trans x) c0, fun _ => by rw [e3]; omega, fun x => e8 (e1.symm.trans x)⟩⟩
            unfold ceTxt
            rw [e1, e2, e3, if_neg c0, ← e4, el, d2]
            rfl
theorem cut_true {l : List UInt8} (h : (cut l [32, 61]).2.2 = true) : l = (cut l [32, 61]).1 ++ 32 :: 61 :: (cut l [32, 61]).2.1 := by
  rcases Lib.index_spec l [32, 61] with ⟨h1, _⟩ | ⟨i, h1, h2, h3, _⟩
  · unfold cut at h
    rw [h1, if_neg (by omega)] at h
    cases h
  · unfold cut
    rw [h1, if_pos (by omega)]
    simp only [Int.toNat_natCast]
    have h4 : ([32, 61] : List UInt8).isPrefixOf (l.drop i) = true := h3
    obtain ⟨t, ht⟩ := List.isPrefixOf_iff_prefix.1 h4
    have h5 : l.drop (i + 2) = t := by rw [← List.drop_drop, ← ht]; rfl
    have h6 := List.take_append_drop i l
    rw [← ht] at h6
    rw [show ([32, 61] : List UInt8).length = 2 from rfl, h5]
    exact h6.symm
/-- The pieces, joined again. -/
def jn : List (List UInt8) → List UInt8
  | [] => []
  | w :: ws => 32 :: (w ++ jn ws)
theorem jn_pcs (l : List UInt8) : jn (pcs l) = 32 :: l := by
  generalize hn : l.length = n
  induction n using Nat.strongRecOn generalizing l with
  | _ n ih =>
    rcases pcs_cases l with h | ⟨a, r, rfl, ha⟩
    · rw [pcs_one h]
      simp [jn]
    · rw [pcs_app ha r]
      have := ih r.length (by rw [← hn]; simp; omega) r rfl
      show 32 :: (a ++ jn (pcs r)) = _
      rw [this]
theorem ceOf_some {l : List UInt8} {c : Ce} (e : ceOf l = some c) : l = ceTxt c := by
  have hok := ceOf_ok e
  unfold ceOf at e
  obtain ⟨a, v, full, hq⟩ : ∃ a v full, cut l [32, 61] = (a, v, full) := ⟨_, _, _, rfl⟩
  have hl : (full = true → l = a ++ 32 :: 61 :: v) ∧ (full = false → v = [] ∧ l = a) := by
    refine ⟨fun hf => ?_, fun hf => ?_⟩
    · have := cut_true (l := l) (by rw [hq]; exact hf)
      rw [hq] at this
      exact this
    · have := cut_false (l := l) (by rw [hq]; exact hf)
      rw [hq] at this
      exact ⟨this.1, this.2.symm⟩
  rw [hq] at e
  simp only at e
  have hj := jn_pcs a
  unfold ceBy at e
  cases hp : pcs a with
  | nil => exact absurd hp (pcs_ne a)
  | cons w ws =>
    rw [hp] at e hj
    simp only at e
    cases hs : sayOf w with
    | none => rw [hs] at e; cases e
    | some s =>
      rw [hs] at e
      simp only at e
      split at e
      · cases e
      · obtain ⟨s2, sw⟩ := sayOf_some hs
        obtain ⟨nums, hr, hm⟩ := Option.map_eq_some_iff.1 e
        unfold ceSpec at hr
        cases ws with
        | nil => simp [ceRd] at hr
        | cons w1 ws1 =>
          obtain ⟨h, m1, e1, a1, _, r1⟩ := ceRd_cons hr
          have d1 := (amt_some a1).2
          have ha : a = cw s ++ 32 :: (decDigits h ++ jn ws1) := by
            have : (32 :: (w ++ (32 :: (w1 ++ jn ws1))) : List UInt8) = 32 :: a := hj
            rw [← sw, ← d1]
            exact (List.cons.inj this).2.symm
          by_cases c0 : s = 0
          · rw [if_pos c0, List.nil_append] at r1
            cases hf : full with
            | false =>
              rw [hf] at r1
              simp only [Bool.false_eq_true, if_false] at r1
              cases ws1 with
              | cons x y => simp [ceRd] at r1
              | nil =>
                simp [ceRd] at r1
                subst r1 e1
                obtain ⟨hv, hla⟩ := hl.2 hf
                subst hv
                simp [mkCe] at hm
                subst hm
                rw [hla, ha]
                unfold ceTxt ceTail
                simp [c0, jn]
            | true =>
              rw [hf, if_pos rfl] at r1
              cases ws1 with
              | nil => simp [ceRd] at r1
              | cons w2 ws2 =>
                obtain ⟨n, m2, e2, a2, n1, r2⟩ := ceRd_cons r1
                have d2 := (amt_some a2).2
                cases ws2 with
                | cons x y => simp [ceRd] at r2
                | nil =>
                  simp [ceRd] at r2
                  subst r2 e2 e1
                  simp [mkCe, c0] at hm
                  subst hm
                  rw [hl.1 hf, ha]
                  unfold ceTxt ceTail
                  have n0 : ¬ n = 0 := by omega
                  simp [jn, n0, ← d2, c0]
          · rw [if_neg c0] at r1
            cases ws1 with
            | nil => simp [ceRd] at r1
            | cons w2 ws2 =>
              obtain ⟨g, m2, e2, a2, g1, r2⟩ := ceRd_cons r1
              have d2 := (amt_some a2).2
              cases hf : full with
              | false =>
                rw [hf] at r2
                simp only [Bool.false_eq_true, if_false] at r2
                cases ws2 with
                | cons x y => simp [ceRd] at r2
                | nil =>
                  simp [ceRd] at r2
                  subst r2 e2 e1
                  obtain ⟨hv, hla⟩ := hl.2 hf
                  subst hv
                  simp [mkCe, c0] at hm
                  subst hm
                  rw [hla, ha]
                  unfold ceTxt ceTail
                  simp [c0, jn, ← d2]
              | true =>
                rw [hf, if_pos rfl] at r2
                cases ws2 with
                | nil => simp [ceRd] at r2
                | cons w3 ws3 =>
                  obtain ⟨n, m3, e3, a3, n1, r3⟩ := ceRd_cons r2
                  have d3 := (amt_some a3).2
                  cases ws3 with
                  | cons x y => simp [ceRd] at r3
                  | nil =>
                    simp [ceRd] at r3
                    subst r3 e3 e2 e1
                    simp [mkCe] at hm
                    subst hm
                    rw [hl.1 hf, ha]
                    unfold ceTxt ceTail
                    have n0 : ¬ n = 0 := by omega
                    simp [jn, n0, c0, ← d2, ← d3]
/-- Both readings say the same. -/
theorem ceD_is (l : List UInt8) : ceD l = ceOf l := by
  cases h : ceD l with
  | some c =>
    obtain ⟨e, o⟩ := ceD_some h
    rw [e, ceOf_txt o]
  | none =>
    cases h2 : ceOf l with
    | none => rfl
    | some c =>
      have e := ceOf_some h2
      rw [e, ceD_txt (ceOf_ok h2)] at h
      cases h
end Go.Proofs.YtflnjlbafchnaaaGreatDoor
