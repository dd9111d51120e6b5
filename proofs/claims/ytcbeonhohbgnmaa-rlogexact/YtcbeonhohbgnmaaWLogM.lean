/-
  Extend, plainly: what is skipped, how many are the same, where a leader looks next. No program.
-/
import Derived.Test.YtcbeonhohbgnmaaWLog4
namespace Go.Proofs.Ytcbeonhohbgnmaa
open Go.RowKit

def skip (base : Int) : Int → Int → List En → Int × Int × List En
  | p, t, [] => (p, t, [])
  | p, t, e :: r => if p < base then skip base e.ix e.tm r else (p, t, e :: r)
theorem skip_more {base p t : Int} {e : En} {r : List En} (h : p < base) : skip base p t (e :: r) = skip base e.ix e.tm r := by rw [skip, if_pos h]
theorem skip_end {base p t : Int} {ns : List En} (h : ¬ (p < base ∧ ns ≠ [])) : skip base p t ns = (p, t, ns) := by
  cases ns with
  | nil => rfl
  | cons e r => rw [skip, if_neg (fun hp => h ⟨hp, by simp⟩)]
/-- How many, from the first on, have the same term. -/
def cnt : List En → List En → Nat
  | a :: s, b :: t => if a.tm = b.tm then cnt s t + 1 else 0
  | _, _ => 0
theorem cnt_nil_l (l : List En) : cnt [] l = 0 := by cases l <;> rfl
theorem cnt_nil_r (l : List En) : cnt l [] = 0 := by cases l <;> rfl
theorem cnt_at {hs ns : List En} {k : Nat} (h1 : k < hs.length) (h2 : k < ns.length) : cnt (hs.drop k) (ns.drop k) = if hs[k].tm = ns[k].tm then cnt (hs.drop (k + 1)) (ns.drop (k + 1)) + 1 else 0 := by
  rw [List.drop_eq_getElem_cons h1, List.drop_eq_getElem_cons h2, cnt]
theorem cnt_end {hs ns : List En} {k : Nat} (h : ¬ (k < hs.length ∧ k < ns.length)) : cnt (hs.drop k) (ns.drop k) = 0 := by
  by_cases h1 : k < hs.length
  · rw [show ns.drop k = [] from List.drop_eq_nil_of_le (by omega), cnt_nil_r]
  · rw [show hs.drop k = [] from List.drop_eq_nil_of_le (by omega), cnt_nil_l]
theorem cnt_le : ∀ (hs ns : List En), cnt hs ns ≤ hs.length ∧ cnt hs ns ≤ ns.length
  | [], l => by rw [cnt_nil_l]; simp
  | _ :: _, [] => by rw [cnt_nil_r]; simp
  | a :: s, b :: t => by
    have := cnt_le s t
    rw [cnt]
    split
    · simp only [List.length_cons]; omega
    · simp
/-- The first place, side by side, that has the term. -/
def down (bt : Int) (es : List En) (t : Int) : Nat → Nat
  | 0 => 0
  | 1 => 1
  | p + 2 => if tmAt bt es (p + 1) = t then down bt es t (p + 1) else p + 2
theorem down_more {bt t : Int} {es : List En} {p : Nat} (h : 1 < p) (ht : tmAt bt es (p - 1) = t) : down bt es t p = down bt es t (p - 1) := by
  obtain ⟨q, rfl⟩ : ∃ q, p = q + 2 := ⟨p - 2, by omega⟩
  rw [down, if_pos (by simpa using ht)]
  rfl
theorem down_end {bt t : Int} {es : List En} {p : Nat} (h : ¬ (1 < p ∧ tmAt bt es (p - 1) = t)) : down bt es t p = p := by
  match p with
  | 0 => rfl
  | 1 => rfl
  | q + 2 => rw [down, if_neg (fun e => h ⟨by omega, by simpa using e⟩)]
theorem down_le {bt t : Int} {es : List En} : ∀ p, down bt es t p ≤ p
  | 0 => Nat.le_refl _
  | 1 => Nat.le_refl _
  | p + 2 => by
    rw [down]
    split
    · have := down_le (bt := bt) (t := t) (es := es) (p + 1); omega
    · exact Nat.le_refl _
def look (base bt : Int) (es : List En) (prev : Int) : Int := if base + es.length < prev then base + es.length + 1 else base + (down bt es (tmAt bt es (prev - base).toNat) (prev - base).toNat : Nat)
/-- Behind what was skipped. -/
def extAt (base bt : Int) (es : List En) (p t : Int) (ns : List En) : List En × Int × Int × Int :=
  if p < base then (es, p, 0, 0)
  else if tAt base bt es p = (t, 0) then
    (if cnt (es.drop (p - base).toNat) ns < ns.length then (es.take ((p - base).toNat + cnt (es.drop (p - base).toNat) ns) ++ ns.drop (cnt (es.drop (p - base).toNat) ns), p + ns.length, p + (cnt (es.drop (p - base).toNat) ns : Nat) + 1, 0) else (es, p + ns.length, 0, 0))
  else (es, 0, 0, look base bt es p)
def ext (base bt : Int) (es : List En) (p t : Int) (ns : List En) : List En × Int × Int × Int := extAt base bt es (skip base p t ns).1 (skip base p t ns).2.1 (skip base p t ns).2.2

end Go.Proofs.Ytcbeonhohbgnmaa
