/-
  The document's reader over a whole record: it goes on behind an error; what it leaves, and what it answers where all was read.
-/
import Derived.Test.YtijklginabipgaaGreatWOld
namespace Go.Proofs.YtijklginabipgaaGreat
open Go.RowKit

/-- The state behind a reading. -/
def stAfter {α : Type} (rd : List UInt8 → Except Int (α × List UInt8)) (st : Except Int (List UInt8)) : Except Int (List UInt8) :=
  match st with
  | .error c => .error c
  | .ok l =>
    match rd l with
    | .ok (_, t) => .ok t
    | .error c => .error c
/-- What is answered, where all was read. -/
def GoodV {α : Type} (rd : List UInt8 → Except Int (α × List UInt8)) (st : Except Int (List UInt8)) (y : α) : Prop := ∀ l, st = .ok l → ∀ z t, rd l = .ok (z, t) → y = z
theorem stAfter_run {α : Type} (rd : List UInt8 → Except Int (α × List UInt8)) (d : α) (st : Except Int (List UInt8)) : (stRun rd d st).2 = stAfter rd st := by
  cases st with
  | error c => rfl
  | ok l =>
    unfold stRun stAfter
    simp only
    cases rd l with
    | error c => rfl
    | ok x => rfl
theorem stAfter_then {α β : Type} (rd : List UInt8 → Except Int (α × List UInt8)) (f : α → List UInt8 → Except Int (β × List UInt8)) (d : α) (st : Except Int (List UInt8)) :
    stAfter (fun l => rdThen (rd l) f) st = stAfter (f (stRun rd d st).1) (stRun rd d st).2 := by
  cases st with
  | error c => rfl
  | ok l =>
    cases hr : rd l with
    | error c =>
      rw [stRun_no hr]
      simp only [stAfter, rdThen_no hr]
    | ok x =>
      obtain ⟨a, t⟩ := x
      rw [stRun_ok hr]
      simp only [stAfter, rdThen_ok hr]
theorem GoodV_then {α β : Type} (rd : List UInt8 → Except Int (α × List UInt8)) (f : α → List UInt8 → Except Int (β × List UInt8)) (d : α) (st : Except Int (List UInt8)) (y : β)
    (h : GoodV (f (stRun rd d st).1) (stRun rd d st).2 y) : GoodV (fun l => rdThen (rd l) f) st y := by
  intro l hl z t hz
  subst hl
  simp only at hz
  cases hr : rd l with
  | error c => rw [rdThen_no hr] at hz; cases hz
  | ok x =>
    obtain ⟨a, u⟩ := x
    rw [rdThen_ok hr] at hz
    rw [stRun_ok hr] at h
    exact h u rfl z t hz
theorem stAfter_end {α : Type} (ok : Bool) (x : α) (c : Int) (st : Except Int (List UInt8)) :
    stAfter (fun l => if ok then .ok (x, l) else .error c) st = if ok then st else stBad c st := by
  cases st with
  | error d => cases ok <;> rfl
  | ok l => cases ok <;> rfl
theorem GoodV_end {α : Type} (ok : Bool) (x : α) (c : Int) (st : Except Int (List UInt8)) : GoodV (fun l => if ok then .ok (x, l) else .error c) st x := by
  intro l _ z t hz
  cases ok with
  | true => simp only [if_true, Except.ok.injEq, Prod.mk.injEq] at hz; exact hz.1
  | false => simp at hz
theorem stAfter_all {α : Type} (x : α) (st : Except Int (List UInt8)) : stAfter (fun l => .ok (x, l)) st = st := by
  cases st <;> rfl
theorem GoodV_all {α : Type} (x : α) (st : Except Int (List UInt8)) : GoodV (fun l => .ok (x, l)) st x := by
  intro l _ z t hz
  simp only [Except.ok.injEq, Prod.mk.injEq] at hz
  exact hz.1
theorem GoodV_run {α : Type} (rd : List UInt8 → Except Int (α × List UInt8)) (d : α) (st : Except Int (List UInt8)) : GoodV rd st (stRun rd d st).1 := by
  intro l hl z t hz
  rw [hl, stRun_ok hz]
/-- A value that is good is as good as the one that was run to. -/
theorem GoodV.run {α : Type} {rd : List UInt8 → Except Int (α × List UInt8)} {st : Except Int (List UInt8)} {y : α} (h : GoodV rd st y) : stRun rd y st = (y, stAfter rd st) := by
  cases st with
  | error c => rfl
  | ok l =>
    cases hr : rd l with
    | error c => rw [stRun_no hr]; simp only [stAfter, hr]
    | ok x =>
      obtain ⟨a, t⟩ := x
      have := h l rfl a t hr
      subst this
      rw [stRun_ok hr]; simp only [stAfter, hr]

/-- Of all the bytes, as the document's faces have it: the value and the error. -/
def refAll {α : Type} (z : α) (x : α) (st : Except Int (List UInt8)) : α × Int := if stEnd st = 0 then (x, 0) else (z, stEnd st)
/-- Of all the bytes, as the program's faces have it. -/
def getAll {α : Type} (z : α) (r : Except Int (α × List UInt8)) : α × Int :=
  match r with
  | .ok (x, []) => (x, 0)
  | .ok (_, _ :: _) => (z, 1)
  | .error c => (z, c)
theorem getAll_err {α : Type} {z : α} {r : Except Int (α × List UInt8)} {c : Int} (h : r = .error c) : getAll z r = (z, c) := by rw [h]; rfl
theorem getAll_ok {α : Type} {z x : α} {r : Except Int (α × List UInt8)} (h : r = .ok (x, [])) : getAll z r = (x, 0) := by rw [h]; rfl
theorem getAll_left {α : Type} {z x : α} {r : Except Int (α × List UInt8)} {y : UInt8} {t : List UInt8} (h : r = .ok (x, y :: t)) : getAll z r = (z, 1) := by rw [h]; rfl
theorem refAll_eq {α : Type} (z x : α) (rd : List UInt8 → Except Int (α × List UInt8)) (l : List UInt8) (hg : GoodV rd (.ok l) x) (he : ∀ c, rd l = .error c → c ≠ 0) : refAll z x (stAfter rd (.ok l)) = getAll z (rd l) := by
  cases hr : rd l with
  | error c =>
    have e : stAfter rd (.ok l) = .error c := by simp only [stAfter, hr]
    rw [e]
    exact if_neg (he c hr)
  | ok y =>
    obtain ⟨a, t⟩ := y
    have e : stAfter rd (.ok l) = .ok t := by simp only [stAfter, hr]
    have := hg l rfl a t hr
    subst this
    rw [e]
    cases t with
    | nil => rfl
    | cons y t => rfl
/-- An error is never 0. -/
def NoZero {α : Type} (rd : List UInt8 → Except Int (α × List UInt8)) : Prop := ∀ l c, rd l = .error c → c ≠ 0
theorem NoZero.then {α β : Type} {rd : List UInt8 → Except Int (α × List UInt8)} {f : α → List UInt8 → Except Int (β × List UInt8)} (h : NoZero rd) (hf : ∀ a, NoZero (f a)) : NoZero (fun l => rdThen (rd l) f) := by
  intro l c hc
  simp only at hc
  cases hr : rd l with
  | error d => rw [rdThen_no hr] at hc; cases hc; exact h l c hr
  | ok x => obtain ⟨a, t⟩ := x; rw [rdThen_ok hr] at hc; exact hf a t c hc
theorem NoZero.end {α : Type} (ok : Bool) (x : α) (c : Int) (hc : c ≠ 0) : NoZero (fun l => if ok then .ok (x, l) else .error c) := by
  intro l d hd
  cases ok with
  | true => simp at hd
  | false => simp at hd; rw [← hd]; exact hc
theorem NoZero.all {α : Type} (x : α) : NoZero (fun l => .ok (x, l)) := by
  intro l d hd
  cases hd
theorem noZero_num : NoZero rdNum := fun _ _ h => rdNum_err h
theorem noZero_text (most : Nat) : NoZero (rdText most) := fun _ _ h => rdText_err h

/-- What a face hands out: the value and the error. -/
def GotPost {α : Type} (V : α → World → Value → Prop) (g : α × Int) (w : World) (e : Ending) (w' : World) : Prop := ∃ v, e = .returned (.tuple #[v, .int .i64 g.2]) ∧ V g.1 w' v ∧ Kept Nil w w'

end Go.Proofs.YtijklginabipgaaGreat
