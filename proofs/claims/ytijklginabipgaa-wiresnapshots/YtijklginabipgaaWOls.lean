/-
  Joined: WStep, WEnt3, WEnt4.
-/
import Derived.Test.YtijklginabipgaaWOld
import Derived.Test.YtijklginabipgaaWEnt2
/-
  The document's reader over a whole record: it goes on behind an error; what it leaves, and what it answers where all was read.
-/
namespace Go.Proofs.Ytijklginabipgaa
open Go.RowKit

/-- The state behind a reading. -/
def stAfter {α : Type} (rd : List UInt8 → Except Int (α × List UInt8)) (st : Except Int (List UInt8)) : Except Int (List UInt8) :=
  match st with
  | .error c => .error c
  | .ok l =>
    match rd l with
    | .ok (_, t) => .ok t
    | .error c => .error c
/-- What is answered, where all was read. -/
def GoodV {α : Type} (rd : List UInt8 → Except Int (α × List UInt8)) (st : Except Int (List UInt8)) (y : α) : Prop := ∀ l, st = .ok l → ∀ z t, rd l = .ok (z, t) → y = z
theorem stAfter_run {α : Type} (rd : List UInt8 → Except Int (α × List UInt8)) (d : α) (st : Except Int (List UInt8)) : (stRun rd d st).2 = stAfter rd st := by
  cases st with
  | error c => rfl
  | ok l =>
    unfold stRun stAfter
    simp only
    cases rd l with
    | error c => rfl
    | ok x => rfl
theorem stAfter_then {α β : Type} (rd : List UInt8 → Except Int (α × List UInt8)) (f : α → List UInt8 → Except Int (β × List UInt8)) (d : α) (st : Except Int (List UInt8)) :
    stAfter (fun l => rdThen (rd l) f) st = stAfter (f (stRun rd d st).1) (stRun rd d st).2 := by
  cases st with
  | error c => rfl
  | ok l =>
    cases hr : rd l with
    | error c =>
      rw [stRun_no hr]
      simp only [stAfter, rdThen_no hr]
    | ok x =>
      obtain ⟨a, t⟩ := x
      rw [stRun_ok hr]
      simp only [stAfter, rdThen_ok hr]
theorem GoodV_then {α β : Type} (rd : List UInt8 → Except Int (α × List UInt8)) (f : α → List UInt8 → Except Int (β × List UInt8)) (d : α) (st : Except Int (List UInt8)) (y : β)
    (h : GoodV (f (stRun rd d st).1) (stRun rd d st).2 y) : GoodV (fun l => rdThen (rd l) f) st y := by
  intro l hl z t hz
  subst hl
  simp only at hz
  cases hr : rd l with
  | error c => rw [rdThen_no hr] at hz; cases hz
  | ok x =>
    obtain ⟨a, u⟩ := x
    rw [rdThen_ok hr] at hz
    rw [stRun_ok hr] at h
    exact h u rfl z t hz
theorem stAfter_end {α : Type} (ok : Bool) (x : α) (c : Int) (st : Except Int (List UInt8)) :
    stAfter (fun l => if ok then .ok (x, l) else .error c) st = if ok then st else stBad c st := by
  cases st with
  | error d => cases ok <;> rfl
  | ok l => cases ok <;> rfl
theorem GoodV_end {α : Type} (ok : Bool) (x : α) (c : Int) (st : Except Int (List UInt8)) : GoodV (fun l => if ok then .ok (x, l) else .error c) st x := by
  intro l _ z t hz
  cases ok with
  | true => simp only [if_true, Except.ok.injEq, Prod.mk.injEq] at hz; exact hz.1
  | false => simp at hz
theorem stAfter_all {α : Type} (x : α) (st : Except Int (List UInt8)) : stAfter (fun l => .ok (x, l)) st = st := by
  cases st <;> rfl
theorem GoodV_all {α : Type} (x : α) (st : Except Int (List UInt8)) : GoodV (fun l => .ok (x, l)) st x := by
  intro l _ z t hz
  simp only [Except.ok.injEq, Prod.mk.injEq] at hz
  exact hz.1
theorem GoodV_run {α : Type} (rd : List UInt8 → Except Int (α × List UInt8)) (d : α) (st : Except Int (List UInt8)) : GoodV rd st (stRun rd d st).1 := by
  intro l hl z t hz
  rw [hl, stRun_ok hz]
/-- A value that is good is as good as the one that was run to. -/
theorem GoodV.run {α : Type} {rd : List UInt8 → Except Int (α × List UInt8)} {st : Except Int (List UInt8)} {y : α} (h : GoodV rd st y) : stRun rd y st = (y, stAfter rd st) := by
  cases st with
  | error c => rfl
  | ok l =>
    cases hr : rd l with
    | error c => rw [stRun_no hr]; simp only [stAfter, hr]
    | ok x =>
      obtain ⟨a, t⟩ := x
      have := h l rfl a t hr
      subst this
      rw [stRun_ok hr]; simp only [stAfter, hr]

/-- What the document's reader of a record leaves. -/
def RefPost {α : Type} (b : Nat) (w : World) (rd : List UInt8 → Except Int (α × List UInt8)) (st : Except Int (List UInt8)) (V : α → World → Value → Prop) (e : Ending) (w' : World) : Prop :=
  (∃ v a, e = .returned v ∧ V a w' v ∧ GoodV rd st a) ∧ RSt b w' (stAfter rd st) ∧ Kept (One b) w w'

/-- Of all the bytes, as the document's faces have it: the value and the error. -/
def refAll {α : Type} (z : α) (x : α) (st : Except Int (List UInt8)) : α × Int := if stEnd st = 0 then (x, 0) else (z, stEnd st)
/-- Of all the bytes, as the program's faces have it. -/
def getAll {α : Type} (z : α) (r : Except Int (α × List UInt8)) : α × Int :=
  match r with
  | .ok (x, []) => (x, 0)
  | .ok (_, _ :: _) => (z, 1)
  | .error c => (z, c)
theorem getAll_err {α : Type} {z : α} {r : Except Int (α × List UInt8)} {c : Int} (h : r = .error c) : getAll z r = (z, c) := by rw [h]; rfl
theorem getAll_ok {α : Type} {z x : α} {r : Except Int (α × List UInt8)} (h : r = .ok (x, [])) : getAll z r = (x, 0) := by rw [h]; rfl
theorem getAll_left {α : Type} {z x : α} {r : Except Int (α × List UInt8)} {y : UInt8} {t : List UInt8} (h : r = .ok (x, y :: t)) : getAll z r = (z, 1) := by rw [h]; rfl
theorem refAll_eq {α : Type} (z x : α) (rd : List UInt8 → Except Int (α × List UInt8)) (l : List UInt8) (hg : GoodV rd (.ok l) x) (he : ∀ c, rd l = .error c → c ≠ 0) : refAll z x (stAfter rd (.ok l)) = getAll z (rd l) := by
  cases hr : rd l with
  | error c =>
    have e : stAfter rd (.ok l) = .error c := by simp only [stAfter, hr]
    rw [e]
    exact if_neg (he c hr)
  | ok y =>
    obtain ⟨a, t⟩ := y
    have e : stAfter rd (.ok l) = .ok t := by simp only [stAfter, hr]
    have := hg l rfl a t hr
    subst this
    rw [e]
    cases t with
    | nil => rfl
    | cons y t => rfl
/-- An error is never 0. -/
def NoZero {α : Type} (rd : List UInt8 → Except Int (α × List UInt8)) : Prop := ∀ l c, rd l = .error c → c ≠ 0
theorem NoZero.then {α β : Type} {rd : List UInt8 → Except Int (α × List UInt8)} {f : α → List UInt8 → Except Int (β × List UInt8)} (h : NoZero rd) (hf : ∀ a, NoZero (f a)) : NoZero (fun l => rdThen (rd l) f) := by
  intro l c hc
  simp only at hc
  cases hr : rd l with
  | error d => rw [rdThen_no hr] at hc; cases hc; exact h l c hr
  | ok x => obtain ⟨a, t⟩ := x; rw [rdThen_ok hr] at hc; exact hf a t c hc
theorem NoZero.end {α : Type} (ok : Bool) (x : α) (c : Int) (hc : c ≠ 0) : NoZero (fun l => if ok then .ok (x, l) else .error c) := by
  intro l d hd
  cases ok with
  | true => simp at hd
  | false => simp at hd; rw [← hd]; exact hc
theorem NoZero.all {α : Type} (x : α) : NoZero (fun l => .ok (x, l)) := by
  intro l d hd
  cases hd
theorem noZero_num : NoZero rdNum := fun _ _ h => rdNum_err h
theorem noZero_text (most : Nat) : NoZero (rdText most) := fun _ _ h => rdText_err h

/-- What a face hands out: the value and the error. -/
def GotPost {α : Type} (V : α → World → Value → Prop) (g : α × Int) (w : World) (e : Ending) (w' : World) : Prop := ∃ v, e = .returned (.tuple #[v, .int .i64 g.2]) ∧ V g.1 w' v ∧ Kept Nil w w'

end Go.Proofs.Ytijklginabipgaa

/-
  An entry read by the program's reader.
-/
namespace Go.Proofs.Ytijklginabipgaa
open Go.RowKit

def rdEntEnd (x : En) (l : List UInt8) : Except Int (En × List UInt8) := if x.ok then .ok (x, l) else .error 6
def rdEnt (l : List UInt8) : Except Int (En × List UInt8) :=
  rdThen (rdNum l) fun ix l => rdThen (rdNum l) fun tm l => rdThen (rdNum l) fun kd l => rdThen (rdText 256 l) fun dt l => rdEntEnd ⟨ix, tm, kd, dt⟩ l
def EnV : En → World → Value → Prop := fun x _ v => v = .agg #[.int .i64 x.ix, .int .i64 x.tm, .int .i64 x.kd, .string (bs x.dt)]

set_option maxRecDepth 100000 in
set_option maxHeartbeats 4000000 in
theorem rEntry_any (p : Addr) (l : List UInt8) (w : World) (hl : Left p w l) :
    Calls Try.prog 87 #[.pointer (some p)] w (RdPost p w (rdEnt l) (EnV)) := by
  have HB : Hid (p.block < w.heap.size) := cell_lt hl.cell
  have HN : Hid (_) := blk_new w (.cells #[.int .i64 0, .int .i64 0, .int .i64 0, .string (bs [])] 52)
  have HX : Hid (¬ One p.block w.heap.size (.cells #[.int .i64 0, .int .i64 0, .int .i64 0, .string (bs [])] 52 (0, 0))) := fun (e : w.heap.size = p.block) => by have := HB.out; omega
  have hla := hl.alloc (.cells #[.int .i64 0, .int .i64 0, .int .i64 0, .string (bs [])] 52)
  clear hl
  cases r1 : rdNum l with
  | error c =>
    have HR : Hid (rdEnt l = .error c) := rdThen_no r1
    go_enter Try.func87, Try.ntmps87
    go_wp2_with fail
    refine (number_no hla r1).mono ?_
    rintro e w1 ⟨rfl, k1⟩
    go_wp2
    unfold bodyPost RdPost
    rw [HR.out]
    exact ⟨rfl, rfl, (((Kept.refl _ _).alloc _).trans k1)⟩
  | ok x1 =>
  obtain ⟨ix, l1⟩ := x1
  cases r2 : rdNum l1 with
  | error c =>
    have HR : Hid (rdEnt l = .error c) := (rdThen_ok r1).trans (rdThen_no r2)
    go_enter Try.func87, Try.ntmps87
    go_wp2_with fail
    refine (number_ok hla r1).mono ?_
    rintro e w1 ⟨rfl, c1, z1, k1⟩
    go_wp2_with fail
    refine (number_no ⟨c1, z1⟩ r2).mono ?_
    rintro e w2 ⟨rfl, k2⟩
    go_wp2
    unfold bodyPost RdPost
    rw [HR.out]
    exact ⟨rfl, rfl, ((((Kept.refl _ _).alloc _).trans k1).trans k2)⟩
  | ok x2 =>
  obtain ⟨tm, l2⟩ := x2
  cases r3 : rdNum l2 with
  | error c =>
    have HR : Hid (rdEnt l = .error c) := (rdThen_ok r1).trans ((rdThen_ok r2).trans (rdThen_no r3))
    go_enter Try.func87, Try.ntmps87
    go_wp2_with fail
    refine (number_ok hla r1).mono ?_
    rintro e w1 ⟨rfl, c1, z1, k1⟩
    go_wp2_with fail
    refine (number_ok ⟨c1, z1⟩ r2).mono ?_
    rintro e w2 ⟨rfl, c2, z2, k2⟩
    go_wp2_with fail
    refine (number_no ⟨c2, z2⟩ r3).mono ?_
    rintro e w3 ⟨rfl, k3⟩
    go_wp2
    unfold bodyPost RdPost
    rw [HR.out]
    exact ⟨rfl, rfl, (((((Kept.refl _ _).alloc _).trans k1).trans k2).trans k3)⟩
  | ok x3 =>
  obtain ⟨kd, l3⟩ := x3
  cases r4 : rdText 256 l3 with
  | error c =>
    have HR : Hid (rdEnt l = .error c) := (rdThen_ok r1).trans ((rdThen_ok r2).trans ((rdThen_ok r3).trans (rdThen_no r4)))
    go_enter Try.func87, Try.ntmps87
    go_wp2_with fail
    refine (number_ok hla r1).mono ?_
    rintro e w1 ⟨rfl, c1, z1, k1⟩
    go_wp2_with fail
    refine (number_ok ⟨c1, z1⟩ r2).mono ?_
    rintro e w2 ⟨rfl, c2, z2, k2⟩
    go_wp2_with fail
    refine (number_ok ⟨c2, z2⟩ r3).mono ?_
    rintro e w3 ⟨rfl, c3, z3, k3⟩
    go_wp2_with fail
    refine (text_no ⟨c3, z3⟩ r4).mono ?_
    rintro e w4 ⟨rfl, k4⟩
    go_wp2
    unfold bodyPost RdPost
    rw [HR.out]
    exact ⟨rfl, rfl, ((((((Kept.refl _ _).alloc _).trans k1).trans k2).trans k3).trans k4)⟩
  | ok x4 =>
  obtain ⟨dt, l4⟩ := x4
  have HI := fun w => isEntry_any ix tm kd dt w (by have := rdText_le r4; unfold maxLen; omega)
  cases hok : En.ok ⟨ix, tm, kd, dt⟩ with
  | false =>
    rw [hok] at HI
    have HR : Hid (rdEnt l = .error 6) := (rdThen_ok r1).trans ((rdThen_ok r2).trans ((rdThen_ok r3).trans ((rdThen_ok r4).trans (if_neg (by rw [hok]; decide)))))
    clear hok
    go_enter Try.func87, Try.ntmps87
    go_wp2_with fail
    refine (number_ok hla r1).mono ?_
    rintro e w1 ⟨rfl, c1, z1, k1⟩
    go_wp2_with fail
    refine (number_ok ⟨c1, z1⟩ r2).mono ?_
    rintro e w2 ⟨rfl, c2, z2, k2⟩
    go_wp2_with fail
    refine (number_ok ⟨c2, z2⟩ r3).mono ?_
    rintro e w3 ⟨rfl, c3, z3, k3⟩
    go_wp2_with fail
    refine (text_ok ⟨c3, z3⟩ r4).mono ?_
    rintro e w4 ⟨rfl, c4, z4, k4⟩
    have hkk : Kept (One p.block) w w4 := ((((((Kept.refl _ _).alloc _).trans k1).trans k2).trans k3).trans k4)
    go_wp2_with fail
    refine (HI _).mono ?_
    rintro e wi ⟨rfl, ki⟩
    go_wp2_with (go_at_call 145; go_must (refine (must_no _ _).mono ?_); rintro e w99 ⟨rfl, rfl⟩)
    unfold bodyPost RdPost
    rw [HR.out]
    exact ⟨rfl, rfl, (hkk.alloc _).trans (ki.mono (fun _ _ x => x.elim))⟩
  | true =>
    rw [hok] at HI
    have HR : Hid (rdEnt l = .ok (⟨ix, tm, kd, dt⟩, l4)) := (rdThen_ok r1).trans ((rdThen_ok r2).trans ((rdThen_ok r3).trans ((rdThen_ok r4).trans (if_pos hok))))
    clear hok
    go_enter Try.func87, Try.ntmps87
    go_wp2_with fail
    refine (number_ok hla r1).mono ?_
    rintro e w1 ⟨rfl, c1, z1, k1⟩
    go_wp2_with fail
    refine (number_ok ⟨c1, z1⟩ r2).mono ?_
    rintro e w2 ⟨rfl, c2, z2, k2⟩
    go_wp2_with fail
    refine (number_ok ⟨c2, z2⟩ r3).mono ?_
    rintro e w3 ⟨rfl, c3, z3, k3⟩
    go_wp2_with fail
    refine (text_ok ⟨c3, z3⟩ r4).mono ?_
    rintro e w4 ⟨rfl, c4, z4, k4⟩
    have HNn : Hid (_) := k4.block _ _ (k3.block _ _ (k2.block _ _ (k1.block _ _ (HN.out) HX.out) HX.out) HX.out) HX.out
    have hkk : Kept (One p.block) w w4 := ((((((Kept.refl _ _).alloc _).trans k1).trans k2).trans k3).trans k4)
    have hln : Left p w4 l4 := ⟨c4, z4⟩
    go_wp2_with fail
    refine (HI _).mono ?_
    rintro e wi ⟨rfl, ki⟩
    have hq := ki.block _ _ (blk_new w4 _) (fun x => x.elim)
    have hbr := ki.block _ _ (blk_past HNn.out _) (fun x => x.elim)
    have q0 := blk_at hq 0 rfl
    have q1 := blk_at hq 1 rfl
    have q2 := blk_at hq 2 rfl
    have q3 := blk_at hq 3 rfl
    have g0 := blk_at hbr 0 rfl
    have g1 := blk_at hbr 1 rfl
    have g2 := blk_at hbr 2 rfl
    have g3 := blk_at hbr 3 rfl
    have f0 := blk_free hbr 0
    have f1 := blk_free hbr 1
    have f2 := blk_free hbr 2
    have f3 := blk_free hbr 3
    go_wp2_with (go_at_call 145; go_must (refine (must_ok _ _).mono ?_); rintro e w99 ⟨rfl, rfl⟩)
    go_wp2
    refine bodyPost_ret (v := .agg #[.int .i64 ix, .int .i64 tm, .int .i64 kd, .string (bs dt)]) (by simp [results, Try.results87, go_sem, g0, g1, g2, g3]) rfl ?_
    unfold RdPost
    rw [HR.out]
    have hl9 : Left p w99 l4 := (hln.alloc _).kept ki
    have hk9 : Kept (One p.block) w w99 := (hkk.alloc _).trans (ki.mono (fun _ _ x => x.elim))
    have hne : p.block ≠ w.heap.size := Nat.ne_of_lt HB.out
    exact ⟨⟨_, rfl, rfl⟩, ((((hl9.other hne _).other hne _).other hne _).other hne _), ((((hk9.setNew (Nat.le_refl _) _).setNew (Nat.le_refl _) _).setNew (Nat.le_refl _) _).setNew (Nat.le_refl _) _)⟩

end Go.Proofs.Ytijklginabipgaa

/-
  An entry read by the document's reader.
-/
namespace Go.Proofs.Ytijklginabipgaa
open Go.RowKit

theorem stText_le (most : Nat) (st : Except Int (List UInt8)) : (stRun (rdText most) [] st).1.length ≤ most := by
  cases st with
  | error c => exact Nat.zero_le _
  | ok l =>
    cases hr : rdText most l with
    | error c => rw [stRun_no hr]; exact Nat.zero_le _
    | ok x => obtain ⟨a, t⟩ := x; rw [stRun_ok hr]; exact rdText_le hr
theorem RSt.lt {b : Nat} {w : World} {st : Except Int (List UInt8)} (h : RSt b w st) : b < w.heap.size := by
  cases st with
  | ok l => exact lt_of_block h.2
  | error c => exact lt_of_block h.2

set_option maxRecDepth 100000 in
set_option maxHeartbeats 4000000 in
theorem refREntry_any (b : Nat) (st : Except Int (List UInt8)) (w : World) (h : RSt b w st) :
    Calls Try.prog 88 #[.pointer (some ⟨b, 0, none⟩)] w (RefPost b w rdEnt st EnV) := by
  have HBL : Hid (b < w.heap.size) := h.lt
  have HBw : Hid (b ≠ w.heap.size ∧ b ≠ w.heap.size + 1) := by have := HBL.out; constructor <;> omega
  have M0 : Hid (((w.alloc (.cells #[.int .i64 0, .int .i64 0, .int .i64 0, .string (bs [])] 52)).alloc (.cells #[.int .i64 0, .int .i64 0, .int .i64 0, .string (bs [])] 52)).heap[w.heap.size + 1]? = some (.cells #[.int .i64 0, .int .i64 0, .int .i64 0, .string (bs [])] 52 (0, 0))) := by
    have := blk_new (w.alloc (.cells #[.int .i64 0, .int .i64 0, .int .i64 0, .string (bs [])] 52)) (.cells #[.int .i64 0, .int .i64 0, .int .i64 0, .string (bs [])] 52)
    rwa [show (w.alloc (.cells #[.int .i64 0, .int .i64 0, .int .i64 0, .string (bs [])] 52)).heap.size = w.heap.size + 1 by simp] at this
  have N0 : Hid (_) := blk_past (blk_new w (.cells #[.int .i64 0, .int .i64 0, .int .i64 0, .string (bs [])] 52)) (.cells #[.int .i64 0, .int .i64 0, .int .i64 0, .string (bs [])] 52)
  have T0 := (h.past (.cells #[.int .i64 0, .int .i64 0, .int .i64 0, .string (bs [])] 52)).past (.cells #[.int .i64 0, .int .i64 0, .int .i64 0, .string (bs [])] 52)
  have K0 : Hid (Kept (One b) w ((w.alloc (.cells #[.int .i64 0, .int .i64 0, .int .i64 0, .string (bs [])] 52)).alloc (.cells #[.int .i64 0, .int .i64 0, .int .i64 0, .string (bs [])] 52))) := ((Kept.refl _ _).alloc _).alloc _
  have hMb : ¬ w.heap.size + 1 = b := fun e => HBw.out.2 e.symm
  have hNb : ¬ w.heap.size = b := fun e => HBw.out.1 e.symm
  have hbM : b ≠ w.heap.size + 1 := HBw.out.2
  have hbN : b ≠ w.heap.size := HBw.out.1
  have hNM : w.heap.size ≠ w.heap.size + 1 := by omega
  clear h
  obtain ⟨⟨ix, s1⟩, h1⟩ : ∃ x, stRun (rdNum) 0 st = x := ⟨_, rfl⟩
  have C1 := fun (w' : World) h => refNumber_any b st w' h
  rw [h1] at C1
  have H1 : Hid (stRun (rdNum) 0 st = (ix, s1)) := h1
  clear h1
  obtain ⟨⟨tm, s2⟩, h2⟩ : ∃ x, stRun (rdNum) 0 s1 = x := ⟨_, rfl⟩
  have C2 := fun (w' : World) h => refNumber_any b s1 w' h
  rw [h2] at C2
  have H2 : Hid (stRun (rdNum) 0 s1 = (tm, s2)) := h2
  clear h2
  obtain ⟨⟨kd, s3⟩, h3⟩ : ∃ x, stRun (rdNum) 0 s2 = x := ⟨_, rfl⟩
  have C3 := fun (w' : World) h => refNumber_any b s2 w' h
  rw [h3] at C3
  have H3 : Hid (stRun (rdNum) 0 s2 = (kd, s3)) := h3
  clear h3
  obtain ⟨⟨dt, s4⟩, h4⟩ : ∃ x, stRun (rdText 256) [] s3 = x := ⟨_, rfl⟩
  have C4 := fun (w' : World) h => refText_any b 256 s3 w' h
  rw [h4] at C4
  have H4 : Hid (stRun (rdText 256) [] s3 = (dt, s4)) := h4
  clear h4
  go_enter Try.func88, Try.ntmps88
  go_wp2_with fail
  refine (C1 _ T0).mono ?_
  rintro e w1 ⟨rfl, t1, k1⟩
  have m1 := k1.block _ _ M0.out hMb
  have o1 := k1.block _ _ N0.out hNb
  have a1_0 := blk_at m1 0 rfl
  have f1_0 := blk_free m1 0
  have M1 : Hid ((w1.setCell ⟨w.heap.size + 1, 0, none⟩ (.int .i64 ix)).heap[w.heap.size + 1]? = some (.cells #[.int .i64 ix, .int .i64 0, .int .i64 0, .string (bs [])] 52 (0, 0))) := blk_set m1 0 _
  have N1 : Hid (_) := blk_other o1 hNM (a := ⟨w.heap.size + 1, 0, none⟩) (.int .i64 ix)
  have T1 := t1.other hbM (a := ⟨w.heap.size + 1, 0, none⟩) (.int .i64 ix)
  have K1 : Hid (Kept (One b) w (w1.setCell ⟨w.heap.size + 1, 0, none⟩ (.int .i64 ix))) := (K0.out.trans k1).setNew (show w.heap.size ≤ w.heap.size + 1 by omega) _
  clear m1 o1
  go_wp2_with fail
  refine (C2 _ T1).mono ?_
  rintro e w2 ⟨rfl, t2, k2⟩
  have m2 := k2.block _ _ M1.out hMb
  have o2 := k2.block _ _ N1.out hNb
  have a2_0 := blk_at m2 1 rfl
  have f2_0 := blk_free m2 1
  have M2 : Hid ((w2.setCell ⟨w.heap.size + 1, 1, none⟩ (.int .i64 tm)).heap[w.heap.size + 1]? = some (.cells #[.int .i64 ix, .int .i64 tm, .int .i64 0, .string (bs [])] 52 (0, 0))) := blk_set m2 1 _
  have N2 : Hid (_) := blk_other o2 hNM (a := ⟨w.heap.size + 1, 1, none⟩) (.int .i64 tm)
  have T2 := t2.other hbM (a := ⟨w.heap.size + 1, 1, none⟩) (.int .i64 tm)
  have K2 : Hid (Kept (One b) w (w2.setCell ⟨w.heap.size + 1, 1, none⟩ (.int .i64 tm))) := (K1.out.trans k2).setNew (show w.heap.size ≤ w.heap.size + 1 by omega) _
  clear m2 o2
  go_wp2_with fail
  refine (C3 _ T2).mono ?_
  rintro e w3 ⟨rfl, t3, k3⟩
  have m3 := k3.block _ _ M2.out hMb
  have o3 := k3.block _ _ N2.out hNb
  have a3_0 := blk_at m3 2 rfl
  have f3_0 := blk_free m3 2
  have M3 : Hid ((w3.setCell ⟨w.heap.size + 1, 2, none⟩ (.int .i64 kd)).heap[w.heap.size + 1]? = some (.cells #[.int .i64 ix, .int .i64 tm, .int .i64 kd, .string (bs [])] 52 (0, 0))) := blk_set m3 2 _
  have N3 : Hid (_) := blk_other o3 hNM (a := ⟨w.heap.size + 1, 2, none⟩) (.int .i64 kd)
  have T3 := t3.other hbM (a := ⟨w.heap.size + 1, 2, none⟩) (.int .i64 kd)
  have K3 : Hid (Kept (One b) w (w3.setCell ⟨w.heap.size + 1, 2, none⟩ (.int .i64 kd))) := (K2.out.trans k3).setNew (show w.heap.size ≤ w.heap.size + 1 by omega) _
  clear m3 o3
  go_wp2_with fail
  refine (C4 _ T3).mono ?_
  rintro e w4 ⟨rfl, t4, k4⟩
  have m4 := k4.block _ _ M3.out hMb
  have o4 := k4.block _ _ N3.out hNb
  have a4_0 := blk_at m4 3 rfl
  have f4_0 := blk_free m4 3
  have M4 : Hid ((w4.setCell ⟨w.heap.size + 1, 3, none⟩ (.string (bs dt))).heap[w.heap.size + 1]? = some (.cells #[.int .i64 ix, .int .i64 tm, .int .i64 kd, .string (bs dt)] 52 (0, 0))) := blk_set m4 3 _
  have N4 : Hid (_) := blk_other o4 hNM (a := ⟨w.heap.size + 1, 3, none⟩) (.string (bs dt))
  have T4 := t4.other hbM (a := ⟨w.heap.size + 1, 3, none⟩) (.string (bs dt))
  have K4 : Hid (Kept (One b) w (w4.setCell ⟨w.heap.size + 1, 3, none⟩ (.string (bs dt)))) := (K3.out.trans k4).setNew (show w.heap.size ≤ w.heap.size + 1 by omega) _
  clear m4 o4
  have HI := fun w => refIsEntry_any ix tm kd dt w (by have := stText_le 256 s3; rw [H4.out] at this; unfold maxLen; simp only at this; omega)
  cases hok : En.ok ⟨ix, tm, kd, dt⟩ with
  | true =>
    rw [hok] at HI
    have HOK : Hid (En.ok ⟨ix, tm, kd, dt⟩ = true) := hok
    clear hok
    have e0 := blk_at M4.out 0 rfl
    have e1 := blk_at M4.out 1 rfl
    have e2 := blk_at M4.out 2 rfl
    have e3 := blk_at M4.out 3 rfl
    go_wp2_with fail
    refine (HI _).mono ?_
    rintro e wi ⟨rfl, ki⟩
    have Mi := ki.block _ _ M4.out (fun x => x.elim)
    have Ni := ki.block _ _ N4.out (fun x => x.elim)
    have Ti := T4.keptN ki
    have Ki : Hid (Kept (One b) w wi) := K4.out.trans (ki.mono (fun _ _ x => x.elim))
    have p0 := blk_at Mi 0 rfl
    have p1 := blk_at Mi 1 rfl
    have p2 := blk_at Mi 2 rfl
    have p3 := blk_at Mi 3 rfl
    have g0 := blk_at Ni 0 rfl
    have g1 := blk_at Ni 1 rfl
    have g2 := blk_at Ni 2 rfl
    have g3 := blk_at Ni 3 rfl
    have u0 := blk_free Ni 0
    have u1 := blk_free Ni 1
    have u2 := blk_free Ni 2
    have u3 := blk_free Ni 3
    go_wp2
    refine bodyPost_ret (v := .agg #[.int .i64 ix, .int .i64 tm, .int .i64 kd, .string (bs dt)]) (by simp [results, Try.results88, go_sem, g0, g1, g2, g3]) rfl ?_
    have hS : stAfter rdEnt st = s4 := by refine (stAfter_then (rdNum) _ 0 st).trans ?_; rw [H1.out]; refine (stAfter_then (rdNum) _ 0 s1).trans ?_; rw [H2.out]; refine (stAfter_then (rdNum) _ 0 s2).trans ?_; rw [H3.out]; refine (stAfter_then (rdText 256) _ [] s3).trans ?_; rw [H4.out]; refine (stAfter_end _ _ _ _).trans ?_; exact if_pos HOK.out
    have hG : GoodV rdEnt st ⟨ix, tm, kd, dt⟩ := by refine GoodV_then (rdNum) _ 0 st _ ?_; rw [H1.out]; refine GoodV_then (rdNum) _ 0 s1 _ ?_; rw [H2.out]; refine GoodV_then (rdNum) _ 0 s2 _ ?_; rw [H3.out]; refine GoodV_then (rdText 256) _ [] s3 _ ?_; rw [H4.out]; exact GoodV_end _ _ _ _
    unfold RefPost
    rw [hS]
    exact ⟨⟨_, ⟨ix, tm, kd, dt⟩, rfl, rfl, hG⟩, ((((Ti.other hbN _).other hbN _).other hbN _).other hbN _), ((((Ki.out.setNew (Nat.le_refl _) _).setNew (Nat.le_refl _) _).setNew (Nat.le_refl _) _).setNew (Nat.le_refl _) _)⟩
  | false =>
    rw [hok] at HI
    have HOK : Hid (En.ok ⟨ix, tm, kd, dt⟩ = false) := hok
    clear hok
    have e0 := blk_at M4.out 0 rfl
    have e1 := blk_at M4.out 1 rfl
    have e2 := blk_at M4.out 2 rfl
    have e3 := blk_at M4.out 3 rfl
    go_wp2_with fail
    refine (HI _).mono ?_
    rintro e wi ⟨rfl, ki⟩
    have Mi := ki.block _ _ M4.out (fun x => x.elim)
    have Ni := ki.block _ _ N4.out (fun x => x.elim)
    have Ti := T4.keptN ki
    have Ki : Hid (Kept (One b) w wi) := K4.out.trans (ki.mono (fun _ _ x => x.elim))
    go_wp2_with fail
    refine (badSt_any b s4 6 _ Ti (by decide)).mono ?_
    rintro e wb ⟨rfl, tb, kb⟩
    have Mb := kb.block _ _ Mi hMb
    have Nb := kb.block _ _ Ni hNb
    have Kb : Hid (Kept (One b) w wb) := Ki.out.trans kb
    have p0 := blk_at Mb 0 rfl
    have p1 := blk_at Mb 1 rfl
    have p2 := blk_at Mb 2 rfl
    have p3 := blk_at Mb 3 rfl
    have g0 := blk_at Nb 0 rfl
    have g1 := blk_at Nb 1 rfl
    have g2 := blk_at Nb 2 rfl
    have g3 := blk_at Nb 3 rfl
    have u0 := blk_free Nb 0
    have u1 := blk_free Nb 1
    have u2 := blk_free Nb 2
    have u3 := blk_free Nb 3
    go_wp2
    refine bodyPost_ret (v := .agg #[.int .i64 ix, .int .i64 tm, .int .i64 kd, .string (bs dt)]) (by simp [results, Try.results88, go_sem, g0, g1, g2, g3]) rfl ?_
    have hS : stAfter rdEnt st = stBad 6 s4 := by refine (stAfter_then (rdNum) _ 0 st).trans ?_; rw [H1.out]; refine (stAfter_then (rdNum) _ 0 s1).trans ?_; rw [H2.out]; refine (stAfter_then (rdNum) _ 0 s2).trans ?_; rw [H3.out]; refine (stAfter_then (rdText 256) _ [] s3).trans ?_; rw [H4.out]; refine (stAfter_end _ _ _ _).trans ?_; exact if_neg (by rw [HOK.out]; decide)
    have hG : GoodV rdEnt st ⟨ix, tm, kd, dt⟩ := by refine GoodV_then (rdNum) _ 0 st _ ?_; rw [H1.out]; refine GoodV_then (rdNum) _ 0 s1 _ ?_; rw [H2.out]; refine GoodV_then (rdNum) _ 0 s2 _ ?_; rw [H3.out]; refine GoodV_then (rdText 256) _ [] s3 _ ?_; rw [H4.out]; exact GoodV_end _ _ _ _
    unfold RefPost
    rw [hS]
    exact ⟨⟨_, ⟨ix, tm, kd, dt⟩, rfl, rfl, hG⟩, ((((tb.other hbN _).other hbN _).other hbN _).other hbN _), ((((Kb.out.setNew (Nat.le_refl _) _).setNew (Nat.le_refl _) _).setNew (Nat.le_refl _) _).setNew (Nat.le_refl _) _)⟩

end Go.Proofs.Ytijklginabipgaa
