/-
  Cells, plainly: one key over three groups: what is always so, and that every step of a job keeps it.
-/
import Derived.Test.YtflnjlbafchnaaaGreatDoorWTmB
namespace Go.Proofs.YtflnjlbafchnaaaGreatDoor

def updc {α : Type} (f : Nat → α) (g : Nat) (x : α) : Nat → α := fun y => if y = g then x else f y
theorem updc_at {α : Type} (f : Nat → α) (g : Nat) (x : α) : updc f g x g = x := if_pos rfl
theorem updc_ne {α : Type} (f : Nat → α) {g y : Nat} (x : α) (h : y ≠ g) : updc f g x y = f y := if_neg h
/-- One key: what each group says, with its version; where the key is (g0), how often it was handed over (H), what it has. -/
structure KI (C : Nat → Ce) (N : Nat → Int) (g0 H : Nat) (v : List UInt8) (n : Nat) : Prop where
  g1 : 1 ≤ g0
  g3 : g0 ≤ 3
  hv : (C g0).v = v
  hn : (C g0).n = n
  home : ((C g0).s = 0 ∧ (C g0).h = H ∧ (C g0).g = 0) ∨ ((C g0).s = 1 ∧ (C g0).h = H + 1 ∧ 1 ≤ (C g0).g ∧ (C g0).g ≤ 3 ∧ (C g0).g ≠ g0)
  oth : ∀ g, 1 ≤ g → g ≤ 3 → g ≠ g0 → (C g).s ≠ 0 ∧ (C g).h ≤ H ∧ 1 ≤ (C g).g ∧ (C g).g ≤ 3 ∧ ((C g).g = g0 ∨ (C g).h < (C (C g).g).h)
  ok : ∀ g, (C g).Ok
  un : ∀ g, N g = 0 → C g = unsaid g
  n0 : ∀ g, 0 ≤ N g
/-- A job on that key. -/
structure JI (j : Jb) (C : Nat → Ce) (N : Nat → Int) (g0 H : Nat) : Prop where
  at1 : 1 ≤ j.at'
  at3 : j.at' ≤ 3
  to3 : j.tg ≤ 3
  st : j.st = if j.ph = 7 then 2 else 1
  ph : j.ph ≤ 7
  ow : j.ow = true → 0 < j.tg
  lock : 1 ≤ j.ph → j.ph ≤ 6 → j.sv ≤ N j.at' ∧ (N j.at' = j.sv → C j.at' = j.sn)
  here : j.ph = 1 ∨ j.ph = 2 ∨ j.ph = 3 → j.sn.s = 0
  cmd : j.ph = 1 → j.tg = 0 → j.nx = ⟨cmV j.kd j.v j.m j.sn.v j.sn.n, cmN j.kd j.m j.sn.n, 0, j.sn.h, 0⟩ ∧ j.re = cmR j.kd j.m j.sn.v j.sn.n
  mov : j.ph = 1 ∨ j.ph = 2 ∨ j.ph = 3 → 0 < j.tg → j.tg ≠ j.at' ∧ j.nx = j.sn.towards j.tg
  to1 : j.ph = 2 ∨ j.ph = 3 → 0 < j.tg
  seen : 4 ≤ j.ph → j.ph ≤ 6 → j.sn.s = 1 ∧ 1 ≤ j.sn.g ∧ j.sn.g ≤ 3 ∧ j.sn.g ≠ j.at' ∧ (j.sn.h ≤ (C j.sn.g).h ∨ (N j.at' = j.sv ∧ j.at' = g0 ∧ j.sn.h = H + 1))
  put : j.ph = 5 → j.sp ≤ N j.sn.g ∧ (N j.sn.g = j.sp → (C j.sn.g).h < j.sn.h)
  sld : j.ph = 6 → j.sn.h ≤ (C j.sn.g).h
/-- What a step leaves to the others. -/
structure Lv (C : Nat → Ce) (N : Nat → Int) (g0 H : Nat) (C' : Nat → Ce) (N' : Nat → Int) (g0' H' : Nat) : Prop where
  h : ∀ g, (C g).h ≤ (C' g).h
  n : ∀ g, N g ≤ N' g
  n1 : ∀ g, N' g ≤ N g + 1
  c : ∀ g, N' g = N g → C' g = C g
  mv : (C g0).s = 1 → (g0' = g0 ∧ H' = H ∧ N' g0 = N g0) ∨ (C g0).h ≤ (C' (C g0).g).h
  hh : H ≤ H' ∧ H' ≤ H + 1
theorem Lv.refl (C : Nat → Ce) (N : Nat → Int) (g0 H : Nat) : Lv C N g0 H C N g0 H := ⟨fun _ => Nat.le_refl _, fun _ => Int.le_refl _, fun _ => by omega, fun _ _ => rfl, fun _ => .inl ⟨rfl, rfl, rfl⟩, by omega⟩
theorem JI.leave {j : Jb} {C C' : Nat → Ce} {N N' : Nat → Int} {g0 H g0' H' : Nat} (h : JI j C N g0 H) (l : Lv C N g0 H C' N' g0' H') : JI j C' N' g0' H' := by
  refine ⟨h.at1, h.at3, h.to3, h.st, h.ph, h.ow, fun p q => ?_, h.here, h.cmd, h.mov, h.to1, fun p q => ?_, fun p => ?_, fun p => ?_⟩
  · obtain ⟨a, b⟩ := h.lock p q
    have hn := l.n j.at'
    refine ⟨by omega, fun e => ?_⟩
    have e1 : N j.at' = j.sv := by omega
    rw [l.c _ (by omega)]
    exact b e1
  · obtain ⟨a, b, c, d, e⟩ := h.seen p q
    refine ⟨a, b, c, d, ?_⟩
    rcases e with e | ⟨e1, e2, e3⟩
    · exact .inl (Nat.le_trans e (l.h _))
    · have es := (h.lock (by omega) q).2 e1
      have hm := l.mv (by rw [← e2, es]; exact a)
      rcases hm with ⟨f1, f2, f3⟩ | hm
      · refine .inr ⟨?_, by rw [f1]; exact e2, by rw [f2]; exact e3⟩
        rw [e2, f3, ← e2]
        exact e1
      · rw [← e2, es] at hm
        exact .inl hm
  · obtain ⟨a, b⟩ := h.put p
    have hn := l.n j.sn.g
    refine ⟨by omega, fun e => ?_⟩
    have e1 : N j.sn.g = j.sp := by omega
    rw [l.c _ (by omega)]
    exact b e1
  · exact Nat.le_trans (h.sld p) (l.h _)
/-- What an ended job has done. -/
def Ef (j j' : Jb) (v : List UInt8) (n : Nat) (v' : List UInt8) (n' : Nat) : Prop :=
  (j'.ph = 7 → (j.tg = 0 → v' = cmV j.kd j.v j.m v n ∧ n' = cmN j.kd j.m n ∧ j'.rs = cmR j.kd j.m v n) ∧ (0 < j.tg → v' = v ∧ n' = n ∧ j'.rs = ⟨1, [], 0, []⟩)) ∧ (j'.ph ≠ 7 → v' = v ∧ n' = n)
/-- What a Get tells. -/
structure Told (C : Nat → Ce) (N : Nat → Int) (g : Nat) (r : Rr) : Prop where
  saw : sawC g r = C g
  ver : versR r = N g
  kd : r.kd = if N g = 0 then 2 else 1
theorem Told.notLost {C : Nat → Ce} {N : Nat → Int} {g : Nat} {r : Rr} (h : Told C N g r) : ¬ 5 < r.kd := by
  rw [h.kd]
  split <;> omega
/-- Whoever says 'here' is where the key is. -/
theorem KI.here {C : Nat → Ce} {N : Nat → Int} {g0 H : Nat} {v : List UInt8} {n : Nat} (k : KI C N g0 H v n) {g : Nat} (h1 : 1 ≤ g) (h3 : g ≤ 3) (hs : (C g).s = 0) : g = g0 ∧ (C g).h = H ∧ (C g).g = 0 ∧ (C g).v = v ∧ (C g).n = n := by
  by_cases e : g = g0
  · subst e
    rcases k.home with h | h
    · exact ⟨rfl, h.2.1, h.2.2, k.hv, k.hn⟩
    · omega
  · exact absurd hs (k.oth g h1 h3 e).1
/-- Who says 'moving': the key has come there, or it is here still. -/
theorem KI.moving {C : Nat → Ce} {N : Nat → Int} {g0 H : Nat} {v : List UInt8} {n : Nat} (k : KI C N g0 H v n) {g : Nat} (h1 : 1 ≤ g) (h3 : g ≤ 3) (hs : (C g).s = 1) : 1 ≤ (C g).g ∧ (C g).g ≤ 3 ∧ (C g).g ≠ g ∧ ((C g).h ≤ (C (C g).g).h ∨ (g = g0 ∧ (C g).h = H + 1)) := by
  by_cases e : g = g0
  · subst e
    rcases k.home with h | h
    · omega
    · exact ⟨h.2.2.1, h.2.2.2.1, h.2.2.2.2, .inr ⟨rfl, h.2.1⟩⟩
  · obtain ⟨_, o2, o3, o4, o5⟩ := k.oth g h1 h3 e
    refine ⟨o3, o4, ?_, .inl ?_⟩
    · intro e2
      rw [e2] at o5
      rcases o5 with o5 | o5
      · exact e o5
      · omega
    · rcases o5 with o5 | o5
      · rw [o5]
        rcases k.home with h | h <;> omega
      · omega
theorem KI.gone {C : Nat → Ce} {N : Nat → Int} {g0 H : Nat} {v : List UInt8} {n : Nat} (k : KI C N g0 H v n) {g : Nat} (h1 : 1 ≤ g) (h3 : g ≤ 3) (hs : (C g).s = 2) : g ≠ g0 ∧ 1 ≤ (C g).g ∧ (C g).g ≤ 3 := by
  by_cases e : g = g0
  · subst e
    rcases k.home with h | h <;> omega
  · obtain ⟨_, _, o3, o4, _⟩ := k.oth g h1 h3 e
    exact ⟨e, o3, o4⟩
theorem Ef.same {j j' : Jb} (v : List UInt8) (n : Nat) (h : j'.ph ≠ 7) : Ef j j' v n v n := ⟨fun e => absurd e h, fun _ => ⟨rfl, rfl⟩⟩
variable {C : Nat → Ce} {N : Nat → Int} {g0 H : Nat} {v : List UInt8} {n : Nat} {j : Jb}
/-- A read. -/
theorem cst0 (k : KI C N g0 H v n) (i : JI j C N g0 H) (hp : j.ph = 0) {r : Rr} (hr : Told C N j.at' r)
    (hf : j.tg = 0 → (cmV j.kd j.v j.m v n).length ≤ 32 ∧ cmN j.kd j.m n ≤ 999999) (hH : H < 999999) :
    JI (j.answer r) C N g0 H ∧ Ef j (j.answer r) v n v n := by
  have e0 : j.answer r = ({ j with sn := C j.at', sv := N j.at' } : Jb).seen := by
    unfold Jb.answer
    rw [if_pos hp]
    unfold Jb.hasRead
    rw [if_neg hr.notLost, hr.saw, hr.ver]
  rw [e0]
  unfold Jb.seen
  have hst : j.st = 1 := by rw [i.st, hp]; rfl
  by_cases c2 : (C j.at').s = 2
  · rw [if_pos c2]
    obtain ⟨_, g1, g3⟩ := k.gone i.at1 i.at3 c2
    refine ⟨⟨g1, g3, i.to3, hst, Nat.zero_le _, i.ow, fun e => ?_, fun e => ?_, fun e => ?_, fun e => ?_, fun e => ?_, fun e => ?_, fun e => ?_, fun e => ?_⟩, Ef.same _ _ ?_⟩ <;> simp [Jb.follow] at *
  · rw [if_neg c2]
    by_cases c1 : (C j.at').s = 1
    · rw [if_pos c1]
      obtain ⟨m1, m3, mn, mo⟩ := k.moving i.at1 i.at3 c1
      refine ⟨⟨i.at1, i.at3, i.to3, hst, by simp, i.ow, fun _ _ => ⟨Int.le_refl _, fun _ => rfl⟩, fun e => by simp at e, fun e => by simp at e, fun e => by simp at e, fun e => by simp at e, fun _ _ => ⟨c1, m1, m3, mn, ?_⟩, fun e => by simp at e, fun e => by simp at e⟩, Ef.same _ _ (by simp)⟩
      rcases mo with mo | ⟨a, b⟩
      · exact .inl mo
      · exact .inr ⟨rfl, a, b⟩
    · rw [if_neg c1]
      have c0 : (C j.at').s = 0 := by have := (k.ok j.at').s; omega
      obtain ⟨ea, eh, eg, ev, en⟩ := k.here i.at1 i.at3 c0
      by_cases ct : 0 < j.tg
      · rw [if_pos ct]
        unfold Jb.handOver
        simp only
        by_cases ca : j.tg = j.at'
        · rw [if_pos ca]
          refine ⟨⟨i.at1, i.at3, i.to3, rfl, Nat.le_refl _, i.ow, fun _ e => by simp [Jb.finK, Jb.fin] at e, fun e => by simp [Jb.finK, Jb.fin] at e, fun e => by simp [Jb.finK, Jb.fin] at e, fun e => by simp [Jb.finK, Jb.fin] at e, fun e => by simp [Jb.finK, Jb.fin] at e, fun _ e => by simp [Jb.finK, Jb.fin] at e, fun e => by simp [Jb.finK, Jb.fin] at e, fun e => by simp [Jb.finK, Jb.fin] at e⟩, fun _ => ⟨fun e => by omega, fun _ => ⟨rfl, rfl, rfl⟩⟩, fun _ => ⟨rfl, rfl⟩⟩
        · rw [if_neg ca, if_neg (by rw [eh]; omega)]
          refine ⟨⟨i.at1, i.at3, i.to3, hst, by simp, i.ow, fun _ _ => ⟨Int.le_refl _, fun _ => rfl⟩, fun _ => c0, fun e => by simp at e, fun _ _ => ⟨ca, rfl⟩, fun _ => ct, fun e => by simp at e, fun e => by simp at e, fun e => by simp at e⟩, Ef.same _ _ (by simp)⟩
      · rw [if_neg ct]
        have ct0 : j.tg = 0 := by omega
        obtain ⟨hf1, hf2⟩ := hf ct0
        unfold Jb.apply
        simp only
        rw [ev, en]
        rw [if_neg (by simp only [Decidable.not_not]; exact ⟨hf1, hf2⟩)]
        by_cases cs : cmV j.kd j.v j.m v n = v ∧ cmN j.kd j.m n = n
        · rw [if_pos cs]
          refine ⟨⟨i.at1, i.at3, i.to3, rfl, Nat.le_refl _, i.ow, fun _ e => by simp [Jb.fin] at e, fun e => by simp [Jb.fin] at e, fun e => by simp [Jb.fin] at e, fun e => by simp [Jb.fin] at e, fun e => by simp [Jb.fin] at e, fun _ e => by simp [Jb.fin] at e, fun e => by simp [Jb.fin] at e, fun e => by simp [Jb.fin] at e⟩, fun _ => ⟨fun _ => ⟨cs.1.symm, cs.2.symm, rfl⟩, fun e => by omega⟩, fun _ => ⟨rfl, rfl⟩⟩
        · rw [if_neg cs]
          refine ⟨⟨i.at1, i.at3, i.to3, hst, by simp, i.ow, fun _ _ => ⟨Int.le_refl _, fun _ => rfl⟩, fun _ => c0, fun _ _ => ?_, fun _ e => by simp only at e; omega, fun e => by simp at e, fun e => by simp at e, fun e => by simp at e, fun e => by simp at e⟩, Ef.same _ _ (by simp)⟩
          simp only
          rw [ev, en]
          exact ⟨rfl, rfl⟩
theorem cst2 (i : JI j C N g0 H) (hp : j.ph = 2) {r : Rr} (hr : Told C N j.tg r) :
    JI (j.answer r) C N g0 H ∧ Ef j (j.answer r) v n v n := by
  have hst : j.st = 1 := by rw [i.st, hp]; rfl
  have e0 : j.answer r = if r.kd = 2 then { j with ph := 3 } else { j with ph := 1 } := by
    unfold Jb.answer
    rw [if_neg (by omega), if_neg (by omega), if_pos hp]
    unfold Jb.hasPrepared
    rw [if_neg hr.notLost]
  have ht := i.to1 (.inl hp)
  have hl := i.lock (by omega) (by omega)
  have hm := i.mov (.inr (.inl hp))
  have hh := i.here (.inr (.inl hp))
  rw [e0]
  split
  · exact ⟨⟨i.at1, i.at3, i.to3, hst, by simp, i.ow, fun _ _ => hl, fun _ => hh, fun e => by simp at e, fun _ => hm, fun _ => ht, fun e => by simp at e, fun e => by simp at e, fun e => by simp at e⟩, Ef.same _ _ (by simp)⟩
  · exact ⟨⟨i.at1, i.at3, i.to3, hst, by simp, i.ow, fun _ _ => hl, fun _ => hh, fun _ e => by simp only at e; omega, fun _ => hm, fun e => by simp at e, fun e => by simp at e, fun e => by simp at e, fun e => by simp at e⟩, Ef.same _ _ (by simp)⟩
theorem cst4 (i : JI j C N g0 H) (hp : j.ph = 4) {r : Rr} (hr : Told C N j.sn.g r) :
    JI (j.answer r) C N g0 H ∧ Ef j (j.answer r) v n v n := by
  have hst : j.st = 1 := by rw [i.st, hp]; rfl
  have e0 : j.answer r = { j with sp := N j.sn.g, ph := if (C j.sn.g).h < j.sn.h then 5 else 6 } := by
    unfold Jb.answer
    rw [if_neg (by omega), if_neg (by omega), if_neg (by omega), if_neg (by omega), if_pos hp]
    unfold Jb.hasLooked
    rw [if_neg hr.notLost, hr.saw, hr.ver]
  have hl := i.lock (by omega) (by omega)
  have hs := i.seen (by omega) (by omega)
  rw [e0]
  by_cases c : (C j.sn.g).h < j.sn.h
  · rw [if_pos c]
    exact ⟨⟨i.at1, i.at3, i.to3, hst, by simp, i.ow, fun _ _ => hl, fun e => by simp at e, fun e => by simp at e, fun e => by simp at e, fun e => by simp at e, fun _ _ => hs, fun _ => ⟨Int.le_refl _, fun _ => c⟩, fun e => by simp at e⟩, Ef.same _ _ (by simp)⟩
  · rw [if_neg c]
    exact ⟨⟨i.at1, i.at3, i.to3, hst, by simp, i.ow, fun _ _ => hl, fun e => by simp at e, fun e => by simp at e, fun e => by simp at e, fun e => by simp at e, fun _ _ => hs, fun e => by simp at e, fun _ => by show j.sn.h ≤ (C j.sn.g).h; omega⟩, Ef.same _ _ (by simp)⟩
/-- A Swap that found another version. -/
theorem cst_no (i : JI j C N g0 H) (hp : j.ph = 1 ∨ j.ph = 3 ∨ j.ph = 5 ∨ j.ph = 6) {r : Rr} (hr : r.kd = 2 ∨ r.kd = 3) :
    JI (j.answer r) C N g0 H ∧ Ef j (j.answer r) v n v n := by
  have hst : j.st = 1 := by rw [i.st, if_neg (by omega)]
  have zero : JI { j with ph := 0 } C N g0 H ∧ Ef j { j with ph := 0 } v n v n :=
    ⟨⟨i.at1, i.at3, i.to3, hst, by simp, i.ow, fun e => by simp at e, fun e => by simp at e, fun e => by simp at e, fun e => by simp at e, fun e => by simp at e, fun e => by simp at e, fun e => by simp at e, fun e => by simp at e⟩, Ef.same _ _ (by simp)⟩
  rcases hp with hp | hp | hp | hp
  · have e0 : j.answer r = { j with ph := 0 } := by
      unfold Jb.answer
      rw [if_neg (by omega), if_pos hp]
      unfold Jb.hasWritten
      rw [if_neg (by omega), if_neg (by omega), if_neg (by omega), if_neg (by omega)]
    rw [e0]
    exact zero
  · have e0 : j.answer r = { j with ph := 0 } := by
      unfold Jb.answer
      rw [if_neg (by omega), if_neg (by omega), if_neg (by omega), if_pos hp]
      unfold Jb.hasRoom
      rw [if_neg (by omega)]
    rw [e0]
    exact zero
  · have e0 : j.answer r = { j with ph := 4 } := by
      unfold Jb.answer
      rw [if_neg (by omega), if_neg (by omega), if_neg (by omega), if_neg (by omega), if_neg (by omega), if_pos hp]
      unfold Jb.hasPut
      rw [if_neg (by omega)]
    have hl := i.lock (by omega) (by omega)
    have hs := i.seen (by omega) (by omega)
    rw [e0]
    exact ⟨⟨i.at1, i.at3, i.to3, hst, by simp, i.ow, fun _ _ => hl, fun e => by simp at e, fun e => by simp at e, fun e => by simp at e, fun e => by simp at e, fun _ _ => hs, fun e => by simp at e, fun e => by simp at e⟩, Ef.same _ _ (by simp)⟩
  · have e0 : j.answer r = j.hasSealed := by
      unfold Jb.answer
      rw [if_neg (by omega), if_neg (by omega), if_neg (by omega), if_neg (by omega), if_neg (by omega), if_neg (by omega), if_pos hp]
    obtain ⟨_, s2, s3, _⟩ := i.seen (by omega) (by omega)
    rw [e0]
    unfold Jb.hasSealed
    by_cases how : j.ow = true
    · have ht := i.ow how
      rw [if_pos how]
      refine ⟨⟨i.at1, i.at3, i.to3, rfl, Nat.le_refl _, i.ow, fun _ e => by simp [Jb.finK, Jb.fin] at e, fun e => by simp [Jb.finK, Jb.fin] at e, fun e => by simp [Jb.finK, Jb.fin] at e, fun e => by simp [Jb.finK, Jb.fin] at e, fun e => by simp [Jb.finK, Jb.fin] at e, fun _ e => by simp [Jb.finK, Jb.fin] at e, fun e => by simp [Jb.finK, Jb.fin] at e, fun e => by simp [Jb.finK, Jb.fin] at e⟩, fun _ => ⟨fun e => by omega, fun _ => ⟨rfl, rfl, rfl⟩⟩, fun _ => ⟨rfl, rfl⟩⟩
    · rw [if_neg how]
      refine ⟨⟨s2, s3, i.to3, hst, Nat.zero_le _, i.ow, fun e => by simp [Jb.follow] at e, fun e => by simp [Jb.follow] at e, fun e => by simp [Jb.follow] at e, fun e => by simp [Jb.follow] at e, fun e => by simp [Jb.follow] at e, fun e => by simp [Jb.follow] at e, fun e => by simp [Jb.follow] at e, fun e => by simp [Jb.follow] at e⟩, Ef.same _ _ (by simp [Jb.follow])⟩
/-- The job's write, where the version was as it knew it. -/
theorem cst1 (k : KI C N g0 H v n) (i : JI j C N g0 H) (o : j.Ok) (hp : j.ph = 1) (hN : N j.at' = j.sv) {r : Rr} (hr : r.kd = 1) (hrn : r.n = N j.at' + 1) :
    ∃ v' n', KI (updc C j.at' j.nx) (updc N j.at' (N j.at' + 1)) g0 H v' n' ∧ JI (j.answer r) (updc C j.at' j.nx) (updc N j.at' (N j.at' + 1)) g0 H ∧ Lv C N g0 H (updc C j.at' j.nx) (updc N j.at' (N j.at' + 1)) g0 H ∧ Ef j (j.answer r) v n v' n' := by
  have hst : j.st = 1 := by rw [i.st, hp]; rfl
  obtain ⟨_, hlk⟩ := i.lock (by omega) (by omega)
  have hsn := hlk hN
  have hs0 := i.here (.inl hp)
  obtain ⟨ea, eh, eg, ev, en⟩ := k.here i.at1 i.at3 (by rw [hsn]; exact hs0)
  have hnx := o.nx (.inl hp)
  have hat : updc C j.at' j.nx g0 = j.nx := by rw [← ea]; exact updc_at _ _ _
  have hhl : j.nx.h = H ∨ j.nx.h = H + 1 := by
    by_cases ct : 0 < j.tg
    · rw [(i.mov (.inl hp) ct).2, ← hsn]
      exact .inr (by show (C j.at').h + 1 = H + 1; omega)
    · rw [(i.cmd hp (by omega)).1, ← hsn]
      exact .inl eh
  have hlv : Lv C N g0 H (updc C j.at' j.nx) (updc N j.at' (N j.at' + 1)) g0 H := by
    refine ⟨fun g => ?_, fun g => ?_, fun g => ?_, fun g e => ?_, fun e => ?_, by omega⟩
    · by_cases c : g = j.at'
      · rw [c, updc_at]; omega
      · rw [updc_ne _ _ c]; exact Nat.le_refl _
    · by_cases c : g = j.at'
      · rw [c, updc_at]; omega
      · rw [updc_ne _ _ c]; exact Int.le_refl _
    · by_cases c : g = j.at'
      · rw [c, updc_at]; exact Int.le_refl _
      · rw [updc_ne _ _ c]; omega
    · by_cases c : g = j.at'
      · rw [c, updc_at] at e; omega
      · rw [updc_ne _ _ c]
    · rw [← ea, hsn, hs0] at e
      cases e
  have hun : ∀ g, updc N j.at' (N j.at' + 1) g = 0 → updc C j.at' j.nx g = unsaid g := fun g e => by
    by_cases c : g = j.at'
    · rw [c, updc_at] at e
      have := k.n0 j.at'
      omega
    · rw [updc_ne _ _ c] at e ⊢
      exact k.un g e
  have hn0 : ∀ g, 0 ≤ updc N j.at' (N j.at' + 1) g := fun g => by
    by_cases c : g = j.at'
    · rw [c, updc_at]
      have := k.n0 j.at'
      omega
    · rw [updc_ne _ _ c]
      exact k.n0 g
  have hok : ∀ g, (updc C j.at' j.nx g).Ok := fun g => by
    by_cases c : g = j.at'
    · rw [c, updc_at]; exact hnx
    · rw [updc_ne _ _ c]; exact k.ok g
  have hoth : ∀ g, 1 ≤ g → g ≤ 3 → g ≠ g0 → (updc C j.at' j.nx g).s ≠ 0 ∧ (updc C j.at' j.nx g).h ≤ H ∧ 1 ≤ (updc C j.at' j.nx g).g ∧ (updc C j.at' j.nx g).g ≤ 3 ∧ ((updc C j.at' j.nx g).g = g0 ∨ (updc C j.at' j.nx g).h < (updc C j.at' j.nx (updc C j.at' j.nx g).g).h) := fun g h1 h3 hg => by
    have hga : g ≠ j.at' := by rw [ea]; exact hg
    obtain ⟨o1, o2, o3, o4, o5⟩ := k.oth g h1 h3 hg
    rw [updc_ne _ _ hga]
    refine ⟨o1, o2, o3, o4, ?_⟩
    rcases o5 with o5 | o5
    · exact .inl o5
    · by_cases c : (C g).g = j.at'
      · exact .inl (by rw [c]; exact ea)
      · rw [updc_ne _ _ c]
        exact .inr o5
  by_cases ct : 0 < j.tg
  · obtain ⟨m1, m2⟩ := i.mov (.inl hp) ct
    have e0 : j.answer r = { j with sn := j.nx, sv := r.n, ow := true, ph := 4 } := by
      unfold Jb.answer
      rw [if_neg (by omega), if_pos hp]
      unfold Jb.hasWritten
      rw [if_pos ⟨hr, ct⟩]
    have nh : j.nx.h = H + 1 := by
      rw [m2, ← hsn]
      show (C j.at').h + 1 = H + 1
      omega
    refine ⟨v, n, ⟨k.g1, k.g3, ?_, ?_, .inr ?_, hoth, hok, hun, hn0⟩, ?_, hlv, ?_⟩
    · rw [hat, m2, ← hsn]; exact ev
    · rw [hat, m2, ← hsn]; exact en
    · rw [hat]
      refine ⟨by rw [m2]; rfl, nh, ?_, ?_, ?_⟩
      · rw [m2]; exact ct
      · rw [m2]; exact i.to3
      · rw [m2, ← ea]; exact m1
    · rw [e0]
      refine ⟨i.at1, i.at3, i.to3, hst, by simp, fun _ => ct, fun _ _ => ⟨?_, fun _ => updc_at _ _ _⟩, fun e => by simp at e, fun e => by simp at e, fun e => by simp at e, fun e => by simp at e, fun _ _ => ?_, fun e => by simp at e, fun e => by simp at e⟩
      · show r.n ≤ updc N j.at' (N j.at' + 1) j.at'
        rw [updc_at, hrn]
        exact Int.le_refl _
      · refine ⟨by show j.nx.s = 1; rw [m2]; rfl, by show 1 ≤ j.nx.g; rw [m2]; exact ct, by show j.nx.g ≤ 3; rw [m2]; exact i.to3, by show j.nx.g ≠ j.at'; rw [m2]; exact m1, .inr ⟨?_, ea, nh⟩⟩
        show updc N j.at' (N j.at' + 1) j.at' = r.n
        rw [updc_at, hrn]
    · rw [e0]
      exact Ef.same _ _ (by simp)
  · have ct0 : j.tg = 0 := by omega
    obtain ⟨m1, m2⟩ := i.cmd hp ct0
    have e0 : j.answer r = j.fin j.re := by
      unfold Jb.answer
      rw [if_neg (by omega), if_pos hp]
      unfold Jb.hasWritten
      rw [if_neg (by omega), if_pos hr]
    have ev' : j.sn.v = v := by rw [← hsn]; exact ev
    have en' : j.sn.n = n := by rw [← hsn]; exact en
    refine ⟨cmV j.kd j.v j.m v n, cmN j.kd j.m n, ⟨k.g1, k.g3, ?_, ?_, .inl ?_, hoth, hok, hun, hn0⟩, ?_, hlv, ?_⟩
    · rw [hat, m1, ev', en']
    · rw [hat, m1, en']
    · rw [hat, m1]
      exact ⟨rfl, by rw [← hsn]; exact eh, rfl⟩
    · rw [e0]
      exact ⟨i.at1, i.at3, i.to3, rfl, Nat.le_refl _, i.ow, fun _ e => by simp [Jb.fin] at e, fun e => by simp [Jb.fin] at e, fun e => by simp [Jb.fin] at e, fun e => by simp [Jb.fin] at e, fun e => by simp [Jb.fin] at e, fun _ e => by simp [Jb.fin] at e, fun e => by simp [Jb.fin] at e, fun e => by simp [Jb.fin] at e⟩
    · rw [e0]
      refine ⟨fun _ => ⟨fun _ => ⟨rfl, rfl, ?_⟩, fun e => absurd e ct⟩, fun e => absurd rfl e⟩
      show j.re = _
      rw [m2, ev', en']
end Go.Proofs.YtflnjlbafchnaaaGreatDoor
