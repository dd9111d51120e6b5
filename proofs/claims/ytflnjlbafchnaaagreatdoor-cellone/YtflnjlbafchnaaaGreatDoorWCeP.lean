/-
  Joined: WCeB, WCeC, WCeD, WCeE.
-/
import Derived.Test.YtflnjlbafchnaaaGreatDoorWTmB
/-
  Cells, plainly: one key over three groups: what is always so, and that every step of a job keeps it.
-/
namespace Go.Proofs.YtflnjlbafchnaaaGreatDoor

def updc {α : Type} (f : Nat → α) (g : Nat) (x : α) : Nat → α := fun y => if y = g then x else f y
theorem updc_at {α : Type} (f : Nat → α) (g : Nat) (x : α) : updc f g x g = x := if_pos rfl
theorem updc_ne {α : Type} (f : Nat → α) {g y : Nat} (x : α) (h : y ≠ g) : updc f g x y = f y := if_neg h
/-- One key: what each group says, with its version; where the key is (g0), how often it was handed over (H), what it has. -/
structure KI (C : Nat → Ce) (N : Nat → Int) (g0 H : Nat) (v : List UInt8) (n : Nat) : Prop where
  g1 : 1 ≤ g0
  g3 : g0 ≤ 3
  hv : (C g0).v = v
  hn : (C g0).n = n
  home : ((C g0).s = 0 ∧ (C g0).h = H ∧ (C g0).g = 0) ∨ ((C g0).s = 1 ∧ (C g0).h = H + 1 ∧ 1 ≤ (C g0).g ∧ (C g0).g ≤ 3 ∧ (C g0).g ≠ g0)
  oth : ∀ g, 1 ≤ g → g ≤ 3 → g ≠ g0 → (C g).s ≠ 0 ∧ (C g).h ≤ H ∧ 1 ≤ (C g).g ∧ (C g).g ≤ 3 ∧ ((C g).g = g0 ∨ (C g).h < (C (C g).g).h)
  ok : ∀ g, (C g).Ok
  un : ∀ g, N g = 0 → C g = unsaid g
  n0 : ∀ g, 0 ≤ N g
/-- A job on that key. -/
structure JI (j : Jb) (C : Nat → Ce) (N : Nat → Int) (g0 H : Nat) : Prop where
  at1 : 1 ≤ j.at'
  at3 : j.at' ≤ 3
  to3 : j.tg ≤ 3
  st : j.st = if j.ph = 7 then 2 else 1
  ph : j.ph ≤ 7
  ow : j.ow = true → 0 < j.tg
  lock : 1 ≤ j.ph → j.ph ≤ 6 → j.sv ≤ N j.at' ∧ (N j.at' = j.sv → C j.at' = j.sn)
  here : j.ph = 1 ∨ j.ph = 2 ∨ j.ph = 3 → j.sn.s = 0
  cmd : j.ph = 1 → j.tg = 0 → j.nx = ⟨cmV j.kd j.v j.m j.sn.v j.sn.n, cmN j.kd j.m j.sn.n, 0, j.sn.h, 0⟩ ∧ j.re = cmR j.kd j.m j.sn.v j.sn.n
  mov : j.ph = 1 ∨ j.ph = 2 ∨ j.ph = 3 → 0 < j.tg → j.tg ≠ j.at' ∧ j.nx = j.sn.towards j.tg
  to1 : j.ph = 2 ∨ j.ph = 3 → 0 < j.tg
  seen : 4 ≤ j.ph → j.ph ≤ 6 → j.sn.s = 1 ∧ 1 ≤ j.sn.g ∧ j.sn.g ≤ 3 ∧ j.sn.g ≠ j.at' ∧ (j.sn.h ≤ (C j.sn.g).h ∨ (N j.at' = j.sv ∧ j.at' = g0 ∧ j.sn.h = H + 1))
  put : j.ph = 5 → j.sp ≤ N j.sn.g ∧ (N j.sn.g = j.sp → (C j.sn.g).h < j.sn.h)
  sld : j.ph = 6 → j.sn.h ≤ (C j.sn.g).h
/-- What a step leaves to the others. -/
structure Lv (C : Nat → Ce) (N : Nat → Int) (g0 H : Nat) (C' : Nat → Ce) (N' : Nat → Int) (g0' H' : Nat) : Prop where
  h : ∀ g, (C g).h ≤ (C' g).h
  n : ∀ g, N g ≤ N' g
  n1 : ∀ g, N' g ≤ N g + 1
  c : ∀ g, N' g = N g → C' g = C g
  mv : (C g0).s = 1 → (g0' = g0 ∧ H' = H ∧ N' g0 = N g0) ∨ (C g0).h ≤ (C' (C g0).g).h
  hh : H ≤ H' ∧ H' ≤ H + 1
theorem Lv.refl (C : Nat → Ce) (N : Nat → Int) (g0 H : Nat) : Lv C N g0 H C N g0 H := ⟨fun _ => Nat.le_refl _, fun _ => Int.le_refl _, fun _ => by omega, fun _ _ => rfl, fun _ => .inl ⟨rfl, rfl, rfl⟩, by omega⟩
theorem JI.leave {j : Jb} {C C' : Nat → Ce} {N N' : Nat → Int} {g0 H g0' H' : Nat} (h : JI j C N g0 H) (l : Lv C N g0 H C' N' g0' H') : JI j C' N' g0' H' := by
  refine ⟨h.at1, h.at3, h.to3, h.st, h.ph, h.ow, fun p q => ?_, h.here, h.cmd, h.mov, h.to1, fun p q => ?_, fun p => ?_, fun p => ?_⟩
  · obtain ⟨a, b⟩ := h.lock p q
    have hn := l.n j.at'
    refine ⟨by omega, fun e => ?_⟩
    have e1 : N j.at' = j.sv := by omega
    rw [l.c _ (by omega)]
    exact b e1
  · obtain ⟨a, b, c, d, e⟩ := h.seen p q
    refine ⟨a, b, c, d, ?_⟩
    rcases e with e | ⟨e1, e2, e3⟩
    · exact .inl (Nat.le_trans e (l.h _))
    · have es := (h.lock (by omega) q).2 e1
      have hm := l.mv (by rw [← e2, es]; exact a)
      rcases hm with ⟨f1, f2, f3⟩ | hm
      · refine .inr ⟨?_, by rw [f1]; exact e2, by rw [f2]; exact e3⟩
        rw [e2, f3, ← e2]
        exact e1
      · rw [← e2, es] at hm
        exact .inl hm
  · obtain ⟨a, b⟩ := h.put p
    have hn := l.n j.sn.g
    refine ⟨by omega, fun e => ?_⟩
    have e1 : N j.sn.g = j.sp := by omega
    rw [l.c _ (by omega)]
    exact b e1
  · exact Nat.le_trans (h.sld p) (l.h _)
/-- What an ended job has done. -/
def Ef (j j' : Jb) (v : List UInt8) (n : Nat) (v' : List UInt8) (n' : Nat) : Prop :=
  (j'.ph = 7 → (j.tg = 0 → v' = cmV j.kd j.v j.m v n ∧ n' = cmN j.kd j.m n ∧ j'.rs = cmR j.kd j.m v n) ∧ (0 < j.tg → v' = v ∧ n' = n ∧ j'.rs = ⟨1, [], 0, []⟩)) ∧ (j'.ph ≠ 7 → v' = v ∧ n' = n)
/-- What a Get tells. -/
structure Told (C : Nat → Ce) (N : Nat → Int) (g : Nat) (r : Rr) : Prop where
  saw : sawC g r = C g
  ver : versR r = N g
  kd : r.kd = if N g = 0 then 2 else 1
theorem Told.notLost {C : Nat → Ce} {N : Nat → Int} {g : Nat} {r : Rr} (h : Told C N g r) : ¬ 5 < r.kd := by
  rw [h.kd]
  split <;> omega
/-- Whoever says 'here' is where the key is. -/
theorem KI.here {C : Nat → Ce} {N : Nat → Int} {g0 H : Nat} {v : List UInt8} {n : Nat} (k : KI C N g0 H v n) {g : Nat} (h1 : 1 ≤ g) (h3 : g ≤ 3) (hs : (C g).s = 0) : g = g0 ∧ (C g).h = H ∧ (C g).g = 0 ∧ (C g).v = v ∧ (C g).n = n := by
  by_cases e : g = g0
  · subst e
    rcases k.home with h | h
    · exact ⟨rfl, h.2.1, h.2.2, k.hv, k.hn⟩
    · omega
  · exact absurd hs (k.oth g h1 h3 e).1
/-- Who says 'moving': the key has come there, or it is here still. -/
theorem KI.moving {C : Nat → Ce} {N : Nat → Int} {g0 H : Nat} {v : List UInt8} {n : Nat} (k : KI C N g0 H v n) {g : Nat} (h1 : 1 ≤ g) (h3 : g ≤ 3) (hs : (C g).s = 1) : 1 ≤ (C g).g ∧ (C g).g ≤ 3 ∧ (C g).g ≠ g ∧ ((C g).h ≤ (C (C g).g).h ∨ (g = g0 ∧ (C g).h = H + 1)) := by
  by_cases e : g = g0
  · subst e
    rcases k.home with h | h
    · omega
    · exact ⟨h.2.2.1, h.2.2.2.1, h.2.2.2.2, .inr ⟨rfl, h.2.1⟩⟩
  · obtain ⟨_, o2, o3, o4, o5⟩ := k.oth g h1 h3 e
    refine ⟨o3, o4, ?_, .inl ?_⟩
    · intro e2
      rw [e2] at o5
      rcases o5 with o5 | o5
      · exact e o5
      · omega
    · rcases o5 with o5 | o5
      · rw [o5]
        rcases k.home with h | h <;> omega
      · omega
theorem KI.gone {C : Nat → Ce} {N : Nat → Int} {g0 H : Nat} {v : List UInt8} {n : Nat} (k : KI C N g0 H v n) {g : Nat} (h1 : 1 ≤ g) (h3 : g ≤ 3) (hs : (C g).s = 2) : g ≠ g0 ∧ 1 ≤ (C g).g ∧ (C g).g ≤ 3 := by
  by_cases e : g = g0
  · subst e
    rcases k.home with h | h <;> omega
  · obtain ⟨_, _, o3, o4, _⟩ := k.oth g h1 h3 e
    exact ⟨e, o3, o4⟩
theorem Ef.same {j j' : Jb} (v : List UInt8) (n : Nat) (h : j'.ph ≠ 7) : Ef j j' v n v n := ⟨fun e => absurd e h, fun _ => ⟨rfl, rfl⟩⟩
variable {C : Nat → Ce} {N : Nat → Int} {g0 H : Nat} {v : List UInt8} {n : Nat} {j : Jb}
/-- A read. -/
theorem cst0 (k : KI C N g0 H v n) (i : JI j C N g0 H) (hp : j.ph = 0) {r : Rr} (hr : Told C N j.at' r)
    (hf : j.tg = 0 → (cmV j.kd j.v j.m v n).length ≤ 32 ∧ cmN j.kd j.m n ≤ 999999) (hH : H < 999999) :
    JI (j.answer r) C N g0 H ∧ Ef j (j.answer r) v n v n := by
  have e0 : j.answer r = ({ j with sn := C j.at', sv := N j.at' } : Jb).seen := by
    unfold Jb.answer
    rw [if_pos hp]
    unfold Jb.hasRead
    rw [if_neg hr.notLost, hr.saw, hr.ver]
  rw [e0]
  unfold Jb.seen
  have hst : j.st = 1 := by rw [i.st, hp]; rfl
  by_cases c2 : (C j.at').s = 2
  · rw [if_pos c2]
    obtain ⟨_, g1, g3⟩ := k.gone i.at1 i.at3 c2
    refine ⟨⟨g1, g3, i.to3, hst, Nat.zero_le _, i.ow, fun e => ?_, fun e => ?_, fun e => ?_, fun e => ?_, fun e => ?_, fun e => ?_, fun e => ?_, fun e => ?_⟩, Ef.same _ _ ?_⟩ <;> simp [Jb.follow] at *
  · rw [if_neg c2]
    by_cases c1 : (C j.at').s = 1
    · rw [if_pos c1]
      obtain ⟨m1, m3, mn, mo⟩ := k.moving i.at1 i.at3 c1
      refine ⟨⟨i.at1, i.at3, i.to3, hst, by simp, i.ow, fun _ _ => ⟨Int.le_refl _, fun _ => rfl⟩, fun e => by simp at e, fun e => by simp at e, fun e => by simp at e, fun e => by simp at e, fun _ _ => ⟨c1, m1, m3, mn, ?_⟩, fun e => by simp at e, fun e => by simp at e⟩, Ef.same _ _ (by simp)⟩
      rcases mo with mo | ⟨a, b⟩
      · exact .inl mo
      · exact .inr ⟨rfl, a, b⟩
    · rw [if_neg c1]
      have c0 : (C j.at').s = 0 := by have := (k.ok j.at').s; omega
      obtain ⟨ea, eh, eg, ev, en⟩ := k.here i.at1 i.at3 c0
      by_cases ct : 0 < j.tg
      · rw [if_pos ct]
        unfold Jb.handOver
        simp only
        by_cases ca : j.tg = j.at'
        · rw [if_pos ca]
          refine ⟨⟨i.at1, i.at3, i.to3, rfl, Nat.le_refl _, i.ow, fun _ e => by simp [Jb.finK, Jb.fin] at e, fun e => by simp [Jb.finK, Jb.fin] at e, fun e => by simp [Jb.finK, Jb.fin] at e, fun e => by simp [Jb.finK, Jb.fin] at e, fun e => by simp [Jb.finK, Jb.fin] at e, fun _ e => by simp [Jb.finK, Jb.fin] at e, fun e => by simp [Jb.finK, Jb.fin] at e, fun e => by simp [Jb.finK, Jb.fin] at e⟩, fun _ => ⟨fun e => by omega, fun _ => ⟨rfl, rfl, rfl⟩⟩, fun _ => ⟨rfl, rfl⟩⟩
        · rw [if_neg ca, if_neg (by rw [eh]; omega)]
          refine ⟨⟨i.at1, i.at3, i.to3, hst, by simp, i.ow, fun _ _ => ⟨Int.le_refl _, fun _ => rfl⟩, fun _ => c0, fun e => by simp at e, fun _ _ => ⟨ca, rfl⟩, fun _ => ct, fun e => by simp at e, fun e => by simp at e, fun e => by simp at e⟩, Ef.same _ _ (by simp)⟩
      · rw [if_neg ct]
        have ct0 : j.tg = 0 := by omega
        obtain ⟨hf1, hf2⟩ := hf ct0
        unfold Jb.apply
        simp only
        rw [ev, en]
        rw [if_neg (by simp only [Decidable.not_not]; exact ⟨hf1, hf2⟩)]
        by_cases cs : cmV j.kd j.v j.m v n = v ∧ cmN j.kd j.m n = n
        · rw [if_pos cs]
          refine ⟨⟨i.at1, i.at3, i.to3, rfl, Nat.le_refl _, i.ow, fun _ e => by simp [Jb.fin] at e, fun e => by simp [Jb.fin] at e, fun e => by simp [Jb.fin] at e, fun e => by simp [Jb.fin] at e, fun e => by simp [Jb.fin] at e, fun _ e => by simp [Jb.fin] at e, fun e => by simp [Jb.fin] at e, fun e => by simp [Jb.fin] at e⟩, fun _ => ⟨fun _ => ⟨cs.1.symm, cs.2.symm, rfl⟩, fun e => by omega⟩, fun _ => ⟨rfl, rfl⟩⟩
        · rw [if_neg cs]
          refine ⟨⟨i.at1, i.at3, i.to3, hst, by simp, i.ow, fun _ _ => ⟨Int.le_refl _, fun _ => rfl⟩, fun _ => c0, fun _ _ => ?_, fun _ e => by simp only at e; omega, fun e => by simp at e, fun e => by simp at e, fun e => by simp at e, fun e => by simp at e⟩, Ef.same _ _ (by simp)⟩
          simp only
          rw [ev, en]
          exact ⟨rfl, rfl⟩
theorem cst2 (i : JI j C N g0 H) (hp : j.ph = 2) {r : Rr} (hr : Told C N j.tg r) :
    JI (j.answer r) C N g0 H ∧ Ef j (j.answer r) v n v n := by
  have hst : j.st = 1 := by rw [i.st, hp]; rfl
  have e0 : j.answer r = if r.kd = 2 then { j with ph := 3 } else { j with ph := 1 } := by
    unfold Jb.answer
    rw [if_neg (by omega), if_neg (by omega), if_pos hp]
    unfold Jb.hasPrepared
    rw [if_neg hr.notLost]
  have ht := i.to1 (.inl hp)
  have hl := i.lock (by omega) (by omega)
  have hm := i.mov (.inr (.inl hp))
  have hh := i.here (.inr (.inl hp))
  rw [e0]
  split
  · exact ⟨⟨i.at1, i.at3, i.to3, hst, by simp, i.ow, fun _ _ => hl, fun _ => hh, fun e => by simp at e, fun _ => hm, fun _ => ht, fun e => by simp at e, fun e => by simp at e, fun e => by simp at e⟩, Ef.same _ _ (by simp)⟩
  · exact ⟨⟨i.at1, i.at3, i.to3, hst, by simp, i.ow, fun _ _ => hl, fun _ => hh, fun _ e => by simp only at e; omega, fun _ => hm, fun e => by simp at e, fun e => by simp at e, fun e => by simp at e, fun e => by simp at e⟩, Ef.same _ _ (by simp)⟩
theorem cst4 (i : JI j C N g0 H) (hp : j.ph = 4) {r : Rr} (hr : Told C N j.sn.g r) :
    JI (j.answer r) C N g0 H ∧ Ef j (j.answer r) v n v n := by
  have hst : j.st = 1 := by rw [i.st, hp]; rfl
  have e0 : j.answer r = { j with sp := N j.sn.g, ph := if (C j.sn.g).h < j.sn.h then 5 else 6 } := by
    unfold Jb.answer
    rw [if_neg (by omega), if_neg (by omega), if_neg (by omega), if_neg (by omega), if_pos hp]
    unfold Jb.hasLooked
    rw [if_neg hr.notLost, hr.saw, hr.ver]
  have hl := i.lock (by omega) (by omega)
  have hs := i.seen (by omega) (by omega)
  rw [e0]
  by_cases c : (C j.sn.g).h < j.sn.h
  · rw [if_pos c]
    exact ⟨⟨i.at1, i.at3, i.to3, hst, by simp, i.ow, fun _ _ => hl, fun e => by simp at e, fun e => by simp at e, fun e => by simp at e, fun e => by simp at e, fun _ _ => hs, fun _ => ⟨Int.le_refl _, fun _ => c⟩, fun e => by simp at e⟩, Ef.same _ _ (by simp)⟩
  · rw [if_neg c]
    exact ⟨⟨i.at1, i.at3, i.to3, hst, by simp, i.ow, fun _ _ => hl, fun e => by simp at e, fun e => by simp at e, fun e => by simp at e, fun e => by simp at e, fun _ _ => hs, fun e => by simp at e, fun _ => by show j.sn.h ≤ (C j.sn.g).h; omega⟩, Ef.same _ _ (by simp)⟩
/-- A Swap that found another version. -/
theorem cst_no (i : JI j C N g0 H) (hp : j.ph = 1 ∨ j.ph = 3 ∨ j.ph = 5 ∨ j.ph = 6) {r : Rr} (hr : r.kd = 2 ∨ r.kd = 3) :
    JI (j.answer r) C N g0 H ∧ Ef j (j.answer r) v n v n := by
  have hst : j.st = 1 := by rw [i.st, if_neg (by omega)]
  have zero : JI { j with ph := 0 } C N g0 H ∧ Ef j { j with ph := 0 } v n v n :=
    ⟨⟨i.at1, i.at3, i.to3, hst, by simp, i.ow, fun e => by simp at e, fun e => by simp at e, fun e => by simp at e, fun e => by simp at e, fun e => by simp at e, fun e => by simp at e, fun e => by simp at e, fun e => by simp at e⟩, Ef.same _ _ (by simp)⟩
  rcases hp with hp | hp | hp | hp
  · have e0 : j.answer r = { j with ph := 0 } := by
      unfold Jb.answer
      rw [if_neg (by omega), if_pos hp]
      unfold Jb.hasWritten
      rw [if_neg (by omega), if_neg (by omega), if_neg (by omega), if_neg (by omega)]
    rw [e0]
    exact zero
  · have e0 : j.answer r = { j with ph := 0 } := by
      unfold Jb.answer
      rw [if_neg (by omega), if_neg (by omega), if_neg (by omega), if_pos hp]
      unfold Jb.hasRoom
      rw [if_neg (by omega)]
    rw [e0]
    exact zero
  · have e0 : j.answer r = { j with ph := 4 } := by
      unfold Jb.answer
      rw [if_neg (by omega), if_neg (by omega), if_neg (by omega), if_neg (by omega), if_neg (by omega), if_pos hp]
      unfold Jb.hasPut
      rw [if_neg (by omega)]
    have hl := i.lock (by omega) (by omega)
    have hs := i.seen (by omega) (by omega)
    rw [e0]
    exact ⟨⟨i.at1, i.at3, i.to3, hst, by simp, i.ow, fun _ _ => hl, fun e => by simp at e, fun e => by simp at e, fun e => by simp at e, fun e => by simp at e, fun _ _ => hs, fun e => by simp at e, fun e => by simp at e⟩, Ef.same _ _ (by simp)⟩
  · have e0 : j.answer r = j.hasSealed := by
      unfold Jb.answer
      rw [if_neg (by omega), if_neg (by omega), if_neg (by omega), if_neg (by omega), if_neg (by omega), if_neg (by omega), if_pos hp]
    obtain ⟨_, s2, s3, _⟩ := i.seen (by omega) (by omega)
    rw [e0]
    unfold Jb.hasSealed
    by_cases how : j.ow = true
    · have ht := i.ow how
      rw [if_pos how]
      refine ⟨⟨i.at1, i.at3, i.to3, rfl, Nat.le_refl _, i.ow, fun _ e => by simp [Jb.finK, Jb.fin] at e, fun e => by simp [Jb.finK, Jb.fin] at e, fun e => by simp [Jb.finK, Jb.fin] at e, fun e => by simp [Jb.finK, Jb.fin] at e, fun e => by simp [Jb.finK, Jb.fin] at e, fun _ e => by simp [Jb.finK, Jb.fin] at e, fun e => by simp [Jb.finK, Jb.fin] at e, fun e => by simp [Jb.finK, Jb.fin] at e⟩, fun _ => ⟨fun e => by omega, fun _ => ⟨rfl, rfl, rfl⟩⟩, fun _ => ⟨rfl, rfl⟩⟩
    · rw [if_neg how]
      refine ⟨⟨s2, s3, i.to3, hst, Nat.zero_le _, i.ow, fun e => by simp [Jb.follow] at e, fun e => by simp [Jb.follow] at e, fun e => by simp [Jb.follow] at e, fun e => by simp [Jb.follow] at e, fun e => by simp [Jb.follow] at e, fun e => by simp [Jb.follow] at e, fun e => by simp [Jb.follow] at e, fun e => by simp [Jb.follow] at e⟩, Ef.same _ _ (by simp [Jb.follow])⟩
/-- The job's write, where the version was as it knew it. -/
theorem cst1 (k : KI C N g0 H v n) (i : JI j C N g0 H) (o : j.Ok) (hp : j.ph = 1) (hN : N j.at' = j.sv) {r : Rr} (hr : r.kd = 1) (hrn : r.n = N j.at' + 1) :
    ∃ v' n', KI (updc C j.at' j.nx) (updc N j.at' (N j.at' + 1)) g0 H v' n' ∧ JI (j.answer r) (updc C j.at' j.nx) (updc N j.at' (N j.at' + 1)) g0 H ∧ Lv C N g0 H (updc C j.at' j.nx) (updc N j.at' (N j.at' + 1)) g0 H ∧ Ef j (j.answer r) v n v' n' := by
  have hst : j.st = 1 := by rw [i.st, hp]; rfl
  obtain ⟨_, hlk⟩ := i.lock (by omega) (by omega)
  have hsn := hlk hN
  have hs0 := i.here (.inl hp)
  obtain ⟨ea, eh, eg, ev, en⟩ := k.here i.at1 i.at3 (by rw [hsn]; exact hs0)
  have hnx := o.nx (.inl hp)
  have hat : updc C j.at' j.nx g0 = j.nx := by rw [← ea]; exact updc_at _ _ _
  have hhl : j.nx.h = H ∨ j.nx.h = H + 1 := by
    by_cases ct : 0 < j.tg
    · rw [(i.mov (.inl hp) ct).2, ← hsn]
      exact .inr (by show (C j.at').h + 1 = H + 1; omega)
    · rw [(i.cmd hp (by omega)).1, ← hsn]
      exact .inl eh
  have hlv : Lv C N g0 H (updc C j.at' j.nx) (updc N j.at' (N j.at' + 1)) g0 H := by
    refine ⟨fun g => ?_, fun g => ?_, fun g => ?_, fun g e => ?_, fun e => ?_, by omega⟩
    · by_cases c : g = j.at'
      · rw [c, updc_at]; omega
      · rw [updc_ne _ _ c]; exact Nat.le_refl _
    · by_cases c : g = j.at'
      · rw [c, updc_at]; omega
      · rw [updc_ne _ _ c]; exact Int.le_refl _
    · by_cases c : g = j.at'
      · rw [c, updc_at]; exact Int.le_refl _
      · rw [updc_ne _ _ c]; omega
    · by_cases c : g = j.at'
      · rw [c, updc_at] at e; omega
      · rw [updc_ne _ _ c]
    · rw [← ea, hsn, hs0] at e
      cases e
  have hun : ∀ g, updc N j.at' (N j.at' + 1) g = 0 → updc C j.at' j.nx g = unsaid g := fun g e => by
    by_cases c : g = j.at'
    · rw [c, updc_at] at e
      have := k.n0 j.at'
      omega
    · rw [updc_ne _ _ c] at e ⊢
      exact k.un g e
  have hn0 : ∀ g, 0 ≤ updc N j.at' (N j.at' + 1) g := fun g => by
    by_cases c : g = j.at'
    · rw [c, updc_at]
      have := k.n0 j.at'
      omega
    · rw [updc_ne _ _ c]
      exact k.n0 g
  have hok : ∀ g, (updc C j.at' j.nx g).Ok := fun g => by
    by_cases c : g = j.at'
    · rw [c, updc_at]; exact hnx
    · rw [updc_ne _ _ c]; exact k.ok g
  have hoth : ∀ g, 1 ≤ g → g ≤ 3 → g ≠ g0 → (updc C j.at' j.nx g).s ≠ 0 ∧ (updc C j.at' j.nx g).h ≤ H ∧ 1 ≤ (updc C j.at' j.nx g).g ∧ (updc C j.at' j.nx g).g ≤ 3 ∧ ((updc C j.at' j.nx g).g = g0 ∨ (updc C j.at' j.nx g).h < (updc C j.at' j.nx (updc C j.at' j.nx g).g).h) := fun g h1 h3 hg => by
    have hga : g ≠ j.at' := by rw [ea]; exact hg
    obtain ⟨o1, o2, o3, o4, o5⟩ := k.oth g h1 h3 hg
    rw [updc_ne _ _ hga]
    refine ⟨o1, o2, o3, o4, ?_⟩
    rcases o5 with o5 | o5
    · exact .inl o5
    · by_cases c : (C g).g = j.at'
      · exact .inl (by rw [c]; exact ea)
      · rw [updc_ne _ _ c]
        exact .inr o5
  by_cases ct : 0 < j.tg
  · obtain ⟨m1, m2⟩ := i.mov (.inl hp) ct
    have e0 : j.answer r = { j with sn := j.nx, sv := r.n, ow := true, ph := 4 } := by
      unfold Jb.answer
      rw [if_neg (by omega), if_pos hp]
      unfold Jb.hasWritten
      rw [if_pos ⟨hr, ct⟩]
    have nh : j.nx.h = H + 1 := by
      rw [m2, ← hsn]
      show (C j.at').h + 1 = H + 1
      omega
    refine ⟨v, n, ⟨k.g1, k.g3, ?_, ?_, .inr ?_, hoth, hok, hun, hn0⟩, ?_, hlv, ?_⟩
    · rw [hat, m2, ← hsn]; exact ev
    · rw [hat, m2, ← hsn]; exact en
    · rw [hat]
      refine ⟨by rw [m2]; rfl, nh, ?_, ?_, ?_⟩
      · rw [m2]; exact ct
      · rw [m2]; exact i.to3
      · rw [m2, ← ea]; exact m1
    · rw [e0]
      refine ⟨i.at1, i.at3, i.to3, hst, by simp, fun _ => ct, fun _ _ => ⟨?_, fun _ => updc_at _ _ _⟩, fun e => by simp at e, fun e => by simp at e, fun e => by simp at e, fun e => by simp at e, fun _ _ => ?_, fun e => by simp at e, fun e => by simp at e⟩
      · show r.n ≤ updc N j.at' (N j.at' + 1) j.at'
        rw [updc_at, hrn]
        exact Int.le_refl _
      · refine ⟨by show j.nx.s = 1; rw [m2]; rfl, by show 1 ≤ j.nx.g; rw [m2]; exact ct, by show j.nx.g ≤ 3; rw [m2]; exact i.to3, by show j.nx.g ≠ j.at'; rw [m2]; exact m1, .inr ⟨?_, ea, nh⟩⟩
        show updc N j.at' (N j.at' + 1) j.at' = r.n
        rw [updc_at, hrn]
    · rw [e0]
      exact Ef.same _ _ (by simp)
  · have ct0 : j.tg = 0 := by omega
    obtain ⟨m1, m2⟩ := i.cmd hp ct0
    have e0 : j.answer r = j.fin j.re := by
      unfold Jb.answer
      rw [if_neg (by omega), if_pos hp]
      unfold Jb.hasWritten
      rw [if_neg (by omega), if_pos hr]
    have ev' : j.sn.v = v := by rw [← hsn]; exact ev
    have en' : j.sn.n = n := by rw [← hsn]; exact en
    refine ⟨cmV j.kd j.v j.m v n, cmN j.kd j.m n, ⟨k.g1, k.g3, ?_, ?_, .inl ?_, hoth, hok, hun, hn0⟩, ?_, hlv, ?_⟩
    · rw [hat, m1, ev', en']
    · rw [hat, m1, en']
    · rw [hat, m1]
      exact ⟨rfl, by rw [← hsn]; exact eh, rfl⟩
    · rw [e0]
      exact ⟨i.at1, i.at3, i.to3, rfl, Nat.le_refl _, i.ow, fun _ e => by simp [Jb.fin] at e, fun e => by simp [Jb.fin] at e, fun e => by simp [Jb.fin] at e, fun e => by simp [Jb.fin] at e, fun e => by simp [Jb.fin] at e, fun _ e => by simp [Jb.fin] at e, fun e => by simp [Jb.fin] at e, fun e => by simp [Jb.fin] at e⟩
    · rw [e0]
      refine ⟨fun _ => ⟨fun _ => ⟨rfl, rfl, ?_⟩, fun e => absurd e ct⟩, fun e => absurd rfl e⟩
      show j.re = _
      rw [m2, ev', en']
end Go.Proofs.YtflnjlbafchnaaaGreatDoor

/-
  Cells, plainly: the other steps; where a key is found.
-/
namespace Go.Proofs.YtflnjlbafchnaaaGreatDoor
variable {C : Nat → Ce} {N : Nat → Int} {g0 H : Nat} {v : List UInt8} {n : Nat} {j : Jb}

theorem updc_self {α : Type} (f : Nat → α) (g : Nat) (x : α) (h : f g = x) : updc f g x = f := by
  funext y
  by_cases c : y = g
  · rw [c, updc_at, h]
  · rw [updc_ne _ _ c]
theorem updc_n0 (k : KI C N g0 H v n) (a : Nat) : ∀ g, 0 ≤ updc N a (N a + 1) g := fun g => by
  by_cases c : g = a
  · rw [c, updc_at]
    have := k.n0 a
    omega
  · rw [updc_ne _ _ c]
    exact k.n0 g
theorem updc_un (k : KI C N g0 H v n) (a : Nat) (x : Ce) : ∀ g, updc N a (N a + 1) g = 0 → updc C a x g = unsaid g := fun g e => by
  by_cases c : g = a
  · rw [c, updc_at] at e
    have := k.n0 a
    omega
  · rw [updc_ne _ _ c] at e ⊢
    exact k.un g e
theorem updc_ok (k : KI C N g0 H v n) (a : Nat) {x : Ce} (hx : x.Ok) : ∀ g, (updc C a x g).Ok := fun g => by
  by_cases c : g = a
  · rw [c, updc_at]; exact hx
  · rw [updc_ne _ _ c]; exact k.ok g
/-- What one changed cell leaves. -/
theorem lv_one {g0' H' a : Nat} {x : Ce} (hh : (C a).h ≤ x.h) (hm : (C g0).s = 1 → (g0' = g0 ∧ H' = H ∧ a ≠ g0) ∨ (C g0).h ≤ (updc C a x (C g0).g).h) (hH : H ≤ H' ∧ H' ≤ H + 1) : Lv C N g0 H (updc C a x) (updc N a (N a + 1)) g0' H' := by
  refine ⟨fun g => ?_, fun g => ?_, fun g => ?_, fun g e => ?_, fun e => ?_, hH⟩
  · by_cases c : g = a
    · rw [c, updc_at]; exact hh
    · rw [updc_ne _ _ c]; exact Nat.le_refl _
  · by_cases c : g = a
    · rw [c, updc_at]; omega
    · rw [updc_ne _ _ c]; exact Int.le_refl _
  · by_cases c : g = a
    · rw [c, updc_at]; exact Int.le_refl _
    · rw [updc_ne _ _ c]; omega
  · by_cases c : g = a
    · rw [c, updc_at] at e; omega
    · rw [updc_ne _ _ c]
  · rcases hm e with ⟨h1, h2, h3⟩ | h
    · exact .inl ⟨h1, h2, updc_ne _ _ (fun e => h3 e.symm)⟩
    · exact .inr h
theorem cst3 (k : KI C N g0 H v n) (i : JI j C N g0 H) (hp : j.ph = 3) (hN : N j.tg = 0) {r : Rr} (hr : r.kd = 1) :
    KI (updc C j.tg (unsaid j.tg)) (updc N j.tg (N j.tg + 1)) g0 H v n ∧ JI (j.answer r) (updc C j.tg (unsaid j.tg)) (updc N j.tg (N j.tg + 1)) g0 H ∧ Lv C N g0 H (updc C j.tg (unsaid j.tg)) (updc N j.tg (N j.tg + 1)) g0 H ∧ Ef j (j.answer r) v n v n := by
  have hst : j.st = 1 := by rw [i.st, hp]; rfl
  have hu := k.un _ hN
  have hs := updc_self C j.tg (unsaid j.tg) hu
  have e0 : j.answer r = { j with ph := 0 } := by
    unfold Jb.answer
    rw [if_neg (by omega), if_neg (by omega), if_neg (by omega), if_pos hp]
    unfold Jb.hasRoom
    rw [if_neg (by omega)]
  refine ⟨?_, ?_, lv_one (by rw [hu]; exact Nat.le_refl _) (fun e => .inl ⟨rfl, rfl, fun e2 => ?_⟩) (by omega), ?_⟩
  · rw [hs]
    exact ⟨k.g1, k.g3, k.hv, k.hn, k.home, k.oth, k.ok, fun g e => by have := updc_un k j.tg (unsaid j.tg) g e; rwa [hs] at this, updc_n0 k _⟩
  · rw [e0]
    exact ⟨i.at1, i.at3, i.to3, hst, by simp, i.ow, fun e => by simp at e, fun e => by simp at e, fun e => by simp at e, fun e => by simp at e, fun e => by simp at e, fun e => by simp at e, fun e => by simp at e, fun e => by simp at e⟩
  · rw [← e2, hu] at e
    unfold unsaid at e
    split at e <;> simp at e
  · rw [e0]
    exact Ef.same _ _ (by simp)
theorem cst5 (k : KI C N g0 H v n) (i : JI j C N g0 H) (o : j.Ok) (hp : j.ph = 5) (hN : N j.sn.g = j.sp) {r : Rr} (hr : r.kd = 1) :
    KI (updc C j.sn.g j.sn.arrived) (updc N j.sn.g (N j.sn.g + 1)) j.sn.g (H + 1) v n ∧ JI (j.answer r) (updc C j.sn.g j.sn.arrived) (updc N j.sn.g (N j.sn.g + 1)) j.sn.g (H + 1) ∧ Lv C N g0 H (updc C j.sn.g j.sn.arrived) (updc N j.sn.g (N j.sn.g + 1)) j.sn.g (H + 1) ∧ Ef j (j.answer r) v n v n ∧ j.at' = g0 ∧ j.sn.h = H + 1 := by
  have hst : j.st = 1 := by rw [i.st, hp]; rfl
  obtain ⟨hl1, hl2⟩ := i.lock (by omega) (by omega)
  obtain ⟨s1, s2, s3, s4, s5⟩ := i.seen (by omega) (by omega)
  have hlt := (i.put hp).2 hN
  obtain ⟨f1, f2, f3⟩ : N j.at' = j.sv ∧ j.at' = g0 ∧ j.sn.h = H + 1 := by
    rcases s5 with s5 | s5
    · omega
    · exact s5
  have hsn := hl2 f1
  have hg0 : g0 ≠ j.sn.g := by rw [← f2]; exact fun e => s4 e.symm
  have hc0 : C g0 = j.sn := by rw [← f2]; exact hsn
  have e0 : j.answer r = { j with ph := 6 } := by
    unfold Jb.answer
    rw [if_neg (by omega), if_neg (by omega), if_neg (by omega), if_neg (by omega), if_neg (by omega), if_pos hp]
    unfold Jb.hasPut
    rw [if_pos hr]
  refine ⟨⟨s2, s3, ?_, ?_, .inl ?_, fun g h1 h3 hg => ?_, updc_ok k _ o.sn.arrived, updc_un k _ _, updc_n0 k _⟩, ?_, lv_one (by show _ ≤ j.sn.h; omega) (fun _ => .inr ?_) (by omega), ?_, f2, f3⟩
  · rw [updc_at]
    show j.sn.v = v
    rw [← hc0]
    exact k.hv
  · rw [updc_at]
    show j.sn.n = n
    rw [← hc0]
    exact k.hn
  · rw [updc_at]
    exact ⟨rfl, f3, rfl⟩
  · by_cases c0 : g = g0
    · rw [c0, updc_ne _ _ hg0, hc0]
      exact ⟨by omega, by omega, s2, s3, .inl rfl⟩
    · obtain ⟨o1, o2, o3, o4, o5⟩ := k.oth g h1 h3 c0
      rw [updc_ne _ _ hg]
      refine ⟨o1, by omega, o3, o4, ?_⟩
      rcases o5 with o5 | o5
      · refine .inr ?_
        rw [o5, updc_ne _ _ hg0, hc0]
        omega
      · by_cases ct : (C g).g = j.sn.g
        · exact .inl ct
        · rw [updc_ne _ _ ct]
          exact .inr o5
  · rw [e0]
    refine ⟨i.at1, i.at3, i.to3, hst, by simp, i.ow, fun _ _ => ?_, fun e => by simp at e, fun e => by simp at e, fun e => by simp at e, fun e => by simp at e, fun _ _ => ⟨s1, s2, s3, s4, .inl ?_⟩, fun e => by simp at e, fun _ => ?_⟩
    · show j.sv ≤ updc N j.sn.g (N j.sn.g + 1) j.at' ∧ (updc N j.sn.g (N j.sn.g + 1) j.at' = j.sv → updc C j.sn.g j.sn.arrived j.at' = j.sn)
      rw [updc_ne _ _ (fun e => s4 e.symm), updc_ne _ _ (fun e => s4 e.symm)]
      exact ⟨hl1, hl2⟩
    · show j.sn.h ≤ (updc C j.sn.g j.sn.arrived j.sn.g).h
      rw [updc_at]
      exact Nat.le_refl _
    · show j.sn.h ≤ (updc C j.sn.g j.sn.arrived j.sn.g).h
      rw [updc_at]
      exact Nat.le_refl _
  · rw [hc0, updc_at]
    exact Nat.le_refl _
  · rw [e0]
    exact Ef.same _ _ (by simp)
theorem sealed_ji {C' : Nat → Ce} {N' : Nat → Int} {g0' H' : Nat} (i : JI j C N g0 H) (hp : j.ph = 6) (r : Rr) : JI (j.answer r) C' N' g0' H' ∧ Ef j (j.answer r) v n v n := by
  have hst : j.st = 1 := by rw [i.st, hp]; rfl
  have e0 : j.answer r = j.hasSealed := by
    unfold Jb.answer
    rw [if_neg (by omega), if_neg (by omega), if_neg (by omega), if_neg (by omega), if_neg (by omega), if_neg (by omega), if_pos hp]
  obtain ⟨_, s2, s3, _⟩ := i.seen (by omega) (by omega)
  rw [e0]
  unfold Jb.hasSealed
  by_cases how : j.ow = true
  · have ht := i.ow how
    rw [if_pos how]
    refine ⟨⟨i.at1, i.at3, i.to3, rfl, Nat.le_refl _, i.ow, fun _ e => by simp [Jb.finK, Jb.fin] at e, fun e => by simp [Jb.finK, Jb.fin] at e, fun e => by simp [Jb.finK, Jb.fin] at e, fun e => by simp [Jb.finK, Jb.fin] at e, fun e => by simp [Jb.finK, Jb.fin] at e, fun _ e => by simp [Jb.finK, Jb.fin] at e, fun e => by simp [Jb.finK, Jb.fin] at e, fun e => by simp [Jb.finK, Jb.fin] at e⟩, fun _ => ⟨fun e => by omega, fun _ => ⟨rfl, rfl, rfl⟩⟩, fun _ => ⟨rfl, rfl⟩⟩
  · rw [if_neg how]
    refine ⟨⟨s2, s3, i.to3, hst, Nat.zero_le _, i.ow, fun e => by simp [Jb.follow] at e, fun e => by simp [Jb.follow] at e, fun e => by simp [Jb.follow] at e, fun e => by simp [Jb.follow] at e, fun e => by simp [Jb.follow] at e, fun e => by simp [Jb.follow] at e, fun e => by simp [Jb.follow] at e, fun e => by simp [Jb.follow] at e⟩, Ef.same _ _ (by simp [Jb.follow])⟩
theorem cst6 (k : KI C N g0 H v n) (i : JI j C N g0 H) (o : j.Ok) (hp : j.ph = 6) (hN : N j.at' = j.sv) (r : Rr) :
    KI (updc C j.at' j.sn.left) (updc N j.at' (N j.at' + 1)) g0 H v n ∧ JI (j.answer r) (updc C j.at' j.sn.left) (updc N j.at' (N j.at' + 1)) g0 H ∧ Lv C N g0 H (updc C j.at' j.sn.left) (updc N j.at' (N j.at' + 1)) g0 H ∧ Ef j (j.answer r) v n v n := by
  obtain ⟨hl1, hl2⟩ := i.lock (by omega) (by omega)
  obtain ⟨s1, s2, s3, s4, _⟩ := i.seen (by omega) (by omega)
  have hsl := i.sld hp
  have hsn := hl2 hN
  have hne : j.at' ≠ g0 := fun e => by
    have h1 : C g0 = j.sn := by rw [← e]; exact hsn
    have h2 := k.oth j.sn.g s2 s3 (by rw [← e]; exact s4)
    rcases k.home with h | h
    · rw [h1] at h; omega
    · rw [h1] at h; omega
  have ha := k.oth j.at' i.at1 i.at3 hne
  rw [hsn] at ha
  obtain ⟨a1, a2, a3, a4, a5⟩ := ha
  refine ⟨⟨k.g1, k.g3, ?_, ?_, ?_, fun g h1 h3 hg => ?_, updc_ok k _ (o.sn.left s1), updc_un k _ _, updc_n0 k _⟩, (sealed_ji (v := v) (n := n) i hp r).1, lv_one (by rw [hsn]; exact Nat.le_refl _) (fun _ => .inl ⟨rfl, rfl, hne⟩) (by omega), (sealed_ji (C' := C) (N' := N) (g0' := g0) (H' := H) i hp r).2⟩
  · rw [updc_ne _ _ (fun e => hne e.symm)]; exact k.hv
  · rw [updc_ne _ _ (fun e => hne e.symm)]; exact k.hn
  · rw [updc_ne _ _ (fun e => hne e.symm)]; exact k.home
  · by_cases c : g = j.at'
    · rw [c, updc_at]
      refine ⟨by simp [Ce.left], a2, s2, s3, ?_⟩
      show j.sn.g = g0 ∨ j.sn.h < (updc C j.at' j.sn.left j.sn.g).h
      rw [updc_ne _ _ s4]
      exact a5
    · obtain ⟨o1, o2, o3, o4, o5⟩ := k.oth g h1 h3 hg
      rw [updc_ne _ _ c]
      refine ⟨o1, o2, o3, o4, ?_⟩
      rcases o5 with o5 | o5
      · exact .inl o5
      · refine .inr ?_
        by_cases ct : (C g).g = j.at'
        · rw [ct, updc_at]
          rw [ct, hsn] at o5
          exact o5
        · rw [updc_ne _ _ ct]
          exact o5

/-! ### where a key is found -/
/-- Is the key with the group that the cell names? -/
def handed (say : Nat → Ce) (len : Nat) (c : Ce) : Bool := decide (c.s = 2) || (decide (c.s = 1) && (decide (c.g ≤ len) && decide (c.h ≤ (say c.g).h)))
def findG (say : Nat → Ce) (len : Nat) : Nat → Nat → Nat × List UInt8 × Nat
  | 0, _ => (0, [], 0)
  | f + 1, at' => if len < at' then (0, [], 0) else if handed say len (say at') = true then findG say len f (say at').g else (at', (say at').v, (say at').n)
theorem find_home (k : KI C N g0 H v n) (f : Nat) : findG C 3 (f + 1) g0 = (g0, v, n) := by
  unfold findG
  have h3 := k.g3
  rw [if_neg (by omega), if_neg ?_, k.hv, k.hn]
  unfold handed
  rcases k.home with h | h
  · rw [h.1]; simp
  · have := (k.oth (C g0).g h.2.2.1 h.2.2.2.1 h.2.2.2.2).2.1
    rw [h.1, h.2.1]
    simp
    intro _
    omega
theorem find_on (k : KI C N g0 H v n) (f : Nat) {g : Nat} (h1 : 1 ≤ g) (h3 : g ≤ 3) (hg : g ≠ g0) : findG C 3 (f + 1) g = findG C 3 f (C g).g := by
  conv => lhs; unfold findG
  rw [if_neg (by omega), if_pos ?_]
  obtain ⟨o1, _, _, o4, _⟩ := k.oth g h1 h3 hg
  unfold handed
  have hs := (k.ok g).s
  by_cases c : (C g).s = 2
  · rw [c]; rfl
  · have c1 : (C g).s = 1 := by omega
    obtain ⟨_, _, _, m⟩ := k.moving h1 h3 c1
    rcases m with m | m
    · simp [c1, o4, m]
    · exact absurd m.1 hg
theorem find_is (k : KI C N g0 H v n) : findG C 3 3 1 = (g0, v, n) := by
  have hg1 := k.g1
  have hg3 := k.g3
  by_cases c1 : 1 = g0
  · rw [c1]; exact find_home k 2
  · rw [find_on k 2 (by omega) (by omega) c1]
    obtain ⟨_, _, a3, a4, a5⟩ := k.oth 1 (by omega) (by omega) c1
    by_cases c2 : (C 1).g = g0
    · rw [c2]; exact find_home k 1
    · have a6 : (C 1).h < (C (C 1).g).h := a5.resolve_left c2
      rw [find_on k 1 a3 a4 c2]
      obtain ⟨_, _, b3, b4, b5⟩ := k.oth (C 1).g a3 a4 c2
      by_cases c3 : (C (C 1).g).g = g0
      · rw [c3]; exact find_home k 0
      · exfalso
        have b6 := b5.resolve_left c3
        have d1 : (C 1).g ≠ 1 := fun e => by rw [e] at a6; omega
        have d2 : (C (C 1).g).g ≠ (C 1).g := fun e => by rw [e] at b6; omega
        have d3 : (C (C 1).g).g ≠ 1 := fun e => by rw [e] at b6; omega
        omega
end Go.Proofs.YtflnjlbafchnaaaGreatDoor

/-
  Cells, plainly: three maps, and jobs on any keys: a step of one.
-/
namespace Go.Proofs.YtflnjlbafchnaaaGreatDoor

/-- What a group's map says of a key; with which version. -/
def Kc (S : Nat → St) (k : List UInt8) (g : Nat) : Ce := if (S g).n (cKey k) = 0 then unsaid g else (ceOf ((S g).v (cKey k))).getD (unsaid g)
def Kn (S : Nat → St) (k : List UInt8) (g : Nat) : Int := (S g).n (cKey k)
theorem told (S : Nat → St) (k : List UInt8) (g : Nat) : Told (Kc S k) (Kn S k) g (tellRr 1 ((S g).v (cKey k)) ((S g).n (cKey k))) := by
  unfold tellRr
  by_cases h : (S g).n (cKey k) = 0
  · rw [if_pos h]
    refine ⟨?_, ?_, ?_⟩
    · unfold sawC Kc
      rw [if_pos h, if_neg (by decide)]
    · unfold versR Kn
      rw [if_neg (by decide), h]
    · unfold Kn
      rw [if_pos h]
  · rw [if_neg h]
    refine ⟨?_, ?_, ?_⟩
    · unfold sawC Kc
      rw [if_neg h, if_pos rfl]
    · unfold versR Kn
      rw [if_pos rfl]
    · unfold Kn
      rw [if_neg h]
def swapS (S : Nat → St) (g : Nat) (k : List UInt8) (c : Ce) : Nat → St := updc S g ((S g).put (cKey k) (ceTxt c))
theorem kc_swap {S : Nat → St} {g : Nat} {k : List UInt8} {c : Ce} (hc : c.Ok) (h0 : 0 ≤ Kn S k g) : Kc (swapS S g k c) k = updc (Kc S k) g c ∧ Kn (swapS S g k c) k = updc (Kn S k) g (Kn S k g + 1) := by
  have hn : ∀ y, Kn (swapS S g k c) k y = updc (Kn S k) g (Kn S k g + 1) y := fun y => by
    unfold Kn swapS
    by_cases e : y = g
    · rw [e, updc_at, updc_at]
      exact if_pos rfl
    · rw [updc_ne _ _ e, updc_ne _ _ e]
  refine ⟨funext fun y => ?_, funext hn⟩
  have hny := hn y
  by_cases e : y = g
  · subst e
    rw [updc_at] at hny ⊢
    have h1 : (swapS S y k c y).n (cKey k) = Kn S k y + 1 := hny
    unfold Kc
    rw [if_neg (by rw [h1]; omega)]
    have h2 : (swapS S y k c y).v (cKey k) = ceTxt c := by
      unfold swapS
      rw [updc_at]
      exact if_pos rfl
    rw [h2, ceOf_txt hc]
    rfl
  · rw [updc_ne _ _ e]
    unfold Kc swapS
    rw [updc_ne _ _ e]
theorem kc_other {S : Nat → St} {g : Nat} {k k' : List UInt8} {c : Ce} (h : k' ≠ k) : Kc (swapS S g k c) k' = Kc S k' ∧ Kn (swapS S g k c) k' = Kn S k' := by
  have hk : cKey k' ≠ cKey k := fun e => h (List.cons.inj e).2
  have hs : ∀ y, (swapS S g k c y).v (cKey k') = (S y).v (cKey k') ∧ (swapS S g k c y).n (cKey k') = (S y).n (cKey k') := fun y => by
    unfold swapS
    by_cases e : y = g
    · rw [e, updc_at]
      exact ⟨if_neg hk, if_neg hk⟩
    · rw [updc_ne _ _ e]
      exact ⟨rfl, rfl⟩
  refine ⟨funext fun y => ?_, funext fun y => (hs y).2⟩
  unfold Kc
  rw [(hs y).1, (hs y).2]
namespace Jb
/-- The cell that a job would write. -/
def wr (j : Jb) : Ce := if j.ph = 1 then j.nx else if j.ph = 3 then unsaid j.tg else if j.ph = 5 then j.sn.arrived else j.sn.left
/-- A step. -/
def go (j : Jb) (S : Nat → St) : (Nat → St) × Jb :=
  if j.ph = 0 ∨ j.ph = 2 ∨ j.ph = 4 then (S, j.answer (tellRr 1 ((S j.next.1).v (cKey j.k)) ((S j.next.1).n (cKey j.k))))
  else if (S j.next.1).n (cKey j.k) = j.next.2.1.m then (swapS S j.next.1 j.k j.wr, j.answer ⟨1, [], j.next.2.1.m + 1, []⟩)
  else (S, j.answer (tellRr 3 ((S j.next.1).v (cKey j.k)) ((S j.next.1).n (cKey j.k))))
theorem answer_st (j : Jb) (r : Rr) : (j.answer r).kd = j.kd ∧ (j.answer r).k = j.k ∧ (j.answer r).v = j.v ∧ (j.answer r).m = j.m ∧ (j.answer r).tg = j.tg := by
  have hs : ∀ i : Jb, i.seen.kd = i.kd ∧ i.seen.k = i.k ∧ i.seen.v = i.v ∧ i.seen.m = i.m ∧ i.seen.tg = i.tg := fun i => by
    unfold seen handOver apply follow finK fin
    (repeat' split) <;> exact ⟨rfl, rfl, rfl, rfl, rfl⟩
  unfold answer hasRead
  split
  · split
    · exact ⟨rfl, rfl, rfl, rfl, rfl⟩
    · exact hs _
  · unfold hasWritten hasPrepared hasRoom hasLooked hasPut hasSealed follow finK fin
    (repeat' split) <;> exact ⟨rfl, rfl, rfl, rfl, rfl⟩
theorem go_st (j : Jb) (S : Nat → St) : (j.go S).2.kd = j.kd ∧ (j.go S).2.k = j.k ∧ (j.go S).2.v = j.v ∧ (j.go S).2.m = j.m ∧ (j.go S).2.tg = j.tg := by
  unfold go
  split
  · exact answer_st _ _
  · split
    · exact answer_st _ _
    · exact answer_st _ _
theorem go_ok {j : Jb} (o : j.Ok) (S : Nat → St) : (j.go S).2.Ok := by
  unfold go
  split
  · exact o.answer _
  · split
    · exact o.answer _
    · exact o.answer _
theorem go_other (j : Jb) (S : Nat → St) {k : List UInt8} (h : k ≠ j.k) : Kc (j.go S).1 k = Kc S k ∧ Kn (j.go S).1 k = Kn S k := by
  unfold go
  split
  · exact ⟨rfl, rfl⟩
  · split
    · exact kc_other h
    · exact ⟨rfl, rfl⟩
theorem wr_ok {j : Jb} (o : j.Ok) (hp : j.ph = 1 ∨ j.ph = 3 ∨ j.ph = 5 ∨ j.ph = 6) : j.wr.Ok := by
  unfold wr
  rcases hp with hp | hp | hp | hp
  · rw [if_pos hp]; exact o.nx (.inl hp)
  · rw [if_neg (by omega), if_pos hp]; exact unsaid_ok _
  · rw [if_neg (by omega), if_neg (by omega), if_pos hp]; exact o.sn.arrived
  · rw [if_neg (by omega), if_neg (by omega), if_neg (by omega)]; exact o.sn.left (o.snm ⟨by omega, by omega⟩)
end Jb
theorem tell3_kd (v : List UInt8) (n : Int) : (tellRr 3 v n).kd = 2 ∨ (tellRr 3 v n).kd = 3 := by
  unfold tellRr
  split
  · exact .inl rfl
  · exact .inr rfl
/-- Every step keeps what is so, and an end does just its command. -/
theorem go_step {S : Nat → St} {j : Jb} {g0 H : Nat} {v : List UInt8} {n : Nat} (k : KI (Kc S j.k) (Kn S j.k) g0 H v n) (i : JI j (Kc S j.k) (Kn S j.k) g0 H) (o : j.Ok) (hp : j.ph ≤ 6)
    (hf : j.tg = 0 → (cmV j.kd j.v j.m v n).length ≤ 32 ∧ cmN j.kd j.m n ≤ 999999) (hH : H < 999999) :
    ∃ g0' H' v' n', KI (Kc (j.go S).1 j.k) (Kn (j.go S).1 j.k) g0' H' v' n' ∧ JI (j.go S).2 (Kc (j.go S).1 j.k) (Kn (j.go S).1 j.k) g0' H' ∧ Lv (Kc S j.k) (Kn S j.k) g0 H (Kc (j.go S).1 j.k) (Kn (j.go S).1 j.k) g0' H' ∧ Ef j (j.go S).2 v n v' n' := by
  by_cases hr : j.ph = 0 ∨ j.ph = 2 ∨ j.ph = 4
  · have e : j.go S = (S, j.answer (tellRr 1 ((S j.next.1).v (cKey j.k)) ((S j.next.1).n (cKey j.k)))) := if_pos hr
    rw [e]
    have ht := told S j.k j.next.1
    suffices h : JI (j.answer (tellRr 1 ((S j.next.1).v (cKey j.k)) ((S j.next.1).n (cKey j.k)))) (Kc S j.k) (Kn S j.k) g0 H ∧ Ef j (j.answer (tellRr 1 ((S j.next.1).v (cKey j.k)) ((S j.next.1).n (cKey j.k)))) v n v n from ⟨g0, H, v, n, k, h.1, Lv.refl _ _ _ _, h.2⟩
    rcases hr with hr | hr | hr
    · have hn : j.next.1 = j.at' := by unfold Jb.next; rw [if_pos hr]
      rw [hn] at ht ⊢
      exact cst0 k i hr ht hf hH
    · have hn : j.next.1 = j.tg := by unfold Jb.next; rw [if_neg (by omega), if_neg (by omega), if_pos hr]
      rw [hn] at ht ⊢
      exact cst2 i hr ht
    · have hn : j.next.1 = j.sn.g := by unfold Jb.next; rw [if_neg (by omega), if_neg (by omega), if_neg (by omega), if_neg (by omega), if_pos hr]
      rw [hn] at ht ⊢
      exact cst4 i hr ht
  · have hw : j.ph = 1 ∨ j.ph = 3 ∨ j.ph = 5 ∨ j.ph = 6 := by omega
    by_cases hm : (S j.next.1).n (cKey j.k) = j.next.2.1.m
    · have e : j.go S = (swapS S j.next.1 j.k j.wr, j.answer ⟨1, [], j.next.2.1.m + 1, []⟩) := by unfold Jb.go; rw [if_neg hr, if_pos hm]
      rw [e]
      obtain ⟨e1, e2⟩ := kc_swap (S := S) (g := j.next.1) (k := j.k) (Jb.wr_ok o hw) (k.n0 _)
      rw [e1, e2]
      have hm' : Kn S j.k j.next.1 = j.next.2.1.m := hm
      rcases hw with hw | hw | hw | hw
      · have hn : j.next = (j.at', swapC (cKey j.k) (ceTxt j.nx) j.sv, true) := by unfold Jb.next; rw [if_neg (by omega), if_pos hw]
        have hwr : j.wr = j.nx := by unfold Jb.wr; rw [if_pos hw]
        rw [hn] at hm' ⊢
        rw [hwr]
        obtain ⟨v', n', q1, q2, q3, q4⟩ := cst1 k i o hw hm' (r := ⟨1, [], j.sv + 1, []⟩) rfl (by show j.sv + 1 = _; rw [hm']; rfl)
        exact ⟨g0, H, v', n', q1, q2, q3, q4⟩
      · have hn : j.next = (j.tg, swapC (cKey j.k) (ceTxt (unsaid j.tg)) 0, true) := by unfold Jb.next; rw [if_neg (by omega), if_neg (by omega), if_neg (by omega), if_pos hw]
        have hwr : j.wr = unsaid j.tg := by unfold Jb.wr; rw [if_neg (by omega), if_pos hw]
        rw [hn] at hm' ⊢
        rw [hwr]
        obtain ⟨q1, q2, q3, q4⟩ := cst3 k i hw hm' (r := ⟨1, [], 0 + 1, []⟩) rfl
        exact ⟨g0, H, v, n, q1, q2, q3, q4⟩
      · have hn : j.next = (j.sn.g, swapC (cKey j.k) (ceTxt j.sn.arrived) j.sp, true) := by unfold Jb.next; rw [if_neg (by omega), if_neg (by omega), if_neg (by omega), if_neg (by omega), if_neg (by omega), if_pos hw]
        have hwr : j.wr = j.sn.arrived := by unfold Jb.wr; rw [if_neg (by omega), if_neg (by omega), if_pos hw]
        rw [hn] at hm' ⊢
        rw [hwr]
        obtain ⟨q1, q2, q3, q4, _⟩ := cst5 k i o hw hm' (r := ⟨1, [], j.sp + 1, []⟩) rfl
        exact ⟨j.sn.g, H + 1, v, n, q1, q2, q3, q4⟩
      · have hn : j.next = (j.at', swapC (cKey j.k) (ceTxt j.sn.left) j.sv, true) := by unfold Jb.next; rw [if_neg (by omega), if_neg (by omega), if_neg (by omega), if_neg (by omega), if_neg (by omega), if_neg (by omega), if_pos hw]
        have hwr : j.wr = j.sn.left := by unfold Jb.wr; rw [if_neg (by omega), if_neg (by omega), if_neg (by omega)]
        rw [hn] at hm' ⊢
        rw [hwr]
        obtain ⟨q1, q2, q3, q4⟩ := cst6 k i o hw hm' ⟨1, [], j.sv + 1, []⟩
        exact ⟨g0, H, v, n, q1, q2, q3, q4⟩
    · have e : j.go S = (S, j.answer (tellRr 3 ((S j.next.1).v (cKey j.k)) ((S j.next.1).n (cKey j.k)))) := by unfold Jb.go; rw [if_neg hr, if_neg hm]
      rw [e]
      obtain ⟨q1, q2⟩ := cst_no (v := v) (n := n) i hw (tell3_kd ((S j.next.1).v (cKey j.k)) ((S j.next.1).n (cKey j.k)))
      exact ⟨g0, H, v, n, k, q1, Lv.refl _ _ _ _, q2⟩
/-- The group that a job asks is one of the three. -/
theorem next_grp {j : Jb} {C : Nat → Ce} {N : Nat → Int} {g0 H : Nat} (i : JI j C N g0 H) (hp : j.ph ≤ 6) : 1 ≤ j.next.1 ∧ j.next.1 ≤ 3 ∧ j.next.2.2 = true := by
  have a1 := i.at1
  have a3 := i.at3
  have t3 := i.to3
  unfold Jb.next
  split
  · exact ⟨a1, a3, rfl⟩
  · split
    · exact ⟨a1, a3, rfl⟩
    · split
      · rename_i h; exact ⟨i.to1 (.inl h), t3, rfl⟩
      · split
        · rename_i h; exact ⟨i.to1 (.inr h), t3, rfl⟩
        · split
          · have := i.seen (by omega) (by omega); exact ⟨this.2.1, this.2.2.1, rfl⟩
          · split
            · have := i.seen (by omega) (by omega); exact ⟨this.2.1, this.2.2.1, rfl⟩
            · split
              · exact ⟨a1, a3, rfl⟩
              · omega
end Go.Proofs.YtflnjlbafchnaaaGreatDoor

/-
  Cells, plainly: one that goes on alone ends.
-/
namespace Go.Proofs.YtflnjlbafchnaaaGreatDoor

/-- How far a group is from where the key is. -/
def dist (C : Nat → Ce) (g0 g : Nat) : Nat := if g = g0 then 0 else if (C g).g = g0 then 1 else 2
def roomR (N : Nat → Int) (j : Jb) : Nat := if N j.tg = 0 then 3 else 0
def homeR (C : Nat → Ce) (g0 : Nat) : Nat := if (C g0).s = 0 then 0 else 4
/-- How many commands are left at most. -/
def muC (j : Jb) (C : Nat → Ce) (N : Nat → Int) (g0 : Nat) : Nat :=
  if j.ph = 0 then 3 * dist C g0 j.at' + homeR C g0 + 6 + roomR N j
  else if j.ph = 1 then 4
  else if j.ph = 2 then 5 + roomR N j
  else if j.ph = 3 then 7
  else if j.ph = 4 then (if j.ow = true then 3 else if j.at' = g0 then 9 + roomR N j else 3 * dist C g0 j.at' + homeR C g0 + 5 + roomR N j)
  else if j.ph = 5 then (if j.ow = true then 2 else 8 + roomR N j)
  else if j.ph = 6 then (if j.ow = true then 1 else 3 * dist C g0 j.at' + homeR C g0 + 4 + roomR N j)
  else 0
/-- One that goes on alone. -/
structure Lk (j : Jb) (C : Nat → Ce) (N : Nat → Int) (g0 : Nat) : Prop where
  lk : 1 ≤ j.ph → j.ph ≤ 6 → N j.at' = j.sv
  l5 : j.ph = 5 → N j.sn.g = j.sp
  l3 : j.ph = 3 → N j.tg = 0
  lo : j.ow = true → 4 ≤ j.ph ∧ (j.ph ≤ 6 → j.sn.g = j.tg) ∧ (j.ph = 4 ∨ j.ph = 5 → j.at' = g0) ∧ (j.ph = 6 → j.sn.g = g0)
  l6 : j.ph = 6 → j.ow = false → j.at' ≠ g0
  l7 : j.ph = 7 → 0 < j.tg → j.tg = g0
variable {C : Nat → Ce} {N : Nat → Int} {g0 H : Nat} {v : List UInt8} {n : Nat} {j : Jb}
theorem dist_le (C : Nat → Ce) (g0 g : Nat) : dist C g0 g ≤ 2 := by unfold dist; split <;> (try split) <;> omega
/-- Whoever follows comes nearer. -/
theorem dist_next (k : KI C N g0 H v n) {g : Nat} (h1 : 1 ≤ g) (h3 : g ≤ 3) (hg : g ≠ g0) : dist C g0 (C g).g + 1 ≤ dist C g0 g := by
  obtain ⟨_, _, a3, a4, a5⟩ := k.oth g h1 h3 hg
  have hg1 := k.g1
  have hg3 := k.g3
  have e : dist C g0 g = if (C g).g = g0 then 1 else 2 := if_neg hg
  rw [e]
  by_cases c2 : (C g).g = g0
  · rw [if_pos c2, c2]
    have : dist C g0 g0 = 0 := if_pos rfl
    omega
  · rw [if_neg c2]
    have a6 := a5.resolve_left c2
    obtain ⟨_, _, b3, b4, b5⟩ := k.oth (C g).g a3 a4 c2
    have e2 : dist C g0 (C g).g = if (C (C g).g).g = g0 then 1 else 2 := if_neg c2
    rw [e2]
    by_cases c3 : (C (C g).g).g = g0
    · rw [if_pos c3]; omega
    · exfalso
      have b6 := b5.resolve_left c3
      have d1 : (C g).g ≠ g := fun e => by rw [e] at a6; omega
      have d2 : (C (C g).g).g ≠ (C g).g := fun e => by rw [e] at b6; omega
      have d3 : (C (C g).g).g ≠ g := fun e => by rw [e] at b6; omega
      omega
theorem dist_home (C : Nat → Ce) (g0 : Nat) : dist C g0 g0 = 0 := if_pos rfl
theorem solo0 (k : KI C N g0 H v n) (i : JI j C N g0 H) (l : Lk j C N g0) (hp : j.ph = 0) {r : Rr} (hr : Told C N j.at' r)
    (hf : j.tg = 0 → (cmV j.kd j.v j.m v n).length ≤ 32 ∧ cmN j.kd j.m n ≤ 999999) (hH : H < 999999) :
    Lk (j.answer r) C N g0 ∧ muC (j.answer r) C N g0 < muC j C N g0 := by
  have how : j.ow = false := by
    cases h : j.ow with
    | false => rfl
    | true => have := (l.lo h).1; omega
  have e0 : j.answer r = ({ j with sn := C j.at', sv := N j.at' } : Jb).seen := by
    unfold Jb.answer
    rw [if_pos hp]
    unfold Jb.hasRead
    rw [if_neg hr.notLost, hr.saw, hr.ver]
  have m0 : muC j C N g0 = 3 * dist C g0 j.at' + homeR C g0 + 6 + roomR N j := if_pos hp
  rw [e0, m0]
  unfold Jb.seen
  by_cases c2 : (C j.at').s = 2
  · rw [if_pos c2]
    obtain ⟨g1, _, _⟩ := k.gone i.at1 i.at3 c2
    have hd := dist_next k i.at1 i.at3 g1
    refine ⟨⟨fun e => by simp [Jb.follow] at e, fun e => by simp [Jb.follow] at e, fun e => by simp [Jb.follow] at e, fun e => ?_, fun e => by simp [Jb.follow] at e, fun e => by simp [Jb.follow] at e⟩, ?_⟩
    · have : j.ow = true := e
      rw [how] at this
      cases this
    · show 3 * dist C g0 (C j.at').g + homeR C g0 + 6 + roomR N j < _
      omega
  · rw [if_neg c2]
    by_cases c1 : (C j.at').s = 1
    · rw [if_pos c1]
      refine ⟨⟨fun _ _ => rfl, fun e => by simp at e, fun e => by simp at e, fun e => ?_, fun e => by simp at e, fun e => by simp at e⟩, ?_⟩
      · have : j.ow = true := e
        rw [how] at this
        cases this
      · have e4 : muC ({ j with sn := C j.at', sv := N j.at', ph := 4 } : Jb) C N g0 = if j.at' = g0 then 9 + roomR N j else 3 * dist C g0 j.at' + homeR C g0 + 5 + roomR N j := by
          unfold muC
          simp only [how]
          rfl
        show muC ({ j with sn := C j.at', sv := N j.at', ph := 4 } : Jb) C N g0 < _
        rw [e4]
        by_cases ca : j.at' = g0
        · rw [if_pos ca]
          have : homeR C g0 = 4 := by
            unfold homeR
            rw [if_neg (by rw [← ca]; omega)]
          omega
        · rw [if_neg ca]
          omega
    · rw [if_neg c1]
      have c0 : (C j.at').s = 0 := by have := (k.ok j.at').s; omega
      obtain ⟨ea, eh, eg, ev, en⟩ := k.here i.at1 i.at3 c0
      by_cases ct : 0 < j.tg
      · rw [if_pos ct]
        unfold Jb.handOver
        simp only
        by_cases ca : j.tg = j.at'
        · rw [if_pos ca]
          refine ⟨⟨fun _ e => by simp [Jb.finK, Jb.fin] at e, fun e => by simp [Jb.finK, Jb.fin] at e, fun e => by simp [Jb.finK, Jb.fin] at e, fun e => ?_, fun e => by simp [Jb.finK, Jb.fin] at e, fun _ _ => by show j.tg = g0; rw [ca, ea]⟩, ?_⟩
          · have : j.ow = true := e
            rw [how] at this
            cases this
          · show 0 < _
            omega
        · rw [if_neg ca, if_neg (by rw [eh]; omega)]
          refine ⟨⟨fun _ _ => rfl, fun e => by simp at e, fun e => by simp at e, fun e => ?_, fun e => by simp at e, fun e => by simp at e⟩, ?_⟩
          · have : j.ow = true := e
            rw [how] at this
            cases this
          · show 5 + roomR N j < _
            omega
      · rw [if_neg ct]
        have ct0 : j.tg = 0 := by omega
        obtain ⟨hf1, hf2⟩ := hf ct0
        unfold Jb.apply
        simp only
        rw [ev, en]
        rw [if_neg (by simp only [Decidable.not_not]; exact ⟨hf1, hf2⟩)]
        by_cases cs : cmV j.kd j.v j.m v n = v ∧ cmN j.kd j.m n = n
        · rw [if_pos cs]
          refine ⟨⟨fun _ e => by simp [Jb.fin] at e, fun e => by simp [Jb.fin] at e, fun e => by simp [Jb.fin] at e, fun e => ?_, fun e => by simp [Jb.fin] at e, fun _ e => absurd e ct⟩, ?_⟩
          · have : j.ow = true := e
            rw [how] at this
            cases this
          · show 0 < _
            omega
        · rw [if_neg cs]
          refine ⟨⟨fun _ _ => rfl, fun e => by simp at e, fun e => by simp at e, fun e => ?_, fun e => by simp at e, fun e => by simp at e⟩, ?_⟩
          · have : j.ow = true := e
            rw [how] at this
            cases this
          · show 4 < _
            omega
theorem solo2 (l : Lk j C N g0) (hp : j.ph = 2) {r : Rr} (hr : Told C N j.tg r) :
    Lk (j.answer r) C N g0 ∧ muC (j.answer r) C N g0 < muC j C N g0 := by
  have how : j.ow = false := by
    cases h : j.ow with
    | false => rfl
    | true => have := (l.lo h).1; omega
  have e0 : j.answer r = if r.kd = 2 then { j with ph := 3 } else { j with ph := 1 } := by
    unfold Jb.answer
    rw [if_neg (by omega), if_neg (by omega), if_pos hp]
    unfold Jb.hasPrepared
    rw [if_neg hr.notLost]
  have hl := l.lk (by omega) (by omega)
  have m0 : muC j C N g0 = 5 + roomR N j := by unfold muC; rw [if_neg (by omega), if_neg (by omega), if_pos hp]
  rw [e0, m0, hr.kd]
  unfold roomR
  by_cases c : N j.tg = 0
  · rw [if_pos c, if_pos c, if_pos rfl]
    refine ⟨⟨fun _ _ => hl, fun e => by simp at e, fun _ => c, fun e => ?_, fun e => by simp at e, fun e => by simp at e⟩, ?_⟩
    · have : j.ow = true := e
      rw [how] at this
      cases this
    · show 7 < _
      omega
  · rw [if_neg c, if_neg c, if_neg (by decide)]
    refine ⟨⟨fun _ _ => hl, fun e => by simp at e, fun e => by simp at e, fun e => ?_, fun e => by simp at e, fun e => by simp at e⟩, ?_⟩
    · have : j.ow = true := e
      rw [how] at this
      cases this
    · show 4 < _
      omega
theorem solo4 (k : KI C N g0 H v n) (i : JI j C N g0 H) (l : Lk j C N g0) (hp : j.ph = 4) {r : Rr} (hr : Told C N j.sn.g r) :
    Lk (j.answer r) C N g0 ∧ muC (j.answer r) C N g0 < muC j C N g0 := by
  have e0 : j.answer r = { j with sp := N j.sn.g, ph := if (C j.sn.g).h < j.sn.h then 5 else 6 } := by
    unfold Jb.answer
    rw [if_neg (by omega), if_neg (by omega), if_neg (by omega), if_neg (by omega), if_pos hp]
    unfold Jb.hasLooked
    rw [if_neg hr.notLost, hr.saw, hr.ver]
  have hl := l.lk (by omega) (by omega)
  have hsn := (i.lock (by omega) (by omega)).2 hl
  obtain ⟨s1, s2, s3, s4, s5⟩ := i.seen (by omega) (by omega)
  have m0 : muC j C N g0 = if j.ow = true then 3 else if j.at' = g0 then 9 + roomR N j else 3 * dist C g0 j.at' + homeR C g0 + 5 + roomR N j := by
    unfold muC
    rw [if_neg (by omega), if_neg (by omega), if_neg (by omega), if_neg (by omega), if_pos hp]
  have hlt : j.at' = g0 → (C j.sn.g).h < j.sn.h := fun e => by
    have h2 := k.oth j.sn.g s2 s3 (by rw [← e]; exact s4)
    have h1 : C g0 = j.sn := by rw [← e]; exact hsn
    rcases k.home with h | h
    · rw [h1] at h; omega
    · rw [h1] at h; omega
  have hge : j.at' ≠ g0 → ¬ (C j.sn.g).h < j.sn.h := fun e => by
    rcases s5 with s5 | s5
    · omega
    · exact absurd s5.2.1 e
  rw [e0, m0]
  by_cases c : (C j.sn.g).h < j.sn.h
  · rw [if_pos c]
    have ca : j.at' = g0 := by
      by_cases ca : j.at' = g0
      · exact ca
      · exact absurd c (hge ca)
    refine ⟨⟨fun _ _ => hl, fun _ => rfl, fun e => by simp at e, fun e => ⟨by simp, fun _ => (l.lo e).2.1 (by omega), fun _ => ca, fun e2 => by simp at e2⟩, fun e => by simp at e, fun e => by simp at e⟩, ?_⟩
    show (if j.ow = true then 2 else 8 + roomR N j) < _
    split
    · omega
    · omega
  · rw [if_neg c]
    have ca : j.at' ≠ g0 := fun e => c (hlt e)
    have how : j.ow ≠ true := fun e => ca ((l.lo e).2.2.1 (.inl hp))
    refine ⟨⟨fun _ _ => hl, fun e => by simp at e, fun e => by simp at e, fun e => absurd e how, fun _ _ => ca, fun e => by simp at e⟩, ?_⟩
    show (if j.ow = true then 1 else 3 * dist C g0 j.at' + homeR C g0 + 4 + roomR N j) < _
    rw [if_neg how, if_neg how, if_neg ca]
    omega
theorem room_upd (j j' : Jb) (hn0 : ∀ g, 0 ≤ N g) (e : j'.tg = j.tg) (a : Nat) : roomR (updc N a (N a + 1)) j' ≤ roomR N j := by
  unfold roomR
  rw [e]
  by_cases c : j.tg = a
  · subst c
    rw [updc_at, if_neg (by have := hn0 j.tg; omega)]
    omega
  · rw [updc_ne _ _ c]
    exact Nat.le_refl _
theorem solo1 (k : KI C N g0 H v n) (i : JI j C N g0 H) (l : Lk j C N g0) (hp : j.ph = 1) {r : Rr} (hr : r.kd = 1) (hrn : r.n = N j.at' + 1) :
    Lk (j.answer r) (updc C j.at' j.nx) (updc N j.at' (N j.at' + 1)) g0 ∧ muC (j.answer r) (updc C j.at' j.nx) (updc N j.at' (N j.at' + 1)) g0 < muC j C N g0 := by
  have how : j.ow = false := by
    cases h : j.ow with
    | false => rfl
    | true => have := (l.lo h).1; omega
  have hl := l.lk (by omega) (by omega)
  have hsn := (i.lock (by omega) (by omega)).2 hl
  have hs0 := i.here (.inl hp)
  obtain ⟨ea, _⟩ := k.here i.at1 i.at3 (by rw [hsn]; exact hs0)
  have m0 : muC j C N g0 = 4 := by unfold muC; rw [if_neg (by omega), if_pos hp]
  rw [m0]
  by_cases ct : 0 < j.tg
  · have e0 : j.answer r = { j with sn := j.nx, sv := r.n, ow := true, ph := 4 } := by
      unfold Jb.answer
      rw [if_neg (by omega), if_pos hp]
      unfold Jb.hasWritten
      rw [if_pos ⟨hr, ct⟩]
    obtain ⟨m1, m2⟩ := i.mov (.inl hp) ct
    rw [e0]
    refine ⟨⟨fun _ _ => ?_, fun e => by simp at e, fun e => by simp at e, fun _ => ⟨by simp, fun _ => by show j.nx.g = j.tg; rw [m2]; rfl, fun _ => ea, fun e => by simp at e⟩, fun e => by simp at e, fun e => by simp at e⟩, ?_⟩
    · show updc N j.at' (N j.at' + 1) j.at' = r.n
      rw [updc_at, hrn]
    · show 3 < 4
      omega
  · have e0 : j.answer r = j.fin j.re := by
      unfold Jb.answer
      rw [if_neg (by omega), if_pos hp]
      unfold Jb.hasWritten
      rw [if_neg (by omega), if_pos hr]
    rw [e0]
    refine ⟨⟨fun _ e => by simp [Jb.fin] at e, fun e => by simp [Jb.fin] at e, fun e => by simp [Jb.fin] at e, fun e => ?_, fun e => by simp [Jb.fin] at e, fun _ e => absurd e ct⟩, ?_⟩
    · have : j.ow = true := e
      rw [how] at this
      cases this
    · show 0 < 4
      omega
theorem solo3 (k : KI C N g0 H v n) (i : JI j C N g0 H) (l : Lk j C N g0) (hp : j.ph = 3) {r : Rr} (hr : r.kd = 1) :
    Lk (j.answer r) (updc C j.tg (unsaid j.tg)) (updc N j.tg (N j.tg + 1)) g0 ∧ muC (j.answer r) (updc C j.tg (unsaid j.tg)) (updc N j.tg (N j.tg + 1)) g0 < muC j C N g0 := by
  have how : j.ow = false := by
    cases h : j.ow with
    | false => rfl
    | true => have := (l.lo h).1; omega
  have hl := l.lk (by omega) (by omega)
  have hsn := (i.lock (by omega) (by omega)).2 hl
  have hs0 := i.here (.inr (.inr hp))
  obtain ⟨ea, _⟩ := k.here i.at1 i.at3 (by rw [hsn]; exact hs0)
  have m0 : muC j C N g0 = 7 := by unfold muC; rw [if_neg (by omega), if_neg (by omega), if_neg (by omega), if_pos hp]
  have e0 : j.answer r = { j with ph := 0 } := by
    unfold Jb.answer
    rw [if_neg (by omega), if_neg (by omega), if_neg (by omega), if_pos hp]
    unfold Jb.hasRoom
    rw [if_neg (by omega)]
  have hN := l.l3 hp
  rw [m0, e0, updc_self C j.tg (unsaid j.tg) (k.un _ hN)]
  refine ⟨⟨fun e => by simp at e, fun e => by simp at e, fun e => by simp at e, fun e => ?_, fun e => by simp at e, fun e => by simp at e⟩, ?_⟩
  · have : j.ow = true := e
    rw [how] at this
    cases this
  · show 3 * dist C g0 j.at' + homeR C g0 + 6 + roomR (updc N j.tg (N j.tg + 1)) ({ j with ph := 0 } : Jb) < 7
    have h1 : dist C g0 j.at' = 0 := by rw [ea]; exact dist_home _ _
    have h2 : homeR C g0 = 0 := by unfold homeR; rw [← ea, hsn, if_pos hs0]
    have h3 : roomR (updc N j.tg (N j.tg + 1)) ({ j with ph := 0 } : Jb) = 0 := by
      unfold roomR
      show (if updc N j.tg (N j.tg + 1) j.tg = 0 then 3 else 0) = 0
      rw [updc_at, hN]
      rfl
    omega
theorem solo5 (k : KI C N g0 H v n) (i : JI j C N g0 H) (l : Lk j C N g0) (hp : j.ph = 5) {r : Rr} (hr : r.kd = 1) :
    Lk (j.answer r) (updc C j.sn.g j.sn.arrived) (updc N j.sn.g (N j.sn.g + 1)) j.sn.g ∧ muC (j.answer r) (updc C j.sn.g j.sn.arrived) (updc N j.sn.g (N j.sn.g + 1)) j.sn.g < muC j C N g0 := by
  have e0 : j.answer r = { j with ph := 6 } := by
    unfold Jb.answer
    rw [if_neg (by omega), if_neg (by omega), if_neg (by omega), if_neg (by omega), if_neg (by omega), if_pos hp]
    unfold Jb.hasPut
    rw [if_pos hr]
  have hl := l.lk (by omega) (by omega)
  have hsn := (i.lock (by omega) (by omega)).2 hl
  obtain ⟨s1, s2, s3, s4, s5⟩ := i.seen (by omega) (by omega)
  have hna : j.at' ≠ j.sn.g := fun e => s4 e.symm
  have m0 : muC j C N g0 = if j.ow = true then 2 else 8 + roomR N j := by
    unfold muC
    rw [if_neg (by omega), if_neg (by omega), if_neg (by omega), if_neg (by omega), if_neg (by omega), if_pos hp]
  rw [e0, m0]
  refine ⟨⟨fun _ _ => ?_, fun e => by simp at e, fun e => by simp at e, fun e => ⟨by simp, fun _ => (l.lo e).2.1 (by omega), fun e2 => by simp at e2, fun _ => rfl⟩, fun _ _ => hna, fun e => by simp at e⟩, ?_⟩
  · show updc N j.sn.g (N j.sn.g + 1) j.at' = j.sv
    rw [updc_ne _ _ hna]
    exact hl
  · show (if j.ow = true then 1 else 3 * dist (updc C j.sn.g j.sn.arrived) j.sn.g j.at' + homeR (updc C j.sn.g j.sn.arrived) j.sn.g + 4 + roomR (updc N j.sn.g (N j.sn.g + 1)) ({ j with ph := 6 } : Jb)) < _
    split
    · omega
    · have h1 : dist (updc C j.sn.g j.sn.arrived) j.sn.g j.at' = 1 := by
        unfold dist
        rw [if_neg hna, updc_ne _ _ hna, hsn, if_pos rfl]
      have h2 : homeR (updc C j.sn.g j.sn.arrived) j.sn.g = 0 := by
        unfold homeR
        rw [updc_at]
        rfl
      have h3 := room_upd (N := N) j { j with ph := 6 } k.n0 rfl j.sn.g
      omega
theorem solo6 (k : KI C N g0 H v n) (i : JI j C N g0 H) (l : Lk j C N g0) (hp : j.ph = 6) (r : Rr) :
    Lk (j.answer r) (updc C j.at' j.sn.left) (updc N j.at' (N j.at' + 1)) g0 ∧ muC (j.answer r) (updc C j.at' j.sn.left) (updc N j.at' (N j.at' + 1)) g0 < muC j C N g0 := by
  have e0 : j.answer r = j.hasSealed := by
    unfold Jb.answer
    rw [if_neg (by omega), if_neg (by omega), if_neg (by omega), if_neg (by omega), if_neg (by omega), if_neg (by omega), if_pos hp]
  have m0 : muC j C N g0 = if j.ow = true then 1 else 3 * dist C g0 j.at' + homeR C g0 + 4 + roomR N j := by
    unfold muC
    rw [if_neg (by omega), if_neg (by omega), if_neg (by omega), if_neg (by omega), if_neg (by omega), if_neg (by omega), if_pos hp]
  have hl := l.lk (by omega) (by omega)
  have hsn := (i.lock (by omega) (by omega)).2 hl
  obtain ⟨s1, s2, s3, s4, s5⟩ := i.seen (by omega) (by omega)
  rw [e0, m0]
  unfold Jb.hasSealed
  by_cases how : j.ow = true
  · rw [if_pos how, if_pos how]
    obtain ⟨q1, q2, q3, q4⟩ := l.lo how
    refine ⟨⟨fun _ e => by simp [Jb.finK, Jb.fin] at e, fun e => by simp [Jb.finK, Jb.fin] at e, fun e => by simp [Jb.finK, Jb.fin] at e, fun _ => ⟨by simp [Jb.finK, Jb.fin], fun e => by simp [Jb.finK, Jb.fin] at e, fun e => by simp [Jb.finK, Jb.fin] at e, fun e => by simp [Jb.finK, Jb.fin] at e⟩, fun e => by simp [Jb.finK, Jb.fin] at e, fun _ _ => ?_⟩, ?_⟩
    · show j.tg = g0
      rw [← q2 (by omega)]
      exact q4 hp
    · show 0 < 1
      omega
  · rw [if_neg how, if_neg how]
    have how' : j.ow = false := by simpa using how
    have hne := l.l6 hp how'
    refine ⟨⟨fun e => by simp [Jb.follow] at e, fun e => by simp [Jb.follow] at e, fun e => by simp [Jb.follow] at e, fun e => absurd e how, fun e => by simp [Jb.follow] at e, fun e => by simp [Jb.follow] at e⟩, ?_⟩
    have hd := dist_next k i.at1 i.at3 hne
    rw [hsn] at hd
    have h1 : dist (updc C j.at' j.sn.left) g0 j.sn.g = dist C g0 j.sn.g := by
      unfold dist
      rw [updc_ne _ _ s4]
    have h2 : homeR (updc C j.at' j.sn.left) g0 = homeR C g0 := by
      unfold homeR
      rw [updc_ne _ _ (fun e => hne e.symm)]
    have h3 := room_upd (N := N) j j.follow k.n0 rfl j.at'
    show 3 * dist (updc C j.at' j.sn.left) g0 j.sn.g + homeR (updc C j.at' j.sn.left) g0 + 6 + roomR (updc N j.at' (N j.at' + 1)) j.follow < _
    omega
/-- One that goes on alone comes nearer to its end with each step. -/
theorem solo_go {S : Nat → St} {j : Jb} {g0 H : Nat} {v : List UInt8} {n : Nat} (k : KI (Kc S j.k) (Kn S j.k) g0 H v n) (i : JI j (Kc S j.k) (Kn S j.k) g0 H) (l : Lk j (Kc S j.k) (Kn S j.k) g0) (o : j.Ok) (hp : j.ph ≤ 6)
    (hf : j.tg = 0 → (cmV j.kd j.v j.m v n).length ≤ 32 ∧ cmN j.kd j.m n ≤ 999999) (hH : H < 999999) :
    ∃ g0' H' v' n', KI (Kc (j.go S).1 j.k) (Kn (j.go S).1 j.k) g0' H' v' n' ∧ JI (j.go S).2 (Kc (j.go S).1 j.k) (Kn (j.go S).1 j.k) g0' H' ∧ Lv (Kc S j.k) (Kn S j.k) g0 H (Kc (j.go S).1 j.k) (Kn (j.go S).1 j.k) g0' H' ∧ Ef j (j.go S).2 v n v' n'
      ∧ Lk (j.go S).2 (Kc (j.go S).1 j.k) (Kn (j.go S).1 j.k) g0' ∧ muC (j.go S).2 (Kc (j.go S).1 j.k) (Kn (j.go S).1 j.k) g0' < muC j (Kc S j.k) (Kn S j.k) g0 := by
  by_cases hr : j.ph = 0 ∨ j.ph = 2 ∨ j.ph = 4
  · have e : j.go S = (S, j.answer (tellRr 1 ((S j.next.1).v (cKey j.k)) ((S j.next.1).n (cKey j.k)))) := if_pos hr
    rw [e]
    have ht := told S j.k j.next.1
    rcases hr with hr | hr | hr
    · have hn : j.next.1 = j.at' := by unfold Jb.next; rw [if_pos hr]
      rw [hn] at ht ⊢
      have h := cst0 k i hr ht hf hH
      have h2 := solo0 k i l hr ht hf hH
      exact ⟨g0, H, v, n, k, h.1, Lv.refl _ _ _ _, h.2, h2.1, h2.2⟩
    · have hn : j.next.1 = j.tg := by unfold Jb.next; rw [if_neg (by omega), if_neg (by omega), if_pos hr]
      rw [hn] at ht ⊢
      have h := cst2 (v := v) (n := n) i hr ht
      have h2 := solo2 l hr ht
      exact ⟨g0, H, v, n, k, h.1, Lv.refl _ _ _ _, h.2, h2.1, h2.2⟩
    · have hn : j.next.1 = j.sn.g := by unfold Jb.next; rw [if_neg (by omega), if_neg (by omega), if_neg (by omega), if_neg (by omega), if_pos hr]
      rw [hn] at ht ⊢
      have h := cst4 (v := v) (n := n) i hr ht
      have h2 := solo4 k i l hr ht
      exact ⟨g0, H, v, n, k, h.1, Lv.refl _ _ _ _, h.2, h2.1, h2.2⟩
  · have hw : j.ph = 1 ∨ j.ph = 3 ∨ j.ph = 5 ∨ j.ph = 6 := by omega
    have hm : (S j.next.1).n (cKey j.k) = j.next.2.1.m := by
      unfold Jb.next
      rcases hw with hw | hw | hw | hw
      · rw [if_neg (by omega), if_pos hw]; exact l.lk (by omega) (by omega)
      · rw [if_neg (by omega), if_neg (by omega), if_neg (by omega), if_pos hw]; exact l.l3 hw
      · rw [if_neg (by omega), if_neg (by omega), if_neg (by omega), if_neg (by omega), if_neg (by omega), if_pos hw]; exact l.l5 hw
      · rw [if_neg (by omega), if_neg (by omega), if_neg (by omega), if_neg (by omega), if_neg (by omega), if_neg (by omega), if_pos hw]; exact l.lk (by omega) (by omega)
    have e : j.go S = (swapS S j.next.1 j.k j.wr, j.answer ⟨1, [], j.next.2.1.m + 1, []⟩) := by unfold Jb.go; rw [if_neg hr, if_pos hm]
    rw [e]
    obtain ⟨e1, e2⟩ := kc_swap (S := S) (g := j.next.1) (k := j.k) (Jb.wr_ok o hw) (k.n0 _)
    rw [e1, e2]
    have hm' : Kn S j.k j.next.1 = j.next.2.1.m := hm
    rcases hw with hw | hw | hw | hw
    · have hn : j.next = (j.at', swapC (cKey j.k) (ceTxt j.nx) j.sv, true) := by unfold Jb.next; rw [if_neg (by omega), if_pos hw]
      have hwr : j.wr = j.nx := by unfold Jb.wr; rw [if_pos hw]
      rw [hn] at hm' ⊢
      rw [hwr]
      have hrn : (⟨1, [], j.sv + 1, []⟩ : Rr).n = Kn S j.k j.at' + 1 := by show j.sv + 1 = _; rw [hm']; rfl
      obtain ⟨v', n', q1, q2, q3, q4⟩ := cst1 k i o hw hm' (r := ⟨1, [], j.sv + 1, []⟩) rfl hrn
      have h2 := solo1 k i l hw (r := ⟨1, [], j.sv + 1, []⟩) rfl hrn
      exact ⟨g0, H, v', n', q1, q2, q3, q4, h2.1, h2.2⟩
    · have hn : j.next = (j.tg, swapC (cKey j.k) (ceTxt (unsaid j.tg)) 0, true) := by unfold Jb.next; rw [if_neg (by omega), if_neg (by omega), if_neg (by omega), if_pos hw]
      have hwr : j.wr = unsaid j.tg := by unfold Jb.wr; rw [if_neg (by omega), if_pos hw]
      rw [hn] at hm' ⊢
      rw [hwr]
      obtain ⟨q1, q2, q3, q4⟩ := cst3 k i hw hm' (r := ⟨1, [], 0 + 1, []⟩) rfl
      have h2 := solo3 k i l hw (r := ⟨1, [], 0 + 1, []⟩) rfl
      exact ⟨g0, H, v, n, q1, q2, q3, q4, h2.1, h2.2⟩
    · have hn : j.next = (j.sn.g, swapC (cKey j.k) (ceTxt j.sn.arrived) j.sp, true) := by unfold Jb.next; rw [if_neg (by omega), if_neg (by omega), if_neg (by omega), if_neg (by omega), if_neg (by omega), if_pos hw]
      have hwr : j.wr = j.sn.arrived := by unfold Jb.wr; rw [if_neg (by omega), if_neg (by omega), if_pos hw]
      rw [hn] at hm' ⊢
      rw [hwr]
      obtain ⟨q1, q2, q3, q4, _, _⟩ := cst5 k i o hw hm' (r := ⟨1, [], j.sp + 1, []⟩) rfl
      have h2 := solo5 k i l hw (r := ⟨1, [], j.sp + 1, []⟩) rfl
      exact ⟨j.sn.g, H + 1, v, n, q1, q2, q3, q4, h2.1, h2.2⟩
    · have hn : j.next = (j.at', swapC (cKey j.k) (ceTxt j.sn.left) j.sv, true) := by unfold Jb.next; rw [if_neg (by omega), if_neg (by omega), if_neg (by omega), if_neg (by omega), if_neg (by omega), if_neg (by omega), if_pos hw]
      have hwr : j.wr = j.sn.left := by unfold Jb.wr; rw [if_neg (by omega), if_neg (by omega), if_neg (by omega)]
      rw [hn] at hm' ⊢
      rw [hwr]
      obtain ⟨q1, q2, q3, q4⟩ := cst6 k i o hw hm' ⟨1, [], j.sv + 1, []⟩
      have h2 := solo6 k i l hw ⟨1, [], j.sv + 1, []⟩
      exact ⟨g0, H, v, n, q1, q2, q3, q4, h2.1, h2.2⟩
theorem muC_new (kd : Int) (k v : List UInt8) (m : Int) (tg at' : Nat) (C : Nat → Ce) (N : Nat → Int) (g0 : Nat) : muC (Jb.new kd k v m tg at') C N g0 ≤ 19 ∧ Lk (Jb.new kd k v m tg at') C N g0 := by
  refine ⟨?_, ⟨fun e => by simp [Jb.new] at e, fun e => by simp [Jb.new] at e, fun e => by simp [Jb.new] at e, fun e => by simp [Jb.new] at e, fun e => by simp [Jb.new] at e, fun e => by simp [Jb.new] at e⟩⟩
  show 3 * dist C g0 at' + homeR C g0 + 6 + roomR N (Jb.new kd k v m tg at') ≤ 19
  have h1 := dist_le C g0 at'
  have h2 : homeR C g0 ≤ 4 := by unfold homeR; split <;> omega
  have h3 : roomR N (Jb.new kd k v m tg at') ≤ 3 := by unfold roomR; split <;> omega
  omega
end Go.Proofs.YtflnjlbafchnaaaGreatDoor
