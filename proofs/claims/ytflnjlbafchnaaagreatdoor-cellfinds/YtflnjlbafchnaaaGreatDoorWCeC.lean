/-
  Cells, plainly: the other steps; where a key is found.
-/
import Derived.Test.YtflnjlbafchnaaaGreatDoorWCeB
namespace Go.Proofs.YtflnjlbafchnaaaGreatDoor
variable {C : Nat → Ce} {N : Nat → Int} {g0 H : Nat} {v : List UInt8} {n : Nat} {j : Jb}

theorem updc_self {α : Type} (f : Nat → α) (g : Nat) (x : α) (h : f g = x) : updc f g x = f := by
  funext y
  by_cases c : y = g
  · rw [c, updc_at, h]
  · rw [updc_ne _ _ c]
theorem updc_n0 (k : KI C N g0 H v n) (a : Nat) : ∀ g, 0 ≤ updc N a (N a + 1) g := fun g => by
  by_cases c : g = a
  · rw [c, updc_at]
    have := k.n0 a
    omega
  · rw [updc_ne _ _ c]
    exact k.n0 g
theorem updc_un (k : KI C N g0 H v n) (a : Nat) (x : Ce) : ∀ g, updc N a (N a + 1) g = 0 → updc C a x g = unsaid g := fun g e => by
  by_cases c : g = a
  · rw [c, updc_at] at e
    have := k.n0 a
    omega
  · rw [updc_ne _ _ c] at e ⊢
    exact k.un g e
theorem updc_ok (k : KI C N g0 H v n) (a : Nat) {x : Ce} (hx : x.Ok) : ∀ g, (updc C a x g).Ok := fun g => by
  by_cases c : g = a
  · rw [c, updc_at]; exact hx
  · rw [updc_ne _ _ c]; exact k.ok g
/-- What one changed cell leaves. -/
theorem lv_one {g0' H' a : Nat} {x : Ce} (hh : (C a).h ≤ x.h) (hm : (C g0).s = 1 → (g0' = g0 ∧ H' = H ∧ a ≠ g0) ∨ (C g0).h ≤ (updc C a x (C g0).g).h) (hH : H ≤ H' ∧ H' ≤ H + 1) : Lv C N g0 H (updc C a x) (updc N a (N a + 1)) g0' H' := by
  refine ⟨fun g => ?_, fun g => ?_, fun g => ?_, fun g e => ?_, fun e => ?_, hH⟩
  · by_cases c : g = a
    · rw [c, updc_at]; exact hh
    · rw [updc_ne _ _ c]; exact Nat.le_refl _
  · by_cases c : g = a
    · rw [c, updc_at]; omega
    · rw [updc_ne _ _ c]; exact Int.le_refl _
  · by_cases c : g = a
    · rw [c, updc_at]; exact Int.le_refl _
    · rw [updc_ne _ _ c]; omega
  · by_cases c : g = a
    · rw [c, updc_at] at e; omega
    · rw [updc_ne _ _ c]
  · rcases hm e with ⟨h1, h2, h3⟩ | h
    · exact .inl ⟨h1, h2, updc_ne _ _ (fun e => h3 e.symm)⟩
    · exact .inr h
theorem cst3 (k : KI C N g0 H v n) (i : JI j C N g0 H) (hp : j.ph = 3) (hN : N j.tg = 0) {r : Rr} (hr : r.kd = 1) :
    KI (updc C j.tg (unsaid j.tg)) (updc N j.tg (N j.tg + 1)) g0 H v n ∧ JI (j.answer r) (updc C j.tg (unsaid j.tg)) (updc N j.tg (N j.tg + 1)) g0 H ∧ Lv C N g0 H (updc C j.tg (unsaid j.tg)) (updc N j.tg (N j.tg + 1)) g0 H ∧ Ef j (j.answer r) v n v n := by
  have hst : j.st = 1 := by rw [i.st, hp]; rfl
  have hu := k.un _ hN
  have hs := updc_self C j.tg (unsaid j.tg) hu
  have e0 : j.answer r = { j with ph := 0 } := by
    unfold Jb.answer
    rw [if_neg (by omega), if_neg (by omega), if_neg (by omega), if_pos hp]
    unfold Jb.hasRoom
    rw [if_neg (by omega)]
  refine ⟨?_, ?_, lv_one (by rw [hu]; exact Nat.le_refl _) (fun e => .inl ⟨rfl, rfl, fun e2 => ?_⟩) (by omega), ?_⟩
  · rw [hs]
    exact ⟨k.g1, k.g3, k.hv, k.hn, k.home, k.oth, k.ok, fun g e => by have := updc_un k j.tg (unsaid j.tg) g e; rwa [hs] at this, updc_n0 k _⟩
  · rw [e0]
    exact ⟨i.at1, i.at3, i.to3, hst, by simp, i.ow, fun e => by simp at e, fun e => by simp at e, fun e => by simp at e, fun e => by simp at e, fun e => by simp at e, fun e => by simp at e, fun e => by simp at e, fun e => by simp at e⟩
  · rw [← e2, hu] at e
    unfold unsaid at e
    split at e <;> simp at e
  · rw [e0]
    exact Ef.same _ _ (by simp)
theorem cst5 (k : KI C N g0 H v n) (i : JI j C N g0 H) (o : j.Ok) (hp : j.ph = 5) (hN : N j.sn.g = j.sp) {r : Rr} (hr : r.kd = 1) :
    KI (updc C j.sn.g j.sn.arrived) (updc N j.sn.g (N j.sn.g + 1)) j.sn.g (H + 1) v n ∧ JI (j.answer r) (updc C j.sn.g j.sn.arrived) (updc N j.sn.g (N j.sn.g + 1)) j.sn.g (H + 1) ∧ Lv C N g0 H (updc C j.sn.g j.sn.arrived) (updc N j.sn.g (N j.sn.g + 1)) j.sn.g (H + 1) ∧ Ef j (j.answer r) v n v n ∧ j.at' = g0 ∧ j.sn.h = H + 1 := by
  have hst : j.st = 1 := by rw [i.st, hp]; rfl
  obtain ⟨hl1, hl2⟩ := i.lock (by omega) (by omega)
  obtain ⟨s1, s2, s3, s4, s5⟩ := i.seen (by omega) (by omega)
  have hlt := (i.put hp).2 hN
  obtain ⟨f1, f2, f3⟩ : N j.at' = j.sv ∧ j.at' = g0 ∧ j.sn.h = H + 1 := by
    rcases s5 with s5 | s5
    · omega
    · exact s5
  have hsn := hl2 f1
  have hg0 : g0 ≠ j.sn.g := by rw [← f2]; exact fun e => s4 e.symm
  have hc0 : C g0 = j.sn := by rw [← f2]; exact hsn
  have e0 : j.answer r = { j with ph := 6 } := by
    unfold Jb.answer
    rw [if_neg (by omega), if_neg (by omega), if_neg (by omega), if_neg (by omega), if_neg (by omega), if_pos hp]
    unfold Jb.hasPut
    rw [if_pos hr]
  refine ⟨⟨s2, s3, ?_, ?_, .inl ?_, fun g h1 h3 hg => ?_, updc_ok k _ o.sn.arrived, updc_un k _ _, updc_n0 k _⟩, ?_, lv_one (by show _ ≤ j.sn.h; omega) (fun _ => .inr ?_) (by omega), ?_, f2, f3⟩
  · rw [updc_at]
    show j.sn.v = v
    rw [← hc0]
    exact k.hv
  · rw [updc_at]
    show j.sn.n = n
    rw [← hc0]
    exact k.hn
  · rw [updc_at]
    exact ⟨rfl, f3, rfl⟩
  · by_cases c0 : g = g0
    · rw [c0, updc_ne _ _ hg0, hc0]
      exact ⟨by omega, by omega, s2, s3, .inl rfl⟩
    · obtain ⟨o1, o2, o3, o4, o5⟩ := k.oth g h1 h3 c0
      rw [updc_ne _ _ hg]
      refine ⟨o1, by omega, o3, o4, ?_⟩
      rcases o5 with o5 | o5
      · refine .inr ?_
        rw [o5, updc_ne _ _ hg0, hc0]
        omega
      · by_cases ct : (C g).g = j.sn.g
        · exact .inl ct
        · rw [updc_ne _ _ ct]
          exact .inr o5
  · rw [e0]
    refine ⟨i.at1, i.at3, i.to3, hst, by simp, i.ow, fun _ _ => ?_, fun e => by simp at e, fun e => by simp at e, fun e => by simp at e, fun e => by simp at e, fun _ _ => ⟨s1, s2, s3, s4, .inl ?_⟩, fun e => by simp at e, fun _ => ?_⟩
    · show j.sv ≤ updc N j.sn.g (N j.sn.g + 1) j.at' ∧ (updc N j.sn.g (N j.sn.g + 1) j.at' = j.sv → updc C j.sn.g j.sn.arrived j.at' = j.sn)
      rw [updc_ne _ _ (fun e => s4 e.symm), updc_ne _ _ (fun e => s4 e.symm)]
      exact ⟨hl1, hl2⟩
    · show j.sn.h ≤ (updc C j.sn.g j.sn.arrived j.sn.g).h
      rw [updc_at]
      exact Nat.le_refl _
    · show j.sn.h ≤ (updc C j.sn.g j.sn.arrived j.sn.g).h
      rw [updc_at]
      exact Nat.le_refl _
  · rw [hc0, updc_at]
    exact Nat.le_refl _
  · rw [e0]
    exact Ef.same _ _ (by simp)
theorem sealed_ji {C' : Nat → Ce} {N' : Nat → Int} {g0' H' : Nat} (i : JI j C N g0 H) (hp : j.ph = 6) (r : Rr) : JI (j.answer r) C' N' g0' H' ∧ Ef j (j.answer r) v n v n := by
  have hst : j.st = 1 := by rw [i.st, hp]; rfl
  have e0 : j.answer r = j.hasSealed := by
    unfold Jb.answer
    rw [if_neg (by omega), if_neg (by omega), if_neg (by omega), if_neg (by omega), if_neg (by omega), if_neg (by omega), if_pos hp]
  obtain ⟨_, s2, s3, _⟩ := i.seen (by omega) (by omega)
  rw [e0]
  unfold Jb.hasSealed
  by_cases how : j.ow = true
  · have ht := i.ow how
    rw [if_pos how]
    refine ⟨⟨i.at1, i.at3, i.to3, rfl, Nat.le_refl _, i.ow, fun _ e => by simp [Jb.finK, Jb.fin] at e, fun e => by simp [Jb.finK, Jb.fin] at e, fun e => by simp [Jb.finK, Jb.fin] at e, fun e => by simp [Jb.finK, Jb.fin] at e, fun e => by simp [Jb.finK, Jb.fin] at e, fun _ e => by simp [Jb.finK, Jb.fin] at e, fun e => by simp [Jb.finK, Jb.fin] at e, fun e => by simp [Jb.finK, Jb.fin] at e⟩, fun _ => ⟨fun e => by omega, fun _ => ⟨rfl, rfl, rfl⟩⟩, fun _ => ⟨rfl, rfl⟩⟩
  · rw [if_neg how]
    refine ⟨⟨s2, s3, i.to3, hst, Nat.zero_le _, i.ow, fun e => by simp [Jb.follow] at e, fun e => by simp [Jb.follow] at e, fun e => by simp [Jb.follow] at e, fun e => by simp [Jb.follow] at e, fun e => by simp [Jb.follow] at e, fun e => by simp [Jb.follow] at e, fun e => by simp [Jb.follow] at e, fun e => by simp [Jb.follow] at e⟩, Ef.same _ _ (by simp [Jb.follow])⟩
theorem cst6 (k : KI C N g0 H v n) (i : JI j C N g0 H) (o : j.Ok) (hp : j.ph = 6) (hN : N j.at' = j.sv) (r : Rr) :
    KI (updc C j.at' j.sn.left) (updc N j.at' (N j.at' + 1)) g0 H v n ∧ JI (j.answer r) (updc C j.at' j.sn.left) (updc N j.at' (N j.at' + 1)) g0 H ∧ Lv C N g0 H (updc C j.at' j.sn.left) (updc N j.at' (N j.at' + 1)) g0 H ∧ Ef j (j.answer r) v n v n := by
  obtain ⟨hl1, hl2⟩ := i.lock (by omega) (by omega)
  obtain ⟨s1, s2, s3, s4, _⟩ := i.seen (by omega) (by omega)
  have hsl := i.sld hp
  have hsn := hl2 hN
  have hne : j.at' ≠ g0 := fun e => by
    have h1 : C g0 = j.sn := by rw [← e]; exact hsn
    have h2 := k.oth j.sn.g s2 s3 (by rw [← e]; exact s4)
    rcases k.home with h | h
    · rw [h1] at h; omega
    · rw [h1] at h; omega
  have ha := k.oth j.at' i.at1 i.at3 hne
  rw [hsn] at ha
  obtain ⟨a1, a2, a3, a4, a5⟩ := ha
  refine ⟨⟨k.g1, k.g3, ?_, ?_, ?_, fun g h1 h3 hg => ?_, updc_ok k _ (o.sn.left s1), updc_un k _ _, updc_n0 k _⟩, (sealed_ji (v := v) (n := n) i hp r).1, lv_one (by rw [hsn]; exact Nat.le_refl _) (fun _ => .inl ⟨rfl, rfl, hne⟩) (by omega), (sealed_ji (C' := C) (N' := N) (g0' := g0) (H' := H) i hp r).2⟩
  · rw [updc_ne _ _ (fun e => hne e.symm)]; exact k.hv
  · rw [updc_ne _ _ (fun e => hne e.symm)]; exact k.hn
  · rw [updc_ne _ _ (fun e => hne e.symm)]; exact k.home
  · by_cases c : g = j.at'
    · rw [c, updc_at]
      refine ⟨by simp [Ce.left], a2, s2, s3, ?_⟩
      show j.sn.g = g0 ∨ j.sn.h < (updc C j.at' j.sn.left j.sn.g).h
      rw [updc_ne _ _ s4]
      exact a5
    · obtain ⟨o1, o2, o3, o4, o5⟩ := k.oth g h1 h3 hg
      rw [updc_ne _ _ c]
      refine ⟨o1, o2, o3, o4, ?_⟩
      rcases o5 with o5 | o5
      · exact .inl o5
      · refine .inr ?_
        by_cases ct : (C g).g = j.at'
        · rw [ct, updc_at]
          rw [ct, hsn] at o5
          exact o5
        · rw [updc_ne _ _ ct]
          exact o5

/-! ### where a key is found -/
/-- Is the key with the group that the cell names? -/
def handed (say : Nat → Ce) (len : Nat) (c : Ce) : Bool := decide (c.s = 2) || (decide (c.s = 1) && (decide (c.g ≤ len) && decide (c.h ≤ (say c.g).h)))
def findG (say : Nat → Ce) (len : Nat) : Nat → Nat → Nat × List UInt8 × Nat
  | 0, _ => (0, [], 0)
  | f + 1, at' => if len < at' then (0, [], 0) else if handed say len (say at') = true then findG say len f (say at').g else (at', (say at').v, (say at').n)
theorem find_home (k : KI C N g0 H v n) (f : Nat) : findG C 3 (f + 1) g0 = (g0, v, n) := by
  unfold findG
  have h3 := k.g3
  rw [if_neg (by omega), if_neg ?_, k.hv, k.hn]
  unfold handed
  rcases k.home with h | h
  · rw [h.1]; simp
  · have := (k.oth (C g0).g h.2.2.1 h.2.2.2.1 h.2.2.2.2).2.1
    rw [h.1, h.2.1]
    simp
    intro _
    omega
theorem find_on (k : KI C N g0 H v n) (f : Nat) {g : Nat} (h1 : 1 ≤ g) (h3 : g ≤ 3) (hg : g ≠ g0) : findG C 3 (f + 1) g = findG C 3 f (C g).g := by
  conv => lhs; unfold findG
  rw [if_neg (by omega), if_pos ?_]
  obtain ⟨o1, _, _, o4, _⟩ := k.oth g h1 h3 hg
  unfold handed
  have hs := (k.ok g).s
  by_cases c : (C g).s = 2
  · rw [c]; rfl
  · have c1 : (C g).s = 1 := by omega
    obtain ⟨_, _, _, m⟩ := k.moving h1 h3 c1
    rcases m with m | m
    · simp [c1, o4, m]
    · exact absurd m.1 hg
theorem find_is (k : KI C N g0 H v n) : findG C 3 3 1 = (g0, v, n) := by
  have hg1 := k.g1
  have hg3 := k.g3
  by_cases c1 : 1 = g0
  · rw [c1]; exact find_home k 2
  · rw [find_on k 2 (by omega) (by omega) c1]
    obtain ⟨_, _, a3, a4, a5⟩ := k.oth 1 (by omega) (by omega) c1
    by_cases c2 : (C 1).g = g0
    · rw [c2]; exact find_home k 1
    · have a6 : (C 1).h < (C (C 1).g).h := a5.resolve_left c2
      rw [find_on k 1 a3 a4 c2]
      obtain ⟨_, _, b3, b4, b5⟩ := k.oth (C 1).g a3 a4 c2
      by_cases c3 : (C (C 1).g).g = g0
      · rw [c3]; exact find_home k 0
      · exfalso
        have b6 := b5.resolve_left c3
        have d1 : (C 1).g ≠ 1 := fun e => by rw [e] at a6; omega
        have d2 : (C (C 1).g).g ≠ (C 1).g := fun e => by rw [e] at b6; omega
        have d3 : (C (C 1).g).g ≠ 1 := fun e => by rw [e] at b6; omega
        omega
end Go.Proofs.YtflnjlbafchnaaaGreatDoor
