/-
  KvMap, plainly: what a command makes of the map.
-/
import Derived.Test.YtblmmbghnkplkaaWKvP
namespace Go.Proofs.Ytblmmbghnkplkaa
open Go.RowKit

/-- Where a key stands among keys. -/
def AtK (key : List UInt8) (ks : List (List UInt8)) (at' : Int) : Prop := (at' = -1 ∧ key ∉ ks) ∨ ∃ j, ∃ hj : j < ks.length, at' = (j : Int) ∧ ks[j] = key
def putB (kd at' : Int) : Bool := decide (kd = 1) || decide (kd = 5) || (decide (kd = 4) && decide (at' < 0))
def newV (kd : Int) (old val : List UInt8) : List UInt8 := if kd = 5 then old ++ val else val
def condB (kd at' : Int) (len : Nat) (x : List UInt8) : Bool := putB kd at' && (decide (0 ≤ at') || decide (len < 32)) && decide (x.length ≤ 64)
theorem AtK.spot {t at' : Int} {ps : List Pr} {ks vs : List (List UInt8)} {key : List UInt8} (h : MI t ps ks vs) (ha : AtK key ks at') : (at' < 0 → spotN key ps = 0 ∧ spotV key ps = []) ∧ (0 ≤ at' → spotN key ps ≠ 0 ∧ spotN key ps ≤ t) := by
  obtain ⟨_, hs, hp⟩ := pairs_ok h.ok
  rcases ha with ⟨e, hk⟩ | ⟨j, hj, e, hk⟩
  · have hab := h.absent hk
    refine ⟨fun _ => ⟨?_, ?_⟩, fun x => by omega⟩
    · unfold spotN; rw [hab]; simp
    · unfold spotV; rw [hab]; simp
  · refine ⟨fun x => by omega, fun _ => ?_⟩
    obtain ⟨p, hpp, e1, _⟩ := h.has j hj (by rw [h.lv, ← h.lk]; exact hj)
    have e2 := (spot_at hs hpp (e1.trans hk)).2
    obtain ⟨_, _, _, g4, _⟩ := prOk_iff (hp p hpp)
    have := h.ver p hpp
    rw [e2]
    exact ⟨by omega, this⟩
theorem AtK.old {t : Int} {ps : List Pr} {ks vs : List (List UInt8)} {j : Nat} (h : MI t ps ks vs) (hj : j < ks.length) (hv : j < vs.length) : spotV ks[j] ps = vs[j] := (h.look hj hv).2
theorem room_cond {t at' : Int} {ps : List Pr} {ks vs : List (List UInt8)} {key : List UInt8} (h : MI t ps ks vs) (ha : AtK key ks at') (ht : t < 1099511627775) (x : List UInt8) : roomB ps.length (spotN key ps) x = ((decide (0 ≤ at') || decide (ks.length < 32)) && decide (x.length ≤ 64)) := by
  obtain ⟨h32, _, _⟩ := pairs_ok h.ok
  obtain ⟨g1, g2⟩ := AtK.spot h ha
  have hl := h.lk
  unfold roomB
  by_cases hn : at' < 0
  · rw [(g1 hn).1]
    have e1 : decide (0 ≤ at') = false := decide_eq_false (by omega)
    rw [e1]
    by_cases hlen : ps.length = 32
    · have : decide (ks.length < 32) = false := decide_eq_false (by omega)
      simp [hlen, this]
    · have : decide (ks.length < 32) = true := decide_eq_true (by omega)
      simp [hlen, this]
  · obtain ⟨a1, a2⟩ := g2 (by omega)
    have e1 : decide (0 ≤ at') = true := decide_eq_true (by omega)
    rw [e1]
    have e2 : decide (spotN key ps < 1099511627775) = true := decide_eq_true (by omega)
    have e3 : decide (spotN key ps = 0) = false := decide_eq_false a1
    rw [e2, e3]
    simp

theorem isCmd_kindQ {kd m : Int} {ck val : List UInt8} (h : isCmd kd ck val m = true) : kd = 1 ∨ kd = 2 ∨ kd = 3 ∨ kd = 4 ∨ kd = 5 ∨ kd = 6 := by
  unfold isCmd at h
  by_cases h6 : kd = 6
  · simp [h6]
  · by_cases h23 : kd = 2 ∨ kd = 3
    · omega
    · by_cases h15 : kd = 1 ∨ kd = 5
      · omega
      · by_cases h4 : kd = 4
        · omega
        · simp [h6, h23, h15, h4] at h
theorem put_next {t at' : Int} {ps : List Pr} {ks vs : List (List UInt8)} {key x : List UInt8} (h : MI t ps ks vs) (ha : AtK key ks at') (ht : 0 ≤ t ∧ t < 1099511627775) (hkey : key ≠ [] ∧ key.length ≤ 16) (hr : ((decide (0 ≤ at') || decide (ks.length < 32)) && decide (x.length ≤ 64)) = true) :
    (putRr x (spotN key ps) ps.length).kd = 1 ∧ (at' < 0 → MI (t + 1) (putP key x (spotN key ps) (lowP key ps) ps) (ks ++ [key]) (vs ++ [x])) ∧ (∀ j, (hj : j < ks.length) → at' = (j : Int) → ks[j] = key → MI (t + 1) (putP key x (spotN key ps) (lowP key ps) ps) ks (vs.set j x)) := by
  have hrm := room_cond h ha ht.2 x
  rw [hr] at hrm
  simp only [Bool.and_eq_true, Bool.or_eq_true, decide_eq_true_eq] at hr
  obtain ⟨g1, g2⟩ := AtK.spot h ha
  have e1 : putP key x (spotN key ps) (lowP key ps) ps = if spotN key ps = 0 then insP (lowP key ps) ⟨key, x, spotN key ps + 1⟩ ps else ps.set (lowP key ps) ⟨key, x, spotN key ps + 1⟩ := if_neg (by rw [hrm]; simp)
  have e2 : putRr x (spotN key ps) ps.length = ⟨1, [], spotN key ps + 1, []⟩ := if_neg (by rw [hrm]; simp)
  refine ⟨by rw [e2], fun hn => ?_, fun j hj e hk => ?_⟩
  · rw [e1, if_pos (g1 hn).1, (g1 hn).1]
    rcases ha with ⟨_, hk⟩ | ⟨j, hj, e, _⟩
    · exact h.ins hk (by have := h.lk; omega) hkey.1 hkey.2 hr.2 ht.1
    · omega
  · rw [e1, if_neg (g2 (by omega)).1]
    subst hk
    exact h.put hj hr.2 ht.2
theorem cmd_ok {kd : Int} {key val : List UInt8} (hkd : 1 ≤ kd ∧ kd ≤ 6) (hkey : key ≠ [] ∧ key.length ≤ 16) (hval : val.length ≤ 64) (hv : kd = 2 ∨ kd = 3 ∨ kd = 6 → val = []) : isCmd kd key val 0 = true := by
  have hk : kd = 1 ∨ kd = 2 ∨ kd = 3 ∨ kd = 4 ∨ kd = 5 ∨ kd = 6 := by omega
  unfold isCmd isNum
  rcases hk with rfl | rfl | rfl | rfl | rfl | rfl <;> simp [hkey.1, hkey.2, hval] <;> exact hv (by omega)
theorem ap_is {t : Int} {ps : List Pr} {ks vs : List (List UInt8)} {kd : Int} {key val : List UInt8} (h : MI t ps ks vs) (hc : isCmd kd key val 0 = true) : apP kd key val 0 ps = doP kd key val 0 (spotV key ps) (spotN key ps) (lowP key ps) ps ∧ apR kd key val 0 ps = doR kd key val 0 (spotV key ps) (spotN key ps) (lowP key ps) ps := by
  unfold apP apR
  rw [h.ok, hc]
  exact ⟨rfl, rfl⟩
theorem next_put {t at' kd : Int} {ps : List Pr} {ks vs : List (List UInt8)} {key val : List UInt8} (h : MI t ps ks vs) (ha : AtK key ks at') (ht : 0 ≤ t ∧ t < 1099511627775) (hkey : key ≠ [] ∧ key.length ≤ 16) (hc : isCmd kd key val 0 = true) (hr : condB kd at' ks.length (newV kd (spotV key ps) val) = true) :
    (apR kd key val 0 ps).kd = 1 ∧ (at' < 0 → MI (t + 1) (apP kd key val 0 ps) (ks ++ [key]) (vs ++ [newV kd (spotV key ps) val])) ∧ (∀ j, (hj : j < ks.length) → at' = (j : Int) → ks[j] = key → MI (t + 1) (apP kd key val 0 ps) ks (vs.set j (newV kd (spotV key ps) val))) := by
  obtain ⟨e1, e2⟩ := ap_is h hc
  rw [e1, e2]
  unfold condB at hr
  rw [Bool.and_assoc, Bool.and_eq_true] at hr
  obtain ⟨hp, hr⟩ := hr
  unfold putB at hp
  simp only [Bool.or_eq_true, Bool.and_eq_true, decide_eq_true_eq] at hp
  rcases hp with (rfl | rfl) | ⟨rfl, hn⟩
  · exact put_next h ha ht hkey hr
  · exact put_next h ha ht hkey hr
  · have g := AtK.spot h ha
    have := put_next (x := val) h ha ht hkey hr
    unfold doP doR swapP swapRr
    simp only [show ((4 : Int) = 1) = False by simp, show ((4 : Int) = 2) = False by simp, show ((4 : Int) = 3) = False by simp, if_false, if_true, (g.1 hn).1]
    rw [(g.1 hn).1] at this
    exact this
theorem next_del {t at' : Int} {ps : List Pr} {ks vs : List (List UInt8)} {key val : List UInt8} (h : MI t ps ks vs) (ha : AtK key ks at') (hc : isCmd 3 key val 0 = true) (hn : 0 ≤ at') :
    (apR 3 key val 0 ps).kd = 1 ∧ (∀ j, (hj : j < ks.length) → at' = (j : Int) → ks[j] = key → MI (t + 1) (apP 3 key val 0 ps) (ks.take j ++ ks.drop (j + 1)) (vs.take j ++ vs.drop (j + 1))) := by
  obtain ⟨e1, e2⟩ := ap_is h hc
  obtain ⟨_, g2⟩ := AtK.spot h ha
  rw [e1, e2]
  refine ⟨?_, fun j hj e hk => ?_⟩
  · show (dropRr (spotN key ps)).kd = 1
    unfold dropRr
    rw [if_neg (g2 hn).1]
  · show MI (t + 1) (dropP (spotN key ps) (lowP key ps) ps) _ _
    unfold dropP
    rw [if_neg (g2 hn).1]
    subst hk
    exact (h.del hj).mono (by omega)
theorem next_same {t at' kd : Int} {ps : List Pr} {ks vs : List (List UInt8)} {key val : List UInt8} (h : MI t ps ks vs) (ha : AtK key ks at') (ht : 0 ≤ t ∧ t < 1099511627775) (hc : isCmd kd key val 0 = true) (hr : condB kd at' ks.length (newV kd (spotV key ps) val) = false) (hd : ¬ (kd = 3 ∧ 0 ≤ at')) : MI (t + 1) (apP kd key val 0 ps) ks vs := by
  have hm := h.mono (t' := t + 1) (by omega)
  obtain ⟨e1, _⟩ := ap_is h hc
  obtain ⟨g1, g2⟩ := AtK.spot h ha
  have hrm := fun x => room_cond h ha ht.2 x
  have hno : ∀ x, ((decide (0 ≤ at') || decide (ks.length < 32)) && decide (x.length ≤ 64)) = false → putP key x (spotN key ps) (lowP key ps) ps = ps := fun x hx => if_pos ((hrm x).trans hx)
  rw [e1]
  unfold condB at hr
  rcases isCmd_kindQ hc with rfl | rfl | rfl | rfl | rfl | rfl
  · have : putP key val (spotN key ps) (lowP key ps) ps = ps := hno val (by simpa [putB, newV] using hr)
    show MI (t + 1) (putP key val (spotN key ps) (lowP key ps) ps) ks vs
    rw [this]
    exact hm
  · exact hm
  · show MI (t + 1) (dropP (spotN key ps) (lowP key ps) ps) ks vs
    unfold dropP
    rw [if_pos (g1 (by omega)).1]
    exact hm
  · show MI (t + 1) (swapP key val 0 (spotN key ps) (lowP key ps) ps) ks vs
    unfold swapP
    by_cases hn : at' < 0
    · rw [if_pos (g1 hn).1, hno val (by simpa [putB, newV, hn] using hr)]
      exact hm
    · rw [if_neg (g2 (by omega)).1]
      exact hm
  · have : putP key (spotV key ps ++ val) (spotN key ps) (lowP key ps) ps = ps := hno _ (by simpa [putB, newV] using hr)
    show MI (t + 1) (putP key (spotV key ps ++ val) (spotN key ps) (lowP key ps) ps) ks vs
    rw [this]
    exact hm
  · exact hm
theorem get_ok {t : Int} {ps : List Pr} {ks vs : List (List UInt8)} (h : MI t ps ks vs) {j : Nat} (hj : j < ks.length) (hv : j < vs.length) : (apR 2 ks[j] [] 0 ps).kd = 1 ∧ (apR 2 ks[j] [] 0 ps).v = vs[j] := by
  obtain ⟨_, hs, hp⟩ := pairs_ok h.ok
  obtain ⟨p, hpp, e1, e2⟩ := h.has j hj hv
  obtain ⟨g1, g2, _, g4, _⟩ := prOk_iff (hp p hpp)
  rw [e1] at g1 g2
  have hc : isCmd 2 ks[j] [] 0 = true := cmd_ok (by omega) ⟨g1, g2⟩ (by simp) (fun _ => rfl)
  obtain ⟨_, e3⟩ := ap_is h hc
  have sp := spot_at hs hpp e1
  rw [e3]
  show (tellRr 1 (spotV ks[j] ps) (spotN ks[j] ps)).kd = 1 ∧ (tellRr 1 (spotV ks[j] ps) (spotN ks[j] ps)).v = vs[j]
  unfold tellRr
  rw [if_neg (by rw [sp.2]; omega)]
  exact ⟨rfl, sp.1.trans e2⟩

end Go.Proofs.Ytblmmbghnkplkaa
