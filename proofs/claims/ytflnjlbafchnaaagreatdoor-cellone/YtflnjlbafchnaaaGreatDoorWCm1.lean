/-
  CellOne: what is so between rounds.
-/
import Derived.Test.YtflnjlbafchnaaaGreatDoorWCkB
import Derived.Test.YtflnjlbafchnaaaGreatDoorWCk6
namespace Go.Proofs.YtflnjlbafchnaaaGreatDoor
open Go.RowKit

def F0 (S : Nat → St) (J : Nat → Jb) (t : Nat) : Prop := (J 0).ph = 7 ∨ ∃ u, Solo1 S (J 0) u ∧ u + t ≤ 9
theorem F0.ended {S : Nat → St} {J : Nat → Jb} {t : Nat} (h : F0 S J t) (ht : 10 ≤ t) : (J 0).ph = 7 := h.resolve_right (fun ⟨u, _, e⟩ => by omega)
theorem CR.turn {ms : List (List Pr)} {J : Nat → Jb} {n t : Nat} {V : List UInt8 → List UInt8} {M : List UInt8 → Nat} (h : CR ms J n V M t) (hn : n ≤ 7) (ht : t < 999999) {i : Nat} (hi : i < n) (hp : (J i).ph ≤ 6) (hf : F0 (SM ms) J t) (hk : i = 0 ∨ (J 0).ph = 7) {ps : List Pr} (hps : ms[(J i).next.1 - 1]? = some ps) :
    ∃ V' M', CR (ms.set ((J i).next.1 - 1) (jP (J i) ps)) (updj J i ((J i).answer (jR (J i) ps))) n V' M' (t + 1) ∧ MadeC (J i) ((J i).answer (jR (J i) ps)) V V' M M' ∧ F0 (SM (ms.set ((J i).next.1 - 1) (jP (J i) ps))) (updj J i ((J i).answer (jR (J i) ps))) (t + 1) := by
  by_cases h0 : (J 0).ph = 7
  · obtain ⟨V', M', r1, r2⟩ := h.step hn ht hi hp hps
    refine ⟨V', M', r1, r2, .inl ?_⟩
    rw [updj_ne J _ (fun e : 0 = i => by rw [← e] at hp; omega)]
    exact h0
  · obtain rfl : i = 0 := hk.resolve_right h0
    obtain ⟨u, hs, hu⟩ := hf.resolve_left h0
    obtain ⟨V', M', r1, r2, r3, r4⟩ := h.solo hn ht hi hp hs hps
    refine ⟨V', M', r1, r2, .inr ⟨u - 1, ?_, by omega⟩⟩
    rw [updj_at]
    exact r4
/-- What they were begun with. -/
def WI (xs : List Bg) (n : Nat) (J : Nat → Jb) : Prop := ∀ i, i < n → ∃ h : i < xs.length, (J i).kd = xs[i].kd ∧ (J i).k = xs[i].k ∧ (J i).v = xs[i].v ∧ (J i).m = xs[i].m ∧ (J i).tg = xs[i].tg
theorem WI.upd {xs : List Bg} {n : Nat} {J : Nat → Jb} (h : WI xs n J) (k : Nat) (r : Rr) : WI xs n (updj J k ((J k).answer r)) := fun i hi => by
  by_cases e : i = k
  · subst e
    rw [updj_at]
    obtain ⟨s1, s2, s3, s4, s5⟩ := Jb.answer_st (J i) r
    obtain ⟨h0, h1, h2, h3, h4, h5⟩ := h i hi
    exact ⟨h0, s1.trans h1, s2.trans h2, s3.trans h3, s4.trans h4, s5.trans h5⟩
  · rw [updj_ne J _ e]
    exact h i hi
theorem BgI.wi {rs : List Br} {L : Lo} {J : Nat → Jb} (h : BgI rs L J) : WI L.xs L.ds.length J := fun i hi => by
  obtain ⟨_, e, _⟩ := h.new i (by rw [h.len]; exact hi)
  refine ⟨by rw [h.len]; exact hi, ?_⟩
  rw [e]
  exact ⟨rfl, rfl, rfl, rfl, rfl⟩
variable {w X X' : World} {sb mb : Nat} {L : Lo} {ns : List Ml} {J : Nat → Jb} {V : List UInt8 → List UInt8} {M : List UInt8 → Nat} {t : Nat} {pa : Option Addr} {pc : Nat} {one : List Pr}
theorem CM.what (h : CM w X sb mb L ns J) {wa : Addr} (hwa : L.wo = some wa) {i : Nat} (hi : i < L.xs.length) : X.cell? (wa.add (i * 6)) = some (.int .i64 L.xs[i].kd) ∧ X.cell? ⟨(wa.add (i * 6)).block, (wa.add (i * 6)).off + 1, none⟩ = some (.string (bs L.xs[i].k)) ∧ X.cell? ⟨(wa.add (i * 6)).block, (wa.add (i * 6)).off + 2, none⟩ = some (.string (bs L.xs[i].v)) ∧ X.cell? ⟨(wa.add (i * 6)).block, (wa.add (i * 6)).off + 3, none⟩ = some (.int .i64 L.xs[i].m) ∧ X.cell? ⟨(wa.add (i * 6)).block, (wa.add (i * 6)).off + 4, none⟩ = some (.int .i64 L.xs[i].tg) := by
  have hr := h.wr
  unfold BegR at hr
  rw [hwa] at hr
  have ex := fun r hr => flat_at bgC 6 (fun _ => rfl) L.xs i hi r hr
  have hc : ∀ r u, r < 6 → (bgC L.xs[i])[r]? = some u → X.cell? (wa.add (i * 6 + r)) = some u := fun r u h6 hu => own_cell hr (by rw [ex r h6]; exact hu)
  have hadd : ∀ r, 0 < r → wa.add (i * 6 + r) = ⟨(wa.add (i * 6)).block, (wa.add (i * 6)).off + r, none⟩ := fun r hr => by
    generalize i * 6 = m
    rw [← addr_add2]
    exact add_posE _ hr
  refine ⟨hc 0 _ (by omega) rfl, ?_, ?_, ?_, ?_⟩
  · rw [← hadd 1 (by omega)]; exact hc 1 _ (by omega) rfl
  · rw [← hadd 2 (by omega)]; exact hc 2 _ (by omega) rfl
  · rw [← hadd 3 (by omega)]; exact hc 3 _ (by omega) rfl
  · rw [← hadd 4 (by omega)]; exact hc 4 _ (by omega) rfl
/-- Between rounds. -/
structure RS (w X : World) (sb mb : Nat) (L : Lo) (ns : List Ml) (J : Nat → Jb) (V : List UInt8 → List UInt8) (M : List UInt8 → Nat) (t : Nat) (pa : Option Addr) (pc : Nat) (one : List Pr) : Prop where
  cm : CM w X sb mb L ns J
  cr : CR (ns.map Ml.ps) J L.ds.length V M t
  f0 : F0 (SM (ns.map Ml.ps)) J t
  op : OwnP w.heap.size X pa pc one
  oi : OneI one V M
  wi : WI L.xs L.ds.length J
theorem RS.next (h : RS w X sb mb L ns J V M t pa pc one) (k : Kept Nil X X') : RS w X' sb mb L ns J V M t pa pc one :=
  ⟨h.cm.next k, h.cr, h.f0, h.op.kept k, h.oi, h.wi⟩
theorem RS.still (h : RS w X sb mb L ns J V M t pa pc one) (k : Kept Nil X X') (h7 : (J 0).ph = 7) : RS w X' sb mb L ns J V M (t + 1) pa pc one :=
  ⟨h.cm.next k, h.cr.more (Nat.le_succ t), .inl h7, h.op.kept k, h.oi, h.wi⟩
/-- Behind a step. -/
structure Stp (w X : World) (sb mb : Nat) (L : Lo) (ns : List Ml) (J : Nat → Jb) (k : Nat) (j' : Jb) (V V' : List UInt8 → List UInt8) (M M' : List UInt8 → Nat) (t : Nat) (pa : Option Addr) (pc : Nat) (one : List Pr) : Prop where
  cm : CM w X sb mb L ns (updj J k j')
  cr : CR (ns.map Ml.ps) (updj J k j') L.ds.length V' M' (t + 1)
  f0 : F0 (SM (ns.map Ml.ps)) (updj J k j') (t + 1)
  op : OwnP w.heap.size X pa pc one
  md : MadeC (J k) j' V V' M M'
  wi : WI L.xs L.ds.length (updj J k j')
theorem RS.stepped (h : RS w X sb mb L ns J V M t pa pc one) (hn : L.ds.length ≤ 7) (ht : t < 999999) {k : Nat} (hk : k < L.ds.length) (hp : (J k).ph ≤ 6) (h0 : k = 0 ∨ (J 0).ph = 7) {ns' : List Ml} {ps : List Pr} (hps : (ns.map Ml.ps)[(J k).next.1 - 1]? = some ps) (hns : ns'.map Ml.ps = (ns.map Ml.ps).set ((J k).next.1 - 1) (jP (J k) ps)) {j' : Jb} (hj : j' = (J k).answer (jR (J k) ps)) (hcm : CM w X' sb mb L ns' (updj J k j')) (hx : Kept (XC w.heap.size) X X') :
    ∃ V' M', Stp w X' sb mb L ns' J k j' V V' M M' t pa pc one := by
  obtain ⟨V', M', r1, r2, r3⟩ := h.cr.turn hn ht hk hp h.f0 h0 hps
  rw [← hns, ← hj] at r1
  rw [← hj] at r2
  rw [← hns, ← hj] at r3
  refine ⟨V', M', hcm, r1, r3, own_xc h.op hx (by decide) (by decide), r2, ?_⟩
  rw [hj]
  exact h.wi.upd k _
variable {k : Nat} {j' : Jb} {V' : List UInt8 → List UInt8} {M' : List UInt8 → Nat}
theorem Stp.next (h : Stp w X sb mb L ns J k j' V V' M M' t pa pc one) (kk : Kept Nil X X') : Stp w X' sb mb L ns J k j' V V' M M' t pa pc one :=
  ⟨h.cm.next kk, h.cr, h.f0, h.op.kept kk, h.md, h.wi⟩
theorem Stp.same (h : Stp w X sb mb L ns J k j' V V' M M' t pa pc one) (ho : OneI one V M) (h7 : j'.ph ≠ 7 ∨ 0 < (J k).tg) : RS w X sb mb L ns (updj J k j') V' M' (t + 1) pa pc one :=
  ⟨h.cm, h.cr, h.f0, h.op, ho.same h.md h7, h.wi⟩
theorem Stp.done (h : Stp w X sb mb L ns J k j' V V' M M' t pa pc one) {pa2 : Option Addr} {pc2 : Nat} {one2 : List Pr} (ho : OneI one2 V' M') (hp : OwnP w.heap.size X pa2 pc2 one2) : RS w X sb mb L ns (updj J k j') V' M' (t + 1) pa2 pc2 one2 :=
  ⟨h.cm, h.cr, h.f0, hp, ho, h.wi⟩
theorem Stp.st (h : Stp w X sb mb L ns J k j' V V' M M' t pa pc one) (hk : k < L.ds.length) : j'.st = (if j'.ph = 7 then 2 else 1) ∧ j'.rs.ks = [] := by
  have h1 := h.cr.state hk
  have h2 := (h.cr.ri.job k hk).ok.rk
  rw [updj_at] at h1 h2
  exact ⟨h1, h2⟩
end Go.Proofs.YtflnjlbafchnaaaGreatDoor
