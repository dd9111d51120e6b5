/-
  CellFree: what is so while others go on, and while one goes on alone.
-/
import Derived.Test.YtflnjlbafchnaaaGreatDoorWCm1
namespace Go.Proofs.YtflnjlbafchnaaaGreatDoor
open Go.RowKit

variable {ms : List (List Pr)} {J : Nat → Jb} {n t : Nat} {V : List UInt8 → List UInt8} {M : List UInt8 → Nat} {x : Bg} {v0 : List UInt8} {n0 u : Nat}
theorem CR.add (h : CR ms J n V M t) (hx : BgOk x) : CR ms (updj J n (Jb.new x.kd x.k x.v x.m x.tg x.at')) (n + 1) V M t :=
  ⟨h.ri.add hx.jbL hx.at'.1 hx.at'.2 hx.tg, h.len, h.ok, h.ks, fun i hi => by
    by_cases e : i = n
    · subst e
      rw [updj_at]
      exact hx.c
    · rw [updj_ne J _ e]
      exact h.cmd i (by omega)⟩
/-- One that goes on alone. -/
structure SF (ms : List (List Pr)) (J : Nat → Jb) (n : Nat) (V : List UInt8 → List UInt8) (M : List UInt8 → Nat) (t : Nat) (x : Bg) (v0 : List UInt8) (n0 u : Nat) : Prop where
  cr : CR ms J (n + 1) V M t
  so : Solo1 (SM ms) (J n) u
  ef : Ef (Jb.new x.kd x.k x.v x.m x.tg x.at') (J n) v0 n0 (V x.k) (M x.k)
  st : (J n).kd = x.kd ∧ (J n).k = x.k ∧ (J n).v = x.v ∧ (J n).m = x.m ∧ (J n).tg = x.tg
theorem SF.step (h : SF ms J n V M t x v0 n0 u) (hn : n + 1 ≤ 7) (ht : t < 999999) (hp : (J n).ph ≤ 6) {ps : List Pr} (hps : ms[(J n).next.1 - 1]? = some ps) :
    0 < u ∧ ∃ V' M', SF (ms.set ((J n).next.1 - 1) (jP (J n) ps)) (updj J n ((J n).answer (jR (J n) ps))) n V' M' (t + 1) x v0 n0 (u - 1) := by
  obtain ⟨V', M', r1, r2, r3, r4⟩ := h.cr.solo hn ht (Nat.lt_succ_self n) hp h.so hps
  obtain ⟨s1, s2, s3, s4, s5⟩ := h.st
  obtain ⟨f1, f2⟩ := h.ef.2 (by omega)
  refine ⟨r3, V', M', ⟨r1, by rw [updj_at]; exact r4, ?_, ?_⟩⟩
  · rw [updj_at]
    have e := r2.ef
    unfold Ef at e ⊢
    rw [s1, s2, s3, s4, s5, f1, f2] at e
    exact e
  · rw [updj_at]
    obtain ⟨a1, a2, a3, a4, a5⟩ := Jb.answer_st (J n) (jR (J n) ps)
    exact ⟨a1.trans s1, a2.trans s2, a3.trans s3, a4.trans s4, a5.trans s5⟩
theorem CR.begin (h : CR ms J n V M t) (hx : BgOk x) : SF ms (updj J n (Jb.new x.kd x.k x.v x.m x.tg x.at')) n V M t x (V x.k) (M x.k) 19 :=
  ⟨h.add hx, by rw [updj_at]; exact Solo1.new _ _ _ _ _ _, by rw [updj_at]; exact ⟨fun e => by simp [Jb.new] at e, fun _ => ⟨rfl, rfl⟩⟩, by rw [updj_at]; exact ⟨rfl, rfl, rfl, rfl, rfl⟩⟩
theorem SF.find (h : SF ms J n V M t x v0 n0 u) (hx : x.k ∈ abc) (h7 : (J n).ph = 7) (ht : 0 < x.tg) : findG (sayM x.k ms) 3 3 1 = (x.tg, V x.k, M x.k) := by
  obtain ⟨g0, H, k1, _, _⟩ := h.cr.ri.key x.k hx
  rw [h.cr.say hx, find_is k1]
  have h1 := (h.so g0 H (V x.k) (M x.k) (by rw [h.st.2.1]; exact k1)).1.l7 h7 (by rw [h.st.2.2.2.2]; exact ht)
  rw [h.st.2.2.2.2] at h1
  rw [h1]
theorem CR.cmAt (h : CR ms J n V M t) (hn : n ≤ 7) (ht : t ≤ 999999) (hx : BgOk x) : CmOk x.kd x.k x.v x.m (V x.k) (M x.k) := by
  have hk := abc_len hx.k
  have h1 := h.ri.v _ hx.k
  have h2 := ended_le J n
  have h3 := h.ri.m _ hx.k
  obtain ⟨_, _, _, _, h5⟩ := h.find hx.k
  have h6 := hx.v
  exact ⟨hx.c, hx.kd, by omega, by omega, by omega, by omega, by omega, h5⟩
theorem one_fit {kd : Int} {k val v : List UInt8} {m : Int} {n : Nat} (h : CmOk kd k val m v n) : Fit (onePr k v n) := fun p hp => by
  have h1 := h.ok2
  have h2 := h.ov
  unfold onePr at hp
  split at hp
  · cases hp
  · rw [List.mem_singleton] at hp
    rw [hp]
    have e1 : k.length ≤ maxLen := by unfold maxLen; omega
    have e2 : v.length ≤ maxLen := by unfold maxLen; omega
    exact ⟨e1, e2⟩
def kOf (k v : List UInt8) (n : Nat) : List UInt8 := if v = [] ∧ n = 0 then [] else k
theorem prV_k (k v : List UInt8) (n : Nat) : prV k v n = .agg #[.string (bs (kOf k v n)), .string (bs v), .int .i64 n] := by
  unfold prV kOf
  split
  · rename_i h
    rw [h.1, h.2]
    rfl
  · rfl
theorem one_cases (k v : List UInt8) (n : Nat) : ((onePr k v n).length = 0 ∧ (!decide (v = [] ∧ n = 0)) = false) ∨ ((onePr k v n).length = 1 ∧ (!decide (v = [] ∧ n = 0)) = true ∧ onePr k v n = [⟨k, v, n⟩] ∧ kOf k v n = k) := by
  unfold onePr kOf
  by_cases c : v = [] ∧ n = 0
  · rw [if_pos c, if_pos c, decide_eq_true c]
    exact .inl ⟨rfl, rfl⟩
  · rw [if_neg c, if_neg c, decide_eq_false c]
    exact .inr ⟨rfl, rfl, rfl, rfl⟩
/-! ### in memory -/
/-- The others go on; one has been made. -/
structure FA (w X : World) (sb mb P b : Nat) (L : Lo) (ns : List Ml) (J : Nat → Jb) (V : List UInt8 → List UInt8) (M : List UInt8 → Nat) (t : Nat) (x : Bg) : Prop where
  cm : CM w X sb mb L ns J
  cr : CR (ns.map Ml.ps) J L.ds.length V M t
  pb : X.heap[P]? = some (.cells #[.int .i64 x.kd, .string (bs x.k), .string (bs x.v), .int .i64 x.m, .int .i64 x.tg, .int .i64 x.at'] 91 (0, 0))
  jb : JbAt X b (Jb.new x.kd x.k x.v x.m x.tg x.at') ⟨none, 0, none, 0⟩
  nb : ∀ i, (hi : i < L.ds.length) → L.ds[i] ≠ b
  bw : w.heap.size ≤ b
variable {w X X' : World} {sb mb P b Q : Nat} {L : Lo} {ns : List Ml} {oa : Option Addr} {oc : Nat}
theorem FA.next (h : FA w X sb mb P b L ns J V M t x) (k : Kept Nil X X') : FA w X' sb mb P b L ns J V M t x :=
  ⟨h.cm.next k, h.cr, k.block _ _ h.pb (fun x => x), h.jb.kept k, h.nb, h.bw⟩
theorem FA.step (h : FA w X sb mb P b L ns J V M t x) (hn : L.ds.length ≤ 7) (ht : t < 999999) {k : Nat} (hk : k < L.ds.length) {e : Ending} (hp : StepPost w X sb mb L ns J k e X') :
    ∃ z ns' J' V' M', e = .returned (.bool z) ∧ FA w X' sb mb P b L ns' J' V' M' (t + 1) x := by
  rcases hp with ⟨h7, rfl, k2⟩ | ⟨h6, rfl, ns', ps, hps, hns, hcm, hkx, hk2⟩
  · exact ⟨false, ns, J, V, M, rfl, h.cm.next k2, h.cr.more (Nat.le_succ t), k2.block _ _ h.pb (fun x => x), h.jb.kept k2, h.nb, h.bw⟩
  · obtain ⟨V', M', r1, _⟩ := h.cr.step hn ht hk h6 hps
    rw [← hns] at r1
    refine ⟨true, ns', _, V', M', rfl, hcm, r1, hkx.block _ _ h.pb (XC.off (by decide) (by decide)), ?_, h.nb, h.bw⟩
    refine (hk2 L.ds[k] (List.getElem?_eq_getElem hk)).block _ _ h.jb (fun e => ?_)
    rcases e with e | e
    · have h1 := h.jb
      have h2 := h.cm.mp
      unfold JbAt at h1
      rw [e, h2] at h1
      simp at h1
    · exact h.nb k hk e.symm
/-- One goes on alone. -/
structure FB (w X : World) (sb mb P b Q : Nat) (L : Lo) (n : Nat) (ns : List Ml) (J : Nat → Jb) (V : List UInt8 → List UInt8) (M : List UInt8 → Nat) (t : Nat) (x : Bg) (v0 : List UInt8) (n0 u : Nat) (oa : Option Addr) (oc : Nat) : Prop where
  cm : CM w X sb mb L ns J
  sf : SF (ns.map Ml.ps) J n V M t x v0 n0 u
  pb : X.heap[P]? = some (.cells #[.int .i64 x.kd, .string (bs x.k), .string (bs x.v), .int .i64 x.m, .int .i64 x.tg, .int .i64 x.at'] 91 (0, 0))
  qb : X.heap[Q]? = some (.cells #[.string (bs (kOf x.k v0 n0)), .string (bs v0), .int .i64 n0] 63 (0, 0))
  op : OwnP w.heap.size X oa oc (onePr x.k v0 n0)
  ln : L.ds.length = n + 1
  lb : L.ds[n]? = some b
theorem FB.next (h : FB w X sb mb P b Q L n ns J V M t x v0 n0 u oa oc) (k : Kept Nil X X') : FB w X' sb mb P b Q L n ns J V M t x v0 n0 u oa oc :=
  ⟨h.cm.next k, h.sf, k.block _ _ h.pb (fun x => x), k.block _ _ h.qb (fun x => x), h.op.kept k, h.ln, h.lb⟩
theorem FB.step (h : FB w X sb mb P b Q L n ns J V M t x v0 n0 u oa oc) (hn : n + 1 ≤ 7) (ht : t < 999999) (h6 : (J n).ph ≤ 6) {e : Ending} (hp : StepPost w X sb mb L ns J n e X') :
    e = .returned (.bool true) ∧ 0 < u ∧ ∃ ns' J' V' M', FB w X' sb mb P b Q L n ns' J' V' M' (t + 1) x v0 n0 (u - 1) oa oc := by
  rcases hp with ⟨h7, _, _⟩ | ⟨_, rfl, ns', ps, hps, hns, hcm, hkx, _⟩
  · omega
  · obtain ⟨hu, V', M', r1⟩ := h.sf.step hn ht h6 hps
    rw [← hns] at r1
    exact ⟨rfl, hu, ns', _, V', M', hcm, r1, hkx.block _ _ h.pb (XC.off (by decide) (by decide)), hkx.block _ _ h.qb (XC.off (by decide) (by decide)), own_xc h.op hkx (by decide) (by decide), h.ln, h.lb⟩
theorem FB.job (h : FB w X sb mb P b Q L n ns J V M t x v0 n0 u oa oc) : ∃ K, JbAt X b (J n) K := by
  have hl : n < L.ds.length := by rw [h.ln]; omega
  obtain ⟨K, hK⟩ := h.cm.jb n hl
  have e : L.ds[n] = b := by have := h.lb; rw [List.getElem?_eq_getElem hl] at this; exact Option.some.inj this
  rw [e] at hK
  exact ⟨K, hK⟩
theorem FB.stat (h : FB w X sb mb P b Q L n ns J V M t x v0 n0 u oa oc) : (J n).st = (if (J n).ph = 7 then 2 else 1) ∧ (J n).ph ≤ 7 ∧ (J n).rs.ks = [] :=
  ⟨h.sf.cr.state (Nat.lt_succ_self n), (h.sf.cr.ri.job n (Nat.lt_succ_self n)).ok.ph, (h.sf.cr.ri.job n (Nat.lt_succ_self n)).ok.rk⟩
/-- Behind the first look for the key. -/
theorem FA.begin (h : FA w X sb mb P b L ns J V M t x) (hx : BgOk x) (k : Kept (XB w.heap.size) X X') (hP : X'.heap[P]? = some (.cells #[.int .i64 x.kd, .string (bs x.k), .string (bs x.v), .int .i64 x.m, .int .i64 x.tg, .int .i64 x.at'] 91 (0, 0))) (hQ : X'.heap[Q]? = some (.cells #[.string (bs (kOf x.k (V x.k) (M x.k))), .string (bs (V x.k)), .int .i64 (M x.k)] 63 (0, 0))) (ho : OwnP w.heap.size X' oa oc (onePr x.k (V x.k) (M x.k))) {jo : Option Addr} {jc : Nat}
    (sp : X'.heap[sb]? = some (.cells #[.slice (some ⟨mb, 0, none⟩) 3 3, .slice jo (L.ds ++ [b]).length jc, .slice L.wo L.xs.length L.wc] 94 (0, 0)))
    (jr : JRow w.heap.size X' jo jc (L.ds ++ [b])) (wr : BegR w.heap.size X' L.wo L.wc L.xs) :
    FB w X' sb mb P b Q ⟨jo, jc, L.ds ++ [b], L.wo, L.wc, L.xs⟩ L.ds.length ns (updj J L.ds.length (Jb.new x.kd x.k x.v x.m x.tg x.at')) V M t x (V x.k) (M x.k) 19 oa oc :=
  ⟨h.cm.grow k h.jb h.nb h.bw sp jr wr, h.cr.begin hx, hP, hQ, ho, by simp, by simp⟩
end Go.Proofs.YtflnjlbafchnaaaGreatDoor
