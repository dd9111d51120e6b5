/-
  Rows of nodes read: the program's nodes (a count, and so many numbers), and the document's numbers.
-/
import Derived.Test.YtijklginabipgaaGreatWCfg3
import Derived.Test.YtijklginabipgaaGreatWStep
import Derived.Test.YtijklginabipgaaGreatWEnt4
namespace Go.Proofs.YtijklginabipgaaGreat
open Go.RowKit

theorem intsOf_len (ns : List Nat) : (intsOf ns).length = ns.length := by simp [intsOf]
theorem nats_row {B c : Nat} {w : World} {ao : Option Addr} {ns : List Nat} (h : OwnNats B w ao c ns) : IntRow w.heap.size w ao (intsOf ns) := by
  intro j hj
  have hj' : j < ns.length := by rwa [intsOf_len] at hj
  obtain ⟨g, _, rfl, ⟨cs, hg⟩, hc⟩ := h.shape (fun e => by subst e; simp at hj')
  refine ⟨⟨g, 0, none⟩, rfl, lt_of_block hg, ?_⟩
  have e : (⟨g, 0, none⟩ : Addr).add j = ⟨g, j, none⟩ := by unfold Addr.add; split <;> simp_all
  rw [e, hc j hj']
  simp [intsOf]

/-- A count, and so many numbers. -/
def rdNums (most : Nat) (l : List UInt8) : Except Int (List Nat × List UInt8) := rdThen (rdUpTo most l) fun n l => rdTimes rdNum n l

theorem natsV_mono {B B' : Nat} {ns : List Nat} {w : World} {v : Value} (h : NatsV B ns w v) (hb : B' ≤ B) : NatsV B' ns w v := by
  obtain ⟨ao, c, rfl, ho⟩ := h
  exact ⟨ao, c, rfl, own_mono ho hb⟩

set_option maxRecDepth 100000 in
set_option maxHeartbeats 1000000 in
theorem listI_any (p : Addr) (most : Nat) (l : List UInt8) (w : World) (hl : Left p w l) (hm : (most : Int) ≤ 1000000) :
    Calls Tryz.prog 92 #[.pointer (some p), .int .i64 most, .func (.func 48) #[] #[]] w (RdPost p w (rdNums most l) (NatsV w.heap.size)) := by
  cases r1 : rdUpTo most l with
  | error c =>
    have HR : Hid (rdNums most l = .error c) := rdThen_no r1
    go_enter Tryz.func92, Tryz.ntmps92
    go_wp2_with fail
    refine (upTo_no hl r1).mono ?_
    rintro e w1 ⟨rfl, k1⟩
    go_wp2
    unfold bodyPost RdPost
    rw [HR.out]
    exact ⟨rfl, rfl, k1⟩
  | ok x1 =>
    obtain ⟨n, l1⟩ := x1
    have hn := (rdUpTo_ok r1).1
    have hn' : (n : Int) ≤ 1000000 := by omega
    have HR : Hid (rdNums most l = rdTimes rdNum n l1) := rdThen_ok r1
    clear hm
    cases r2 : rdTimes rdNum n l1 with
    | error c =>
      go_enter Tryz.func92, Tryz.ntmps92
      go_wp2_with fail
      refine (upTo_ok hl r1).mono ?_
      rintro e w1 ⟨rfl, c1, z1, k1⟩
      go_wp2_with fail
      refine (RdPost.no (timesI_any p n l1 w1 ⟨c1, z1⟩ hn') r2).mono ?_
      rintro e w2 ⟨rfl, k2⟩
      go_wp2
      unfold bodyPost RdPost
      rw [HR.out, r2]
      exact ⟨rfl, rfl, k1.trans k2⟩
    | ok x2 =>
      obtain ⟨ns, l2⟩ := x2
      go_enter Tryz.func92, Tryz.ntmps92
      go_wp2_with fail
      refine (upTo_ok hl r1).mono ?_
      rintro e w1 ⟨rfl, c1, z1, k1⟩
      go_wp2_with fail
      refine (RdPost.ok (timesI_any p n l1 w1 ⟨c1, z1⟩ hn') r2).mono ?_
      rintro e w2 ⟨v, rfl, hv, c2, z2, k2⟩
      go_wp2
      go_ret
      unfold RdPost
      rw [HR.out, r2]
      exact ⟨⟨_, rfl, natsV_mono hv k1.size⟩, ⟨c2, z2⟩, k1.trans k2⟩

set_option maxRecDepth 100000 in
theorem rNodes_any (p : Addr) (l : List UInt8) (w : World) (hl : Left p w l) :
    Calls Tryz.prog 59 #[.pointer (some p)] w (RdPost p w (rdNums 9 l) (NatsV w.heap.size)) := by
  have H := listI_any p 9 l w hl (by decide)
  cases hr : rdNums 9 l with
  | error c =>
    have H2 := RdPost.no H hr
    clear H
    go_enter Tryz.func59, Tryz.ntmps59
    go_wp2_with fail
    refine H2.mono ?_
    rintro e w1 ⟨rfl, k1⟩
    go_wp2
    exact ⟨rfl, rfl, k1⟩
  | ok x =>
    obtain ⟨ns, t⟩ := x
    have H2 := RdPost.ok H hr
    clear H
    go_enter Tryz.func59, Tryz.ntmps59
    go_wp2_with fail
    refine H2.mono ?_
    rintro e w1 ⟨v, rfl, hv, c1, z1, k1⟩
    go_wp2
    go_ret
    exact ⟨⟨_, rfl, hv⟩, ⟨c1, z1⟩, k1⟩

/-! ### the document's -/
theorem rdUpTo_err {most : Nat} {l : List UInt8} {c : Int} (h : rdUpTo most l = .error c) : c ≠ 0 := by
  unfold rdUpTo at h
  cases hn : rdNum l with
  | error d => rw [hn] at h; simp only [Except.error.injEq] at h; subst h; exact rdNum_err hn
  | ok x =>
    obtain ⟨n, t⟩ := x
    rw [hn] at h
    simp only at h
    by_cases h1 : n ≤ most
    · rw [if_pos h1] at h; cases h
    · rw [if_neg h1] at h; cases h; decide
theorem rdTimes_err {α : Type} {rd : List UInt8 → Except Int (α × List UInt8)} (hz : NoZero rd) : ∀ n, NoZero (rdTimes rd n)
  | 0 => fun l c h => by cases h
  | n + 1 => fun l c h => by
    unfold rdTimes at h
    cases hr : rd l with
    | error d => rw [hr] at h; cases h; exact hz l c hr
    | ok x =>
      obtain ⟨a, t⟩ := x
      rw [hr] at h
      simp only at h
      cases h2 : rdTimes rd n t with
      | error d => rw [h2] at h; cases h; exact rdTimes_err hz n t c h2
      | ok y => obtain ⟨xs, u⟩ := y; rw [h2] at h; cases h
theorem noZero_nums (most : Nat) : NoZero (rdNums most) := NoZero.then (rd := rdUpTo most) (fun _ _ h => rdUpTo_err h) (fun n => rdTimes_err noZero_num n)

theorem stUpTo_le (most : Nat) (st : Except Int (List UInt8)) : (stRun (rdUpTo most) 0 st).1 ≤ most := by
  cases st with
  | error c => exact Nat.zero_le _
  | ok l =>
    cases hr : rdUpTo most l with
    | error c => rw [stRun_no hr]; exact Nat.zero_le _
    | ok x => obtain ⟨a, t⟩ := x; rw [stRun_ok hr]; exact (rdUpTo_ok hr).1
/-- The first error, as the reader holds it. -/
def stErr (st : Except Int (List UInt8)) : Int := match st with | .ok _ => 0 | .error c => c
theorem stRun_zero (most : Nat) (st : Except Int (List UInt8)) {c : Int} (h : (stRun (rdUpTo most) 0 st).2 = .error c) : (stRun (rdUpTo most) 0 st).1 = 0 := by
  cases st with
  | error d => rfl
  | ok l =>
    cases hr : rdUpTo most l with
    | error d => rw [stRun_no hr]
    | ok x => obtain ⟨a, t⟩ := x; rw [stRun_ok hr] at h; cases h

/-- How far a reading of so many has come. -/
def Come {α : Type} (rd : List UInt8 → Except Int (α × List UInt8)) (n k : Nat) (s0 : Except Int (List UInt8)) (xs : List α) (st : Except Int (List UInt8)) : Prop :=
  ∀ t, s0 = .ok t → match st with | .ok u => rdTimes rd n t = preT xs (rdTimes rd (n - k) u) | .error e => rdTimes rd n t = .error e
theorem Come.step {α : Type} {rd : List UInt8 → Except Int (α × List UInt8)} {n k : Nat} {s0 : Except Int (List UInt8)} {xs : List α} {u : List UInt8} {a : α} {s2 : Except Int (List UInt8)} (h : Come rd n k s0 xs (.ok u)) (hk : k < n) (hg : GoodV rd (.ok u) a) (hs : s2 = stAfter rd (.ok u)) :
    Come rd n (k + 1) s0 (xs ++ [a]) s2 := by
  subst hs
  intro t ht
  have h1 := h t ht
  simp only at h1
  rw [show n - k = (n - (k + 1)) + 1 by omega] at h1
  cases hr : rd u with
  | error e =>
    have e1 : stAfter rd (.ok u) = .error e := by simp only [stAfter, hr]
    rw [e1]
    exact h1.trans (rdTimes_no hr)
  | ok x =>
    obtain ⟨y, v⟩ := x
    have e1 : stAfter rd (.ok u) = .ok v := by simp only [stAfter, hr]
    rw [e1]
    have := hg u rfl y v hr
    subst this
    exact h1.trans (rdTimes_more hr)
theorem Come.done {α : Type} {rd : List UInt8 → Except Int (α × List UInt8)} {most n k : Nat} {st s0 s1 : Except Int (List UInt8)} {xs : List α} (h : Come rd n k s0 xs s1) (hr : stRun (rdUpTo most) 0 st = (n, s0)) (hs : ∀ c, s0 = .error c → s1 = .error c) (hk : ∀ u, s1 = .ok u → k = n) :
    stAfter (fun l => rdThen (rdUpTo most l) fun n l => rdTimes rd n l) st = s1 ∧ GoodV (fun l => rdThen (rdUpTo most l) fun n l => rdTimes rd n l) st xs := by
  have e1 : stAfter (rdTimes rd n) s0 = s1 := by
    cases s0 with
    | error c => rw [hs c rfl]; rfl
    | ok t =>
      have h1 := h t rfl
      cases s1 with
      | error e => simp only at h1; simp only [stAfter, h1]
      | ok u =>
        simp only [hk u rfl, Nat.sub_self, rdTimes, preT, List.append_nil] at h1
        simp only [stAfter, h1]
  have e2 : GoodV (rdTimes rd n) s0 xs := by
    intro t ht z u hz
    have h1 := h t ht
    cases s1 with
    | error e => simp only at h1; rw [h1] at hz; cases hz
    | ok v =>
      simp only [hk v rfl, Nat.sub_self, rdTimes, preT, List.append_nil] at h1
      rw [h1] at hz
      simp only [Except.ok.injEq, Prod.mk.injEq] at hz
      exact hz.1
  constructor
  · refine (stAfter_then (rdUpTo most) _ 0 st).trans ?_
    rw [hr]
    exact e1
  · refine GoodV_then (rdUpTo most) _ 0 st _ ?_
    rw [hr]
    exact e2

end Go.Proofs.YtijklginabipgaaGreat
