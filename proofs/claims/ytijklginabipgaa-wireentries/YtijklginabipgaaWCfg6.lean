/-
  Rows of nodes read: the program's nodes (a count, and so many numbers), and the document's numbers.
-/
import Derived.Test.YtijklginabipgaaWOlf
import Derived.Test.YtijklginabipgaaWOls
namespace Go.Proofs.Ytijklginabipgaa
open Go.RowKit

theorem intsOf_len (ns : List Nat) : (intsOf ns).length = ns.length := by simp [intsOf]
theorem nats_row {B c : Nat} {w : World} {ao : Option Addr} {ns : List Nat} (h : OwnNats B w ao c ns) : IntRow w.heap.size w ao (intsOf ns) := by
  intro j hj
  have hj' : j < ns.length := by rwa [intsOf_len] at hj
  obtain ⟨g, _, rfl, ⟨cs, hg⟩, hc⟩ := h.shape (fun e => by subst e; simp at hj')
  refine ⟨⟨g, 0, none⟩, rfl, lt_of_block hg, ?_⟩
  have e : (⟨g, 0, none⟩ : Addr).add j = ⟨g, j, none⟩ := by unfold Addr.add; split <;> simp_all
  rw [e, hc j hj']
  simp [intsOf]

/-- A count, and so many numbers. -/
def rdNums (most : Nat) (l : List UInt8) : Except Int (List Nat × List UInt8) := rdThen (rdUpTo most l) fun n l => rdTimes rdNum n l

theorem natsV_mono {B B' : Nat} {ns : List Nat} {w : World} {v : Value} (h : NatsV B ns w v) (hb : B' ≤ B) : NatsV B' ns w v := by
  obtain ⟨ao, c, rfl, ho⟩ := h
  exact ⟨ao, c, rfl, own_mono ho hb⟩

set_option maxRecDepth 100000 in
set_option maxHeartbeats 1000000 in
theorem listI_any (p : Addr) (most : Nat) (l : List UInt8) (w : World) (hl : Left p w l) (hm : (most : Int) ≤ 1000000) :
    Calls Try.prog 203 #[.pointer (some p), .int .i64 most, .func (.func 146) #[] #[]] w (RdPost p w (rdNums most l) (NatsV w.heap.size)) := by
  cases r1 : rdUpTo most l with
  | error c =>
    have HR : Hid (rdNums most l = .error c) := rdThen_no r1
    go_enter Try.func203, Try.ntmps203
    go_wp2_with fail
    refine (upTo_no hl r1).mono ?_
    rintro e w1 ⟨rfl, k1⟩
    go_wp2
    unfold bodyPost RdPost
    rw [HR.out]
    exact ⟨rfl, rfl, k1⟩
  | ok x1 =>
    obtain ⟨n, l1⟩ := x1
    have hn := (rdUpTo_ok r1).1
    have hn' : (n : Int) ≤ 1000000 := by omega
    have HR : Hid (rdNums most l = rdTimes rdNum n l1) := rdThen_ok r1
    clear hm
    cases r2 : rdTimes rdNum n l1 with
    | error c =>
      go_enter Try.func203, Try.ntmps203
      go_wp2_with fail
      refine (upTo_ok hl r1).mono ?_
      rintro e w1 ⟨rfl, c1, z1, k1⟩
      go_wp2_with fail
      refine (RdPost.no (timesI_any p n l1 w1 ⟨c1, z1⟩ hn') r2).mono ?_
      rintro e w2 ⟨rfl, k2⟩
      go_wp2
      unfold bodyPost RdPost
      rw [HR.out, r2]
      exact ⟨rfl, rfl, k1.trans k2⟩
    | ok x2 =>
      obtain ⟨ns, l2⟩ := x2
      go_enter Try.func203, Try.ntmps203
      go_wp2_with fail
      refine (upTo_ok hl r1).mono ?_
      rintro e w1 ⟨rfl, c1, z1, k1⟩
      go_wp2_with fail
      refine (RdPost.ok (timesI_any p n l1 w1 ⟨c1, z1⟩ hn') r2).mono ?_
      rintro e w2 ⟨v, rfl, hv, c2, z2, k2⟩
      go_wp2
      go_ret
      unfold RdPost
      rw [HR.out, r2]
      exact ⟨⟨_, rfl, natsV_mono hv k1.size⟩, ⟨c2, z2⟩, k1.trans k2⟩

set_option maxRecDepth 100000 in
theorem rNodes_any (p : Addr) (l : List UInt8) (w : World) (hl : Left p w l) :
    Calls Try.prog 152 #[.pointer (some p)] w (RdPost p w (rdNums 9 l) (NatsV w.heap.size)) := by
  have H := listI_any p 9 l w hl (by decide)
  cases hr : rdNums 9 l with
  | error c =>
    have H2 := RdPost.no H hr
    clear H
    go_enter Try.func152, Try.ntmps152
    go_wp2_with fail
    refine H2.mono ?_
    rintro e w1 ⟨rfl, k1⟩
    go_wp2
    exact ⟨rfl, rfl, k1⟩
  | ok x =>
    obtain ⟨ns, t⟩ := x
    have H2 := RdPost.ok H hr
    clear H
    go_enter Try.func152, Try.ntmps152
    go_wp2_with fail
    refine H2.mono ?_
    rintro e w1 ⟨v, rfl, hv, c1, z1, k1⟩
    go_wp2
    go_ret
    exact ⟨⟨_, rfl, hv⟩, ⟨c1, z1⟩, k1⟩

/-! ### the document's -/
theorem rdUpTo_err {most : Nat} {l : List UInt8} {c : Int} (h : rdUpTo most l = .error c) : c ≠ 0 := by
  unfold rdUpTo at h
  cases hn : rdNum l with
  | error d => rw [hn] at h; simp only [Except.error.injEq] at h; subst h; exact rdNum_err hn
  | ok x =>
    obtain ⟨n, t⟩ := x
    rw [hn] at h
    simp only at h
    by_cases h1 : n ≤ most
    · rw [if_pos h1] at h; cases h
    · rw [if_neg h1] at h; cases h; decide
theorem rdTimes_err {α : Type} {rd : List UInt8 → Except Int (α × List UInt8)} (hz : NoZero rd) : ∀ n, NoZero (rdTimes rd n)
  | 0 => fun l c h => by cases h
  | n + 1 => fun l c h => by
    unfold rdTimes at h
    cases hr : rd l with
    | error d => rw [hr] at h; cases h; exact hz l c hr
    | ok x =>
      obtain ⟨a, t⟩ := x
      rw [hr] at h
      simp only at h
      cases h2 : rdTimes rd n t with
      | error d => rw [h2] at h; cases h; exact rdTimes_err hz n t c h2
      | ok y => obtain ⟨xs, u⟩ := y; rw [h2] at h; cases h
theorem noZero_nums (most : Nat) : NoZero (rdNums most) := NoZero.then (rd := rdUpTo most) (fun _ _ h => rdUpTo_err h) (fun n => rdTimes_err noZero_num n)

theorem stUpTo_le (most : Nat) (st : Except Int (List UInt8)) : (stRun (rdUpTo most) 0 st).1 ≤ most := by
  cases st with
  | error c => exact Nat.zero_le _
  | ok l =>
    cases hr : rdUpTo most l with
    | error c => rw [stRun_no hr]; exact Nat.zero_le _
    | ok x => obtain ⟨a, t⟩ := x; rw [stRun_ok hr]; exact (rdUpTo_ok hr).1
/-- The first error, as the reader holds it. -/
def stErr (st : Except Int (List UInt8)) : Int := match st with | .ok _ => 0 | .error c => c
theorem RSt.err {b : Nat} {w : World} {st : Except Int (List UInt8)} (h : RSt b w st) : w.cell? ⟨b, 1, none⟩ = some (.int .i64 (stErr st)) := by
  cases st with
  | ok l => exact blk_cell h.2 1
  | error c => exact blk_cell h.2 1
theorem stRun_zero (most : Nat) (st : Except Int (List UInt8)) {c : Int} (h : (stRun (rdUpTo most) 0 st).2 = .error c) : (stRun (rdUpTo most) 0 st).1 = 0 := by
  cases st with
  | error d => rfl
  | ok l =>
    cases hr : rdUpTo most l with
    | error d => rw [stRun_no hr]
    | ok x => obtain ⟨a, t⟩ := x; rw [stRun_ok hr] at h; cases h

/-- How far a reading of so many has come. -/
def Come {α : Type} (rd : List UInt8 → Except Int (α × List UInt8)) (n k : Nat) (s0 : Except Int (List UInt8)) (xs : List α) (st : Except Int (List UInt8)) : Prop :=
  ∀ t, s0 = .ok t → match st with | .ok u => rdTimes rd n t = preT xs (rdTimes rd (n - k) u) | .error e => rdTimes rd n t = .error e
theorem Come.step {α : Type} {rd : List UInt8 → Except Int (α × List UInt8)} {n k : Nat} {s0 : Except Int (List UInt8)} {xs : List α} {u : List UInt8} {a : α} {s2 : Except Int (List UInt8)} (h : Come rd n k s0 xs (.ok u)) (hk : k < n) (hg : GoodV rd (.ok u) a) (hs : s2 = stAfter rd (.ok u)) :
    Come rd n (k + 1) s0 (xs ++ [a]) s2 := by
  subst hs
  intro t ht
  have h1 := h t ht
  simp only at h1
  rw [show n - k = (n - (k + 1)) + 1 by omega] at h1
  cases hr : rd u with
  | error e =>
    have e1 : stAfter rd (.ok u) = .error e := by simp only [stAfter, hr]
    rw [e1]
    exact h1.trans (rdTimes_no hr)
  | ok x =>
    obtain ⟨y, v⟩ := x
    have e1 : stAfter rd (.ok u) = .ok v := by simp only [stAfter, hr]
    rw [e1]
    have := hg u rfl y v hr
    subst this
    exact h1.trans (rdTimes_more hr)
theorem Come.done {α : Type} {rd : List UInt8 → Except Int (α × List UInt8)} {most n k : Nat} {st s0 s1 : Except Int (List UInt8)} {xs : List α} (h : Come rd n k s0 xs s1) (hr : stRun (rdUpTo most) 0 st = (n, s0)) (hs : ∀ c, s0 = .error c → s1 = .error c) (hk : ∀ u, s1 = .ok u → k = n) :
    stAfter (fun l => rdThen (rdUpTo most l) fun n l => rdTimes rd n l) st = s1 ∧ GoodV (fun l => rdThen (rdUpTo most l) fun n l => rdTimes rd n l) st xs := by
  have e1 : stAfter (rdTimes rd n) s0 = s1 := by
    cases s0 with
    | error c => rw [hs c rfl]; rfl
    | ok t =>
      have h1 := h t rfl
      cases s1 with
      | error e => simp only at h1; simp only [stAfter, h1]
      | ok u =>
        simp only [hk u rfl, Nat.sub_self, rdTimes, preT, List.append_nil] at h1
        simp only [stAfter, h1]
  have e2 : GoodV (rdTimes rd n) s0 xs := by
    intro t ht z u hz
    have h1 := h t ht
    cases s1 with
    | error e => simp only at h1; rw [h1] at hz; cases hz
    | ok v =>
      simp only [hk v rfl, Nat.sub_self, rdTimes, preT, List.append_nil] at h1
      rw [h1] at hz
      simp only [Except.ok.injEq, Prod.mk.injEq] at hz
      exact hz.1
  constructor
  · refine (stAfter_then (rdUpTo most) _ 0 st).trans ?_
    rw [hr]
    exact e1
  · refine GoodV_then (rdUpTo most) _ 0 st _ ?_
    rw [hr]
    exact e2

set_option maxRecDepth 100000 in
set_option maxHeartbeats 2000000 in
theorem refRNumbers_any (b most : Nat) (st : Except Int (List UInt8)) (w : World) (h : RSt b w st) (hm : (most : Int) ≤ 1000000) :
    Calls Try.prog 153 #[.pointer (some ⟨b, 0, none⟩), .int .i64 most] w (RefPost b w (rdNums most) st (NatsV w.heap.size)) := by
  obtain ⟨i0, hi, hz0, hz1, hz2⟩ := info_parts Try.infoInt
  have HBL : Hid (b < w.heap.size) := h.lt
  have U := refUpTo_any b most st w h
  have hle := stUpTo_le most st
  have hzero := fun c => stRun_zero most st (c := c)
  obtain ⟨⟨n, s0⟩, hr⟩ : ∃ x, stRun (rdUpTo most) 0 st = x := ⟨_, rfl⟩
  rw [hr] at U hle hzero
  simp only at U hle hzero
  have HR : Hid (stRun (rdUpTo most) 0 st = (n, s0)) := hr
  have HZ : Hid (∀ c, s0 = .error c → n = 0) := hzero
  have hn : (n : Int) ≤ 1000000 := by omega
  clear hr h hm hle hzero
  go_enter Try.func153, Try.ntmps153
  go_wp2_with fail
  refine U.mono ?_
  rintro e w1 ⟨rfl, t1, k1⟩
  have HT1 : Hid (RSt b w1 s0) := t1
  have HK1 : Hid (Kept (One b) w w1) := k1
  clear t1 k1 U
  go_wp2
  go_loopw [6, 7] (fun v i wr => ∃ k : Nat, ∃ xs : List Nat, ∃ s1 : Except Int (List UInt8), ∃ ao c, k ≤ n ∧ i = .int .i64 k ∧ Hid (xs.length = k) ∧ v = .slice ao xs.length c ∧ Hid (OwnNats w.heap.size wr ao c xs) ∧ Hid (Come rdNum n k s0 xs s1) ∧ Hid (∀ c, s0 = .error c → s1 = .error c) ∧ Hid (RSt b wr s1) ∧ Hid (Kept (One b) w wr)) (fun _ i _ => n - (intOf i).toNat)
  case atStart => exact ⟨0, [], s0, none, 0, by omega, rfl, rfl, rfl, World.ownsRow_nil _ _ _ _, by intro t ht; subst ht; exact (preT_nil _).symm, fun c h => h, HT1.out, HK1.out⟩
  case round =>
    obtain ⟨k, xs, s1, ao, c, hk, rfl, HA, rfl, HO, HC, HS, HT, HK⟩ := hrel
    clear HT1 HK1
    have herr := HT.out.err
    by_cases hgo : k < n ∧ ∃ u, s1 = .ok u
    · obtain ⟨hkn, u, rfl⟩ := hgo
      have herr : wr.cell? ⟨b, 1, none⟩ = some (.int .i64 0) := herr
      have N := refNumber_any _ _ _ HT.out
      have hg := GoodV_run rdNum 0 (.ok u)
      have hs := stAfter_run rdNum 0 (.ok u)
      generalize (stRun rdNum 0 (.ok u)).1 = a at N hg
      generalize (stRun rdNum 0 (.ok u)).2 = s2 at N hs
      have HC2 : Hid (Come rdNum n (k + 1) s0 (xs ++ [a]) s2) := HC.out.step hkn hg hs
      have HS2 : Hid (∀ c, s0 = .error c → s2 = .error c) := fun c h => by have := HS.out c h; cases this
      have HLL : Hid (xs.length + 1 ≤ maxLen ∧ (xs.length + 1) * 8 ≤ 140737488355328) := by
        have := HA.out
        constructor
        · unfold maxLen; omega
        · omega
      clear hg hs HC HS HT
      go_wp2_with (first | (go_at_call 112; go_must (refine N.mono ?_); rintro e w' ⟨rfl, hs', hk'⟩; have HR' : Hid (RSt b w' s2) := hs'; have HK' : Hid (Kept (One b) w w') := HK.out.trans hk'; have ho : w'.ownsRow w.heap.size 3 1 (.slice ao xs.length c) xs.length (natCells xs) := own_kept HO.out hk' (fun k cs hb hx => by have := HBL.out; have : k = b := hx; omega); clear hs' hk') | (at_builtin; go_must (refine wpList_append_src _ rfl _ _ 22 22 rfl w.heap.size 3 i0 (.int .i64 0) 1 8 Try.underlying22 hi hz0 hz1 hz2 rfl _ _ _ rfl (ho.alloc _) (.slice (some ⟨w'.heap.size, 0, none⟩) 1 1) 1 [.int .i64 a] rfl (src_int _) HLL.out.1 HLL.out.2 (le_alloc HK'.out.size _) ?_); intro ao' c' w1 ho' hg'; have HR1 : Hid (RSt b w1 s2) := by { have hne : some b ≠ (Value.slice ao xs.length c).ownBlock := (fun e => by have := (ho.lt _ e.symm).1; have := HBL.out; omega); have hlt : b < w'.heap.size := HR'.out.lt; have hb := hg'.block b (by simp; omega) hne; have hb2 := Below.heap_alloc w' (.cells #[.int .i64 a] 3) b hlt; have h3 := HR'.out; revert h3; cases s2 <;> (simp only [RSt]; rw [hb, hb2]; exact id) }; have HK1 : Hid (Kept (One b) w w1) := (HK'.out.alloc _).grown hg' (own_row ho); clear hg'))
      go_roundw
      case rel => exact ⟨k + 1, xs ++ [a], s2, ao', c', by omega, by go_num, by have := HA.out; show (xs ++ [a]).length = k + 1; simp; omega, by rw [List.length_append]; rfl, OwnNats.push ho', HC2, HS2, HR1, HK1.out⟩
      case measure => simp [intOf]; omega
    · have hkk : ∀ u, s1 = .ok u → k = n := fun u hu => Decidable.byContradiction fun hne => hgo ⟨by omega, u, hu⟩
      obtain ⟨hS, hG⟩ := HC.out.done HR.out HS.out hkk
      have HS9 : Hid (stAfter (rdNums most) st = s1) := hS
      have HG9 : Hid (GoodV (rdNums most) st xs) := hG
      have hne : k < n → stErr s1 ≠ 0 := by
        intro hkn
        have h3 := HT.out
        cases s1 with
        | ok u => exact absurd ⟨hkn, u, rfl⟩ hgo
        | error e => exact h3.1
      generalize stErr s1 = ze at herr hne
      clear hS hG hkk hgo HC HS
      by_cases hkn : k < n
      · have hz : (ze == 0) = false := by simpa using hne hkn
        clear hne
        go_wp2
        go_ret
        unfold RefPost
        rw [HS9.out]
        exact ⟨⟨_, xs, rfl, ⟨ao, c, rfl, HO.out⟩, HG9.out⟩, HT.out, HK.out⟩
      · clear hne
        go_wp2
        go_ret
        unfold RefPost
        rw [HS9.out]
        exact ⟨⟨_, xs, rfl, ⟨ao, c, rfl, HO.out⟩, HG9.out⟩, HT.out, HK.out⟩

end Go.Proofs.Ytijklginabipgaa
