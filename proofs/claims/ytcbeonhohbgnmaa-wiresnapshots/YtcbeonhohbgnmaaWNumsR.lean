/-
  GetNumbers and PutNumbers; and the document's: the same plain answers. Two rows held against each other.
  PutNumbers, and the document's; what is written of numbers is read again.
-/
import Derived.Test.YtcbeonhohbgnmaaWGetN
import Derived.BigQuiet
namespace Go.Proofs.Ytcbeonhohbgnmaa
open Go.RowKit

def getNums (n : Nat) (l : List UInt8) : List Nat × Int :=
  match rdTimes rdNum n l with
  | .ok (ns, []) => (ns, 0)
  | .ok (_, _ :: _) => ([], 1)
  | .error c => ([], c)
theorem getNums_err {n : Nat} {l : List UInt8} {c : Int} (h : rdTimes rdNum n l = .error c) : getNums n l = ([], c) := by simp [getNums, h]
theorem getNums_ok {n : Nat} {l : List UInt8} {ns : List Nat} (h : rdTimes rdNum n l = .ok (ns, [])) : getNums n l = (ns, 0) := by simp [getNums, h]
theorem getNums_left {n : Nat} {l : List UInt8} {ns : List Nat} {y : UInt8} {t : List UInt8} (h : rdTimes rdNum n l = .ok (ns, y :: t)) : getNums n l = ([], 1) := by simp [getNums, h]

/-- What is handed out: a row of its own, and the error. -/
def NumsPost (g : List Nat × Int) (w : World) (e : Ending) (w' : World) : Prop := ∃ ao c, e = .returned (.tuple #[.slice ao g.1.length c, .int .i64 g.2]) ∧ OwnNats w.heap.size w' ao c g.1 ∧ Kept Nil w w'

theorem readN_any (B n : Nat) (l : List UInt8) (w : World) (hn : (n : Int) ≤ 1000000) (hB : w.heap[B]? = some (.cells #[.int .i64 n] 3 (0, 0))) :
    Calls Try.prog 93 #[.string (bs l), .func (.func 94) #[] #[.pointer (some ⟨B, 0, none⟩)]] w (NumsPost (getNums n l) w) := by
  cases hr : rdTimes rdNum n l with
  | error c =>
    rw [getNums_err hr]
    refine (readN_err l c w hn hB hr).mono ?_
    rintro e w' ⟨rfl, hk⟩
    exact ⟨none, 0, rfl, World.ownsRow_nil _ _ _ _, hk⟩
  | ok x =>
    obtain ⟨ns, t⟩ := x
    cases t with
    | nil =>
      rw [getNums_ok hr]
      exact readN_ok l ns w hn hB hr
    | cons y t =>
      rw [getNums_left hr]
      refine (readN_left l ns y t w hn hB hr).mono ?_
      rintro e w' ⟨rfl, hk⟩
      exact ⟨none, 0, rfl, World.ownsRow_nil _ _ _ _, hk⟩

set_option maxRecDepth 100000 in
theorem getNumbers_any (n : Nat) (l : List UInt8) (w : World) (hn : (n : Int) ≤ 1000000) :
    Calls Try.prog 21 #[.string (bs l), .int .i64 n] w (NumsPost (getNums n l) w) := by
  have hmf : ∀ (fn : Fn) (first cap : Array Value) (w : World), (Instr.makeFunc fn first cap).run Try.prog w = .ok (.func fn first cap) w := fun _ _ _ _ => rfl
  have H := readN_any w.heap.size n l _ hn (blk_new w (.cells #[.int .i64 n] 3))
  generalize getNums n l = g at H ⊢
  clear hn
  go_enter Try.func21, Try.ntmps21
  go_wp2_with fail
  refine H.mono ?_
  rintro e w1 ⟨ao, c, rfl, ho, hk⟩
  have HO : Hid (OwnNats w.heap.size w1 ao c g.1) := own_mono ho (by simp)
  have HK : Hid (Kept Nil w w1) := ((Kept.refl _ _).alloc _).trans hk
  clear ho hk
  go_wp2
  go_ret2
  exact ⟨ao, c, rfl, HO.out, HK.out⟩

/-! ### the document's -/
set_option maxRecDepth 100000 in
set_option maxHeartbeats 1000000 in
theorem refGetNumbers_any (n : Nat) (l : List UInt8) (w : World) (hn : (n : Int) ≤ 1000000) (hlen : l.length ≤ maxLen) :
    Calls Try.prog 25 #[.string (bs l), .int .i64 n] w (NumsPost (getNums n l) w) := by
  obtain ⟨i0, hi, hz0, hz1, hz2⟩ := info_parts Try.infoInt
  have hR := rst_new w l hlen
  clear hlen
  go_enter Try.func25, Try.ntmps25
  go_wp2
  go_loopw [7, 8] (fun v i wr => ∃ k : Nat, ∃ xs : List Nat, ∃ st : Except Int (List UInt8), ∃ ao c, k ≤ n ∧ i = .int .i64 k ∧ Hid (xs.length = k) ∧ v = .slice ao xs.length c ∧ Hid (OwnNats (w.heap.size + 1) wr ao c xs) ∧
    Hid (match st with | .ok t => rdTimes rdNum n l = preT xs (rdTimes rdNum (n - k) t) | .error e => rdTimes rdNum n l = .error e) ∧ Hid (RSt w.heap.size wr st) ∧ Hid (Kept (One w.heap.size) (w.alloc (.cells #[.string (bs l), .int .i64 0] 141)) wr)) (fun _ i _ => n - (intOf i).toNat)
  case atStart => exact ⟨0, [], .ok l, none, 0, by omega, rfl, rfl, rfl, World.ownsRow_nil _ _ _ _, (preT_nil _).symm, hR, Kept.refl _ _⟩
  case round =>
    obtain ⟨k, xs, st, ao, c, hk, rfl, HA, rfl, HO, HE, HR, HK⟩ := hrel
    clear hR
    by_cases hkn : k < n
    · have HE2 : Hid (match (stRun rdNum 0 st).2 with | .ok t => rdTimes rdNum n l = preT (xs ++ [(stRun rdNum 0 st).1]) (rdTimes rdNum (n - (k + 1)) t) | .error e => rdTimes rdNum n l = .error e) := by
        have h := HE.out
        cases st with
        | error e => exact h
        | ok t =>
          simp only at h
          rw [show n - k = (n - (k + 1)) + 1 by omega] at h
          show match (stRun rdNum 0 (.ok t)).2 with | .ok t => _ | .error e => _
          cases hr : rdNum t with
          | error e => rw [stRun_no hr]; exact h.trans (rdTimes_no hr)
          | ok x => obtain ⟨a, u⟩ := x; rw [stRun_ok hr]; exact h.trans (rdTimes_more hr)
      have N := refNumber_any _ _ _ HR.out
      have HLL : Hid (xs.length + 1 ≤ maxLen ∧ (xs.length + 1) * 8 ≤ 140737488355328) := by
        have := HA.out
        constructor
        · unfold maxLen; omega
        · omega
      generalize (stRun rdNum 0 st).1 = a at N HE2
      generalize (stRun rdNum 0 st).2 = st2 at N HE2
      clear HE HR
      go_wp2_with (first | (go_at_call 99; go_must (refine N.mono ?_); rintro e w' ⟨rfl, hs', hk'⟩; have HR' : Hid (RSt w.heap.size w' st2) := hs'; have HK' : Hid _ := HK.out.trans hk'; have ho : w'.ownsRow (w.heap.size + 1) 3 1 (.slice ao xs.length c) xs.length (natCells xs) := own_kept HO.out hk' (fun k cs hb hx => by have : k = w.heap.size := hx; omega); clear hs' hk') | (at_builtin; go_must (refine wpList_append_src _ rfl _ _ 31 31 rfl (w.heap.size + 1) 3 i0 (.int .i64 0) 1 8 Try.underlying31 hi hz0 hz1 hz2 rfl _ _ _ rfl (ho.alloc _) (.slice (some ⟨w'.heap.size, 0, none⟩) 1 1) 1 [.int .i64 a] rfl (src_int _) HLL.out.1 HLL.out.2 (le_alloc (by have := HK'.out.size; simpa using this) _) ?_); intro ao' c' w1 ho' hg'; have HR1 : Hid (RSt w.heap.size w1 st2) := by { have hne : some w.heap.size ≠ (Value.slice ao xs.length c).ownBlock := (fun e => by have := (ho.lt _ e.symm).1; omega); have hlt : w.heap.size < w'.heap.size := (by have := HK'.out.size; simp at this; omega); have hb := hg'.block w.heap.size (by simp; omega) hne; have hb2 := Below.heap_alloc w' (.cells #[.int .i64 a] 3) w.heap.size hlt; have h3 := HR'.out; revert h3; cases st2 <;> (simp only [RSt]; rw [hb, hb2]; exact id) }; have HK1 : Hid _ := (HK'.out.alloc _).grown hg' (fun k e => by have := own_row ho k e; simp; omega); clear hg'))
      go_roundw
      case rel => exact ⟨k + 1, xs ++ [a], st2, ao', c', by omega, by go_num, by have := HA.out; show (xs ++ [a]).length = k + 1; simp; omega, by rw [List.length_append]; rfl, OwnNats.push ho', HE2, HR1, HK1.out⟩
      case measure => simp [intOf]; omega
    · have E := refEnd_any _ _ _ HR.out
      have HKN : Hid (∀ w', Kept (One w.heap.size) wr w' → Kept Nil w w') := fun w' h => (HK.out.trans h).newOne
      have HG : Hid (getNums n l = if stEnd st = 0 then (xs, 0) else ([], stEnd st)) := by
        show getNums n l = _
        have h := HE.out
        have h2 := HR.out
        cases st with
        | error e =>
          have hc : e ≠ 0 := h2.1
          rw [getNums_err h]
          show _ = if e = 0 then _ else _
          rw [if_neg hc]
          rfl
        | ok t =>
          simp only [show n - k = 0 by omega, rdTimes, preT, List.append_nil] at h
          cases t with
          | nil => rw [getNums_ok h]; rfl
          | cons y t => rw [getNums_left h]; rfl
      have HW : Hid (∀ w', Kept (One w.heap.size) wr w' → OwnNats w.heap.size w' ao c xs) := fun w' h => own_mono (own_kept HO.out h (fun k cs hb hx => by have : k = w.heap.size := hx; omega)) (by omega)
      generalize stEnd st = z at E HG
      clear HE HR HK HO
      by_cases hz : z = 0
      · subst hz
        have HG2 : Hid (getNums n l = (xs, 0)) := HG.out.trans (if_pos rfl)
        clear HG
        go_wp2_with (first | (go_at_call 100; go_must (refine E.mono ?_); rintro e w' ⟨rfl, hk'⟩))
        go_ret2
        rw [HG2.out]
        exact ⟨ao, c, rfl, HW.out _ hk', HKN.out _ hk'⟩
      · have HG2 : Hid (getNums n l = ([], z)) := HG.out.trans (if_neg hz)
        have hz' : (z != 0) = true := by simpa using hz
        clear HG hz
        go_wp2_with (first | (go_at_call 100; go_must (refine E.mono ?_); rintro e w' ⟨rfl, hk'⟩))
        go_ret2
        rw [HG2.out]
        exact ⟨none, 0, rfl, World.ownsRow_nil _ _ _ _, HKN.out _ hk'⟩

/-! ### rows, read -/
theorem OwnNats.shape {B : Nat} {w : World} {ao : Option Addr} {c : Nat} {ns : List Nat} (h : OwnNats B w ao c ns) (hn : ns ≠ []) :
    ∃ g, B ≤ g ∧ ao = some ⟨g, 0, none⟩ ∧ (∃ cs, w.heap[g]? = some (.cells cs 3 (0, 0))) ∧ ∀ j, (hj : j < ns.length) → w.cell? ⟨g, j, none⟩ = some (.int .i64 (ns[j] : Nat)) := by
  have h' := h
  rcases h.2 with ⟨_, h0⟩ | ⟨g, cap, cur, hv, hB, hg, _⟩
  · exact absurd (List.eq_nil_of_length_eq_zero h0) hn
  · simp only [Value.slice.injEq, true_and] at hv
    obtain ⟨rfl, rfl⟩ := hv
    refine ⟨g, hB, rfl, ⟨cur, hg⟩, fun j hj => ?_⟩
    rw [World.ownsRow.cellAt h' j (by omega)]
    simp [natCells, hj]
theorem OwnNats.empty {B : Nat} {w : World} {ao : Option Addr} {c : Nat} (_ : OwnNats B w ao c []) : True := trivial

set_option maxRecDepth 100000 in
set_option maxHeartbeats 1000000 in
theorem sameInts_any (B1 B2 : Nat) (a1 a2 : Option Addr) (c1 c2 : Nat) (ns ms : List Nat) (w : World) (h1 : OwnNats B1 w a1 c1 ns) (h2 : OwnNats B2 w a2 c2 ms) (hl1 : (ns.length : Int) ≤ 1000000) (hl2 : (ms.length : Int) ≤ 1000000) :
    Calls Try.prog 24 #[.slice a1 ns.length c1, .slice a2 ms.length c2] w fun e w' => e = .returned (.bool (decide (ns = ms))) ∧ Kept Nil w w' := by
  by_cases hlen : ns.length = ms.length
  · by_cases hnil : ns = []
    · subst hnil
      obtain rfl : ms = [] := List.eq_nil_of_length_eq_zero (by simpa using hlen.symm)
      clear h1 h2
      go_enter Try.func24, Try.ntmps24
      go_wp2
      refine wp_loop_rounds 1 ?_
      rw [rounds_succ]
      go_wp2
      go_ret
      exact ⟨rfl, Kept.refl _ _⟩
    · obtain ⟨g1, _, rfl, _, hc1⟩ := h1.shape hnil
      obtain ⟨g2, _, rfl, _, hc2⟩ := h2.shape (fun e => hnil (by subst e; exact List.eq_nil_of_length_eq_zero hlen))
      have H1 : Hid (∀ j, (hj : j < ns.length) → w.cell? ⟨g1, j, none⟩ = some (.int .i64 (ns[j] : Nat))) := hc1
      have H2 : Hid (∀ j, (hj : j < ms.length) → w.cell? ⟨g2, j, none⟩ = some (.int .i64 (ms[j] : Nat))) := hc2
      clear h1 h2 hc1 hc2 hnil
      have hl : (ns.length : Int) = ms.length := by omega
      go_enter Try.func24, Try.ntmps24
      go_wp2
      go_loopw [5] (fun i wr => ∃ k : Nat, k ≤ ns.length ∧ i = .int .i64 k ∧ Hid (ns.take k = ms.take k) ∧ Below w.heap.size w wr) (fun i _ => ns.length - (intOf i).toNat)
      case atStart => exact ⟨0, Nat.zero_le _, rfl, rfl, Below.refl _ _⟩
      case round =>
        obtain ⟨k, hk, rfl, HT, hwr⟩ := hrel
        by_cases hlt : k < ns.length
        · have hlt2 : k < ms.length := by omega
          have e1 : wr.cell? ⟨g1, k, none⟩ = some (.int .i64 (ns[k] : Nat)) := by
            have := H1.out k hlt
            rw [World.cell?_of_block (hwr.block g1 (cell_lt this)), this]
          have e2 : wr.cell? ⟨g2, k, none⟩ = some (.int .i64 (ms[k] : Nat)) := by
            have := H2.out k hlt2
            rw [World.cell?_of_block (hwr.block g2 (cell_lt this)), this]
          have HX : Hid (ns[k] = ms[k] → ns.take (k + 1) = ms.take (k + 1)) := fun h => by
            rw [List.take_succ_eq_append_getElem hlt, List.take_succ_eq_append_getElem hlt2, HT.out, h]
          have HY : Hid (ns[k] ≠ ms[k] → ns ≠ ms) := fun h e => by subst e; exact h rfl
          generalize ns[k] = x at e1 HX HY
          generalize ms[k] = y at e2 HX HY
          by_cases hxy : x = y
          · subst hxy
            have HT2 : Hid _ := HX.out rfl
            clear HX HY
            go_wp2
            go_region
            go_wp2
            go_roundw
            case rel => exact ⟨k + 1, by omega, by go_num, HT2, hwr.drew⟩
            case measure => simp [intOf]; omega
          · have HN : Hid (decide (ns = ms) = false) := decide_eq_false (HY.out hxy)
            have hxy' : ((x : Int) != (y : Int)) = true := by simp; omega
            clear HX HY
            go_wp2
            go_region
            go_wp2
            go_ret
            rw [HN.out]
            exact ⟨rfl, Kept.ofBelow hwr.drew _⟩
        · have HN : Hid (decide (ns = ms) = true) := by
            refine decide_eq_true ?_
            have := HT.out
            rwa [List.take_of_length_le (by omega), List.take_of_length_le (by omega)] at this
          go_wp2
          go_ret
          rw [HN.out]
          exact ⟨rfl, Kept.ofBelow hwr _⟩
  · have HN : Hid (decide (ns = ms) = false) := decide_eq_false (fun e => hlen (by rw [e]))
    have hl : ((ns.length : Int) != (ms.length : Int)) = true := by simp; omega
    clear h1 h2 hlen
    go_enter Try.func24, Try.ntmps24
    go_wp2
    go_ret
    rw [HN.out]
    exact ⟨rfl, Kept.refl _ _⟩

end Go.Proofs.Ytcbeonhohbgnmaa

namespace Go.Proofs.Ytcbeonhohbgnmaa
open Go.RowKit

theorem rdTimes_enc : ∀ (ns : List Nat) (t : List UInt8), (∀ n ∈ ns, n ≤ maxNum) → rdTimes rdNum ns.length (encAll ns ++ t) = .ok (ns, t)
  | [], t, _ => rfl
  | n :: ns, t, h => by
    have e : encAll (n :: ns) ++ t = enc n ++ (encAll ns ++ t) := by simp [encAll]
    rw [e, List.length_cons]
    unfold rdTimes
    rw [rdNum_enc (h n (by simp))]
    simp only
    rw [rdTimes_enc ns t (fun m hm => h m (by simp [hm]))]

theorem own_ints {B : Nat} {w : World} {ao : Option Addr} {c : Nat} {ns : List Nat} (h : OwnNats B w ao c ns) (hn : ns ≠ []) :
    ∃ g cs, B ≤ g ∧ ao = some ⟨g, 0, none⟩ ∧ w.heap[g]? = some (.cells cs 3 (0, 0)) ∧ IntsAt w g (intsOf ns) := by
  obtain ⟨g, hB, rfl, ⟨cs, hg⟩, hc⟩ := h.shape hn
  refine ⟨g, cs, hB, rfl, hg, fun j hj => ?_⟩
  have hj' : j < ns.length := by simpa [intsOf] using hj
  rw [hc j hj']
  simp [intsOf, List.getD_eq_getElem?_getD, hj']

theorem wNumbers_nil (p : Addr) (ao : Option Addr) (c : Nat) (w : World) :
    Calls Try.prog 98 #[.pointer (some p), .slice ao 0 c] w fun e w' => e = .returned (.tuple #[]) ∧ w' = w := by
  go_enter Try.func98, Try.ntmps98
  go_wp2
  refine wp_loop_rounds 1 ?_
  rw [rounds_succ]
  go_wp2
  go_end0
  exact ⟨rfl, rfl⟩

/-- Numbers written out of a row, whatever it is. -/
theorem wNumbers_own (b B c : Nat) (ao : Option Addr) (ns : List Nat) (l : List UInt8) (w : World) (h : WInv b w l) (ho : OwnNats B w ao c ns) (hb : ∀ g, ao = some ⟨g, 0, none⟩ → g ≠ b)
    (hn : ∀ n ∈ ns, n ≤ 1099511627775) (hnl : ns.length ≤ 10000000) (hl : l.length ≤ 100000000000) :
    Calls Try.prog 98 #[.pointer (some ⟨b, 0, none⟩), .slice ao ns.length c] w fun e w' => e = .returned (.tuple #[]) ∧ WInv b w' (l ++ encAll ns) ∧ Kept (Wr b) w w' := by
  by_cases hnil : ns = []
  · subst hnil
    refine (wNumbers_nil _ ao c w).mono ?_
    rintro e w' ⟨rfl, rfl⟩
    exact ⟨rfl, by simpa [encAll] using h, .refl _ _⟩
  · obtain ⟨g, cs, _, rfl, hg, hi⟩ := own_ints ho hnil
    exact wNumbers_any b g c cs _ ns l w h hg (hb g rfl) hi hn hnl hl

theorem own_ne {B c : Nat} {w : World} {ao : Option Addr} {ns : List Nat} {b : Nat} (ho : OwnNats B w ao c ns) (hb : w.heap.size ≤ b) : ∀ g, ao = some ⟨g, 0, none⟩ → g ≠ b := by
  intro g hg
  have := (ho.lt g (by rw [hg]; rfl)).2
  omega

set_option maxRecDepth 100000 in
theorem putNumbers_any (B c : Nat) (ao : Option Addr) (ns : List Nat) (w : World) (ho : OwnNats B w ao c ns) (hn : ∀ n ∈ ns, n ≤ 1099511627775) (hnl : ns.length ≤ 1000000) :
    Calls Try.prog 23 #[.slice ao ns.length c] w fun e w' => e = .returned (.string (bs (encAll ns))) ∧ Kept Nil w w' := by
  have H := wNumbers_own w.heap.size B c ao ns [] _ (winv_new w) (ho.alloc _) (own_ne ho (Nat.le_refl _)) hn (by omega) (by simp)
  simp only [List.nil_append] at H
  clear ho hn hnl
  go_enter Try.func23, Try.ntmps23
  go_wp2_with (first | (go_at_call 98; go_must (refine H.mono ?_); rintro e w1 ⟨rfl, ⟨ao', c', hb, ho⟩, hk⟩; have h0 : w1.cell? ⟨w.heap.size, 0, none⟩ = some (.slice ao' (encAll ns).length c') := blk_cell hb 0; have hcv := conv_own ho))
  go_ret
  exact ⟨rfl, hk.newWr⟩

theorem encAll_snoc (ns : List Nat) (n : Nat) : encAll (ns ++ [n]) = encAll ns ++ enc n := by simp [encAll]

set_option maxRecDepth 100000 in
set_option maxHeartbeats 1000000 in
theorem refPutNumbers_any (B c : Nat) (ao : Option Addr) (ns : List Nat) (w : World) (ho : OwnNats B w ao c ns) (hn : ∀ n ∈ ns, n ≤ 1099511627775) (hnl : ns.length ≤ 1000000) :
    Calls Try.prog 22 #[.slice ao ns.length c] w fun e w' => e = .returned (.string (bs (encAll ns))) ∧ Kept Nil w w' := by
  have HN : Hid (∀ n ∈ ns, n ≤ 1099511627775) := hn
  have hnl' : (ns.length : Int) ≤ 1000000 := by omega
  have HO : Hid (OwnNats B w ao c ns) := ho
  have hap := bs_append
  clear hn ho hnl
  go_enter Try.func22, Try.ntmps22
  go_wp2
  go_loopw [3, 4] (fun s i wr => ∃ k : Nat, k ≤ ns.length ∧ i = .int .i64 k ∧ s = .string (bs (encAll (ns.take k))) ∧ Hid (Kept Nil w wr)) (fun _ i _ => ns.length - (intOf i).toNat)
  case atStart => exact ⟨0, Nat.zero_le _, rfl, rfl, Kept.refl _ _⟩
  case round =>
    obtain ⟨k, hk, rfl, rfl, HK⟩ := hrel
    by_cases hlt : k < ns.length
    · obtain ⟨g, _, rfl, ⟨cs, hg⟩, hc⟩ := HO.out.shape (fun e => by subst e; simp at hlt)
      have hcell : wr.cell? ⟨g, k, none⟩ = some (.int .i64 (ns[k] : Nat)) := by rw [HK.out.cell hg (fun x => x.elim), hc k hlt]
      have HE : Hid (encAll (ns.take k) ++ enc ns[k] = encAll (ns.take (k + 1))) := by
        show _ = _
        rw [List.take_succ_eq_append_getElem hlt, encAll_snoc]
      have hle := HN.out ns[k] (List.getElem_mem hlt)
      have hz1 : (bs (encAll (ns.take k))).size ≤ 6000000 := by
        rw [bs_size]
        have := encAll_len (ns.take k) (fun n hn => HN.out n (List.mem_of_mem_take hn))
        simp only [List.length_take] at this
        omega
      have hz2 : (bs (enc ns[k])).size ≤ 6 := by rw [bs_size]; exact enc_len6 hle
      have H := refNum_any ns[k] hle
      generalize ns[k] = x at hcell HE hle hz2 H
      have hle' : (x : Int) ≤ 1099511627775 := by omega
      clear hc hg hle HO
      generalize encAll (ns.take k) = s at HE hz1
      go_wp2_with (first | (go_at_call 97; go_must (refine (H _).mono ?_); rintro e w' ⟨rfl, hk'⟩; have HK' : Hid _ := HK.out.trans hk'; clear hk'))
      go_roundw
      case rel => exact ⟨k + 1, by omega, by go_num, by rw [← HE.out, ← bs_append], HK'.out⟩
      case measure => simp [intOf]; omega
    · rw [List.take_of_length_le (by omega)]
      go_wp2
      go_ret
      exact ⟨rfl, HK.out⟩

theorem src_own {B c : Nat} {w : World} {ao : Option Addr} {ns : List Nat} (h : OwnNats B w ao c ns) : Src Try.prog 1 31 (.slice ao ns.length c) ns.length (natCells ns) w := by
  by_cases hn : ns = []
  · subst hn
    rcases h.2 with ⟨hv, _⟩ | ⟨g, cap, cur, hv, _⟩
    · simp only [List.length_nil, Value.slice.injEq, true_and] at hv
      obtain ⟨rfl, rfl⟩ := hv
      exact Src.ofNil w Try.underlying31 0
    · simp only [Value.slice.injEq, true_and] at hv
      obtain ⟨rfl, rfl⟩ := hv
      exact Src.ofSlice w Try.underlying31 _ 0 c [] rfl (fun j u hj => by simp at hj) (fun u hu => by cases hu)
  · obtain ⟨g, _, rfl, _, hc⟩ := h.shape hn
    refine Src.ofSlice w Try.underlying31 _ ns.length c (natCells ns) (by simp [natCells]) ?_ ?_
    · intro j u hj
      have hj' : j < ns.length := by
        have := (List.getElem?_eq_some_iff.1 hj).1
        simpa [natCells] using this
      have e : (⟨g, 0, none⟩ : Addr).add j = ⟨g, j, none⟩ := by unfold Addr.add; split <;> simp_all
      rw [e, hc j hj']
      simpa [natCells, hj'] using hj
    · intro u hu
      obtain ⟨_, _, rfl⟩ := List.mem_map.1 hu
      rfl

/-- What the law makes of any number. -/
def small (z : Int) : Nat := (z.tmod 1099511627776).natAbs
theorem small_le (z : Int) : small z ≤ 1099511627775 := by
  unfold small
  rw [Int.natAbs_tmod]
  have : z.natAbs % (1099511627776 : Int).natAbs < (1099511627776 : Int).natAbs := Nat.mod_lt _ (by decide)
  have e : (1099511627776 : Int).natAbs = 1099511627776 := by decide
  omega
theorem small_pos {z : Int} (h : ¬ z.tmod 1099511627776 < 0) : z.tmod 1099511627776 = (small z : Nat) := by unfold small; omega
theorem small_neg {z : Int} (h : z.tmod 1099511627776 < 0) : -z.tmod 1099511627776 = (small z : Nat) := by unfold small; omega

theorem known_nums : getNums 2 [172, 2, 0] = ([300, 0], 0) := by
  refine getNums_ok ?_
  have e : encAll [300, 0] ++ [] = [172, 2, 0] := by
    simp only [encAll, List.flatMap_cons, List.flatMap_nil, List.append_nil]
    rw [enc_big (by decide), enc_small (n := 300 / 128) (by decide), enc_small (n := 0) (by decide)]
    rfl
  rw [← e]
  exact rdTimes_enc [300, 0] [] (by decide)

end Go.Proofs.Ytcbeonhohbgnmaa
