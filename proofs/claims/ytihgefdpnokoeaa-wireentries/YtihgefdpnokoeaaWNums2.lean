/-
  GetNumbers and PutNumbers; and the document's: the same plain answers. Two rows held against each other.
-/
import Derived.Test.YtihgefdpnokoeaaWGetN
import Derived.BigQuiet
namespace Go.Proofs.Ytihgefdpnokoeaa
open Go.RowKit

def getNums (n : Nat) (l : List UInt8) : List Nat × Int :=
  match rdTimes rdNum n l with
  | .ok (ns, []) => (ns, 0)
  | .ok (_, _ :: _) => ([], 1)
  | .error c => ([], c)
theorem getNums_err {n : Nat} {l : List UInt8} {c : Int} (h : rdTimes rdNum n l = .error c) : getNums n l = ([], c) := by simp [getNums, h]
theorem getNums_ok {n : Nat} {l : List UInt8} {ns : List Nat} (h : rdTimes rdNum n l = .ok (ns, [])) : getNums n l = (ns, 0) := by simp [getNums, h]
theorem getNums_left {n : Nat} {l : List UInt8} {ns : List Nat} {y : UInt8} {t : List UInt8} (h : rdTimes rdNum n l = .ok (ns, y :: t)) : getNums n l = ([], 1) := by simp [getNums, h]

/-- What is handed out: a row of its own, and the error. -/
def NumsPost (g : List Nat × Int) (w : World) (e : Ending) (w' : World) : Prop := ∃ ao c, e = .returned (.tuple #[.slice ao g.1.length c, .int .i64 g.2]) ∧ OwnNats w.heap.size w' ao c g.1 ∧ Kept Nil w w'

theorem readN_any (B n : Nat) (l : List UInt8) (w : World) (hn : (n : Int) ≤ 1000000) (hB : w.heap[B]? = some (.cells #[.int .i64 n] 3 (0, 0))) :
    Calls Try.prog 59 #[.string (bs l), .func (.func 60) #[] #[.pointer (some ⟨B, 0, none⟩)]] w (NumsPost (getNums n l) w) := by
  cases hr : rdTimes rdNum n l with
  | error c =>
    rw [getNums_err hr]
    refine (readN_err l c w hn hB hr).mono ?_
    rintro e w' ⟨rfl, hk⟩
    exact ⟨none, 0, rfl, World.ownsRow_nil _ _ _ _, hk⟩
  | ok x =>
    obtain ⟨ns, t⟩ := x
    cases t with
    | nil =>
      rw [getNums_ok hr]
      exact readN_ok l ns w hn hB hr
    | cons y t =>
      rw [getNums_left hr]
      refine (readN_left l ns y t w hn hB hr).mono ?_
      rintro e w' ⟨rfl, hk⟩
      exact ⟨none, 0, rfl, World.ownsRow_nil _ _ _ _, hk⟩

set_option maxRecDepth 100000 in
theorem getNumbers_any (n : Nat) (l : List UInt8) (w : World) (hn : (n : Int) ≤ 1000000) :
    Calls Try.prog 16 #[.string (bs l), .int .i64 n] w (NumsPost (getNums n l) w) := by
  have hmf : ∀ (fn : Fn) (first cap : Array Value) (w : World), (Instr.makeFunc fn first cap).run Try.prog w = .ok (.func fn first cap) w := fun _ _ _ _ => rfl
  have H := readN_any w.heap.size n l _ hn (blk_new w (.cells #[.int .i64 n] 3))
  generalize getNums n l = g at H ⊢
  clear hn
  go_enter Try.func16, Try.ntmps16
  go_wp2_with fail
  refine H.mono ?_
  rintro e w1 ⟨ao, c, rfl, ho, hk⟩
  have HO : Hid (OwnNats w.heap.size w1 ao c g.1) := own_mono ho (by simp)
  have HK : Hid (Kept Nil w w1) := ((Kept.refl _ _).alloc _).trans hk
  clear ho hk
  go_wp2
  go_ret2
  exact ⟨ao, c, rfl, HO.out, HK.out⟩

/-! ### the document's -/
set_option maxRecDepth 100000 in
set_option maxHeartbeats 1000000 in
theorem refGetNumbers_any (n : Nat) (l : List UInt8) (w : World) (hn : (n : Int) ≤ 1000000) (hlen : l.length ≤ maxLen) :
    Calls Try.prog 20 #[.string (bs l), .int .i64 n] w (NumsPost (getNums n l) w) := by
  obtain ⟨i0, hi, hz0, hz1, hz2⟩ := info_parts Try.infoInt
  have hR := rst_new w l hlen
  clear hlen
  go_enter Try.func20, Try.ntmps20
  go_wp2
  go_loopw [7, 8] (fun v i wr => ∃ k : Nat, ∃ xs : List Nat, ∃ st : Except Int (List UInt8), ∃ ao c, k ≤ n ∧ i = .int .i64 k ∧ Hid (xs.length = k) ∧ v = .slice ao xs.length c ∧ Hid (OwnNats (w.heap.size + 1) wr ao c xs) ∧
    Hid (match st with | .ok t => rdTimes rdNum n l = preT xs (rdTimes rdNum (n - k) t) | .error e => rdTimes rdNum n l = .error e) ∧ Hid (RSt w.heap.size wr st) ∧ Hid (Kept (One w.heap.size) (w.alloc (.cells #[.string (bs l), .int .i64 0] 103)) wr)) (fun _ i _ => n - (intOf i).toNat)
  case atStart => exact ⟨0, [], .ok l, none, 0, by omega, rfl, rfl, rfl, World.ownsRow_nil _ _ _ _, (preT_nil _).symm, hR, Kept.refl _ _⟩
  case round =>
    obtain ⟨k, xs, st, ao, c, hk, rfl, HA, rfl, HO, HE, HR, HK⟩ := hrel
    clear hR
    by_cases hkn : k < n
    · have HE2 : Hid (match (stRun rdNum 0 st).2 with | .ok t => rdTimes rdNum n l = preT (xs ++ [(stRun rdNum 0 st).1]) (rdTimes rdNum (n - (k + 1)) t) | .error e => rdTimes rdNum n l = .error e) := by
        have h := HE.out
        cases st with
        | error e => exact h
        | ok t =>
          simp only at h
          rw [show n - k = (n - (k + 1)) + 1 by omega] at h
          show match (stRun rdNum 0 (.ok t)).2 with | .ok t => _ | .error e => _
          cases hr : rdNum t with
          | error e => rw [stRun_no hr]; exact h.trans (rdTimes_no hr)
          | ok x => obtain ⟨a, u⟩ := x; rw [stRun_ok hr]; exact h.trans (rdTimes_more hr)
      have N := refNumber_any _ _ _ HR.out
      have HLL : Hid (xs.length + 1 ≤ maxLen ∧ (xs.length + 1) * 8 ≤ 140737488355328) := by
        have := HA.out
        constructor
        · unfold maxLen; omega
        · omega
      generalize (stRun rdNum 0 st).1 = a at N HE2
      generalize (stRun rdNum 0 st).2 = st2 at N HE2
      clear HE HR
      go_wp2_with (first | (go_at_call 65; go_must (refine N.mono ?_); rintro e w' ⟨rfl, hs', hk'⟩; have HR' : Hid (RSt w.heap.size w' st2) := hs'; have HK' : Hid _ := HK.out.trans hk'; have ho : w'.ownsRow (w.heap.size + 1) 3 1 (.slice ao xs.length c) xs.length (natCells xs) := own_kept HO.out hk' (fun k cs hb hx => by have : k = w.heap.size := hx; omega); clear hs' hk') | (at_builtin; go_must (refine wpList_append_src _ rfl _ _ 31 31 rfl (w.heap.size + 1) 3 i0 (.int .i64 0) 1 8 Try.underlying31 hi hz0 hz1 hz2 rfl _ _ _ rfl (ho.alloc _) (.slice (some ⟨w'.heap.size, 0, none⟩) 1 1) 1 [.int .i64 a] rfl (src_int _) HLL.out.1 HLL.out.2 (le_alloc (by have := HK'.out.size; simpa using this) _) ?_); intro ao' c' w1 ho' hg'; have HR1 : Hid (RSt w.heap.size w1 st2) := by { have hne : some w.heap.size ≠ (Value.slice ao xs.length c).ownBlock := (fun e => by have := (ho.lt _ e.symm).1; omega); have hlt : w.heap.size < w'.heap.size := (by have := HK'.out.size; simp at this; omega); have hb := hg'.block w.heap.size (by simp; omega) hne; have hb2 := Below.heap_alloc w' (.cells #[.int .i64 a] 3) w.heap.size hlt; have h3 := HR'.out; revert h3; cases st2 <;> (simp only [RSt]; rw [hb, hb2]; exact id) }; have HK1 : Hid _ := (HK'.out.alloc _).grown hg' (fun k e => by have := own_row ho k e; simp; omega); clear hg'))
      go_roundw
      case rel => exact ⟨k + 1, xs ++ [a], st2, ao', c', by omega, by go_num, by have := HA.out; show (xs ++ [a]).length = k + 1; simp; omega, by rw [List.length_append]; rfl, OwnNats.push ho', HE2, HR1, HK1.out⟩
      case measure => simp [intOf]; omega
    · have E := refEnd_any _ _ _ HR.out
      have HKN : Hid (∀ w', Kept (One w.heap.size) wr w' → Kept Nil w w') := fun w' h => (HK.out.trans h).newOne
      have HG : Hid (getNums n l = if stEnd st = 0 then (xs, 0) else ([], stEnd st)) := by
        show getNums n l = _
        have h := HE.out
        have h2 := HR.out
        cases st with
        | error e =>
          have hc : e ≠ 0 := h2.1
          rw [getNums_err h]
          show _ = if e = 0 then _ else _
          rw [if_neg hc]
          rfl
        | ok t =>
          simp only [show n - k = 0 by omega, rdTimes, preT, List.append_nil] at h
          cases t with
          | nil => rw [getNums_ok h]; rfl
          | cons y t => rw [getNums_left h]; rfl
      have HW : Hid (∀ w', Kept (One w.heap.size) wr w' → OwnNats w.heap.size w' ao c xs) := fun w' h => own_mono (own_kept HO.out h (fun k cs hb hx => by have : k = w.heap.size := hx; omega)) (by omega)
      generalize stEnd st = z at E HG
      clear HE HR HK HO
      by_cases hz : z = 0
      · subst hz
        have HG2 : Hid (getNums n l = (xs, 0)) := HG.out.trans (if_pos rfl)
        clear HG
        go_wp2_with (first | (go_at_call 66; go_must (refine E.mono ?_); rintro e w' ⟨rfl, hk'⟩))
        go_ret2
        rw [HG2.out]
        exact ⟨ao, c, rfl, HW.out _ hk', HKN.out _ hk'⟩
      · have HG2 : Hid (getNums n l = ([], z)) := HG.out.trans (if_neg hz)
        have hz' : (z != 0) = true := by simpa using hz
        clear HG hz
        go_wp2_with (first | (go_at_call 66; go_must (refine E.mono ?_); rintro e w' ⟨rfl, hk'⟩))
        go_ret2
        rw [HG2.out]
        exact ⟨none, 0, rfl, World.ownsRow_nil _ _ _ _, HKN.out _ hk'⟩

/-! ### rows, read -/
theorem OwnNats.shape {B : Nat} {w : World} {ao : Option Addr} {c : Nat} {ns : List Nat} (h : OwnNats B w ao c ns) (hn : ns ≠ []) :
    ∃ g, B ≤ g ∧ ao = some ⟨g, 0, none⟩ ∧ (∃ cs, w.heap[g]? = some (.cells cs 3 (0, 0))) ∧ ∀ j, (hj : j < ns.length) → w.cell? ⟨g, j, none⟩ = some (.int .i64 (ns[j] : Nat)) := by
  have h' := h
  rcases h.2 with ⟨_, h0⟩ | ⟨g, cap, cur, hv, hB, hg, _⟩
  · exact absurd (List.eq_nil_of_length_eq_zero h0) hn
  · simp only [Value.slice.injEq, true_and] at hv
    obtain ⟨rfl, rfl⟩ := hv
    refine ⟨g, hB, rfl, ⟨cur, hg⟩, fun j hj => ?_⟩
    rw [World.ownsRow.cellAt h' j (by omega)]
    simp [natCells, hj]
theorem OwnNats.empty {B : Nat} {w : World} {ao : Option Addr} {c : Nat} (_ : OwnNats B w ao c []) : True := trivial

set_option maxRecDepth 100000 in
set_option maxHeartbeats 1000000 in
theorem sameInts_any (B1 B2 : Nat) (a1 a2 : Option Addr) (c1 c2 : Nat) (ns ms : List Nat) (w : World) (h1 : OwnNats B1 w a1 c1 ns) (h2 : OwnNats B2 w a2 c2 ms) (hl1 : (ns.length : Int) ≤ 1000000) (hl2 : (ms.length : Int) ≤ 1000000) :
    Calls Try.prog 19 #[.slice a1 ns.length c1, .slice a2 ms.length c2] w fun e w' => e = .returned (.bool (decide (ns = ms))) ∧ Kept Nil w w' := by
  by_cases hlen : ns.length = ms.length
  · by_cases hnil : ns = []
    · subst hnil
      obtain rfl : ms = [] := List.eq_nil_of_length_eq_zero (by simpa using hlen.symm)
      clear h1 h2
      go_enter Try.func19, Try.ntmps19
      go_wp2
      refine wp_loop_rounds 1 ?_
      rw [rounds_succ]
      go_wp2
      go_ret
      exact ⟨rfl, Kept.refl _ _⟩
    · obtain ⟨g1, _, rfl, _, hc1⟩ := h1.shape hnil
      obtain ⟨g2, _, rfl, _, hc2⟩ := h2.shape (fun e => hnil (by subst e; exact List.eq_nil_of_length_eq_zero hlen))
      have H1 : Hid (∀ j, (hj : j < ns.length) → w.cell? ⟨g1, j, none⟩ = some (.int .i64 (ns[j] : Nat))) := hc1
      have H2 : Hid (∀ j, (hj : j < ms.length) → w.cell? ⟨g2, j, none⟩ = some (.int .i64 (ms[j] : Nat))) := hc2
      clear h1 h2 hc1 hc2 hnil
      have hl : (ns.length : Int) = ms.length := by omega
      go_enter Try.func19, Try.ntmps19
      go_wp2
      go_loopw [5] (fun i wr => ∃ k : Nat, k ≤ ns.length ∧ i = .int .i64 k ∧ Hid (ns.take k = ms.take k) ∧ Below w.heap.size w wr) (fun i _ => ns.length - (intOf i).toNat)
      case atStart => exact ⟨0, Nat.zero_le _, rfl, rfl, Below.refl _ _⟩
      case round =>
        obtain ⟨k, hk, rfl, HT, hwr⟩ := hrel
        by_cases hlt : k < ns.length
        · have hlt2 : k < ms.length := by omega
          have e1 : wr.cell? ⟨g1, k, none⟩ = some (.int .i64 (ns[k] : Nat)) := by
            have := H1.out k hlt
            rw [World.cell?_of_block (hwr.block g1 (cell_lt this)), this]
          have e2 : wr.cell? ⟨g2, k, none⟩ = some (.int .i64 (ms[k] : Nat)) := by
            have := H2.out k hlt2
            rw [World.cell?_of_block (hwr.block g2 (cell_lt this)), this]
          have HX : Hid (ns[k] = ms[k] → ns.take (k + 1) = ms.take (k + 1)) := fun h => by
            rw [List.take_succ_eq_append_getElem hlt, List.take_succ_eq_append_getElem hlt2, HT.out, h]
          have HY : Hid (ns[k] ≠ ms[k] → ns ≠ ms) := fun h e => by subst e; exact h rfl
          generalize ns[k] = x at e1 HX HY
          generalize ms[k] = y at e2 HX HY
          by_cases hxy : x = y
          · subst hxy
            have HT2 : Hid _ := HX.out rfl
            clear HX HY
            go_wp2
            go_region
            go_wp2
            go_roundw
            case rel => exact ⟨k + 1, by omega, by go_num, HT2, hwr.drew⟩
            case measure => simp [intOf]; omega
          · have HN : Hid (decide (ns = ms) = false) := decide_eq_false (HY.out hxy)
            have hxy' : ((x : Int) != (y : Int)) = true := by simp; omega
            clear HX HY
            go_wp2
            go_region
            go_wp2
            go_ret
            rw [HN.out]
            exact ⟨rfl, Kept.ofBelow hwr.drew _⟩
        · have HN : Hid (decide (ns = ms) = true) := by
            refine decide_eq_true ?_
            have := HT.out
            rwa [List.take_of_length_le (by omega), List.take_of_length_le (by omega)] at this
          go_wp2
          go_ret
          rw [HN.out]
          exact ⟨rfl, Kept.ofBelow hwr _⟩
  · have HN : Hid (decide (ns = ms) = false) := decide_eq_false (fun e => hlen (by rw [e]))
    have hl : ((ns.length : Int) != (ms.length : Int)) = true := by simp; omega
    clear h1 h2 hlen
    go_enter Try.func19, Try.ntmps19
    go_wp2
    go_ret
    rw [HN.out]
    exact ⟨rfl, Kept.refl _ _⟩

end Go.Proofs.Ytihgefdpnokoeaa
