/-
  Joined: WSr1, WSr2.
-/
import Derived.Test.YtpfgnhockfofhaaGreatH16
import Derived.Test.YtpfgnhockfofhaaGreatH17
import Derived.Test.YtpfgnhockfofhaaGreatH09
import Derived.BigQuiet
/-
  The document's shards: setItem.
-/
namespace Go.Proofs.YtpfgnhockfofhaaGreat
open Go.RowKit

/-- One step of the document's setItem. -/
def stp (x : Pr) (s : List Pr × Bool) (y : Pr) : List Pr × Bool :=
  let t := if s.2 = false ∧ lessB y.k x.k = false then (s.1 ++ [x], true) else s
  if y.k = x.k then t else (t.1 ++ [y], t.2)
def stF (x : Pr) (l : List Pr) : List Pr × Bool := l.foldl (stp x) ([], false)
theorem stF_next {x : Pr} {l : List Pr} {k : Nat} (h : k < l.length) : stF x (l.take (k + 1)) = stp x (stF x (l.take k)) l[k] := by
  unfold stF
  rw [List.take_succ_eq_append_getElem h, List.foldl_append]
  rfl
theorem stp_len (x : Pr) (s : List Pr × Bool) (y : Pr) : (stp x s y).1.length ≤ s.1.length + 2 := by
  unfold stp
  dsimp only
  repeat' split
  all_goals simp
theorem stF_len (x : Pr) : ∀ (l : List Pr) (s : List Pr × Bool), (l.foldl (stp x) s).1.length ≤ s.1.length + 2 * l.length
  | [], _ => Nat.le_refl _
  | y :: t, s => by
    have h1 := stF_len x t (stp x s y)
    have h2 := stp_len x s y
    rw [List.length_cons]
    show (t.foldl (stp x) (stp x s y)).1.length ≤ _
    omega
theorem stF_low {x : Pr} : ∀ (l a : List Pr), (∀ y ∈ l, lessB y.k x.k = true) → l.foldl (stp x) (a, false) = (a ++ l, false)
  | [], a, _ => by simp
  | y :: t, a, h => by
    have h1 := h y (List.mem_cons_self ..)
    have h2 : y.k ≠ x.k := fun e => by rw [e, less_irrefl] at h1; cases h1
    have h3 : stp x (a, false) y = (a ++ [y], false) := by
      unfold stp
      simp [h1, h2]
    rw [List.foldl_cons, h3, stF_low t _ (fun z hz => h z (List.mem_cons_of_mem _ hz))]
    simp
theorem stF_high {x : Pr} : ∀ (l a : List Pr), (∀ y ∈ l, y.k ≠ x.k) → l.foldl (stp x) (a, true) = (a ++ l, true)
  | [], a, _ => by simp
  | y :: t, a, h => by
    have h2 := h y (List.mem_cons_self ..)
    have h3 : stp x (a, true) y = (a ++ [y], true) := by
      unfold stp
      simp [h2]
    rw [List.foldl_cons, h3, stF_high t _ (fun z hz => h z (List.mem_cons_of_mem _ hz))]
    simp
theorem drop_other {key : List UInt8} {ps : List Pr} (hs : Srt ps) {j : Nat} (h : lowP key ps < j) : ∀ y ∈ ps.drop j, y.k ≠ key := fun y hy e => by
  obtain ⟨q, hq, rfl⟩ := List.getElem_of_mem hy
  rw [List.length_drop] at hq
  rw [List.getElem_drop] at e
  have h1 := lowP_ge (key := key) hs (j := lowP key ps) (by omega) (Nat.le_refl _)
  have h2 := List.pairwise_iff_getElem.1 hs (lowP key ps) (j + q) (by omega) (by omega) (by omega)
  rw [e] at h2
  rw [h2] at h1
  cases h1
/-- The document's way of setting an item is ours, of sorted ones. -/
theorem stF_is {x : Pr} {l : List Pr} (hs : Srt l) : (if (stF x l).2 = true then (stF x l).1 else (stF x l).1 ++ [x]) = setI x l := by
  have hsp : l = l.take (lowP x.k l) ++ l.drop (lowP x.k l) := (List.take_append_drop _ _).symm
  have h1 : stF x l = (l.drop (lowP x.k l)).foldl (stp x) (l.take (lowP x.k l), false) := by
    unfold stF
    conv => lhs; rw [hsp]
    rw [List.foldl_append, stF_low _ _ (fun y hy => take_low hy), List.nil_append]
  by_cases hl : lowP x.k l < l.length
  · have hd := List.drop_eq_getElem_cons hl
    have hge := lowP_ge (key := x.k) hs hl (Nat.le_refl _)
    rw [hd, List.foldl_cons] at h1
    by_cases he : l[lowP x.k l].k = x.k
    · have h3 : stp x (l.take (lowP x.k l), false) l[lowP x.k l] = (l.take (lowP x.k l) ++ [x], true) := by
        unfold stp
        simp [he, less_irrefl]
      rw [h3, stF_high _ _ (drop_other hs (Nat.lt_succ_self _))] at h1
      have ht : isThere x.k l = true := by unfold isThere; rw [List.getElem?_eq_getElem hl]; simp [he]
      rw [h1, if_pos rfl]
      unfold setI
      rw [if_pos ht, List.set_eq_take_append_cons_drop, if_pos hl]
      simp
    · have h3 : stp x (l.take (lowP x.k l), false) l[lowP x.k l] = (l.take (lowP x.k l) ++ [x] ++ [l[lowP x.k l]], true) := by
        unfold stp
        simp [he, hge]
      rw [h3, stF_high _ _ (drop_other hs (Nat.lt_succ_self _))] at h1
      have ht : isThere x.k l = false := by unfold isThere; rw [List.getElem?_eq_getElem hl]; simp [he]
      rw [h1, if_pos rfl]
      unfold setI insI
      rw [if_neg (by rw [ht]; decide), hd]
      simp
  · have hd : l.drop (lowP x.k l) = [] := List.drop_of_length_le (by omega)
    rw [hd, List.foldl_nil] at h1
    have ht : isThere x.k l = false := by unfold isThere; rw [List.getElem?_eq_none (by omega)]
    rw [h1]
    show l.take (lowP x.k l) ++ [x] = setI x l
    unfold setI insI
    rw [if_neg (by rw [ht]; decide), hd]
set_option maxRecDepth 100000 in
set_option maxHeartbeats 8000000 in
theorem refSet_any (c : Nat) (ao : Option Addr) (l : List Pr) (x : Pr) (w : World) (h : ItRow w ao l) (hl : l.length ≤ 4000000) (hs : Srt l) :
    Calls Tryz.prog 45 #[.slice ao l.length c, .agg #[.string (bs x.k), .string (bs x.v)]] w fun e w' => ∃ a c, e = .returned (.slice a (setI x l).length c) ∧ OwnIt w.heap.size w' a c (setI x l) ∧ Kept Nil w w' := by
  obtain ⟨i0, hi, hz0, hz1, hz2⟩ := info_parts Tryz.infoOwnIt
  obtain ⟨W, hW⟩ : ∃ W, W = w.alloc (.cells #[.string (bs x.k), .string (bs x.v)] 75) := ⟨_, rfl⟩
  obtain ⟨A, HA⟩ : ∃ A : Nat, Hid (A = w.heap.size) := ⟨_, rfl⟩
  obtain ⟨B, HB⟩ : ∃ B : Nat, Hid (B = W.heap.size) := ⟨_, rfl⟩
  have KW : Hid (Kept Nil w W) := by rw [hW]; exact (Kept.refl _ _).alloc _
  have HAW : Hid (W.heap[A]? = some (.cells #[.string (bs x.k), .string (bs x.v)] 75 (0, 0))) := by rw [hW, HA.out]; exact blk_new _ _
  have HR : Hid (ItRow W ao l) := h.kept KW.out
  have HBW : Hid (B ≤ W.heap.size) := by rw [HB.out]; exact Nat.le_refl _
  have HWB : Hid (W.heap.size ≤ B) := by rw [HB.out]; exact Nat.le_refl _
  obtain ⟨rs, HRS⟩ : ∃ rs, Hid (rs = setI x l) := ⟨_, rfl⟩
  rw [← HRS.out]
  have HFI : Hid ((if (stF x l).2 = true then (stF x l).1 else (stF x l).1 ++ [x]) = rs) := by rw [HRS.out]; exact stF_is hs
  have t1 := bs_toList x.k
  clear h hs
  go_enter Tryz.func45, Tryz.ntmps45
  go_upto_region 1 with fail
  rw [← hW, ← HA.out]
  clear hW
  go_wp2
  go_loopw [5, 6, 7] (fun u v q wr => ∃ k m c : Nat, ∃ d : Bool, ∃ a, ∃ out : List Pr, k ≤ l.length ∧ Hid (stF x (l.take k) = (out, d)) ∧ Hid (m = out.length) ∧ u = .slice a m c ∧ v = .bool d ∧ q = .int .i64 k ∧ Hid (OwnIt B wr a c out) ∧ Hid (Kept Nil W wr)) (fun _ _ q _ => l.length - (intOf q).toNat)
  case atStart => exact ⟨0, 0, 0, false, none, [], Nat.zero_le _, rfl, rfl, rfl, rfl, rfl, World.ownsRow_nil _ _ _ _, Kept.refl _ _⟩
  case round =>
    obtain ⟨k, m, c, d, a, out, hk, HST, HM, rfl, rfl, rfl, HO, HK⟩ := hrel
    have HSz : Hid (B ≤ wr.heap.size) := Nat.le_trans HBW.out HK.out.size
    have HOm : Hid (wr.ownsRow B 75 2 (.slice a m c) m (itCells out)) := by have := HO.out; unfold OwnIt at this; rwa [← HM.out] at this
    have p0 : wr.cell? ⟨A, 0, none⟩ = some (.string (bs x.k)) := blk_at (HK.out.block _ _ HAW.out (fun e => e)) 0 rfl
    have p1 : wr.cell? ⟨A, 1, none⟩ = some (.string (bs x.v)) := blk_at (HK.out.block _ _ HAW.out (fun e => e)) 1 rfl
    have hAl : A < wr.heap.size := World.block_lt_of_cell? wr _ p0
    have hmm : m ≤ 8000000 := by
      have h1 := stF_len x (l.take k) ([], false)
      have h2 := HST.out
      unfold stF at h2
      rw [h2, List.length_take] at h1
      have h3 := HM.out
      simp only [List.length_nil] at h1
      omega
    have HMX : Hid (m + 1 ≤ maxLen ∧ (m + 1) * 32 ≤ 140737488355328) := by constructor <;> (try unfold maxLen) <;> omega
    have HMX2 : Hid (m + 1 + 1 ≤ maxLen ∧ (m + 1 + 1) * 32 ≤ 140737488355328) := by constructor <;> (try unfold maxLen) <;> omega
    clear hmm
    by_cases hlt : k < l.length
    · have hli : (k : Int) < (l.length : Int) := by omega
      obtain ⟨ra, era, c0, c1⟩ := (HR.out.kept HK.out) k hlt
      subst era
      obtain ⟨y, HY⟩ : ∃ y : Pr, Hid (y = l[k]) := ⟨l[k], (rfl : l[k] = l[k])⟩
      rw [← HY.out] at c0 c1
      have HN : Hid (stF x (l.take (k + 1)) = stp x (out, d) y) := by rw [HY.out, ← HST.out]; exact stF_next hlt
      have t2 := bs_toList y.k
      have hrl : (ra.add (k * 2)).block < wr.heap.size := World.block_lt_of_cell? wr _ c0
      by_cases heq : y.k = x.k
      · cases d with
        | true =>
          have a2 : (y.k == x.k) = true := by simp [heq]
          have HE : Hid (stF x (l.take (k + 1)) = (out, true)) := by show _ = _; rw [HN.out]; unfold stp; simp [heq]
          clear heq
          go_upto_region 6 with fail
          go_quiet (fail)
          rename Nat => nq
          obtain ⟨V, hV⟩ : ∃ V, V = wr.drewN nq := ⟨_, rfl⟩
          have KV : Hid (Kept Nil W V) := by rw [hV]; exact HK.out.drewN _
          have HOV : Hid (V.ownsRow B 75 2 (.slice a m c) m (itCells out)) := by rw [hV]; exact own_kept HOm.out ((Kept.refl _ _ : Kept Nil wr wr).drewN _) (fun _ _ _ e => e)
          have HSV : Hid (B ≤ V.heap.size) := Nat.le_trans HBW.out KV.out.size
          have p0 : V.cell? ⟨A, 0, none⟩ = some (.string (bs x.k)) := by rw [hV]; exact p0
          have p1 : V.cell? ⟨A, 1, none⟩ = some (.string (bs x.v)) := by rw [hV]; exact p1
          have c0 : V.cell? (ra.add (k * 2)) = some (.string (bs y.k)) := by rw [hV]; exact c0
          have c1 : V.cell? ⟨(ra.add (k * 2)).block, (ra.add (k * 2)).off + 1, none⟩ = some (.string (bs y.v)) := by rw [hV]; exact c1
          have hAV : A < V.heap.size := World.block_lt_of_cell? V _ p0
          have hrV : (ra.add (k * 2)).block < V.heap.size := World.block_lt_of_cell? V _ c0
          rw [← hV]
          clear hV
          go_upto_region 9 with fail
          go_quiet (fail)
          rename Nat => nq9
          obtain ⟨U, hU⟩ : ∃ U, U = V.drewN nq9 := ⟨_, rfl⟩
          have KU : Hid (Kept Nil W U) := by rw [hU]; exact KV.out.drewN _
          have HOU : Hid (U.ownsRow B 75 2 (.slice a (m) c) (m) (itCells out)) := by rw [hU]; exact own_kept HOV.out ((Kept.refl _ _ : Kept Nil V V).drewN _) (fun _ _ _ e => e)
          have HSU : Hid (B ≤ U.heap.size) := Nat.le_trans HBW.out KU.out.size
          rw [← hU]
          clear hU
          go_wp2
          go_roundw
          · exact ⟨k + 1, m, c, true, a, out, by omega, HE.out, (by show _ = _; have := HM.out; (try simp only [List.length_append, List.length_singleton]); omega), rfl, rfl, by congr 1, (by have h := HOU.out; unfold OwnIt; rw [show (out).length = m by have := HM.out; (try simp only [List.length_append, List.length_singleton]); omega]; exact h), KU.out⟩
          · simp [intOf]; omega
        | false =>
          have hl2 : lessB y.k x.k = false := by rw [heq]; exact less_irrefl _
          have a1 : (Op.bytesLess x.k y.k || x.k == y.k) = true := by have := @less_le x.k y.k; rw [hl2] at this; exact this
          have a2 : (y.k == x.k) = true := by simp [heq]
          have HE : Hid (stF x (l.take (k + 1)) = (out ++ [x], true)) := by show _ = _; rw [HN.out]; unfold stp; simp [heq, less_irrefl]
          clear heq hl2
          go_upto_region 6 with fail
          go_quiet (fail)
          rename Nat => nq
          obtain ⟨V, hV⟩ : ∃ V, V = wr.drewN nq := ⟨_, rfl⟩
          have KV : Hid (Kept Nil W V) := by rw [hV]; exact HK.out.drewN _
          have HOV : Hid (V.ownsRow B 75 2 (.slice a m c) m (itCells out)) := by rw [hV]; exact own_kept HOm.out ((Kept.refl _ _ : Kept Nil wr wr).drewN _) (fun _ _ _ e => e)
          have HSV : Hid (B ≤ V.heap.size) := Nat.le_trans HBW.out KV.out.size
          have p0 : V.cell? ⟨A, 0, none⟩ = some (.string (bs x.k)) := by rw [hV]; exact p0
          have p1 : V.cell? ⟨A, 1, none⟩ = some (.string (bs x.v)) := by rw [hV]; exact p1
          have c0 : V.cell? (ra.add (k * 2)) = some (.string (bs y.k)) := by rw [hV]; exact c0
          have c1 : V.cell? ⟨(ra.add (k * 2)).block, (ra.add (k * 2)).off + 1, none⟩ = some (.string (bs y.v)) := by rw [hV]; exact c1
          have hAV : A < V.heap.size := World.block_lt_of_cell? V _ p0
          have hrV : (ra.add (k * 2)).block < V.heap.size := World.block_lt_of_cell? V _ c0
          rw [← hV]
          clear hV
          go_upto_region 8 with (at_builtin; go_must (refine wpList_append_src _ rfl _ _ 64 64 rfl B 75 i0 (.agg #[.string ⟨#[]⟩, .string ⟨#[]⟩]) 2 32 Tryz.underlying64 hi hz0 hz1 hz2 rfl (.slice a m c) (m) (itCells out) rfl (World.ownsRow.alloc HOV.out _) (.slice (some ⟨V.heap.size, 0, none⟩) 1 1) 1 [.string (bs x.k), .string (bs x.v)] rfl (oneOwnIt_src V x) HMX.out.1 HMX.out.2 (le_alloc HSV.out _) ?_); intro a3 c3 w3 ho3 hg_w3; have HO3 : Hid (w3.ownsRow B 75 2 (.slice a3 (m + 1) c3) (m + 1) (itCells (out ++ [x]))) := (by rw [itCells_app, show itCells [x] = [.string (bs x.k), .string (bs x.v)] by simp [itCells, itCell]]; exact ho3); have K3 : Hid (Kept Nil W w3) := (KV.out.alloc _).grown hg_w3 (fun q hq => Nat.le_trans HWB.out (own_row HOV.out q hq)); have HS_w3 : Hid (B ≤ w3.heap.size) := Nat.le_trans HBW.out K3.out.size; clear ho3 hg_w3)
          have q0 : w3.cell? ⟨A, 0, none⟩ = some (.string (bs x.k)) := blk_at (K3.out.block _ _ HAW.out (fun e => e)) 0 rfl
          obtain ⟨ra3, era3, d0, d1⟩ := (HR.out.kept K3.out) k hlt
          cases era3
          rw [← HY.out] at d0 d1
          have hA3 : A < w3.heap.size := World.block_lt_of_cell? w3 _ q0
          have hr3 : (ra.add (k * 2)).block < w3.heap.size := World.block_lt_of_cell? w3 _ d0
          go_upto_region 9 with fail
          go_quiet (fail)
          rename Nat => nq9
          obtain ⟨U, hU⟩ : ∃ U, U = w3.drewN nq9 := ⟨_, rfl⟩
          have KU : Hid (Kept Nil W U) := by rw [hU]; exact K3.out.drewN _
          have HOU : Hid (U.ownsRow B 75 2 (.slice a3 ((m + 1)) c3) ((m + 1)) (itCells (out ++ [x]))) := by rw [hU]; exact own_kept HO3.out ((Kept.refl _ _ : Kept Nil w3 w3).drewN _) (fun _ _ _ e => e)
          have HSU : Hid (B ≤ U.heap.size) := Nat.le_trans HBW.out KU.out.size
          rw [← hU]
          clear hU
          go_wp2
          go_roundw
          · exact ⟨k + 1, (m + 1), c3, true, a3, out ++ [x], by omega, HE.out, (by show _ = _; have := HM.out; (try simp only [List.length_append, List.length_singleton]); omega), rfl, rfl, by congr 1, (by have h := HOU.out; unfold OwnIt; rw [show (out ++ [x]).length = (m + 1) by have := HM.out; (try simp only [List.length_append, List.length_singleton]); omega]; exact h), KU.out⟩
          · simp [intOf]; omega
      · cases d with
        | true =>
          have a2 : (y.k == x.k) = false := by simp [heq]
          have HE : Hid (stF x (l.take (k + 1)) = (out ++ [y], true)) := by show _ = _; rw [HN.out]; unfold stp; simp [heq]
          clear heq
          go_upto_region 6 with fail
          go_quiet (fail)
          rename Nat => nq
          obtain ⟨V, hV⟩ : ∃ V, V = wr.drewN nq := ⟨_, rfl⟩
          have KV : Hid (Kept Nil W V) := by rw [hV]; exact HK.out.drewN _
          have HOV : Hid (V.ownsRow B 75 2 (.slice a m c) m (itCells out)) := by rw [hV]; exact own_kept HOm.out ((Kept.refl _ _ : Kept Nil wr wr).drewN _) (fun _ _ _ e => e)
          have HSV : Hid (B ≤ V.heap.size) := Nat.le_trans HBW.out KV.out.size
          have p0 : V.cell? ⟨A, 0, none⟩ = some (.string (bs x.k)) := by rw [hV]; exact p0
          have p1 : V.cell? ⟨A, 1, none⟩ = some (.string (bs x.v)) := by rw [hV]; exact p1
          have c0 : V.cell? (ra.add (k * 2)) = some (.string (bs y.k)) := by rw [hV]; exact c0
          have c1 : V.cell? ⟨(ra.add (k * 2)).block, (ra.add (k * 2)).off + 1, none⟩ = some (.string (bs y.v)) := by rw [hV]; exact c1
          have hAV : A < V.heap.size := World.block_lt_of_cell? V _ p0
          have hrV : (ra.add (k * 2)).block < V.heap.size := World.block_lt_of_cell? V _ c0
          rw [← hV]
          clear hV
          go_upto_region 9 with fail
          go_quiet (fail)
          rename Nat => nq9
          obtain ⟨U, hU⟩ : ∃ U, U = V.drewN nq9 := ⟨_, rfl⟩
          have KU : Hid (Kept Nil W U) := by rw [hU]; exact KV.out.drewN _
          have HOU : Hid (U.ownsRow B 75 2 (.slice a (m) c) (m) (itCells out)) := by rw [hU]; exact own_kept HOV.out ((Kept.refl _ _ : Kept Nil V V).drewN _) (fun _ _ _ e => e)
          have HSU : Hid (B ≤ U.heap.size) := Nat.le_trans HBW.out KU.out.size
          have g0 : U.cell? (ra.add (k * 2)) = some (.string (bs y.k)) := by rw [hU]; exact c0
          have g1 : U.cell? ⟨(ra.add (k * 2)).block, (ra.add (k * 2)).off + 1, none⟩ = some (.string (bs y.v)) := by rw [hU]; exact c1
          have hrU : (ra.add (k * 2)).block < U.heap.size := World.block_lt_of_cell? U _ g0
          rw [← hU]
          clear hU
          go_wp2_with (at_builtin; go_must (refine wpList_append_src _ rfl _ _ 64 64 rfl B 75 i0 (.agg #[.string ⟨#[]⟩, .string ⟨#[]⟩]) 2 32 Tryz.underlying64 hi hz0 hz1 hz2 rfl (.slice a m c) (m) (itCells out) rfl (World.ownsRow.alloc HOU.out _) (.slice (some ⟨U.heap.size, 0, none⟩) 1 1) 1 [.string (bs y.k), .string (bs y.v)] rfl (oneOwnIt_src U y) HMX.out.1 HMX.out.2 (le_alloc HSU.out _) ?_); intro a5 c5 w5 ho5 hg_w5; have HO5 : Hid (w5.ownsRow B 75 2 (.slice a5 (m + 1) c5) (m + 1) (itCells (out ++ [y]))) := (by rw [itCells_app, show itCells [y] = [.string (bs y.k), .string (bs y.v)] by simp [itCells, itCell]]; exact ho5); have K5 : Hid (Kept Nil W w5) := (KU.out.alloc _).grown hg_w5 (fun q hq => Nat.le_trans HWB.out (own_row HOU.out q hq)); have HS_w5 : Hid (B ≤ w5.heap.size) := Nat.le_trans HBW.out K5.out.size; clear ho5 hg_w5)
          go_roundw
          · exact ⟨k + 1, (m) + 1, c5, true, a5, out ++ [y], by omega, HE.out, (by show _ = _; have := HM.out; (try simp only [List.length_append, List.length_singleton]); omega), rfl, rfl, by congr 1, (by have h := HO5.out; unfold OwnIt; rw [show (out ++ [y]).length = (m) + 1 by have := HM.out; (try simp only [List.length_append, List.length_singleton]); omega]; exact h), K5.out⟩
          · simp [intOf]; omega
        | false =>
          cases hl2 : lessB y.k x.k with
          | true =>
            have a1 : (Op.bytesLess x.k y.k || x.k == y.k) = false := by have := @less_le x.k y.k; rw [hl2] at this; exact this
            have a2 : (y.k == x.k) = false := by simp [heq]
            have HE : Hid (stF x (l.take (k + 1)) = (out ++ [y], false)) := by show _ = _; rw [HN.out]; unfold stp; simp [hl2, heq]
            clear heq hl2
            go_upto_region 6 with fail
            go_quiet (fail)
            rename Nat => nq
            obtain ⟨V, hV⟩ : ∃ V, V = wr.drewN nq := ⟨_, rfl⟩
            have KV : Hid (Kept Nil W V) := by rw [hV]; exact HK.out.drewN _
            have HOV : Hid (V.ownsRow B 75 2 (.slice a m c) m (itCells out)) := by rw [hV]; exact own_kept HOm.out ((Kept.refl _ _ : Kept Nil wr wr).drewN _) (fun _ _ _ e => e)
            have HSV : Hid (B ≤ V.heap.size) := Nat.le_trans HBW.out KV.out.size
            have p0 : V.cell? ⟨A, 0, none⟩ = some (.string (bs x.k)) := by rw [hV]; exact p0
            have p1 : V.cell? ⟨A, 1, none⟩ = some (.string (bs x.v)) := by rw [hV]; exact p1
            have c0 : V.cell? (ra.add (k * 2)) = some (.string (bs y.k)) := by rw [hV]; exact c0
            have c1 : V.cell? ⟨(ra.add (k * 2)).block, (ra.add (k * 2)).off + 1, none⟩ = some (.string (bs y.v)) := by rw [hV]; exact c1
            have hAV : A < V.heap.size := World.block_lt_of_cell? V _ p0
            have hrV : (ra.add (k * 2)).block < V.heap.size := World.block_lt_of_cell? V _ c0
            rw [← hV]
            clear hV
            go_upto_region 9 with fail
            go_quiet (fail)
            rename Nat => nq9
            obtain ⟨U, hU⟩ : ∃ U, U = V.drewN nq9 := ⟨_, rfl⟩
            have KU : Hid (Kept Nil W U) := by rw [hU]; exact KV.out.drewN _
            have HOU : Hid (U.ownsRow B 75 2 (.slice a (m) c) (m) (itCells out)) := by rw [hU]; exact own_kept HOV.out ((Kept.refl _ _ : Kept Nil V V).drewN _) (fun _ _ _ e => e)
            have HSU : Hid (B ≤ U.heap.size) := Nat.le_trans HBW.out KU.out.size
            have g0 : U.cell? (ra.add (k * 2)) = some (.string (bs y.k)) := by rw [hU]; exact c0
            have g1 : U.cell? ⟨(ra.add (k * 2)).block, (ra.add (k * 2)).off + 1, none⟩ = some (.string (bs y.v)) := by rw [hU]; exact c1
            have hrU : (ra.add (k * 2)).block < U.heap.size := World.block_lt_of_cell? U _ g0
            rw [← hU]
            clear hU
            go_wp2_with (at_builtin; go_must (refine wpList_append_src _ rfl _ _ 64 64 rfl B 75 i0 (.agg #[.string ⟨#[]⟩, .string ⟨#[]⟩]) 2 32 Tryz.underlying64 hi hz0 hz1 hz2 rfl (.slice a m c) (m) (itCells out) rfl (World.ownsRow.alloc HOU.out _) (.slice (some ⟨U.heap.size, 0, none⟩) 1 1) 1 [.string (bs y.k), .string (bs y.v)] rfl (oneOwnIt_src U y) HMX.out.1 HMX.out.2 (le_alloc HSU.out _) ?_); intro a5 c5 w5 ho5 hg_w5; have HO5 : Hid (w5.ownsRow B 75 2 (.slice a5 (m + 1) c5) (m + 1) (itCells (out ++ [y]))) := (by rw [itCells_app, show itCells [y] = [.string (bs y.k), .string (bs y.v)] by simp [itCells, itCell]]; exact ho5); have K5 : Hid (Kept Nil W w5) := (KU.out.alloc _).grown hg_w5 (fun q hq => Nat.le_trans HWB.out (own_row HOU.out q hq)); have HS_w5 : Hid (B ≤ w5.heap.size) := Nat.le_trans HBW.out K5.out.size; clear ho5 hg_w5)
            go_roundw
            · exact ⟨k + 1, (m) + 1, c5, false, a5, out ++ [y], by omega, HE.out, (by show _ = _; have := HM.out; (try simp only [List.length_append, List.length_singleton]); omega), rfl, rfl, by congr 1, (by have h := HO5.out; unfold OwnIt; rw [show (out ++ [y]).length = (m) + 1 by have := HM.out; (try simp only [List.length_append, List.length_singleton]); omega]; exact h), K5.out⟩
            · simp [intOf]; omega
          | false =>
            have a1 : (Op.bytesLess x.k y.k || x.k == y.k) = true := by have := @less_le x.k y.k; rw [hl2] at this; exact this
            have a2 : (y.k == x.k) = false := by simp [heq]
            have HE : Hid (stF x (l.take (k + 1)) = (out ++ [x] ++ [y], true)) := by show _ = _; rw [HN.out]; unfold stp; simp [hl2, heq]
            clear heq hl2
            go_upto_region 6 with fail
            go_quiet (fail)
            rename Nat => nq
            obtain ⟨V, hV⟩ : ∃ V, V = wr.drewN nq := ⟨_, rfl⟩
            have KV : Hid (Kept Nil W V) := by rw [hV]; exact HK.out.drewN _
            have HOV : Hid (V.ownsRow B 75 2 (.slice a m c) m (itCells out)) := by rw [hV]; exact own_kept HOm.out ((Kept.refl _ _ : Kept Nil wr wr).drewN _) (fun _ _ _ e => e)
            have HSV : Hid (B ≤ V.heap.size) := Nat.le_trans HBW.out KV.out.size
            have p0 : V.cell? ⟨A, 0, none⟩ = some (.string (bs x.k)) := by rw [hV]; exact p0
            have p1 : V.cell? ⟨A, 1, none⟩ = some (.string (bs x.v)) := by rw [hV]; exact p1
            have c0 : V.cell? (ra.add (k * 2)) = some (.string (bs y.k)) := by rw [hV]; exact c0
            have c1 : V.cell? ⟨(ra.add (k * 2)).block, (ra.add (k * 2)).off + 1, none⟩ = some (.string (bs y.v)) := by rw [hV]; exact c1
            have hAV : A < V.heap.size := World.block_lt_of_cell? V _ p0
            have hrV : (ra.add (k * 2)).block < V.heap.size := World.block_lt_of_cell? V _ c0
            rw [← hV]
            clear hV
            go_upto_region 8 with (at_builtin; go_must (refine wpList_append_src _ rfl _ _ 64 64 rfl B 75 i0 (.agg #[.string ⟨#[]⟩, .string ⟨#[]⟩]) 2 32 Tryz.underlying64 hi hz0 hz1 hz2 rfl (.slice a m c) (m) (itCells out) rfl (World.ownsRow.alloc HOV.out _) (.slice (some ⟨V.heap.size, 0, none⟩) 1 1) 1 [.string (bs x.k), .string (bs x.v)] rfl (oneOwnIt_src V x) HMX.out.1 HMX.out.2 (le_alloc HSV.out _) ?_); intro a3 c3 w3 ho3 hg_w3; have HO3 : Hid (w3.ownsRow B 75 2 (.slice a3 (m + 1) c3) (m + 1) (itCells (out ++ [x]))) := (by rw [itCells_app, show itCells [x] = [.string (bs x.k), .string (bs x.v)] by simp [itCells, itCell]]; exact ho3); have K3 : Hid (Kept Nil W w3) := (KV.out.alloc _).grown hg_w3 (fun q hq => Nat.le_trans HWB.out (own_row HOV.out q hq)); have HS_w3 : Hid (B ≤ w3.heap.size) := Nat.le_trans HBW.out K3.out.size; clear ho3 hg_w3)
            have q0 : w3.cell? ⟨A, 0, none⟩ = some (.string (bs x.k)) := blk_at (K3.out.block _ _ HAW.out (fun e => e)) 0 rfl
            obtain ⟨ra3, era3, d0, d1⟩ := (HR.out.kept K3.out) k hlt
            cases era3
            rw [← HY.out] at d0 d1
            have hA3 : A < w3.heap.size := World.block_lt_of_cell? w3 _ q0
            have hr3 : (ra.add (k * 2)).block < w3.heap.size := World.block_lt_of_cell? w3 _ d0
            go_upto_region 9 with fail
            go_quiet (fail)
            rename Nat => nq9
            obtain ⟨U, hU⟩ : ∃ U, U = w3.drewN nq9 := ⟨_, rfl⟩
            have KU : Hid (Kept Nil W U) := by rw [hU]; exact K3.out.drewN _
            have HOU : Hid (U.ownsRow B 75 2 (.slice a3 ((m + 1)) c3) ((m + 1)) (itCells (out ++ [x]))) := by rw [hU]; exact own_kept HO3.out ((Kept.refl _ _ : Kept Nil w3 w3).drewN _) (fun _ _ _ e => e)
            have HSU : Hid (B ≤ U.heap.size) := Nat.le_trans HBW.out KU.out.size
            have g0 : U.cell? (ra.add (k * 2)) = some (.string (bs y.k)) := by rw [hU]; exact d0
            have g1 : U.cell? ⟨(ra.add (k * 2)).block, (ra.add (k * 2)).off + 1, none⟩ = some (.string (bs y.v)) := by rw [hU]; exact d1
            have hrU : (ra.add (k * 2)).block < U.heap.size := World.block_lt_of_cell? U _ g0
            rw [← hU]
            clear hU
            go_wp2_with (at_builtin; go_must (refine wpList_append_src _ rfl _ _ 64 64 rfl B 75 i0 (.agg #[.string ⟨#[]⟩, .string ⟨#[]⟩]) 2 32 Tryz.underlying64 hi hz0 hz1 hz2 rfl (.slice a3 (m + 1) c3) ((m + 1)) (itCells (out ++ [x])) rfl (World.ownsRow.alloc HOU.out _) (.slice (some ⟨U.heap.size, 0, none⟩) 1 1) 1 [.string (bs y.k), .string (bs y.v)] rfl (oneOwnIt_src U y) HMX2.out.1 HMX2.out.2 (le_alloc HSU.out _) ?_); intro a5 c5 w5 ho5 hg_w5; have HO5 : Hid (w5.ownsRow B 75 2 (.slice a5 ((m + 1) + 1) c5) ((m + 1) + 1) (itCells ((out ++ [x]) ++ [y]))) := (by rw [itCells_app, show itCells [y] = [.string (bs y.k), .string (bs y.v)] by simp [itCells, itCell]]; exact ho5); have K5 : Hid (Kept Nil W w5) := (KU.out.alloc _).grown hg_w5 (fun q hq => Nat.le_trans HWB.out (own_row HOU.out q hq)); have HS_w5 : Hid (B ≤ w5.heap.size) := Nat.le_trans HBW.out K5.out.size; clear ho5 hg_w5)
            go_roundw
            · exact ⟨k + 1, ((m + 1)) + 1, c5, true, a5, out ++ [x] ++ [y], by omega, HE.out, (by show _ = _; have := HM.out; (try simp only [List.length_append, List.length_singleton]); omega), rfl, rfl, by congr 1, (by have h := HO5.out; unfold OwnIt; rw [show (out ++ [x] ++ [y]).length = ((m + 1)) + 1 by have := HM.out; (try simp only [List.length_append, List.length_singleton]); omega]; exact h), K5.out⟩
            · simp [intOf]; omega
    · obtain rfl : k = l.length := by omega
      have HSF : Hid (stF x l = (out, d)) := by have := HST.out; rwa [List.take_length] at this
      cases d with
      | true =>
        have HE : Hid (rs = out) := by show _ = _; rw [← HFI.out, HSF.out]; rfl
        go_wp2
        go_ret
        refine ⟨a, c, by rw [HE.out, ← HM.out]; rfl, ?_, KW.out.trans HK.out⟩
        rw [HE.out]
        exact (HO.out).mono (Nat.le_trans KW.out.size HWB.out)
      | false =>
        have HE : Hid (rs = out ++ [x]) := by show _ = _; rw [← HFI.out, HSF.out]; rfl
        go_wp2_with (at_builtin; go_must (refine wpList_append_src _ rfl _ _ 64 64 rfl B 75 i0 (.agg #[.string ⟨#[]⟩, .string ⟨#[]⟩]) 2 32 Tryz.underlying64 hi hz0 hz1 hz2 rfl (.slice a m c) (m) (itCells out) rfl (World.ownsRow.alloc HOm.out _) (.slice (some ⟨wr.heap.size, 0, none⟩) 1 1) 1 [.string (bs x.k), .string (bs x.v)] rfl (oneOwnIt_src wr x) HMX.out.1 HMX.out.2 (le_alloc HSz.out _) ?_); intro a5 c5 w5 ho5 hg_w5; have HO5 : Hid (w5.ownsRow B 75 2 (.slice a5 (m + 1) c5) (m + 1) (itCells (out ++ [x]))) := (by rw [itCells_app, show itCells [x] = [.string (bs x.k), .string (bs x.v)] by simp [itCells, itCell]]; exact ho5); have K5 : Hid (Kept Nil W w5) := (HK.out.alloc _).grown hg_w5 (fun q hq => Nat.le_trans HWB.out (own_row HOm.out q hq)); have HS_w5 : Hid (B ≤ w5.heap.size) := Nat.le_trans HBW.out K5.out.size; clear ho5 hg_w5)
        go_ret
        have hlen : (out ++ [x]).length = m + 1 := by have := HM.out; simp; omega
        refine ⟨a5, c5, by rw [HE.out, hlen]; rfl, ?_, KW.out.trans K5.out⟩
        rw [HE.out]
        have h : OwnIt B w5 a5 c5 (out ++ [x]) := by unfold OwnIt; rw [hlen]; exact HO5.out
        exact h.mono (Nat.le_trans KW.out.size HWB.out)
end Go.Proofs.YtpfgnhockfofhaaGreat

/-
  The document's shards: without.
-/
namespace Go.Proofs.YtpfgnhockfofhaaGreat
open Go.RowKit

def wo (key : List UInt8) (l : List Pr) : List Pr := l.filter fun y => decide (y.k ≠ key)
theorem wo_next {key : List UInt8} {l : List Pr} {k : Nat} (h : k < l.length) : wo key (l.take (k + 1)) = wo key (l.take k) ++ (if l[k].k = key then [] else [l[k]]) := by
  unfold wo
  rw [List.take_succ_eq_append_getElem h, List.filter_append]
  by_cases e : l[k].k = key
  · rw [if_pos e]; simp [e]
  · rw [if_neg e]; simp [e]
theorem wo_len (key : List UInt8) (l : List Pr) : (wo key l).length ≤ l.length := List.length_filter_le _ _
theorem wo_is {key : List UInt8} {l : List Pr} (hs : Srt l) (ht : isThere key l = true) : wo key l = delI (lowP key l) (lowP key l + 1) l := by
  obtain ⟨hl, hk⟩ := there_get ht
  have hsp : l = l.take (lowP key l) ++ l.drop (lowP key l) := (List.take_append_drop _ _).symm
  unfold wo delI
  conv => lhs; rw [hsp]
  rw [List.drop_eq_getElem_cons hl, List.filter_append, List.filter_cons, if_neg (by simp [hk])]
  rw [List.filter_eq_self.2 (fun y hy => ?_), List.filter_eq_self.2 (fun y hy => ?_)]
  · have := drop_other hs (Nat.lt_succ_self _) y hy
    simp [this]
  · have h1 := take_low hy
    have h2 : y.k ≠ key := fun e => by rw [e, less_irrefl] at h1; cases h1
    simp [h2]
set_option maxRecDepth 100000 in
set_option maxHeartbeats 4000000 in
theorem refWo_any (c : Nat) (ao : Option Addr) (l : List Pr) (key : List UInt8) (w : World) (h : ItRow w ao l) (hl : l.length ≤ 4000000) :
    Calls Tryz.prog 46 #[.slice ao l.length c, .string (bs key)] w fun e w' => ∃ a c, e = .returned (.slice a (wo key l).length c) ∧ OwnIt w.heap.size w' a c (wo key l) ∧ Kept Nil w w' := by
  obtain ⟨i0, hi, hz0, hz1, hz2⟩ := info_parts Tryz.infoOwnIt
  obtain ⟨B, HB⟩ : ∃ B : Nat, Hid (B = w.heap.size) := ⟨_, rfl⟩
  have HR : Hid (ItRow w ao l) := h
  have HBW : Hid (B ≤ w.heap.size) := by rw [HB.out]; exact Nat.le_refl _
  have HWB : Hid (w.heap.size ≤ B) := by rw [HB.out]; exact Nat.le_refl _
  have t1 := bs_toList key
  obtain ⟨rs, HRS⟩ : ∃ rs, Hid (rs = wo key l) := ⟨_, rfl⟩
  rw [← HRS.out]
  obtain ⟨W, hW⟩ : ∃ W, W = w := ⟨_, rfl⟩
  clear h
  go_enter Tryz.func46, Tryz.ntmps46
  go_wp2
  go_loopw [5, 6] (fun u q wr => ∃ k m c : Nat, ∃ a, k ≤ l.length ∧ Hid (m = (wo key (l.take k)).length) ∧ u = .slice a m c ∧ q = .int .i64 k ∧ Hid (OwnIt B wr a c (wo key (l.take k))) ∧ Hid (Kept Nil w wr)) (fun _ q _ => l.length - (intOf q).toNat)
  case atStart => exact ⟨0, 0, 0, none, Nat.zero_le _, rfl, rfl, rfl, World.ownsRow_nil _ _ _ _, Kept.refl _ _⟩
  case round =>
    obtain ⟨k, m, c, a, hk, HM, rfl, rfl, HO, HK⟩ := hrel
    have HSz : Hid (B ≤ wr.heap.size) := Nat.le_trans HBW.out HK.out.size
    have HOm : Hid (wr.ownsRow B 75 2 (.slice a m c) m (itCells (wo key (l.take k)))) := by have := HO.out; unfold OwnIt at this; rwa [← HM.out] at this
    have hmm : m ≤ 4000000 := by have h1 := wo_len key (l.take k); have h2 := List.length_take_le k l; have := HM.out; omega
    have HMX : Hid (m + 1 ≤ maxLen ∧ (m + 1) * 32 ≤ 140737488355328) := by constructor <;> (try unfold maxLen) <;> omega
    clear hmm
    by_cases hlt : k < l.length
    · have hli : (k : Int) < (l.length : Int) := by omega
      obtain ⟨ra, era, c0, c1⟩ := (HR.out.kept HK.out) k hlt
      subst era
      obtain ⟨y, HY⟩ : ∃ y : Pr, Hid (y = l[k]) := ⟨l[k], (rfl : l[k] = l[k])⟩
      have HN : Hid (wo key (l.take (k + 1)) = wo key (l.take k) ++ (if y.k = key then [] else [y])) := by rw [HY.out]; exact wo_next hlt
      rw [← HY.out] at c0 c1
      have t2 := bs_toList y.k
      have hrl : (ra.add (k * 2)).block < wr.heap.size := World.block_lt_of_cell? wr _ c0
      obtain ⟨out, HOut⟩ : ∃ out, Hid (out = wo key (l.take k)) := ⟨_, rfl⟩
      rw [← HOut.out] at HOm HM HO HN
      by_cases heq : y.k = key
      · have a2 : (y.k == key) = true := by simp [heq]
        have HE : Hid (wo key (l.take (k + 1)) = out) := by show _ = _; rw [HN.out, if_pos heq, List.append_nil]
        clear heq
        go_wp2
        go_roundw
        · exact ⟨k + 1, m, c, a, by omega, (by show m = _; rw [HE.out]; exact HM.out), rfl, by congr 1, (by rw [HE.out]; exact HO.out), HK.out⟩
        · simp [intOf]; omega
      · have a2 : (y.k == key) = false := by simp [heq]
        have HE : Hid (wo key (l.take (k + 1)) = out ++ [y]) := by show _ = _; rw [HN.out, if_neg heq]
        clear heq
        go_wp2_with (at_builtin; go_must (refine wpList_append_src _ rfl _ _ 64 64 rfl B 75 i0 (.agg #[.string ⟨#[]⟩, .string ⟨#[]⟩]) 2 32 Tryz.underlying64 hi hz0 hz1 hz2 rfl (.slice a m c) (m) (itCells out) rfl (World.ownsRow.alloc HOm.out _) (.slice (some ⟨wr.heap.size, 0, none⟩) 1 1) 1 [.string (bs y.k), .string (bs y.v)] rfl (oneOwnIt_src wr y) HMX.out.1 HMX.out.2 (le_alloc HSz.out _) ?_); intro a5 c5 w5 ho5 hg_w5; have HO5 : Hid (w5.ownsRow B 75 2 (.slice a5 (m + 1) c5) (m + 1) (itCells (out ++ [y]))) := (by rw [itCells_app, show itCells [y] = [.string (bs y.k), .string (bs y.v)] by simp [itCells, itCell]]; exact ho5); have K5 : Hid (Kept Nil w w5) := (HK.out.alloc _).grown hg_w5 (fun q hq => Nat.le_trans HWB.out (own_row HOm.out q hq)); have HS_w5 : Hid (B ≤ w5.heap.size) := Nat.le_trans HBW.out K5.out.size; clear ho5 hg_w5)
        go_roundw
        · exact ⟨k + 1, m + 1, c5, a5, by omega, (by show m + 1 = _; rw [HE.out, List.length_append, List.length_singleton, ← HM.out]), rfl, by congr 1, (by rw [HE.out]; have h := HO5.out; unfold OwnIt; rw [show (out ++ [y]).length = m + 1 by rw [List.length_append, List.length_singleton, ← HM.out]]; exact h), K5.out⟩
        · simp [intOf]; omega
    · obtain rfl : k = l.length := by omega
      have HE : Hid (wo key (l.take l.length) = rs) := by show _ = _; rw [List.take_length, HRS.out]
      go_wp2
      go_ret
      refine ⟨a, c, by rw [← HE.out, ← HM.out]; rfl, ?_, HK.out⟩
      rw [← HE.out]
      exact HO.out.mono HWB.out
end Go.Proofs.YtpfgnhockfofhaaGreat
