/-
  Rows of numbers: what is read so many times, by the program (times) and by the document's reader; numbers written one behind the other; two rows held against each other.
-/
import Derived.Test.YtijklginabipgaaWTorn1
import Derived.Test.YtijklginabipgaaWOld
import Derived.Laws.OwnMore
namespace Go.Proofs.Ytijklginabipgaa
open Go.RowKit

/-! ### a row of its own, and what calls leave of it -/
theorem own_kept {X : Nat → Obj → Prop} {w w' : World} {B : Nat} {e : TypeId} {size : Nat} {v : Value} {n : Nat} {xs : List Value} (h : w.ownsRow B e size v n xs) (hk : Kept X w w')
    (hX : ∀ k cs, B ≤ k → ¬ X k (.cells cs e (0, 0))) : w'.ownsRow B e size v n xs := by
  refine ⟨h.1, h.2.imp id ?_⟩
  rintro ⟨g, cap, cur, h1, h2, h3, h4⟩
  exact ⟨g, cap, cur, h1, h2, hk.block _ _ h3 (hX _ _ h2), h4⟩
theorem Kept.grown {X : Nat → Obj → Prop} {a w w' : World} {row : Option Nat} (h : Kept X a w) (hg : w.grownBy w' row) (hrow : ∀ k, row = some k → a.heap.size ≤ k) : Kept X a w' :=
  ⟨hg.os.trans h.os, hg.tape.trans h.tape, hg.output.trans h.output, Nat.le_trans h.size hg.size, fun k o ho hx => by
    have hk := lt_of_block ho
    rw [hg.block k (by have := h.size; omega) (fun e => by have := hrow k e.symm; omega)]
    exact h.block k o ho hx⟩
theorem own_row {w : World} {B : Nat} {e : TypeId} {size : Nat} {v : Value} {n : Nat} {xs : List Value} (h : w.ownsRow B e size v n xs) : ∀ k, v.ownBlock = some k → B ≤ k := fun k hk => (h.lt k hk).1

/-! ### so many of a kind -/
def rdTimes {α : Type} (rd : List UInt8 → Except Int (α × List UInt8)) : Nat → List UInt8 → Except Int (List α × List UInt8)
  | 0, l => .ok ([], l)
  | n + 1, l =>
    match rd l with
    | .error c => .error c
    | .ok (a, t) =>
      match rdTimes rd n t with
      | .error c => .error c
      | .ok (xs, u) => .ok (a :: xs, u)
/-- With these ahead. -/
def preT {α : Type} (xs : List α) : Except Int (List α × List UInt8) → Except Int (List α × List UInt8)
  | .ok (bs, u) => .ok (xs ++ bs, u)
  | .error c => .error c
theorem preT_nil {α : Type} (r : Except Int (List α × List UInt8)) : preT [] r = r := by
  cases r with
  | error c => rfl
  | ok x => rfl
theorem rdTimes_no {α : Type} {rd : List UInt8 → Except Int (α × List UInt8)} {xs : List α} {m : Nat} {t : List UInt8} {c : Int} (h : rd t = .error c) : preT xs (rdTimes rd (m + 1) t) = .error c := by
  simp [rdTimes, h, preT]
theorem rdTimes_more {α : Type} {rd : List UInt8 → Except Int (α × List UInt8)} {xs : List α} {m : Nat} {t u : List UInt8} {a : α} (h : rd t = .ok (a, u)) : preT xs (rdTimes rd (m + 1) t) = preT (xs ++ [a]) (rdTimes rd m u) := by
  simp only [rdTimes, h]
  cases rdTimes rd m u with
  | error c => rfl
  | ok x => simp [preT]
theorem rdTimes_len {α : Type} {rd : List UInt8 → Except Int (α × List UInt8)} : ∀ {n : Nat} {l t : List UInt8} {xs : List α}, rdTimes rd n l = .ok (xs, t) → xs.length = n
  | 0, l, t, xs, h => by
    simp only [rdTimes, Except.ok.injEq, Prod.mk.injEq] at h
    rw [← h.1]; rfl
  | n + 1, l, t, xs, h => by
    unfold rdTimes at h
    split at h
    · cases h
    · split at h
      · cases h
      · rename_i hr
        simp only [Except.ok.injEq, Prod.mk.injEq] at h
        rw [← h.1, List.length_cons, rdTimes_len hr]

/-! ### rows of ints -/
def natCells (ns : List Nat) : List Value := ns.map fun (n : Nat) => Value.int .i64 n
theorem natCells_snoc (ns : List Nat) (n : Nat) : natCells (ns ++ [n]) = natCells ns ++ [.int .i64 n] := by simp [natCells]
def OwnNats (B : Nat) (w : World) (ao : Option Addr) (c : Nat) (ns : List Nat) : Prop := w.ownsRow B 3 1 (.slice ao ns.length c) ns.length (natCells ns)
def NatsV (B : Nat) : List Nat → World → Value → Prop := fun ns w v => ∃ ao c, v = .slice ao ns.length c ∧ OwnNats B w ao c ns

theorem Try.infoInt : (Try.prog.info? 3).map (fun i => (i.zero, i.size, i.bytes)) = some (some (.int .i64 0), 1, 8) := by kernel_rfl

theorem src_int {w : World} (z : Int) : Src Try.prog 1 22 (.slice (some ⟨w.heap.size, 0, none⟩) 1 1) 1 [.int .i64 z] (w.alloc (.cells #[.int .i64 z] 3)) := by
  refine Src.ofSlice _ Try.underlying22 _ 1 1 _ rfl ?_ ?_
  · intro j u hj
    match j, hj with
    | 0, hj =>
      simp at hj
      subst hj
      simp [Addr.add]
  · intro u hu
    simp at hu
    subst hu
    rfl

theorem OwnNats.push {B : Nat} {w' : World} {ao : Option Addr} {c : Nat} {ns : List Nat} {n : Nat} (h : w'.ownsRow B 3 1 (.slice ao (ns.length + 1) c) (ns.length + 1) (natCells ns ++ [.int .i64 n])) : OwnNats B w' ao c (ns ++ [n]) := by
  unfold OwnNats
  rw [natCells_snoc, List.length_append]
  exact h

set_option maxRecDepth 100000 in
set_option maxHeartbeats 1000000 in
theorem timesI_any (p : Addr) (n : Nat) (l : List UInt8) (w : World) (hl : Left p w l) (hn : (n : Int) ≤ 1000000) :
    Calls Try.prog 221 #[.pointer (some p), .int .i64 n, .func (.func 146) #[] #[]] w (RdPost p w (rdTimes rdNum n l) (NatsV w.heap.size)) := by
  obtain ⟨i0, hi, hz0, hz1, hz2⟩ := info_parts Try.infoInt
  have HP : Hid (p.block < w.heap.size) := cell_lt hl.cell
  go_enter Try.func221, Try.ntmps221
  go_wp2
  go_loopw [7, 9] (fun v i wr => ∃ k : Nat, ∃ xs : List Nat, ∃ t : List UInt8, ∃ ao c, k ≤ n ∧ i = .int .i64 k ∧ Hid (xs.length = k) ∧ v = .slice ao xs.length c ∧ Hid (OwnNats w.heap.size wr ao c xs) ∧ Hid (rdTimes rdNum n l = preT xs (rdTimes rdNum (n - k) t)) ∧ Left p wr t ∧ Hid (Kept (One p.block) w wr)) (fun _ i _ => n - (intOf i).toNat)
  case atStart => exact ⟨0, [], l, none, 0, by omega, rfl, rfl, rfl, World.ownsRow_nil _ _ _ _, (preT_nil _).symm, hl, Kept.refl _ _⟩
  case round =>
    obtain ⟨k, xs, t, ao, c, hk, rfl, HA, rfl, HO, HE, hl', HK⟩ := hrel
    clear hl
    by_cases hkn : k < n
    · cases hr : rdNum t with
      | error e0 =>
        have HR : Hid (rdTimes rdNum n l = .error e0) := by
          show rdTimes rdNum n l = _
          rw [HE.out, show n - k = (n - k - 1) + 1 by omega]
          exact rdTimes_no hr
        go_wp2_with (go_at_call 146; refine (number_no hl' hr).mono ?_; rintro e w' ⟨rfl, hk'⟩)
        unfold bodyPost RdPost
        rw [HR.out]
        exact ⟨rfl, rfl, HK.out.trans hk'⟩
      | ok r =>
        obtain ⟨a, u⟩ := r
        have HR : Hid (rdTimes rdNum n l = preT (xs ++ [a]) (rdTimes rdNum (n - (k + 1)) u)) := by
          show rdTimes rdNum n l = _
          rw [HE.out, show n - k = (n - (k + 1)) + 1 by omega]
          exact rdTimes_more hr
        have HLL : Hid (xs.length + 1 ≤ maxLen ∧ (xs.length + 1) * 8 ≤ 140737488355328) := by
          have := HA.out
          constructor
          · unfold maxLen; omega
          · omega
        have N := number_ok hl' hr
        clear hr hl'
        go_wp2_with (first | (go_at_call 146; refine N.mono ?_; rintro e w' ⟨rfl, hc', hz', hk'⟩; have HL' : Hid (Left p w' u) := ⟨hc', hz'⟩; have HK' : Hid (Kept (One p.block) w w') := HK.out.trans hk'; have ho : w'.ownsRow w.heap.size 3 1 (.slice ao xs.length c) xs.length (natCells xs) := own_kept HO.out hk' (fun k cs hb hx => by have := HP.out; have : k = p.block := hx; omega); clear hc' hz' hk') | (at_builtin; go_must (refine wpList_append_src _ rfl _ _ 22 22 rfl w.heap.size 3 i0 (.int .i64 0) 1 8 Try.underlying22 hi hz0 hz1 hz2 rfl _ _ _ rfl (ho.alloc _) (.slice (some ⟨w'.heap.size, 0, none⟩) 1 1) 1 [.int .i64 a] rfl (src_int _) HLL.out.1 HLL.out.2 (le_alloc HK'.out.size _) ?_); intro ao' c' w1 ho' hg'; have HL1 : Hid (Left p w1 u) := by { have h1 := HL'.out.alloc (.cells #[.int .i64 a] 3); have hne : some p.block ≠ (Value.slice ao xs.length c).ownBlock := (fun e => by have := (ho.lt _ e.symm).1; have := HP.out; omega); have hb := hg'.block p.block (cell_lt h1.cell) hne; exact ⟨(World.cell?_of_block hb).trans h1.cell, (World.frozen?_of_block hb).trans h1.free⟩ }; have HK1 : Hid (Kept (One p.block) w w1) := (HK'.out.alloc _).grown hg' (own_row ho); clear hg'))
        go_roundw
        case rel => exact ⟨k + 1, xs ++ [a], u, ao', c', by omega, by go_num, by have := HA.out; show (xs ++ [a]).length = k + 1; simp; omega, by rw [List.length_append]; rfl, OwnNats.push ho', HR, HL1.out, HK1.out⟩
        case measure => simp [intOf]; omega
    · have HR : Hid (rdTimes rdNum n l = .ok (xs, t)) := by
        show rdTimes rdNum n l = _
        rw [HE.out, show n - k = 0 by omega]
        simp [rdTimes, preT]
      go_wp2
      go_ret
      unfold RdPost
      rw [HR.out]
      exact ⟨⟨_, rfl, ao, c, rfl, HO.out⟩, hl', HK.out⟩

end Go.Proofs.Ytijklginabipgaa
