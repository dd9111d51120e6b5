/-
  Joined: WTimes, WTab1, WTab2, WNums, WLog1, WLog4, WLogM, WStepA, WLog2, WLog3, WLog6, WLog7, WLog8, WLog9, WTrk1, WTorn2, WEnt2, WGetN, WNumsR, WCfg3, WStep, WEnt3, WEnt4, WCfg6, WCfg7, WKeep1, WKeep2, WLogB.
-/
import Derived.Test.YtijklginabipgaaWOlx
import Derived.Laws.OwnMore
import Derived.Deep.CutRange
import Derived.Deep.CutBlock
import Derived.Deep.LoopGhost
import Derived.Deep.RegionWith
import Derived.BigQuiet
import Derived.Deep.RegionLaw
import Derived.Lib.SliceRun
import Derived.Laws.IdiomStrings
/-
  Rows of numbers: what is read so many times, by the program (times) and by the document's reader; numbers written one behind the other; two rows held against each other.
-/
namespace Go.Proofs.Ytijklginabipgaa
open Go.RowKit

/-! ### a row of its own, and what calls leave of it -/
theorem own_kept {X : Nat → Obj → Prop} {w w' : World} {B : Nat} {e : TypeId} {size : Nat} {v : Value} {n : Nat} {xs : List Value} (h : w.ownsRow B e size v n xs) (hk : Kept X w w')
    (hX : ∀ k cs, B ≤ k → ¬ X k (.cells cs e (0, 0))) : w'.ownsRow B e size v n xs := by
  refine ⟨h.1, h.2.imp id ?_⟩
  rintro ⟨g, cap, cur, h1, h2, h3, h4⟩
  exact ⟨g, cap, cur, h1, h2, hk.block _ _ h3 (hX _ _ h2), h4⟩
theorem Kept.grown {X : Nat → Obj → Prop} {a w w' : World} {row : Option Nat} (h : Kept X a w) (hg : w.grownBy w' row) (hrow : ∀ k, row = some k → a.heap.size ≤ k) : Kept X a w' :=
  ⟨hg.os.trans h.os, hg.tape.trans h.tape, hg.output.trans h.output, Nat.le_trans h.size hg.size, fun k o ho hx => by
    have hk := lt_of_block ho
    rw [hg.block k (by have := h.size; omega) (fun e => by have := hrow k e.symm; omega)]
    exact h.block k o ho hx⟩
theorem own_row {w : World} {B : Nat} {e : TypeId} {size : Nat} {v : Value} {n : Nat} {xs : List Value} (h : w.ownsRow B e size v n xs) : ∀ k, v.ownBlock = some k → B ≤ k := fun k hk => (h.lt k hk).1

/-! ### so many of a kind -/
def rdTimes {α : Type} (rd : List UInt8 → Except Int (α × List UInt8)) : Nat → List UInt8 → Except Int (List α × List UInt8)
  | 0, l => .ok ([], l)
  | n + 1, l =>
    match rd l with
    | .error c => .error c
    | .ok (a, t) =>
      match rdTimes rd n t with
      | .error c => .error c
      | .ok (xs, u) => .ok (a :: xs, u)
/-- With these ahead. -/
def preT {α : Type} (xs : List α) : Except Int (List α × List UInt8) → Except Int (List α × List UInt8)
  | .ok (bs, u) => .ok (xs ++ bs, u)
  | .error c => .error c
theorem preT_nil {α : Type} (r : Except Int (List α × List UInt8)) : preT [] r = r := by
  cases r with
  | error c => rfl
  | ok x => rfl
theorem rdTimes_no {α : Type} {rd : List UInt8 → Except Int (α × List UInt8)} {xs : List α} {m : Nat} {t : List UInt8} {c : Int} (h : rd t = .error c) : preT xs (rdTimes rd (m + 1) t) = .error c := by
  simp [rdTimes, h, preT]
theorem rdTimes_more {α : Type} {rd : List UInt8 → Except Int (α × List UInt8)} {xs : List α} {m : Nat} {t u : List UInt8} {a : α} (h : rd t = .ok (a, u)) : preT xs (rdTimes rd (m + 1) t) = preT (xs ++ [a]) (rdTimes rd m u) := by
  simp only [rdTimes, h]
  cases rdTimes rd m u with
  | error c => rfl
  | ok x => simp [preT]
theorem rdTimes_len {α : Type} {rd : List UInt8 → Except Int (α × List UInt8)} : ∀ {n : Nat} {l t : List UInt8} {xs : List α}, rdTimes rd n l = .ok (xs, t) → xs.length = n
  | 0, l, t, xs, h => by
    simp only [rdTimes, Except.ok.injEq, Prod.mk.injEq] at h
    rw [← h.1]; rfl
  | n + 1, l, t, xs, h => by
    unfold rdTimes at h
    split at h
    · cases h
    · split at h
      · cases h
      · rename_i hr
        simp only [Except.ok.injEq, Prod.mk.injEq] at h
        rw [← h.1, List.length_cons, rdTimes_len hr]

/-! ### rows of ints -/
def natCells (ns : List Nat) : List Value := ns.map fun (n : Nat) => Value.int .i64 n
theorem natCells_snoc (ns : List Nat) (n : Nat) : natCells (ns ++ [n]) = natCells ns ++ [.int .i64 n] := by simp [natCells]
def OwnNats (B : Nat) (w : World) (ao : Option Addr) (c : Nat) (ns : List Nat) : Prop := w.ownsRow B 3 1 (.slice ao ns.length c) ns.length (natCells ns)
def NatsV (B : Nat) : List Nat → World → Value → Prop := fun ns w v => ∃ ao c, v = .slice ao ns.length c ∧ OwnNats B w ao c ns

theorem Try.infoInt : (Try.prog.info? 3).map (fun i => (i.zero, i.size, i.bytes)) = some (some (.int .i64 0), 1, 8) := by kernel_rfl

theorem src_int {w : World} (z : Int) : Src Try.prog 1 22 (.slice (some ⟨w.heap.size, 0, none⟩) 1 1) 1 [.int .i64 z] (w.alloc (.cells #[.int .i64 z] 3)) := by
  refine Src.ofSlice _ Try.underlying22 _ 1 1 _ rfl ?_ ?_
  · intro j u hj
    match j, hj with
    | 0, hj =>
      simp at hj
      subst hj
      simp [Addr.add]
  · intro u hu
    simp at hu
    subst hu
    rfl

theorem OwnNats.push {B : Nat} {w' : World} {ao : Option Addr} {c : Nat} {ns : List Nat} {n : Nat} (h : w'.ownsRow B 3 1 (.slice ao (ns.length + 1) c) (ns.length + 1) (natCells ns ++ [.int .i64 n])) : OwnNats B w' ao c (ns ++ [n]) := by
  unfold OwnNats
  rw [natCells_snoc, List.length_append]
  exact h

set_option maxRecDepth 100000 in
set_option maxHeartbeats 1000000 in
theorem timesI_any (p : Addr) (n : Nat) (l : List UInt8) (w : World) (hl : Left p w l) (hn : (n : Int) ≤ 1000000) :
    Calls Try.prog 221 #[.pointer (some p), .int .i64 n, .func (.func 146) #[] #[]] w (RdPost p w (rdTimes rdNum n l) (NatsV w.heap.size)) := by
  obtain ⟨i0, hi, hz0, hz1, hz2⟩ := info_parts Try.infoInt
  have HP : Hid (p.block < w.heap.size) := cell_lt hl.cell
  go_enter Try.func221, Try.ntmps221
  go_wp2
  go_loopw [7, 9] (fun v i wr => ∃ k : Nat, ∃ xs : List Nat, ∃ t : List UInt8, ∃ ao c, k ≤ n ∧ i = .int .i64 k ∧ Hid (xs.length = k) ∧ v = .slice ao xs.length c ∧ Hid (OwnNats w.heap.size wr ao c xs) ∧ Hid (rdTimes rdNum n l = preT xs (rdTimes rdNum (n - k) t)) ∧ Left p wr t ∧ Hid (Kept (One p.block) w wr)) (fun _ i _ => n - (intOf i).toNat)
  case atStart => exact ⟨0, [], l, none, 0, by omega, rfl, rfl, rfl, World.ownsRow_nil _ _ _ _, (preT_nil _).symm, hl, Kept.refl _ _⟩
  case round =>
    obtain ⟨k, xs, t, ao, c, hk, rfl, HA, rfl, HO, HE, hl', HK⟩ := hrel
    clear hl
    by_cases hkn : k < n
    · cases hr : rdNum t with
      | error e0 =>
        have HR : Hid (rdTimes rdNum n l = .error e0) := by
          show rdTimes rdNum n l = _
          rw [HE.out, show n - k = (n - k - 1) + 1 by omega]
          exact rdTimes_no hr
        go_wp2_with (go_at_call 146; refine (number_no hl' hr).mono ?_; rintro e w' ⟨rfl, hk'⟩)
        unfold bodyPost RdPost
        rw [HR.out]
        exact ⟨rfl, rfl, HK.out.trans hk'⟩
      | ok r =>
        obtain ⟨a, u⟩ := r
        have HR : Hid (rdTimes rdNum n l = preT (xs ++ [a]) (rdTimes rdNum (n - (k + 1)) u)) := by
          show rdTimes rdNum n l = _
          rw [HE.out, show n - k = (n - (k + 1)) + 1 by omega]
          exact rdTimes_more hr
        have HLL : Hid (xs.length + 1 ≤ maxLen ∧ (xs.length + 1) * 8 ≤ 140737488355328) := by
          have := HA.out
          constructor
          · unfold maxLen; omega
          · omega
        have N := number_ok hl' hr
        clear hr hl'
        go_wp2_with (first | (go_at_call 146; refine N.mono ?_; rintro e w' ⟨rfl, hc', hz', hk'⟩; have HL' : Hid (Left p w' u) := ⟨hc', hz'⟩; have HK' : Hid (Kept (One p.block) w w') := HK.out.trans hk'; have ho : w'.ownsRow w.heap.size 3 1 (.slice ao xs.length c) xs.length (natCells xs) := own_kept HO.out hk' (fun k cs hb hx => by have := HP.out; have : k = p.block := hx; omega); clear hc' hz' hk') | (at_builtin; go_must (refine wpList_append_src _ rfl _ _ 22 22 rfl w.heap.size 3 i0 (.int .i64 0) 1 8 Try.underlying22 hi hz0 hz1 hz2 rfl _ _ _ rfl (ho.alloc _) (.slice (some ⟨w'.heap.size, 0, none⟩) 1 1) 1 [.int .i64 a] rfl (src_int _) HLL.out.1 HLL.out.2 (le_alloc HK'.out.size _) ?_); intro ao' c' w1 ho' hg'; have HL1 : Hid (Left p w1 u) := by { have h1 := HL'.out.alloc (.cells #[.int .i64 a] 3); have hne : some p.block ≠ (Value.slice ao xs.length c).ownBlock := (fun e => by have := (ho.lt _ e.symm).1; have := HP.out; omega); have hb := hg'.block p.block (cell_lt h1.cell) hne; exact ⟨(World.cell?_of_block hb).trans h1.cell, (World.frozen?_of_block hb).trans h1.free⟩ }; have HK1 : Hid (Kept (One p.block) w w1) := (HK'.out.alloc _).grown hg' (own_row ho); clear hg'))
        go_roundw
        case rel => exact ⟨k + 1, xs ++ [a], u, ao', c', by omega, by go_num, by have := HA.out; show (xs ++ [a]).length = k + 1; simp; omega, by rw [List.length_append]; rfl, OwnNats.push ho', HR, HL1.out, HK1.out⟩
        case measure => simp [intOf]; omega
    · have HR : Hid (rdTimes rdNum n l = .ok (xs, t)) := by
        show rdTimes rdNum n l = _
        rw [HE.out, show n - k = 0 by omega]
        simp [rdTimes, preT]
      go_wp2
      go_ret
      unfold RdPost
      rw [HR.out]
      exact ⟨⟨_, rfl, ao, c, rfl, HO.out⟩, hl', HK.out⟩

end Go.Proofs.Ytijklginabipgaa

/-
  Keys: a row of texts, rising, none too long: by the program (areKeys).
-/
namespace Go.Proofs.Ytijklginabipgaa
open Go.RowKit

/-- A row of texts that lies below block B. -/
def StrRow (B : Nat) (w : World) (ao : Option Addr) (ks : List (List UInt8)) : Prop := ∀ j, (hj : j < ks.length) → ∃ a, ao = some a ∧ a.block < B ∧ w.cell? (a.add j) = some (.string (bs ks[j])) ∧ ks[j].length ≤ maxLen
theorem StrRow.kept {X : Nat → Obj → Prop} {B : Nat} {w w' : World} {ao : Option Addr} {ks : List (List UInt8)} (h : StrRow B w ao ks) (hk : Kept X w w') (hX : ∀ k o, k < B → ¬ X k o) : StrRow B w' ao ks := by
  intro j hj
  obtain ⟨a, ha, hb, hc, hl⟩ := h j hj
  refine ⟨a, ha, hb, ?_, hl⟩
  have e : (a.add j).block = a.block := by unfold Addr.add; split <;> rfl
  have hlt : a.block < w.heap.size := by
    have : (a.add j).block < w.heap.size := World.block_lt_of_cell? w _ hc
    omega
  rw [World.cell?_of_block (w := w) (by rw [e, hk.block a.block _ (Array.getElem?_eq_getElem hlt) (hX _ _ hb), Array.getElem?_eq_getElem hlt])]
  exact hc
theorem StrRow.nil {B : Nat} {w w' : World} {ao : Option Addr} {ks : List (List UInt8)} (h : StrRow B w ao ks) (hk : Kept Nil w w') : StrRow B w' ao ks := h.kept hk (fun _ _ _ x => x)
theorem StrRow.alloc {B : Nat} {w : World} {ao : Option Addr} {ks : List (List UInt8)} (h : StrRow B w ao ks) (o : Obj) : StrRow B (w.alloc o) ao ks := h.nil ((Kept.refl _ _).alloc o)

/-- Is one text ahead of another? -/
def lessB (x y : List UInt8) : Bool := Op.bytesLess x y
/-- Rising, none longer than 16 (the first one may be anything). -/
def kRise : Option (List UInt8) → List (List UInt8) → Bool
  | _, [] => true
  | p, k :: t => decide (k.length ≤ 16) && (match p with | none => true | some q => lessB q k) && kRise (some k) t
def kpv (ks : List (List UInt8)) (k : Nat) : Option (List UInt8) := if k = 0 then none else ks[k - 1]?
theorem kRise_at {ks : List (List UInt8)} {k : Nat} (h : k < ks.length) : kRise (kpv ks k) (ks.drop k) = (decide (ks[k].length ≤ 16) && (match kpv ks k with | none => true | some q => lessB q ks[k]) && kRise (kpv ks (k + 1)) (ks.drop (k + 1))) := by
  have e : kpv ks (k + 1) = some ks[k] := by simp [kpv, h]
  rw [List.drop_eq_getElem_cons h, e]
  rfl
theorem kRise_end {ks : List (List UInt8)} {k : Nat} (h : ¬ k < ks.length) : kRise (kpv ks k) (ks.drop k) = true := by
  rw [List.drop_of_length_le (by omega)]
  unfold kRise
  cases kpv ks k <;> rfl
def keysOk (ks : List (List UInt8)) : Bool := decide (ks.length ≤ 32) && kRise none ks

set_option maxRecDepth 100000 in
set_option maxHeartbeats 2000000 in
theorem areKeys_any (B cap : Nat) (ao : Option Addr) (ks : List (List UInt8)) (w : World) (h : StrRow B w ao ks) (hl : (ks.length : Int) ≤ 9223372036854775807) :
    Calls Try.prog 204 #[.slice ao ks.length cap] w fun e w' => e = .returned (.bool (keysOk ks)) ∧ Kept Nil w w' := by
  have HR : Hid (StrRow B w ao ks) := h
  have ht := bs_toList
  have hsz := bs_size
  clear h
  by_cases h32 : ks.length ≤ 32
  · have HO : Hid (keysOk ks = kRise none ks) := by show keysOk ks = _; unfold keysOk; rw [decide_eq_true h32]; rfl
    have h32' : (ks.length : Int) ≤ 32 := by omega
    rw [HO.out]
    clear h32 HO
    go_enter Try.func204, Try.ntmps204
    go_wp2
    go_loopw [10] (fun i wr => ∃ k : Nat, k ≤ ks.length ∧ i = .int .i64 k ∧ Hid (kRise none ks = kRise (kpv ks k) (ks.drop k)) ∧ Hid (Kept Nil w wr)) (fun i _ => ks.length - (intOf i).toNat)
    case atStart => exact ⟨0, Nat.zero_le _, rfl, rfl, Kept.refl _ _⟩
    case round =>
      obtain ⟨k, hk, rfl, HI, HK⟩ := hrel
      by_cases hlt : k < ks.length
      · obtain ⟨a, rfl, _, hcell, hmax⟩ := (HR.out.nil HK.out) k hlt
        have HA : Hid (kRise none ks = (decide (ks[k].length ≤ 16) && (match kpv ks k with | none => true | some q => lessB q ks[k]) && kRise (kpv ks (k + 1)) (ks.drop (k + 1)))) := HI.out.trans (kRise_at hlt)
        have hmax' : (ks[k].length : Int) ≤ 9223372036854775807 := by unfold maxLen at hmax; omega
        clear hmax HI
        by_cases h16 : ks[k].length ≤ 16
        · by_cases k0 : k = 0
          · have hk0 : (k : Int) ≤ 0 := by omega
            have hpv : kpv ks k = none := by simp [kpv, k0]
            have HF : Hid (kRise none ks = kRise (kpv ks (k + 1)) (ks.drop (k + 1))) := by show kRise none ks = _; rw [HA.out, hpv, decide_eq_true h16]; rfl
            have h16' : (ks[k].length : Int) ≤ 16 := by omega
            generalize ks[k] = x at *
            clear HA h16 k0 hpv
            go_wp2
            go_roundw
            case rel => exact ⟨k + 1, by omega, by go_num, HF, HK.out⟩
            case measure => simp [intOf]; omega
          · obtain ⟨a', ha', _, hprev, _⟩ := (HR.out.nil HK.out) (k - 1) (by omega)
            simp only [Option.some.injEq] at ha'
            subst ha'
            have hpv : kpv ks k = some ks[k - 1] := by simp [kpv, k0, show k - 1 < ks.length by omega]
            rw [hpv] at HA
            simp only at HA
            have hkp : 0 < k := by omega
            have h16' : (ks[k].length : Int) ≤ 16 := by omega
            cases hls : lessB ks[k - 1] ks[k] with
            | true =>
              have HF : Hid (kRise none ks = kRise (kpv ks (k + 1)) (ks.drop (k + 1))) := by show kRise none ks = _; rw [HA.out, hls, decide_eq_true h16]; rfl
              have hls' : Op.bytesLess ks[k - 1] ks[k] = true := hls
              generalize ks[k] = x at *
              generalize ks[k - 1] = y at *
              clear HA h16 k0 hpv hls
              go_wp2
              go_roundw
              case rel => exact ⟨k + 1, by omega, by go_num, HF, HK.out⟩
              case measure => simp [intOf]; omega
            | false =>
              have HF : Hid (kRise none ks = false) := by show kRise none ks = _; rw [HA.out, hls]; simp
              have hls' : Op.bytesLess ks[k - 1] ks[k] = false := hls
              generalize ks[k] = x at *
              generalize ks[k - 1] = y at *
              clear HA h16 k0 hpv hls
              go_wp2
              go_ret
              rw [HF.out]
              exact ⟨rfl, HK.out⟩
        · have HF : Hid (kRise none ks = false) := by show kRise none ks = _; rw [HA.out, decide_eq_false h16]; rfl
          have h16' : ¬ (ks[k].length : Int) ≤ 16 := by omega
          generalize ks[k] = x at *
          clear HA h16
          go_wp2
          go_ret
          rw [HF.out]
          exact ⟨rfl, HK.out⟩
      · have HF : Hid (kRise none ks = true) := HI.out.trans (kRise_end hlt)
        go_wp2
        go_ret
        rw [HF.out]
        exact ⟨rfl, HK.out⟩
  · have HO : Hid (keysOk ks = false) := by show keysOk ks = _; unfold keysOk; rw [decide_eq_false h32]; rfl
    have h32' : ¬ (ks.length : Int) ≤ 32 := by omega
    rw [HO.out]
    clear h32 HO
    go_enter Try.func204, Try.ntmps204
    go_wp2
    go_ret
    exact ⟨rfl, Kept.refl _ _⟩

end Go.Proofs.Ytijklginabipgaa

/-
  Pairs: rows of three cells; may they be: by the program.
-/
namespace Go.Proofs.Ytijklginabipgaa
open Go.RowKit

structure Pr where
  k : List UInt8
  v : List UInt8
  n : Int
/-- A row of pairs that lies below block B. -/
def PairRow (B : Nat) (w : World) (ao : Option Addr) (ps : List Pr) : Prop := ∀ j, (hj : j < ps.length) → ∃ a, ao = some a ∧ a.block < B ∧ w.cell? (a.add (j * 3)) = some (.string (bs ps[j].k)) ∧ w.cell? ⟨(a.add (j * 3)).block, (a.add (j * 3)).off + 1, none⟩ = some (.string (bs ps[j].v)) ∧ w.cell? ⟨(a.add (j * 3)).block, (a.add (j * 3)).off + 2, none⟩ = some (.int .i64 ps[j].n) ∧ ps[j].k.length ≤ maxLen ∧ ps[j].v.length ≤ maxLen
theorem cell_kept {X : Nat → Obj → Prop} {w w' : World} {a : Addr} {v : Value} (hk : Kept X w w') (hX : ∀ o, ¬ X a.block o) (h : w.cell? a = some v) : w'.cell? a = some v := by
  have hlt : a.block < w.heap.size := World.block_lt_of_cell? w _ h
  rw [World.cell?_of_block (w := w) (by rw [hk.block a.block _ (Array.getElem?_eq_getElem hlt) (hX _), Array.getElem?_eq_getElem hlt])]
  exact h
theorem add_block (a : Addr) (n : Nat) : (a.add n).block = a.block := by unfold Addr.add; split <;> rfl
theorem PairRow.kept {X : Nat → Obj → Prop} {B : Nat} {w w' : World} {ao : Option Addr} {ps : List Pr} (h : PairRow B w ao ps) (hk : Kept X w w') (hX : ∀ k o, k < B → ¬ X k o) : PairRow B w' ao ps := by
  intro j hj
  obtain ⟨a, ha, hb, c1, c2, c3, l1, l2⟩ := h j hj
  refine ⟨a, ha, hb, cell_kept hk (fun o => ?_) c1, cell_kept hk (fun o => ?_) c2, cell_kept hk (fun o => ?_) c3, l1, l2⟩ <;> exact hX _ _ (by simpa [add_block] using hb)
theorem PairRow.nil {B : Nat} {w w' : World} {ao : Option Addr} {ps : List Pr} (h : PairRow B w ao ps) (hk : Kept Nil w w') : PairRow B w' ao ps := h.kept hk (fun _ _ _ x => x)
theorem PairRow.alloc {B : Nat} {w : World} {ao : Option Addr} {ps : List Pr} (h : PairRow B w ao ps) (o : Obj) : PairRow B (w.alloc o) ao ps := h.nil ((Kept.refl _ _).alloc o)
theorem pairRow_nil (B : Nat) (w : World) (ao : Option Addr) : PairRow B w ao [] := fun j hj => by simp at hj

def prOk (x : Pr) : Bool := !x.k.isEmpty && decide (x.k.length ≤ 16) && decide (x.v.length ≤ 64) && isCnt x.n
def pRise : Option (List UInt8) → List Pr → Bool
  | _, [] => true
  | p, x :: t => prOk x && (match p with | none => true | some q => lessB q x.k) && pRise (some x.k) t
def ppv (ps : List Pr) (k : Nat) : Option (List UInt8) := if k = 0 then none else (ps[k - 1]?).map Pr.k
theorem pRise_at {ps : List Pr} {k : Nat} (h : k < ps.length) : pRise (ppv ps k) (ps.drop k) = (prOk ps[k] && (match ppv ps k with | none => true | some q => lessB q ps[k].k) && pRise (ppv ps (k + 1)) (ps.drop (k + 1))) := by
  have e : ppv ps (k + 1) = some ps[k].k := by simp [ppv, h]
  rw [List.drop_eq_getElem_cons h, e]
  rfl
theorem pRise_end {ps : List Pr} {k : Nat} (h : ¬ k < ps.length) : pRise (ppv ps k) (ps.drop k) = true := by
  rw [List.drop_of_length_le (by omega)]
  unfold pRise
  cases ppv ps k <;> rfl
def pairsOk (ps : List Pr) : Bool := decide (ps.length ≤ 32) && pRise none ps
theorem ints1k (w : World) (o : Obj) (x : Int) (b : Nat) (hb : b = w.heap.size + 1) : IntsAt ((w.alloc o).alloc (.cells #[.int .i64 x] 3)) b [x] := by
  subst hb
  intro j hj
  have : j = 0 := by simpa using hj
  subst this
  have hsz : (w.alloc o).heap.size = w.heap.size + 1 := by simp
  rw [← hsz]
  exact blk_at (blk_new (w.alloc o) (.cells #[.int .i64 x] 3)) 0 rfl

set_option maxRecDepth 100000 in
set_option maxHeartbeats 4000000 in
theorem isPairs_any (B cap : Nat) (ao : Option Addr) (ps : List Pr) (w : World) (h : PairRow B w ao ps) (hl : (ps.length : Int) ≤ 9223372036854775807) :
    Calls Try.prog 159 #[.slice ao ps.length cap] w fun e w' => e = .returned (.bool (pairsOk ps)) ∧ Kept Nil w w' := by
  have HR : Hid (PairRow B w ao ps) := h
  have ht := bs_toList
  have hsz := bs_size
  clear h
  by_cases h32 : ps.length ≤ 32
  · have HO : Hid (pairsOk ps = pRise none ps) := by show pairsOk ps = _; unfold pairsOk; rw [decide_eq_true h32]; rfl
    have h32' : (ps.length : Int) ≤ 32 := by omega
    rw [HO.out]
    clear h32 HO
    go_enter Try.func159, Try.ntmps159
    go_wp2
    go_loopw [10] (fun i wr => ∃ k : Nat, k ≤ ps.length ∧ i = .int .i64 k ∧ Hid (pRise none ps = pRise (ppv ps k) (ps.drop k)) ∧ Hid (Kept Nil w wr)) (fun i _ => ps.length - (intOf i).toNat)
    case atStart => exact ⟨0, Nat.zero_le _, rfl, rfl, Kept.refl _ _⟩
    case round =>
      obtain ⟨k, hk, rfl, HI, HK⟩ := hrel
      by_cases hlt : k < ps.length
      · obtain ⟨a, rfl, _, hc0, hc1, hc2, hm1, hm2⟩ := (HR.out.nil HK.out) k hlt
        have HA : Hid (pRise none ps = (prOk ps[k] && (match ppv ps k with | none => true | some q => lessB q ps[k].k) && pRise (ppv ps (k + 1)) (ps.drop (k + 1)))) := HI.out.trans (pRise_at hlt)
        have hm1' : (ps[k].k.length : Int) ≤ 9223372036854775807 := by unfold maxLen at hm1; omega
        have hm2' : (ps[k].v.length : Int) ≤ 9223372036854775807 := by unfold maxLen at hm2; omega
        have HN := areCounts_any (wr.heap.size + 1) 1 [ps[k].n] _ (ints1k wr (.cells #[.string (bs ps[k].k), .string (bs ps[k].v), .int .i64 ps[k].n] 128) ps[k].n _ rfl) (by simp)
        have ef : fromTo 1 [ps[k].n] = isCnt ps[k].n := by simp [fromTo, isCnt]
        rw [ef] at HN
        have HKK : Hid (Kept Nil w (wr.alloc (.cells #[.string (bs ps[k].k), .string (bs ps[k].v), .int .i64 ps[k].n] 128))) := HK.out.alloc _
        clear hm1 hm2 HI ef
        by_cases e0 : ps[k].k = []
        · have HF : Hid (pRise none ps = false) := by show pRise none ps = _; rw [HA.out]; unfold prOk; rw [e0]; rfl
          rw [e0] at hc0
          generalize ps[k].v = val at *
          generalize ps[k].n = ver at *
          clear HA HN
          go_wp2
          go_ret
          rw [HF.out]
          exact ⟨rfl, HK.out.alloc _⟩
        · have e1 : ps[k].k.isEmpty = false := by simpa using e0
          by_cases h16 : ps[k].k.length ≤ 16
          · have h16' : (ps[k].k.length : Int) ≤ 16 := by omega
            by_cases h64 : ps[k].v.length ≤ 64
            · have h64' : (ps[k].v.length : Int) ≤ 64 := by omega
              cases hn : isCnt ps[k].n with
              | false =>
                have HF : Hid (pRise none ps = false) := by show pRise none ps = _; rw [HA.out]; unfold prOk; rw [hn]; simp
                rw [hn] at HN
                generalize ps[k].k = key at *
                generalize ps[k].v = val at *
                generalize ps[k].n = ver at *
                clear HA e0 h16 h64 hn
                go_wp2_with fail
                refine HN.mono ?_
                rintro e w1 ⟨rfl, rfl⟩
                go_wp2
                go_ret
                rw [HF.out]
                exact ⟨rfl, HKK.out.alloc _⟩
              | true =>
                have hbox : (((wr.alloc (.cells #[.string (bs ps[k].k), .string (bs ps[k].v), .int .i64 ps[k].n] 128))).alloc (.cells #[.int .i64 ps[k].n] 3)).cell? ⟨wr.heap.size, 0, none⟩ = some (.string (bs ps[k].k)) := blk_at (blk_past (blk_new wr _) _) 0 rfl
                have hok : prOk ps[k] = true := by unfold prOk; rw [e1, hn, decide_eq_true h16, decide_eq_true h64]; rfl
                rw [hn] at HN
                by_cases k0 : k = 0
                · have b3 : decide (0 < k) = false := decide_eq_false (by omega)
                  have hpv : ppv ps k = none := by simp [ppv, k0]
                  have HF : Hid (pRise none ps = pRise (ppv ps (k + 1)) (ps.drop (k + 1))) := by show pRise none ps = _; rw [HA.out, hpv, hok]; rfl
                  generalize ps[k].k = key at *
                  generalize ps[k].v = val at *
                  generalize ps[k].n = ver at *
                  clear HA e0 h16 h64 hn hok k0 hpv
                  go_wp2_with fail
                  refine HN.mono ?_
                  rintro e w1 ⟨rfl, rfl⟩
                  go_wp2
                  go_quiet (fail)
                  go_wp2
                  go_roundw
                  case rel => exact ⟨k + 1, by omega, by go_num, HF, (HKK.out.alloc _).drewN _⟩
                  case measure => simp [intOf]; omega
                · obtain ⟨a', ha', _, hprev, _⟩ := (HR.out.nil (HKK.out.alloc (.cells #[.int .i64 ps[k].n] 3))) (k - 1) (by omega)
                  simp only [Option.some.injEq] at ha'
                  subst ha'
                  have hpv : ppv ps k = some ps[k - 1].k := by simp [ppv, k0, show k - 1 < ps.length by omega]
                  rw [hpv] at HA
                  simp only at HA
                  have hkp : (0 : Int) < (k : Int) := by omega
                  have hki : (k : Int) < ps.length := by omega
                  have b3 : decide (0 < k) = true := decide_eq_true (by omega)
                  have hprev2 : (((wr.alloc (.cells #[.string (bs ps[k].k), .string (bs ps[k].v), .int .i64 ps[k].n] 128))).alloc (.cells #[.int .i64 ps[k].n] 3)).cell? (a.add (((k : Int) - 1).toNat * 3)) = some (.string (bs ps[k - 1].k)) := by rw [show ((k : Int) - 1).toNat = k - 1 by omega]; exact hprev
                  cases hls : lessB ps[k - 1].k ps[k].k with
                  | true =>
                    have HF : Hid (pRise none ps = pRise (ppv ps (k + 1)) (ps.drop (k + 1))) := by show pRise none ps = _; rw [HA.out, hls, hok]; rfl
                    have hls' : Op.bytesLess ps[k - 1].k ps[k].k = true := hls
                    generalize ps[k].k = key at *
                    generalize ps[k].v = val at *
                    generalize ps[k].n = ver at *
                    generalize ps[k - 1].k = y at *
                    clear HA e0 h16 h64 hn hok k0 hpv hls
                    go_wp2_with fail
                    refine HN.mono ?_
                    rintro e w1 ⟨rfl, rfl⟩
                    go_wp2
                    go_quiet (fail)
                    go_wp2
                    go_roundw
                    case rel => exact ⟨k + 1, by omega, by go_num, HF, (HKK.out.alloc _).drewN _⟩
                    case measure => simp [intOf]; omega
                  | false =>
                    have HF : Hid (pRise none ps = false) := by show pRise none ps = _; rw [HA.out, hls]; simp
                    have hls' : Op.bytesLess ps[k - 1].k ps[k].k = false := hls
                    generalize ps[k].k = key at *
                    generalize ps[k].v = val at *
                    generalize ps[k].n = ver at *
                    generalize ps[k - 1].k = y at *
                    clear HA e0 h16 h64 hn hok k0 hpv hls
                    go_wp2_with fail
                    refine HN.mono ?_
                    rintro e w1 ⟨rfl, rfl⟩
                    go_wp2
                    go_quiet (fail)
                    go_wp2
                    go_ret
                    rw [HF.out]
                    exact ⟨rfl, (HKK.out.alloc _).drewN _⟩
            · have HF : Hid (pRise none ps = false) := by show pRise none ps = _; rw [HA.out]; unfold prOk; rw [decide_eq_false h64]; simp
              have h64' : ¬ (ps[k].v.length : Int) ≤ 64 := by omega
              generalize ps[k].k = key at *
              generalize ps[k].v = val at *
              generalize ps[k].n = ver at *
              clear HA HN e0 h16 h64
              go_wp2
              go_ret
              rw [HF.out]
              exact ⟨rfl, HK.out.alloc _⟩
          · have HF : Hid (pRise none ps = false) := by show pRise none ps = _; rw [HA.out]; unfold prOk; rw [decide_eq_false h16]; simp
            have h16' : ¬ (ps[k].k.length : Int) ≤ 16 := by omega
            generalize ps[k].k = key at *
            generalize ps[k].v = val at *
            generalize ps[k].n = ver at *
            clear HA HN e0 h16
            go_wp2
            go_ret
            rw [HF.out]
            exact ⟨rfl, HK.out.alloc _⟩
      · have HF : Hid (pRise none ps = true) := HI.out.trans (pRise_end hlt)
        go_wp2
        go_ret
        rw [HF.out]
        exact ⟨rfl, HK.out⟩
  · have HO : Hid (pairsOk ps = false) := by show pairsOk ps = _; unfold pairsOk; rw [decide_eq_false h32]; rfl
    have h32' : ¬ (ps.length : Int) ≤ 32 := by omega
    rw [HO.out]
    clear h32 HO
    go_enter Try.func159, Try.ntmps159
    go_wp2
    go_ret
    exact ⟨rfl, Kept.refl _ _⟩

end Go.Proofs.Ytijklginabipgaa

/-
  GetNumbers's own function: so many numbers, the count lying in a cell of its own; what it got.
-/
namespace Go.Proofs.Ytijklginabipgaa
open Go.RowKit

theorem own_mono {w : World} {B B' : Nat} {e : TypeId} {size : Nat} {v : Value} {n : Nat} {xs : List Value} (h : w.ownsRow B e size v n xs) (hb : B' ≤ B) : w.ownsRow B' e size v n xs :=
  ⟨h.1, h.2.imp id fun ⟨g, cap, cur, h1, h2, h3⟩ => ⟨g, cap, cur, h1, Nat.le_trans hb h2, h3⟩⟩

theorem OwnNats.through {w w1 w2 : World} {o1 o2 o3 : Obj} {ao : Option Addr} {c : Nat} {ns : List Nat} (h : OwnNats (((w.alloc o1).alloc o2).alloc o3).heap.size w1 ao c ns)
    (hk : Kept (fun k _ => k = w.heap.size ∨ k = w.heap.size + 1) w1 w2) : OwnNats w.heap.size w2 ao c ns := by
  have hb : (((w.alloc o1).alloc o2).alloc o3).heap.size = w.heap.size + 3 := by simp
  rw [hb] at h
  exact own_mono (own_kept h hk (fun k cs hb hx => by omega)) (by omega)

/-- What a reading of a row of numbers hands out. -/
def GotN (ns : List Nat) (w : World) (e : Ending) (w' : World) : Prop := ∃ ao c, e = .returned (.tuple #[.slice ao ns.length c, .int .i64 0]) ∧ OwnNats w.heap.size w' ao c ns ∧ Kept Nil w w'

end Go.Proofs.Ytijklginabipgaa

/-
  Rows of entries, as rows that can be read and as rows of one's own; the short functions of logs, the program's and the document's.
-/
namespace Go.Proofs.Ytijklginabipgaa
open Go.RowKit

/-- A row of entries that can be read. -/
def EntRow (B : Nat) (w : World) (ao : Option Addr) (es : List En) : Prop := ∀ j, (hj : j < es.length) → ∃ a, ao = some a ∧ a.block < B ∧ w.cell? (a.add (j * 4)) = some (.int .i64 es[j].ix) ∧ w.cell? ⟨(a.add (j * 4)).block, (a.add (j * 4)).off + 1, none⟩ = some (.int .i64 es[j].tm) ∧ w.cell? ⟨(a.add (j * 4)).block, (a.add (j * 4)).off + 2, none⟩ = some (.int .i64 es[j].kd) ∧ w.cell? ⟨(a.add (j * 4)).block, (a.add (j * 4)).off + 3, none⟩ = some (.string (bs es[j].dt)) ∧ es[j].dt.length ≤ maxLen
theorem EntRow.kept {X : Nat → Obj → Prop} {B : Nat} {w w' : World} {ao : Option Addr} {es : List En} (h : EntRow B w ao es) (hk : Kept X w w') (hX : ∀ k o, k < B → ¬ X k o) : EntRow B w' ao es := by
  intro j hj
  obtain ⟨a, h0, h1, h2, h3, h4, h5, h6⟩ := h j hj
  have hb : (a.add (j * 4)).block < B := by rw [add_block]; exact h1
  exact ⟨a, h0, h1, cell_kept hk (fun o => hX _ o hb) h2, cell_kept hk (fun o => hX _ o hb) h3, cell_kept hk (fun o => hX _ o hb) h4, cell_kept hk (fun o => hX _ o hb) h5, h6⟩
theorem EntRow.nil {B : Nat} {w w' : World} {ao : Option Addr} {es : List En} (h : EntRow B w ao es) (hk : Kept Nil w w') : EntRow B w' ao es := h.kept hk (fun _ _ _ x => x)
theorem EntRow.alloc {B : Nat} {w : World} {ao : Option Addr} {es : List En} (h : EntRow B w ao es) (o : Obj) : EntRow B (w.alloc o) ao es := h.nil ((Kept.refl _ _).alloc o)
theorem entRow_nil (B : Nat) (w : World) (ao : Option Addr) : EntRow B w ao [] := fun j hj => by simp at hj
theorem EntRow.mono {B B' : Nat} {w : World} {ao : Option Addr} {es : List En} (h : EntRow B w ao es) (hB : B ≤ B') : EntRow B' w ao es := fun j hj => by
  obtain ⟨a, h0, h1, h2⟩ := h j hj
  exact ⟨a, h0, Nat.lt_of_lt_of_le h1 hB, h2⟩
theorem EntRow.full {B : Nat} {w : World} {ao : Option Addr} {es : List En} (h : EntRow B w ao es) : EntRow w.heap.size w ao es := fun j hj => by
  obtain ⟨a, h0, h1, h2, h3⟩ := h j hj
  have hb := cell_lt h2
  rw [add_block] at hb
  exact ⟨a, h0, hb, h2, h3⟩
theorem addr_add2 (a : Addr) (i j : Nat) : (a.add i).add j = a.add (i + j) := by
  unfold Addr.add
  by_cases hi : i = 0
  · subst hi
    by_cases hj : j = 0
    · subst hj; simp
    · simp [hj]
  · by_cases hj : j = 0
    · subst hj; simp [hi]
    · simp [hi, hj, Nat.add_assoc]
theorem EntRow.drop {B : Nat} {w : World} {a : Addr} {es : List En} (h : EntRow B w (some a) es) (k : Nat) : EntRow B w (some (a.add (k * 4))) (es.drop k) := by
  intro j hj
  have hj' : k + j < es.length := by rw [List.length_drop] at hj; omega
  obtain ⟨a', h0, h1, h2⟩ := h (k + j) hj'
  simp only [Option.some.injEq] at h0
  subst h0
  simp only [List.getElem_drop]
  refine ⟨_, rfl, by rw [add_block]; exact h1, ?_⟩
  rw [addr_add2, show k * 4 + j * 4 = (k + j) * 4 by omega]
  exact h2
theorem EntRow.take {B : Nat} {w : World} {ao : Option Addr} {es : List En} (h : EntRow B w ao es) (k : Nat) : EntRow B w ao (es.take k) := by
  intro j hj
  have hj' : j < es.length := by rw [List.length_take] at hj; omega
  simp only [List.getElem_take]
  exact h j hj'

def enCells (es : List En) : List Value := es.flatMap fun e => [Value.int .i64 e.ix, .int .i64 e.tm, .int .i64 e.kd, .string (bs e.dt)]
theorem enCells_append (a b : List En) : enCells (a ++ b) = enCells a ++ enCells b := by simp [enCells]
theorem enCells_len (es : List En) : (enCells es).length = es.length * 4 := by
  induction es with
  | nil => rfl
  | cons e t ih =>
    have : enCells (e :: t) = [Value.int .i64 e.ix, .int .i64 e.tm, .int .i64 e.kd, .string (bs e.dt)] ++ enCells t := by simp [enCells]
    rw [this, List.length_append, ih]
    simp; omega
/-- A row of entries of one's own, behind block B. -/
def OwnEs (B : Nat) (w : World) (ao : Option Addr) (c : Nat) (es : List En) : Prop := w.ownsRow B 52 4 (.slice ao es.length c) es.length (enCells es)
theorem enCells_at : ∀ (es : List En) (j : Nat) (hj : j < es.length), (enCells es)[j * 4]? = some (.int .i64 es[j].ix) ∧ (enCells es)[j * 4 + 1]? = some (.int .i64 es[j].tm) ∧ (enCells es)[j * 4 + 2]? = some (.int .i64 es[j].kd) ∧ (enCells es)[j * 4 + 3]? = some (.string (bs es[j].dt))
  | [], j, hj => by simp at hj
  | p :: t, 0, hj => by simp [enCells]
  | p :: t, j + 1, hj => by
    have h := enCells_at t j (by simpa using hj)
    have e : enCells (p :: t) = .int .i64 p.ix :: .int .i64 p.tm :: .int .i64 p.kd :: .string (bs p.dt) :: enCells t := by simp [enCells]
    have hx : ∀ i, (enCells (p :: t))[(j + 1) * 4 + i]? = (enCells t)[j * 4 + i]? := fun i => by
      rw [e, show (j + 1) * 4 + i = (j * 4 + i) + 1 + 1 + 1 + 1 by omega]
      simp only [List.getElem?_cons_succ]
    have hx0 := hx 0
    simp only [Nat.add_zero] at hx0
    rw [hx0, hx 1, hx 2, hx 3]
    simpa using h
theorem own_cellE {B n s c : Nat} {e : TypeId} {w : World} {ao : Option Addr} {xs : List Value} (h : w.ownsRow B e s (.slice ao n c) n xs) (hn : 0 < n) : ∃ g, ao = some ⟨g, 0, none⟩ ∧ B ≤ g ∧ g < w.heap.size ∧ ∀ i v, xs[i]? = some v → w.cell? ⟨g, i, none⟩ = some v := by
  rcases h.2 with ⟨_, h0⟩ | ⟨g, cap, cur, hv, hb, hh, h1, h2, h3, h4⟩
  · omega
  · simp only [Value.slice.injEq] at hv
    refine ⟨g, hv.1, hb, lt_of_block hh, fun i v hi => ?_⟩
    rw [blk_cell hh i]
    rw [← h4, List.getElem?_take] at hi
    split at hi
    · simpa using hi
    · cases hi
theorem addr_addE (g j : Nat) : (⟨g, 0, none⟩ : Addr).add j = ⟨g, j, none⟩ := by unfold Addr.add; split <;> simp_all
theorem OwnEs.row {B c : Nat} {w : World} {ao : Option Addr} {es : List En} (h : OwnEs B w ao c es) (hs : ∀ e ∈ es, e.dt.length ≤ maxLen) : EntRow w.heap.size w ao es := by
  intro j hj
  obtain ⟨g, rfl, _, hg, hc⟩ := own_cellE h (by omega)
  obtain ⟨h1, h2, h3, h4⟩ := enCells_at es j hj
  refine ⟨⟨g, 0, none⟩, rfl, hg, ?_, ?_, ?_, ?_, hs _ (List.getElem_mem hj)⟩
  · rw [addr_addE]; exact hc _ _ h1
  · rw [addr_addE]; exact hc _ _ h2
  · rw [addr_addE]; exact hc _ _ h3
  · rw [addr_addE]; exact hc _ _ h4
theorem EntRow.small {B : Nat} {w : World} {ao : Option Addr} {es : List En} (h : EntRow B w ao es) : ∀ e ∈ es, e.dt.length ≤ maxLen := by
  intro e he
  obtain ⟨j, hj, rfl⟩ := List.getElem_of_mem he
  obtain ⟨_, _, _, _, _, _, _, h6⟩ := h j hj
  exact h6

/-! ### the term of a place -/
/-- The term so many places behind the base. -/
def tmAt (bt : Int) (es : List En) (p : Nat) : Int := if p = 0 then bt else (es.getD (p - 1) ⟨0, 0, 0, []⟩).tm
theorem tmAt_zero (bt : Int) (es : List En) : tmAt bt es 0 = bt := rfl
theorem tmAt_pos {bt : Int} {es : List En} {p : Nat} (h : 0 < p) (hp : p - 1 < es.length) : tmAt bt es p = es[p - 1].tm := by
  unfold tmAt
  rw [if_neg (by omega)]
  simp [List.getD_eq_getElem?_getD, hp]
/-- TermAt: the term and the error. -/
def tAt (base bt : Int) (es : List En) (i : Int) : Int × Int := if i < base then (0, 11) else if base + es.length < i then (0, 12) else (tmAt bt es (i - base).toNat, 0)

theorem EntRow.tm {B : Nat} {w : World} {ao : Option Addr} {es : List En} (h : EntRow B w ao es) {j : Nat} (hj : j < es.length) : ∃ a, ao = some a ∧ w.cell? ⟨(a.add (j * 4)).block, (a.add (j * 4)).off + 1, none⟩ = some (.int .i64 es[j].tm) := by
  obtain ⟨a, h0, _, _, h3, _⟩ := h j hj
  exact ⟨a, h0, h3⟩
theorem EntRow.ix {B : Nat} {w : World} {ao : Option Addr} {es : List En} (h : EntRow B w ao es) {j : Nat} (hj : j < es.length) : ∃ a, ao = some a ∧ w.cell? (a.add (j * 4)) = some (.int .i64 es[j].ix) := by
  obtain ⟨a, h0, _, h2, _⟩ := h j hj
  exact ⟨a, h0, h2⟩

end Go.Proofs.Ytijklginabipgaa

/-
  May a log be? The program's Valid.
-/
namespace Go.Proofs.Ytijklginabipgaa
open Go.RowKit

/-! ### may a log be? -/
def entsOk : Int → Int → List En → Bool
  | _, _, [] => true
  | ix, tm, e :: t => e.ok && decide (e.ix = ix) && decide (tm ≤ e.tm) && entsOk (ix + 1) e.tm t
def logOk (base bt : Int) (es : List En) : Bool := isNum base && isNum bt && (decide (base = 0) == decide (bt = 0)) && entsOk (base + 1) bt es
theorem entsOk_at {base bt : Int} {es : List En} {k : Nat} (h : k < es.length) : entsOk (base + 1 + k) (tmAt bt es k) (es.drop k) = (es[k].ok && decide (es[k].ix = base + 1 + k) && decide (tmAt bt es k ≤ es[k].tm) && entsOk (base + 1 + (k + 1 : Nat)) (tmAt bt es (k + 1)) (es.drop (k + 1))) := by
  rw [List.drop_eq_getElem_cons h, entsOk, tmAt_pos (show 0 < k + 1 by omega) (show k + 1 - 1 < es.length by omega)]
  simp only [Nat.add_sub_cancel]
  rw [show base + 1 + (k : Int) + 1 = base + 1 + ((k + 1 : Nat) : Int) by omega]
theorem entsOk_end {base bt : Int} {es : List En} {k : Nat} (h : ¬ k < es.length) : entsOk (base + 1 + k) (tmAt bt es k) (es.drop k) = true := by
  rw [List.drop_eq_nil_of_le (by omega)]; rfl
theorem entsOk_start (base bt : Int) (es : List En) : entsOk (base + 1) bt es = entsOk (base + 1 + (0 : Nat)) (tmAt bt es 0) (es.drop 0) := by
  rw [tmAt_zero, List.drop_zero, show base + 1 + ((0 : Nat) : Int) = base + 1 by omega]

end Go.Proofs.Ytijklginabipgaa

/-
  Extend, plainly: what is skipped, how many are the same, where a leader looks next. No program.
-/
namespace Go.Proofs.Ytijklginabipgaa
open Go.RowKit

def skip (base : Int) : Int → Int → List En → Int × Int × List En
  | p, t, [] => (p, t, [])
  | p, t, e :: r => if p < base then skip base e.ix e.tm r else (p, t, e :: r)
theorem skip_more {base p t : Int} {e : En} {r : List En} (h : p < base) : skip base p t (e :: r) = skip base e.ix e.tm r := by rw [skip, if_pos h]
theorem skip_end {base p t : Int} {ns : List En} (h : ¬ (p < base ∧ ns ≠ [])) : skip base p t ns = (p, t, ns) := by
  cases ns with
  | nil => rfl
  | cons e r => rw [skip, if_neg (fun hp => h ⟨hp, by simp⟩)]
/-- How many, from the first on, have the same term. -/
def cnt : List En → List En → Nat
  | a :: s, b :: t => if a.tm = b.tm then cnt s t + 1 else 0
  | _, _ => 0
theorem cnt_nil_l (l : List En) : cnt [] l = 0 := by cases l <;> rfl
theorem cnt_nil_r (l : List En) : cnt l [] = 0 := by cases l <;> rfl
theorem cnt_at {hs ns : List En} {k : Nat} (h1 : k < hs.length) (h2 : k < ns.length) : cnt (hs.drop k) (ns.drop k) = if hs[k].tm = ns[k].tm then cnt (hs.drop (k + 1)) (ns.drop (k + 1)) + 1 else 0 := by
  rw [List.drop_eq_getElem_cons h1, List.drop_eq_getElem_cons h2, cnt]
theorem cnt_end {hs ns : List En} {k : Nat} (h : ¬ (k < hs.length ∧ k < ns.length)) : cnt (hs.drop k) (ns.drop k) = 0 := by
  by_cases h1 : k < hs.length
  · rw [show ns.drop k = [] from List.drop_eq_nil_of_le (by omega), cnt_nil_r]
  · rw [show hs.drop k = [] from List.drop_eq_nil_of_le (by omega), cnt_nil_l]
theorem cnt_le : ∀ (hs ns : List En), cnt hs ns ≤ hs.length ∧ cnt hs ns ≤ ns.length
  | [], l => by rw [cnt_nil_l]; simp
  | _ :: _, [] => by rw [cnt_nil_r]; simp
  | a :: s, b :: t => by
    have := cnt_le s t
    rw [cnt]
    split
    · simp only [List.length_cons]; omega
    · simp
/-- The first place, side by side, that has the term. -/
def down (bt : Int) (es : List En) (t : Int) : Nat → Nat
  | 0 => 0
  | 1 => 1
  | p + 2 => if tmAt bt es (p + 1) = t then down bt es t (p + 1) else p + 2
theorem down_more {bt t : Int} {es : List En} {p : Nat} (h : 1 < p) (ht : tmAt bt es (p - 1) = t) : down bt es t p = down bt es t (p - 1) := by
  obtain ⟨q, rfl⟩ : ∃ q, p = q + 2 := ⟨p - 2, by omega⟩
  rw [down, if_pos (by simpa using ht)]
  rfl
theorem down_end {bt t : Int} {es : List En} {p : Nat} (h : ¬ (1 < p ∧ tmAt bt es (p - 1) = t)) : down bt es t p = p := by
  match p with
  | 0 => rfl
  | 1 => rfl
  | q + 2 => rw [down, if_neg (fun e => h ⟨by omega, by simpa using e⟩)]
theorem down_le {bt t : Int} {es : List En} : ∀ p, down bt es t p ≤ p
  | 0 => Nat.le_refl _
  | 1 => Nat.le_refl _
  | p + 2 => by
    rw [down]
    split
    · have := down_le (bt := bt) (t := t) (es := es) (p + 1); omega
    · exact Nat.le_refl _
def look (base bt : Int) (es : List En) (prev : Int) : Int := if base + es.length < prev then base + es.length + 1 else base + (down bt es (tmAt bt es (prev - base).toNat) (prev - base).toNat : Nat)
/-- Behind what was skipped. -/
def extAt (base bt : Int) (es : List En) (p t : Int) (ns : List En) : List En × Int × Int × Int :=
  if p < base then (es, p, 0, 0)
  else if tAt base bt es p = (t, 0) then
    (if cnt (es.drop (p - base).toNat) ns < ns.length then (es.take ((p - base).toNat + cnt (es.drop (p - base).toNat) ns) ++ ns.drop (cnt (es.drop (p - base).toNat) ns), p + ns.length, p + (cnt (es.drop (p - base).toNat) ns : Nat) + 1, 0) else (es, p + ns.length, 0, 0))
  else (es, 0, 0, look base bt es p)
def ext (base bt : Int) (es : List En) (p t : Int) (ns : List En) : List En × Int × Int × Int := extAt base bt es (skip base p t ns).1 (skip base p t ns).2.1 (skip base p t ns).2.2

end Go.Proofs.Ytijklginabipgaa

/-
  'append' onto a row of the call's own, as a step within a region that draws its order. A law on the model, over any program.
-/
namespace Go.Proofs.Ytijklginabipgaa
open Go.RowKit
variable {P : Program} (w : World)

theorem step_append_src {ops : Array Oper} {o : Oper} {a : Act} {K : Act → World → Prop} {Q : Exit → Act → World → Prop} {E : Prop} (hgd : o.guard = none) (s xo : Operand) (t tx : TypeId)
    (ho : o.op = .call { callee := .builtin .append, args := #[s, xo], argTypes := #[t, tx] })
    (base : Nat) (e : TypeId) (i : TypeInfo) (z : Value) (size bytes : Nat) (ht : P.underlying t = some (.slice e)) (hi : P.info? e = some i) (hz : i.zero = some z)
    (hsize : i.size = size) (hby : i.bytes = bytes) (hzs : z.cells.size = size)
    (v : Value) (n : Nat) (xs : List Value) (hv : a.eval s = v) (hown : w.ownsRow base e size v n xs) (x : Value) (m : Nat) (news : List Value) (hx : a.eval xo = x) (hs : Src P size tx x m news w)
    (h63 : n + m ≤ maxLen) (hbytes : (n + m) * bytes ≤ 140737488355328) (hbase : base ≤ w.heap.size)
    (h : ∀ ao c w', w'.ownsRow base e size (.slice ao (n + m) c) (n + m) (xs ++ news) → w.grownBy w' v.ownBlock → K (a.put o.dst (.slice ao (n + m) c)) w') :
    if Region.wanted o (yielded ops a.tmps) = true then Oper.wp P o a w K Q else E := by
  rw [if_pos (by simp [Region.wanted, hgd])]
  exact wp_append_src w s xo t tx ho base e i z size bytes ht hi hz hsize hby hzs v n xs hv hown x m news hx hs h63 hbytes hbase fun v' w' h2 h3 => by
    obtain ⟨ao, c, rfl⟩ := own_shape h2
    exact h ao c w' h2 h3

end Go.Proofs.Ytijklginabipgaa

/-
  TermAt and Fresh, and slices.Clone at entries: the program's.
-/
namespace Go.Proofs.Ytijklginabipgaa
open Go.RowKit

/-- Fresh: is a log that ends so as far? -/
def freshB (base bt : Int) (es : List En) (index term : Int) : Bool := decide (tmAt bt es es.length < term) || (decide (term = tmAt bt es es.length) && decide (base + es.length ≤ index))

/-! ### the library's Clone at entries -/
theorem add_posE (a : Addr) {i : Nat} (h : 0 < i) : a.add i = ⟨a.block, a.off + i, none⟩ := by unfold Addr.add; rw [if_neg (by omega)]
theorem Try.infoEn : (Try.prog.info? 52).map (fun i => (i.zero, i.size, i.bytes)) = some (some (.agg #[.int .i64 0, .int .i64 0, .int .i64 0, .string ⟨#[]⟩]), 4, 40) := by kernel_rfl
theorem EntRow.src {B c : Nat} {w : World} {ao : Option Addr} {es : List En} (h : EntRow B w ao es) : Src Try.prog 4 83 (.slice ao es.length c) es.length (enCells es) w := by
  cases hes : es with
  | nil =>
    cases ao with
    | none => exact Src.ofNil _ Try.underlying83 c
    | some a => exact Src.ofSlice _ Try.underlying83 a 0 c [] rfl (fun j u hj => by simp at hj) (fun u hu => by simp at hu)
  | cons x t =>
    rw [← hes]
    obtain ⟨a, rfl, _⟩ := h 0 (by rw [hes]; simp)
    refine Src.ofSlice _ Try.underlying83 a es.length c _ (enCells_len es) ?_ ?_
    · intro j u hj
      have hlt : j < es.length * 4 := by
        rw [← enCells_len]
        exact (List.getElem?_eq_some_iff.1 hj).1
      obtain ⟨a', e, _, q0, q1, q2, q3, _⟩ := h (j / 4) (by omega)
      simp only [Option.some.injEq] at e
      subst e
      obtain ⟨p0, p1, p2, p3⟩ := enCells_at es (j / 4) (by omega)
      have hadd : ∀ r, 0 < r → j = j / 4 * 4 + r → a.add j = ⟨(a.add (j / 4 * 4)).block, (a.add (j / 4 * 4)).off + r, none⟩ := fun r hr hj => by
        generalize j / 4 * 4 = m at hj ⊢
        rw [hj, ← addr_add2]
        exact add_posE _ hr
      rcases (show j = j / 4 * 4 ∨ j = j / 4 * 4 + 1 ∨ j = j / 4 * 4 + 2 ∨ j = j / 4 * 4 + 3 by omega) with e | e | e | e
      · rw [e] at hj ⊢; rw [p0] at hj; rw [← hj]; exact q0
      · rw [hadd 1 (by omega) e]; rw [e, p1] at hj; rw [← hj]; exact q1
      · rw [hadd 2 (by omega) e]; rw [e, p2] at hj; rw [← hj]; exact q2
      · rw [hadd 3 (by omega) e]; rw [e, p3] at hj; rw [← hj]; exact q3
    · intro u hu
      obtain ⟨e, _, hu⟩ := List.mem_flatMap.1 hu
      simp at hu
      rcases hu with rfl | rfl | rfl | rfl <;> rfl

end Go.Proofs.Ytijklginabipgaa

/-
  The document's end, TermAt, Last and Fresh of a log; may a log be? (the program's Valid, the document's IsLog).
-/
namespace Go.Proofs.Ytijklginabipgaa
open Go.RowKit

theorem tAt_end (base bt : Int) (es : List En) : tAt base bt es (base + es.length) = (tmAt bt es es.length, 0) := by
  unfold tAt
  rw [if_neg (by omega), if_neg (by omega), show (base + (es.length : Int) - base).toNat = es.length by omega]

end Go.Proofs.Ytijklginabipgaa

/-
  lookFor and countSame, and the document's first.
-/
namespace Go.Proofs.Ytijklginabipgaa
open Go.RowKit

end Go.Proofs.Ytijklginabipgaa

/-
  Compact and Slice: the program's.
-/
namespace Go.Proofs.Ytijklginabipgaa
open Go.RowKit

/-- Compact: the log and the error. -/
def cmpE (base bt : Int) (es : List En) (i : Int) : Int := (tAt base bt es i).2
def cmpL (base bt : Int) (es : List En) (i : Int) : Int × Int × List En := if (tAt base bt es i).2 = 0 then (i, (tAt base bt es i).1, es.drop (i - base).toNat) else (0, 0, [])
theorem tAt_ok {base bt i : Int} {es : List En} (h : (tAt base bt es i).2 = 0) : base ≤ i ∧ i ≤ base + es.length := by
  unfold tAt at h
  split at h
  · simp at h
  · split at h
    · simp at h
    · omega

theorem EntRow.sub {B : Nat} {w : World} {ao : Option Addr} {es : List En} (h : EntRow B w ao es) (q : Nat) : EntRow B w (ao.map (fun x => x.add (q * 4))) (es.drop q) := by
  cases ao with
  | some a => exact h.drop q
  | none =>
    intro j hj
    obtain ⟨a, e, _⟩ := h (q + j) (by rw [List.length_drop] at hj; omega)
    cases e
end Go.Proofs.Ytijklginabipgaa

/-
  Slice: the program's.
-/
namespace Go.Proofs.Ytijklginabipgaa
open Go.RowKit

def slE (base : Int) (n : Nat) (fr most : Int) : Int := if fr ≤ base then 11 else if base + n + 1 < fr ∨ most < 0 then 12 else 0
def slL (base : Int) (es : List En) (fr most : Int) : List En := if slE base es.length fr most = 0 then (es.drop (fr - 1 - base).toNat).take most.toNat else []
end Go.Proofs.Ytijklginabipgaa

/-
  Extend: the program's.
-/
namespace Go.Proofs.Ytijklginabipgaa
open Go.RowKit

theorem own_take {w : World} {B s n c : Nat} {e : TypeId} {ao : Option Addr} {xs : List Value} (h : w.ownsRow B e s (.slice ao n c) n xs) {k : Nat} (hk : k ≤ n) : w.ownsRow B e s (.slice ao k c) k (xs.take (k * s)) := by
  have hks : k * s ≤ n * s := Nat.mul_le_mul_right _ hk
  refine ⟨by rw [List.length_take, h.1]; omega, ?_⟩
  rcases h.2 with ⟨h1, h2⟩ | ⟨g, cap, cur, h1, h2, h3, h4, h5, h6, h7⟩
  · left
    simp only [Value.slice.injEq] at h1 ⊢
    exact ⟨⟨h1.1, by omega, h1.2.2⟩, by omega⟩
  · right
    simp only [Value.slice.injEq] at h1
    refine ⟨g, cap, cur, by simp only [Value.slice.injEq]; exact ⟨h1.1, trivial, h1.2.2⟩, h2, h3, by omega, h5, h6, ?_⟩
    rw [← h7, List.take_take, Nat.min_eq_left hks]
theorem enCells_take (es : List En) (k : Nat) : enCells (es.take k) = (enCells es).take (k * 4) := by
  by_cases h : k ≤ es.length
  · have h1 : enCells es = enCells (es.take k) ++ enCells (es.drop k) := by rw [← enCells_append, List.take_append_drop]
    have h2 : (enCells (es.take k)).length = k * 4 := by rw [enCells_len, List.length_take]; omega
    rw [h1, ← h2, List.take_left]
  · rw [List.take_of_length_le (by omega), List.take_of_length_le (by rw [enCells_len]; omega)]
theorem own_capE {w : World} {B c : Nat} {ao : Option Addr} {es : List En} (h : OwnEs B w ao c es) : es.length ≤ c := by
  rcases h.2 with ⟨h1, h2⟩ | ⟨g, cap, cur, h1, h2, h3, h4, _⟩
  · simp only [Value.slice.injEq] at h1
    omega
  · simp only [Value.slice.injEq] at h1
    omega
/-- A block ahead of the rows stays where a row grows. -/
theorem grown_oldE {wa w' : World} {B n s : Nat} {e : TypeId} {v : Value} {xs : List Value} {k : Nat} {o : Obj} (hg : wa.drew.grownBy w' v.ownBlock) (ho : wa.ownsRow B e s v n xs) (hk : k < B) (hb : wa.heap[k]? = some o) : w'.heap[k]? = some o := by
  have hlt : k < wa.drew.heap.size := lt_of_block hb
  rw [hg.block k hlt (fun e => by have := own_row ho k e.symm; omega)]
  exact hb
theorem some_no {a : Addr} {P : Prop} : some a = none → P := fun h => by cases h
theorem nil_is {bo : Option Addr} {d : Nat} (h : bo = none → (True ∧ d = 0)) : bo = none → (([] : List En) = [] ∧ d = 0) := fun e => ⟨rfl, (h e).2⟩
end Go.Proofs.Ytijklginabipgaa

/-
  How many of the voters are among those: isMajority, Joint and Quorum.
-/
namespace Go.Proofs.Ytijklginabipgaa
open Go.RowKit

def cntIn (vs hs : List Int) : Nat := (vs.filter (hasZ hs)).length
def maj (vs hs : List Int) : Bool := decide ((vs.length : Int) < 2 * (cntIn vs hs : Nat))
def quo (v n hs : List Int) : Bool := maj v hs && (n.isEmpty || maj n hs)
theorem cntIn_le (vs hs : List Int) : cntIn vs hs ≤ vs.length := List.length_filter_le _ _
theorem cntIn_succ {vs : List Int} (hs : List Int) {k : Nat} (h : k < vs.length) : cntIn (vs.take (k + 1)) hs = cntIn (vs.take k) hs + if hasZ hs vs[k] then 1 else 0 := by
  unfold cntIn
  rw [List.take_succ_eq_append_getElem h, List.filter_append, List.length_append]
  congr 1
  by_cases hz : hasZ hs vs[k]
  · simp [hz]
  · simp [hz]

set_option maxRecDepth 100000 in
set_option maxHeartbeats 1000000 in
theorem isMajority_any (B c1 c2 : Nat) (a1 a2 : Option Addr) (vs hs : List Int) (w : World) (h1 : IntRow B w a1 vs) (h2 : IntRow B w a2 hs) (hl1 : (vs.length : Int) ≤ 1000000) (hl2 : (hs.length : Int) ≤ 9223372036854775807) :
    Calls Try.prog 76 #[.slice a1 vs.length c1, .slice a2 hs.length c2] w fun e w' => e = .returned (.bool (maj vs hs)) ∧ w' = w := by
  have HR : Hid (IntRow B w a1 vs ∧ IntRow B w a2 hs) := ⟨h1, h2⟩
  clear h1 h2
  go_enter Try.func76, Try.ntmps76
  go_wp2
  go_loop [5, 10] (fun v i => ∃ k : Nat, k ≤ vs.length ∧ i = .int .i64 k ∧ v = .int .i64 (cntIn (vs.take k) hs : Nat)) (fun _ i => vs.length - (intOf i).toNat)
  case atStart => exact ⟨0, Nat.zero_le _, rfl, rfl⟩
  case round =>
    obtain ⟨k, hk, rfl, rfl⟩ := hrel
    by_cases hlt : k < vs.length
    · obtain ⟨a, rfl, _, hcell⟩ := HR.out.1 k hlt
      have C := contains_any B c2 a2 hs vs[k] w HR.out.2 hl2
      have hst := cntIn_succ hs hlt
      have hcl := cntIn_le (vs.take k) hs
      have hcl2 : (vs.take k).length ≤ vs.length := by rw [List.length_take]; omega
      have hki : (k : Int) < vs.length := by omega
      generalize vs[k] = z at *
      generalize cntIn (vs.take k) hs = n at *
      cases hz : hasZ hs z with
      | true =>
        rw [hz] at C hst
        simp only [if_true] at hst
        have HST : Hid (cntIn (vs.take (k + 1)) hs = n + 1) := hst
        clear hz hst
        go_wp2_with fail
        refine C.mono ?_
        rintro e w1 ⟨rfl, rfl⟩
        go_wp2
        go_round
        case rel => exact ⟨k + 1, by omega, by go_num, by rw [HST.out]; go_num⟩
        case measure => simp [intOf]; omega
      | false =>
        rw [hz] at C hst
        have HST : Hid (cntIn (vs.take (k + 1)) hs = n) := by show _ = _; simpa using hst
        clear hz hst
        go_wp2_with fail
        refine C.mono ?_
        rintro e w1 ⟨rfl, rfl⟩
        go_wp2
        go_round
        case rel => exact ⟨k + 1, by omega, by go_num, by rw [HST.out]⟩
        case measure => simp [intOf]; omega
    · obtain rfl : k = vs.length := by omega
      rw [List.take_length]
      have hcl := cntIn_le vs hs
      have HM : Hid (maj vs hs = decide ((vs.length : Int) < 2 * (cntIn vs hs : Nat))) := rfl
      generalize cntIn vs hs = n at *
      go_wp2
      go_ret
      rw [HM.out]
      exact ⟨rfl, rfl⟩

set_option maxRecDepth 100000 in
set_option maxHeartbeats 1000000 in
theorem joint_any (c1 c2 c3 : Nat) (a1 a2 a3 : Option Addr) (x y z : Nat) (w : World) :
    Calls Try.prog 36 #[.agg #[.slice a1 x c1, .slice a2 y c2, .slice a3 z c3]] w fun e w' => e = .returned (.bool (decide (0 < y))) ∧ Kept Nil w w' := by
  go_enter Try.func36, Try.ntmps36
  go_wp2
  go_ret
  exact ⟨rfl, (Kept.refl _ _).alloc _⟩

set_option maxRecDepth 100000 in
set_option maxHeartbeats 1000000 in
theorem quorum_any (B c1 c2 c3 d : Nat) (a1 a2 a3 ao : Option Addr) (v n l hs : List Int) (w : World) (h : CfRows B w a1 a2 a3 v n l) (hh : IntRow B w ao hs) (h1 : (v.length : Int) ≤ 1000000) (h2 : (n.length : Int) ≤ 1000000) (h3 : (hs.length : Int) ≤ 9223372036854775807) :
    Calls Try.prog 22 #[.agg #[.slice a1 v.length c1, .slice a2 n.length c2, .slice a3 l.length c3], .slice ao hs.length d] w fun e w' => e = .returned (.bool (quo v n hs)) ∧ Kept Nil w w' := by
  have M1 := isMajority_any B c1 d a1 ao v hs _ (h.r1.alloc (.cells #[.slice a1 v.length c1, .slice a2 n.length c2, .slice a3 l.length c3] 24)) (hh.alloc _) h1 h3
  have M2 := fun w' (hk : Kept Nil w w') => isMajority_any B c2 d a2 ao n hs w' (h.r2.nil hk) (hh.nil hk) h2 h3
  have J := fun w' => joint_any c1 c2 c3 a1 a2 a3 v.length n.length l.length w'
  have HB : Hid ((w.alloc (.cells #[.slice a1 v.length c1, .slice a2 n.length c2, .slice a3 l.length c3] 24)).heap[w.heap.size]? = some (.cells #[.slice a1 v.length c1, .slice a2 n.length c2, .slice a3 l.length c3] 24 (0, 0))) := blk_new _ _
  have HV : Hid (quo v n hs = (maj v hs && (n.isEmpty || maj n hs))) := rfl
  generalize maj v hs = b1 at *
  generalize maj n hs = b2 at *
  clear h hh h1 h2 h3
  cases b1 with
  | false =>
    go_enter Try.func22, Try.ntmps22
    go_wp2_with fail
    refine M1.mono ?_
    rintro e w1 ⟨rfl, rfl⟩
    go_wp2
    go_ret
    rw [HV.out]
    exact ⟨rfl, (Kept.refl _ _).alloc _⟩
  | true =>
    by_cases hn : n = []
    · have hj : decide (0 < n.length) = false := by rw [hn]; rfl
      simp only [hj] at J
      have HF : Hid (quo v n hs = true) := by show quo v n hs = true; rw [HV.out, hn]; rfl
      clear hn HV hj
      go_enter Try.func22, Try.ntmps22
      go_wp2_with fail
      refine M1.mono ?_
      rintro e w1 ⟨rfl, hw1⟩
      have HB1 : Hid (w1.heap[w.heap.size]? = some (.cells #[.slice a1 v.length c1, .slice a2 n.length c2, .slice a3 l.length c3] 24 (0, 0))) := by show _ = _; rw [hw1]; exact HB.out
      have HK1 : Hid (Kept Nil w w1) := by show Kept _ _ _; rw [hw1]; exact (Kept.refl _ _).alloc _
      clear hw1 HB
      have q0 := blk_at HB1.out 0 rfl
      have q1 := blk_at HB1.out 1 rfl
      have q2 := blk_at HB1.out 2 rfl
      go_wp2_with fail
      refine (J _).mono ?_
      rintro e w2 ⟨rfl, k2⟩
      have HK2 : Hid (Kept Nil w w2) := HK1.out.trans k2
      go_wp2
      go_ret
      rw [HF.out]
      exact ⟨rfl, HK2.out⟩
    · have hj : decide (0 < n.length) = true := decide_eq_true (List.length_pos_iff.2 hn)
      simp only [hj] at J
      have HF : Hid (quo v n hs = b2) := by
        show quo v n hs = b2
        rw [HV.out]
        cases n with
        | nil => exact absurd rfl hn
        | cons x t => simp
      clear hn HV hj
      go_enter Try.func22, Try.ntmps22
      go_wp2_with fail
      refine M1.mono ?_
      rintro e w1 ⟨rfl, hw1⟩
      have HB1 : Hid (w1.heap[w.heap.size]? = some (.cells #[.slice a1 v.length c1, .slice a2 n.length c2, .slice a3 l.length c3] 24 (0, 0))) := by show _ = _; rw [hw1]; exact HB.out
      have HK1 : Hid (Kept Nil w w1) := by show Kept _ _ _; rw [hw1]; exact (Kept.refl _ _).alloc _
      clear hw1 HB
      have q0 := blk_at HB1.out 0 rfl
      have q1 := blk_at HB1.out 1 rfl
      have q2 := blk_at HB1.out 2 rfl
      go_wp2_with fail
      refine (J _).mono ?_
      rintro e w2 ⟨rfl, k2⟩
      have HK2 : Hid (Kept Nil w w2) := HK1.out.trans k2
      have HB2 : Hid (_) := k2.block _ _ HB1.out (fun x => x.elim)
      have r1 := blk_at HB2.out 1 rfl
      clear k2 q0 q1 q2
      go_wp2_with fail
      refine (M2 _ HK2.out).mono ?_
      rintro e w3 ⟨rfl, rfl⟩
      go_wp2
      go_ret
      rw [HF.out]
      exact ⟨rfl, HK2.out⟩

end Go.Proofs.Ytijklginabipgaa

/-
  Frames one behind the other, cut anywhere; a frame of which bytes are turned; one of n by any number (pick).
-/
namespace Go.Proofs.Ytijklginabipgaa
open Go.RowKit

theorem pick_val (c n : Int) (hn : 0 < n) : c % n = if c.tmod n < 0 then c.tmod n + n else c.tmod n := by
  have h1 := Int.emod_nonneg c (show n ≠ 0 by omega)
  have h2 := Int.emod_lt_of_pos c hn
  have h3 := Int.tmod_eq_emod (a := c) (b := n)
  have h4 : (n.natAbs : Int) = n := by omega
  split at h3 <;> split <;> omega

set_option maxRecDepth 100000 in
theorem pick_any (c n : Int) (w : World) (hn : 0 < n) (hn2 : n ≤ 9223372036854775807) :
    Calls Try.prog 33 #[.int .i64 c, .int .i64 n] w fun e w' => e = .returned (.int .i64 (c % n)) ∧ w' = w := by
  have hv := pick_val c n hn
  have h1 := Int.emod_nonneg c (show n ≠ 0 by omega)
  have h2 := Int.emod_lt_of_pos c hn
  have hne : (n == 0) = false := by simp; omega
  by_cases hneg : c.tmod n < 0
  · rw [if_pos hneg] at hv
    have HV : Hid (c % n = c.tmod n + n) := hv
    rw [hv] at h1 h2
    clear hv
    go_enter Try.func33, Try.ntmps33
    go_wp2
    go_ret
    rw [HV.out]
    exact ⟨rfl, rfl⟩
  · rw [if_neg hneg] at hv
    have HV : Hid (c % n = c.tmod n) := hv
    rw [hv] at h1 h2
    clear hv
    go_enter Try.func33, Try.ntmps33
    go_wp2
    go_ret
    rw [HV.out]
    exact ⟨rfl, rfl⟩

/-! ### frames one behind the other -/
def frs (bl : List (List UInt8)) (k : Nat) : List UInt8 := (bl.take k).flatMap encFrame
theorem frs_succ {bl : List (List UInt8)} {k : Nat} (h : k < bl.length) : frs bl (k + 1) = frs bl k ++ encFrame bl[k] := by
  unfold frs
  rw [List.take_succ_eq_append_getElem h, List.flatMap_append]
  simp
theorem encFrame_max {s : List UInt8} (h : s.length ≤ 65536) : (encFrame s).length ≤ 65546 := by
  rw [encFrame_len]
  have := enc_len6 (n := s.length) (by omega)
  omega
theorem frs_len {bl : List (List UInt8)} : ∀ {k : Nat}, (∀ b ∈ bl.take k, b.length ≤ 65536) → (frs bl k).length ≤ k * 65546
  | 0, _ => by simp [frs]
  | k + 1, h => by
    by_cases hk : k < bl.length
    · rw [frs_succ hk, List.length_append]
      have h1 := frs_len (bl := bl) (k := k) (fun b hb => h b (by rw [List.take_succ_eq_append_getElem hk]; exact List.mem_append.2 (.inl hb)))
      have h2 := encFrame_max (h bl[k] (by rw [List.take_succ_eq_append_getElem hk]; exact List.mem_append.2 (.inr (List.mem_singleton.2 rfl))))
      omega
    · have e : frs bl (k + 1) = frs bl k := by
        unfold frs
        rw [List.take_of_length_le (by omega), List.take_of_length_le (by omega)]
      rw [e]
      have h1 := frs_len (bl := bl) (k := k) (fun b hb => h b (by rw [List.take_of_length_le (by omega)] at hb ⊢; exact hb))
      exact Nat.le_trans h1 (Nat.mul_le_mul_right _ (Nat.le_succ _))
def endsOf (bl : List (List UInt8)) (k : Nat) : List Nat := (List.range k).map fun j => (frs bl (j + 1)).length
theorem endsOf_len (bl : List (List UInt8)) (k : Nat) : (endsOf bl k).length = k := by simp [endsOf]
theorem endsOf_succ (bl : List (List UInt8)) (k : Nat) : endsOf bl (k + 1) = endsOf bl k ++ [(frs bl (k + 1)).length] := by
  simp [endsOf, List.range_succ]
theorem endsOf_at {bl : List (List UInt8)} {k j : Nat} (h : j < (endsOf bl k).length) : (endsOf bl k)[j] = (frs bl (j + 1)).length := by simp [endsOf]

def cutRest (bl : List (List UInt8)) (K i : Nat) : List UInt8 := ((frs bl bl.length).take K).drop (frs bl i).length
theorem frs_split (bl : List (List UInt8)) (i : Nat) : frs bl bl.length = frs bl i ++ (bl.drop i).flatMap encFrame := by
  unfold frs
  rw [List.take_of_length_le (Nat.le_refl _), ← List.flatMap_append, List.take_append_drop]
theorem cutRest_eq {bl : List (List UInt8)} {K i : Nat} (h : (frs bl i).length ≤ K) : cutRest bl K i = ((bl.drop i).flatMap encFrame).take (K - (frs bl i).length) := by
  unfold cutRest
  rw [frs_split bl i, List.take_append, List.take_of_length_le h, List.drop_left]
theorem cut_more {bl : List (List UInt8)} {K i : Nat} (hi : i < bl.length) (hs : bl[i].length ≤ 65536) (h : (frs bl (i + 1)).length ≤ K) : unF (cutRest bl K i) = (bl[i], cutRest bl K (i + 1), 0) := by
  have e := frs_succ hi
  have hl : (frs bl (i + 1)).length = (frs bl i).length + (encFrame bl[i]).length := by rw [e, List.length_append]
  rw [cutRest_eq h, cutRest_eq (by omega), List.drop_eq_getElem_cons hi, List.flatMap_cons, List.take_append, List.take_of_length_le (by omega), unF_whole hs]
  congr 3
  omega
theorem cut_end {bl : List (List UInt8)} {K i : Nat} (hi : i < bl.length) (hs : bl[i].length ≤ 65536) (h0 : (frs bl i).length ≤ K) (h : K < (frs bl (i + 1)).length) : unF (cutRest bl K i) = ([], [], 3) := by
  have e := frs_succ hi
  have hl : (frs bl (i + 1)).length = (frs bl i).length + (encFrame bl[i]).length := by rw [e, List.length_append]
  rw [cutRest_eq h0, List.drop_eq_getElem_cons hi, List.flatMap_cons, List.take_append_of_le_length (by omega)]
  exact unF_cut hs (by omega)
theorem cut_nil {bl : List (List UInt8)} {K : Nat} (h0 : (frs bl bl.length).length ≤ K) : unF (cutRest bl K bl.length) = ([], [], 3) := by
  rw [cutRest_eq h0, List.drop_of_length_le (Nat.le_refl _), List.flatMap_nil, List.take_nil]
  exact unF_err rfl
theorem cutRest_zero (bl : List (List UInt8)) (K : Nat) : cutRest bl K 0 = (frs bl bl.length).take K := by simp [cutRest, frs]
theorem cutRest_le (bl : List (List UInt8)) (K i : Nat) : (cutRest bl K i).length ≤ (frs bl bl.length).length := by simp [cutRest]; omega

/-! ### a frame whose bytes are turned -/
structure Turned (body b : List UInt8) (f j : Nat) : Prop where
  len : b.length = body.length
  same : ∀ i, i < f ∨ f + j ≤ i → b[i]? = body[i]?

theorem Turned.start (body : List UInt8) (f : Nat) : Turned body body f 0 := ⟨rfl, fun _ _ => rfl⟩
theorem Turned.step {body b : List UInt8} {f j : Nat} (h : Turned body b f j) (hi : f + j < body.length) (m : UInt8) :
    Turned body (b.set (f + j) (body[f + j] ^^^ m)) f (j + 1) ∧ (b.set (f + j) (body[f + j] ^^^ m) ≠ body ↔ b ≠ body ∨ m ≠ 0) := by
  have hs := h.same (f + j) (.inr (Nat.le_refl _))
  have hst := turned_step (m := m) hi hs
  refine ⟨⟨by simpa using h.len, fun i hi2 => ?_⟩, ?_⟩
  · rw [List.getElem?_set_ne (by omega)]
    exact h.same i (by omega)
  · constructor
    · intro hne
      by_cases hb : b = body
      · right
        intro hm
        exact hne ((hst.2 hm).trans hb)
      · exact .inl hb
    · intro hor e
      by_cases hb : b = body
      · rcases hor with h1 | h1
        · exact h1 hb
        · exact h1 (hst.1 (e.trans hb.symm))
      · apply hb
        apply List.ext_getElem?
        intro i
        by_cases hif : i = f + j
        · rw [hif]; exact hs
        · rw [← e, List.getElem?_set_ne (by omega)]

/-- The bytes of the turned frame. -/
def turnT (body b : List UInt8) : List UInt8 := encText b ++ le4 (crc body)
theorem turnT_eq {body b : List UInt8} (h : b.length = body.length) : turnT body b = enc body.length ++ (b ++ le4 (crc body)) := by
  unfold turnT encText
  rw [h, List.append_assoc]
theorem turnT_self (body : List UInt8) : turnT body body = encFrame body := rfl
theorem turnT_len {body b : List UInt8} (h : b.length = body.length) : (turnT body b).length = (encFrame body).length := by
  simp [turnT, encFrame, encText, h]
theorem turnT_at {body b : List UInt8} {i : Nat} (h : b.length = body.length) (hi : i < body.length) : (turnT body b)[(enc body.length).length + i]? = b[i]? := by
  rw [turnT_eq h, List.getElem?_append_right (by omega), Nat.add_sub_cancel_left, List.getElem?_append_left (by omega)]
theorem turnT_set {body b : List UInt8} {i : Nat} (h : b.length = body.length) (hi : i < body.length) (x : UInt8) : (turnT body b).set ((enc body.length).length + i) x = turnT body (b.set i x) := by
  rw [turnT_eq h, turnT_eq (by simpa using h), List.set_append_right _ _ (by omega), Nat.add_sub_cancel_left, List.set_append_left _ _ (by omega)]
theorem turn_end {body b : List UInt8} {f j : Nat} (h : Turned body b f j) (hj : j ≤ 4 ) (hl : body.length ≤ 65536) : (unF (turnT body b)).2.2 = if b = body then 0 else 2 := by
  by_cases he : b = body
  · rw [if_pos he, he, turnT_self]
    have := unF_whole hl []
    rw [List.append_nil] at this
    rw [this]
  · rw [if_neg he]
    have hc := crc_window (a := b) (b := body) (f := f) h.len (fun i hi => h.same i (by omega)) he
    have := unF_turned hl h.len hc []
    rw [List.append_nil] at this
    unfold turnT
    rw [this]

/-! ### a row of bytes that was made of a string -/
structure ByteRow (w : World) (g : Nat) (T : List UInt8) : Prop where
  cell : ∀ j, (hj : j < T.length) → w.cell? ⟨g, j, none⟩ = some (.int .u8 (T[j].toNat : Nat))
  free : ∀ j, w.frozen? ⟨g, j, none⟩ = false ∨ T.length ≤ j

theorem ByteRow.set {w : World} {g : Nat} {T : List UInt8} (h : ByteRow w g T) (i : Nat) (x : UInt8) (hi : i < T.length) {y : Int} (hy : y = x.toNat) : ByteRow (w.setCell ⟨g, i, none⟩ (.int .u8 y)) g (T.set i x) := by
  subst hy
  refine ⟨fun j hj => ?_, fun j => ?_⟩
  · have hj' : j < T.length := by simpa using hj
    by_cases hij : i = j
    · subst hij
      rw [World.cell?_setCell_same _ _ _ (h.cell i hi)]
      simp
    · rw [World.cell?_setCell_other _ _ _ _ (fun e => hij (by cases e; rfl)), h.cell j hj', List.getElem_set_ne hij]
  · rw [World.frozen?_setCell, List.length_set]
    exact h.free j
theorem ByteRow.kept {w w' : World} {g : Nat} {T : List UInt8} (h : ByteRow w g T) (hk : Kept Nil w w') (hne : T ≠ []) : ByteRow w' g T := by
  have h0 := h.cell 0 (List.length_pos_iff.2 hne)
  have hlt : g < w.heap.size := cell_lt h0
  have hb : w'.heap[g]? = w.heap[g]? := by rw [hk.block g _ (Array.getElem?_eq_getElem hlt) (fun x => x.elim), Array.getElem?_eq_getElem hlt]
  exact ⟨fun j hj => (World.cell?_of_block (w := w) (a := ⟨g, j, none⟩) hb).trans (h.cell j hj), fun j => by rw [World.frozen?_of_block (w := w) (a := ⟨g, j, none⟩) hb]; exact h.free j⟩
theorem ByteRow.new (w : World) (l : List UInt8) (cap : Nat) : ByteRow (w.alloc (.cells (bytesRow (bs l) cap) 5 ((bytesRow (bs l) cap).size, (bytesRow (bs l) cap).size + 1))).drew w.heap.size l := by
  refine ⟨fun j hj => ?_, fun j => ?_⟩
  · rw [sum_cell w l cap j _ hj]
    simp [List.getD_eq_getElem?_getD, hj]
  · by_cases hj : l.length ≤ j
    · exact .inr hj
    · left
      have hb : (w.alloc (.cells (bytesRow (bs l) cap) 5 ((bytesRow (bs l) cap).size, (bytesRow (bs l) cap).size + 1))).drew.heap[w.heap.size]? = some (.cells (bytesRow (bs l) cap) 5 ((bytesRow (bs l) cap).size, (bytesRow (bs l) cap).size + 1)) := blk_new w _
      have hs : l.length ≤ (bytesRow (bs l) cap).size := by simp [bytesRow, bs]
      unfold World.frozen?
      rw [hb]
      simp
      omega
theorem ByteRow.conv {w : World} {g : Nat} {T : List UInt8} (h : ByteRow w g T) (cap : Nat) :
    (convert 180 9 (.slice (some ⟨g, 0, none⟩) T.length cap)).run Try.prog w = .ok (.string (bs T)) w := by
  refine run_convert_bytes_back w 180 9 5 ⟨g, 0, none⟩ cap T Try.underlying180 Try.underlying5 Try.underlying9 ?_
  intro j hj
  have e : (⟨g, 0, none⟩ : Addr).add j = ⟨g, j, none⟩ := by unfold Addr.add; split <;> simp_all
  rw [e]
  exact h.cell j hj
theorem ByteRow.convAs {w : World} {g : Nat} {T : List UInt8} (h : ByteRow w g T) (cap : Nat) {N : Nat} (hN : N = T.length) :
    (convert 180 9 (.slice (some ⟨g, 0, none⟩) N cap)).run Try.prog w = .ok (.string (bs T)) w := by
  subst hN
  exact h.conv cap
theorem xor_byte (x : UInt8) (z : Int) : bits .xor .u8 (x.toNat : Int) (z % 256) = ((x ^^^ UInt8.ofNat (z % 256).toNat).toNat : Nat) := by
  have h1 := x.toNat_lt
  have h2 : (z % 256).toNat < 256 := by omega
  have e : z % 256 = ((z % 256).toNat : Nat) := by omega
  have := u8_xor_nat x.toNat (z % 256).toNat h1 h2
  rw [← e] at this
  rw [this, UInt8.toNat_xor, ofNat_toNat h2]
theorem byte_zero (z : Int) : UInt8.ofNat (z % 256).toNat = 0 ↔ z % 256 = 0 := by
  have h2 : (z % 256).toNat < 256 := by omega
  constructor
  · intro h
    have := congrArg UInt8.toNat h
    rw [ofNat_toNat h2] at this
    have e0 : (0 : UInt8).toNat = 0 := rfl
    omega
  · intro h
    rw [h]
    rfl

end Go.Proofs.Ytijklginabipgaa

/-
  An entry written: the writer's entry, write, PutEntry; and the document's: the same bytes.
-/
namespace Go.Proofs.Ytijklginabipgaa
open Go.RowKit

/-- An entry's bytes. -/
def encEnt (ix tm kd : Nat) (dt : List UInt8) : List UInt8 := encAll [ix, tm, kd] ++ encText dt

set_option maxRecDepth 100000 in
set_option maxHeartbeats 1000000 in
theorem wEntry_any (b ix tm kd : Nat) (dt l : List UInt8) (w : World) (h : WInv b w l) (h1 : ix ≤ 1099511627775) (h2 : tm ≤ 1099511627775) (h3 : kd ≤ 1099511627775) (h4 : dt.length ≤ 256) (hl : l.length ≤ 10000000000) :
    Calls Try.prog 83 #[.pointer (some ⟨b, 0, none⟩), .agg #[.int .i64 ix, .int .i64 tm, .int .i64 kd, .string (bs dt)]] w fun e w' => e = .returned (.tuple #[]) ∧ WInv b w' (l ++ encEnt ix tm kd dt) ∧ Kept (Wr b) w w' := by
  have hlt := h.lt
  have HX : Hid (¬ Wr b w.heap.size (.cells #[.int .i64 ix, .int .i64 tm, .int .i64 kd, .string (bs dt)] 52)) := not_wr (Nat.ne_of_gt hlt) (by decide)
  have HB : Hid (_) := blk_past (blk_new w (.cells #[.int .i64 ix, .int .i64 tm, .int .i64 kd, .string (bs dt)] 52)) (.cells #[.int .i64 ix, .int .i64 tm, .int .i64 kd] 3)
  have hg := blk_new (w.alloc (.cells #[.int .i64 ix, .int .i64 tm, .int .i64 kd, .string (bs dt)] 52)) (.cells #[.int .i64 ix, .int .i64 tm, .int .i64 kd] 3)
  rw [show (w.alloc (.cells #[.int .i64 ix, .int .i64 tm, .int .i64 kd, .string (bs dt)] 52)).heap.size = w.heap.size + 1 by simp] at hg
  have hle : ∀ n ∈ [ix, tm, kd], n ≤ 1099511627775 := by intro n hn'; simp at hn'; omega
  have H := wNumbers_any b (w.heap.size + 1) 3 _ _ [ix, tm, kd] l _ ((h.alloc _).alloc _) hg (by omega) (ints3 w _ ix tm kd) hle (by simp) (by omega)
  have HL : Hid ((encAll [ix, tm, kd]).length ≤ 18 ∧ l.length ≤ 10000000000 ∧ dt.length ≤ 256) := by
    have := encAll_len [ix, tm, kd] hle
    exact ⟨by simpa using this, hl, h4⟩
  unfold encEnt
  rw [← List.append_assoc]
  clear h1 h2 h3 h4 hl hlt hg hle
  go_enter Try.func83, Try.ntmps83
  go_wp2_with fail
  refine H.mono ?_
  rintro e w1 ⟨rfl, i1, k1⟩
  have X1 := k1.block _ _ HB.out HX.out
  have q3 := blk_at X1 3 rfl
  clear X1
  go_wp2_with fail
  refine (wText_any b dt _ w1 i1 (by have := HL.out; omega) (by have := HL.out; simp only [List.length_append]; omega)).mono ?_
  rintro e w2 ⟨rfl, i2, k2⟩
  go_wp2
  go_end0
  exact ⟨rfl, i2, ((((Kept.refl _ _).alloc _).alloc _).trans k1).trans k2⟩

set_option maxRecDepth 100000 in
set_option maxHeartbeats 1000000 in
theorem writeEnt_ok (ix tm kd : Nat) (dt : List UInt8) (w : World) (h1 : ix ≤ 1099511627775) (h2 : tm ≤ 1099511627775) (h3 : kd ≤ 1099511627775) (h4 : dt.length ≤ 256) (c : Int) :
    Calls Try.prog 81 #[.agg #[.int .i64 ix, .int .i64 tm, .int .i64 kd, .string (bs dt)], .bool true, .int .i64 c, .func (.func 83) #[] #[]] w fun e w' => e = .returned (.tuple #[.string (bs (encEnt ix tm kd dt)), .int .i64 0]) ∧ Kept Nil w w' := by
  have H := fun b w h => wEntry_any b ix tm kd dt [] w h h1 h2 h3 h4 (by simp)
  simp only [List.nil_append] at H
  clear h1 h2 h3 h4
  have hw := winv_new (w.alloc (.cells #[.int .i64 ix, .int .i64 tm, .int .i64 kd, .string (bs dt)] 52))
  have H1 := H _ _ hw
  have es : (w.alloc (.cells #[.int .i64 ix, .int .i64 tm, .int .i64 kd, .string (bs dt)] 52)).heap.size = w.heap.size + 1 := by simp
  rw [es] at H1
  clear hw H es
  go_enter Try.func81, Try.ntmps81
  go_wp2_with fail
  refine H1.mono ?_
  rintro e w1 ⟨rfl, ⟨ao, c', hb, ho⟩, hk⟩
  have h0 := blk_at hb 0 rfl
  have hcv := conv_own ho
  go_wp2
  go_ret2
  refine ⟨rfl, Kept.ofNew (((Kept.refl _ _).alloc _).alloc _) hk ?_⟩
  rintro k o (rfl | ⟨hk, _⟩) <;> omega

set_option maxRecDepth 100000 in
theorem writeEnt_no (cs : Array Value) (w : World) (c : Int) (f : Value) :
    Calls Try.prog 81 #[.agg cs, .bool false, .int .i64 c, f] w fun e w' => e = .returned (.tuple #[.string (bs []), .int .i64 c]) ∧ Kept Nil w w' := by
  go_enter Try.func81, Try.ntmps81
  go_wp2
  go_ret2
  exact ⟨rfl, (Kept.refl _ _).alloc _⟩

/-- What PutEntry answers. -/
def putEnt (x : En) : List UInt8 × Int := if x.ok then (encEnt x.ix.toNat x.tm.toNat x.kd.toNat x.dt, 0) else ([], 6)
theorem isCnt_nat {x : Int} (h : isCnt x = true) : (x.toNat : Int) = x ∧ x.toNat ≤ 1099511627775 := by
  simp only [isCnt, Bool.and_eq_true, decide_eq_true_eq] at h
  omega
theorem En.facts {x : En} (h : x.ok = true) : isCnt x.ix = true ∧ isCnt x.tm = true ∧ (0 ≤ x.kd ∧ x.kd ≤ 2) ∧ x.dt.length ≤ 256 := by
  unfold En.ok at h
  simp only [Bool.and_eq_true] at h
  obtain ⟨⟨h1, h2⟩, h3⟩ := h
  split at h3
  · rename_i h0
    rw [List.isEmpty_iff] at h3
    rw [h3]
    exact ⟨h1, h2, by omega, by simp⟩
  · split at h3
    · rename_i h0
      exact ⟨h1, h2, by omega, of_decide_eq_true h3⟩
    · cases h3

theorem writeEnt_any (ix tm kd : Int) (dt : List UInt8) (w : World) :
    Calls Try.prog 81 #[.agg #[.int .i64 ix, .int .i64 tm, .int .i64 kd, .string (bs dt)], .bool (En.ok ⟨ix, tm, kd, dt⟩), .int .i64 6, .func (.func 83) #[] #[]] w fun e w' => e = .returned (.tuple #[.string (bs (putEnt ⟨ix, tm, kd, dt⟩).1), .int .i64 (putEnt ⟨ix, tm, kd, dt⟩).2]) ∧ Kept Nil w w' := by
  cases hq : En.ok ⟨ix, tm, kd, dt⟩ with
  | false =>
    have e : putEnt ⟨ix, tm, kd, dt⟩ = ([], 6) := by unfold putEnt; rw [hq]; rfl
    rw [e]
    exact writeEnt_no _ w 6 _
  | true =>
    have e : putEnt ⟨ix, tm, kd, dt⟩ = (encEnt ix.toNat tm.toNat kd.toNat dt, 0) := by unfold putEnt; rw [hq]; rfl
    rw [e]
    obtain ⟨a1, a2, a3, a4⟩ := En.facts hq
    have b1 := isCnt_nat a1
    have b2 := isCnt_nat a2
    simp only at a3
    have b3 : (kd.toNat : Int) = kd := by omega
    have H := writeEnt_ok ix.toNat tm.toNat kd.toNat dt w b1.2 b2.2 (by omega) a4 6
    rw [b1.1, b2.1, b3] at H
    exact H

set_option maxRecDepth 100000 in
set_option maxHeartbeats 1000000 in
theorem putEntry_any (ix tm kd : Int) (dt : List UInt8) (w : World) (hd : dt.length ≤ maxLen) :
    Calls Try.prog 38 #[.agg #[.int .i64 ix, .int .i64 tm, .int .i64 kd, .string (bs dt)]] w fun e w' => e = .returned (.tuple #[.string (bs (putEnt ⟨ix, tm, kd, dt⟩).1), .int .i64 (putEnt ⟨ix, tm, kd, dt⟩).2]) ∧ Kept Nil w w' := by
  have H1 := fun w => isEntry_any ix tm kd dt w hd
  have H2 := fun w => writeEnt_any ix tm kd dt w
  generalize En.ok ⟨ix, tm, kd, dt⟩ = okb at H1 H2
  generalize putEnt ⟨ix, tm, kd, dt⟩ = pr at H2 ⊢
  obtain ⟨p1, p2⟩ := pr
  simp only at H2 ⊢
  clear hd
  have HB : Hid (_) := blk_new w (.cells #[.int .i64 ix, .int .i64 tm, .int .i64 kd, .string (bs dt)] 52)
  go_enter Try.func38, Try.ntmps38
  go_wp2
  go_region_with (first | (go_at_call 82; go_must (refine (H1 _).mono ?_); rintro e w1 ⟨rfl, k1⟩; have X1 := k1.block _ _ HB.out (fun x => x.elim); have q0 := blk_at X1 0 rfl; have q1 := blk_at X1 1 rfl; have q2 := blk_at X1 2 rfl; have q3 := blk_at X1 3 rfl; clear X1) | (go_at_call 81; go_must (refine (H2 _).mono ?_); rintro e w2 ⟨rfl, k2⟩))
  all_goals go_wp2
  all_goals go_ret2
  all_goals exact ⟨rfl, (((Kept.refl _ _).alloc _).drew.trans k1).trans k2⟩

/-! ### the document's -/
theorem encEnt_eq (ix tm kd : Nat) (dt : List UInt8) : encEnt ix tm kd dt = enc ix ++ enc tm ++ enc kd ++ encText dt := by simp [encEnt, encAll]

set_option maxRecDepth 100000 in
set_option maxHeartbeats 1000000 in
theorem refEntry_any (ix tm kd : Nat) (dt : List UInt8) (w : World) (h1 : ix ≤ 1099511627775) (h2 : tm ≤ 1099511627775) (h3 : kd ≤ 1099511627775) (h4 : dt.length ≤ 256) :
    Calls Try.prog 85 #[.agg #[.int .i64 ix, .int .i64 tm, .int .i64 kd, .string (bs dt)]] w fun e w' => e = .returned (.string (bs (encEnt ix tm kd dt))) ∧ Kept Nil w w' := by
  have HB : Hid (_) := blk_new w (.cells #[.int .i64 ix, .int .i64 tm, .int .i64 kd, .string (bs dt)] 52)
  have N1 := refNum_any ix h1
  have N2 := refNum_any tm h2
  have N3 := refNum_any kd h3
  have N4 := fun w => refTextOf_any dt w (by omega)
  have z1 : (bs (enc ix)).size ≤ 6 := by rw [bs_size]; exact enc_len6 h1
  have z2 : (bs (enc tm)).size ≤ 6 := by rw [bs_size]; exact enc_len6 h2
  have z3 : (bs (enc kd)).size ≤ 6 := by rw [bs_size]; exact enc_len6 h3
  have z4 : (bs (encText dt)).size ≤ 262 := by
    rw [bs_size]
    have := encText_len (l := dt) (by omega)
    omega
  have z5 : (bs (enc ix) ++ bs (enc tm)).size ≤ 12 := by rw [bs_append, bs_size, List.length_append]; rw [bs_size] at z1 z2; omega
  have z6 : (bs (enc ix) ++ bs (enc tm) ++ bs (enc kd)).size ≤ 18 := by rw [bs_append, bs_append, bs_size, List.length_append, List.length_append]; rw [bs_size] at z1 z2 z3; omega
  have HE : Hid (bs (enc ix) ++ bs (enc tm) ++ bs (enc kd) ++ bs (encText dt) = bs (encEnt ix tm kd dt)) := by show _ = _; rw [bs_append, bs_append, bs_append, encEnt_eq]
  clear h1 h2 h3 h4
  rw [← HE.out]
  go_enter Try.func85, Try.ntmps85
  go_wp2_with fail
  refine (N1 _).mono ?_
  rintro e w1 ⟨rfl, k1⟩
  have X1 := k1.block _ _ HB.out (fun x => x.elim)
  have q1 := blk_at X1 1 rfl
  go_wp2_with fail
  refine (N2 _).mono ?_
  rintro e w2 ⟨rfl, k2⟩
  have X2 := k2.block _ _ X1 (fun x => x.elim)
  have q2 := blk_at X2 2 rfl
  go_wp2_with fail
  refine (N3 _).mono ?_
  rintro e w3 ⟨rfl, k3⟩
  have X3 := k3.block _ _ X2 (fun x => x.elim)
  have q3 := blk_at X3 3 rfl
  go_wp2_with fail
  refine (N4 _).mono ?_
  rintro e w4 ⟨rfl, k4⟩
  go_wp2
  go_ret
  exact ⟨rfl, (((((Kept.refl _ _).alloc _).trans k1).trans k2).trans k3).trans k4⟩

set_option maxRecDepth 100000 in
set_option maxHeartbeats 1000000 in
theorem refPutEntry_any (ix tm kd : Int) (dt : List UInt8) (w : World) (hd : dt.length ≤ maxLen) :
    Calls Try.prog 39 #[.agg #[.int .i64 ix, .int .i64 tm, .int .i64 kd, .string (bs dt)]] w fun e w' => e = .returned (.tuple #[.string (bs (putEnt ⟨ix, tm, kd, dt⟩).1), .int .i64 (putEnt ⟨ix, tm, kd, dt⟩).2]) ∧ Kept Nil w w' := by
  have H1 := fun w => refIsEntry_any ix tm kd dt w hd
  have HB : Hid (_) := blk_new w (.cells #[.int .i64 ix, .int .i64 tm, .int .i64 kd, .string (bs dt)] 52)
  clear hd
  cases hq : En.ok ⟨ix, tm, kd, dt⟩ with
  | false =>
    have e : putEnt ⟨ix, tm, kd, dt⟩ = ([], 6) := by unfold putEnt; rw [hq]; rfl
    rw [e]
    rw [hq] at H1
    clear e hq
    go_enter Try.func39, Try.ntmps39
    go_wp2_with fail
    refine (H1 _).mono ?_
    rintro e w1 ⟨rfl, k1⟩
    go_wp2
    go_ret2
    exact ⟨rfl, ((Kept.refl _ _).alloc _).trans k1⟩
  | true =>
    have e : putEnt ⟨ix, tm, kd, dt⟩ = (encEnt ix.toNat tm.toNat kd.toNat dt, 0) := by unfold putEnt; rw [hq]; rfl
    rw [e]
    obtain ⟨a1, a2, a3, a4⟩ := En.facts hq
    have b1 := isCnt_nat a1
    have b2 := isCnt_nat a2
    simp only at a3
    have b3 : (kd.toNat : Int) = kd := by omega
    have H2 := fun w => refEntry_any ix.toNat tm.toNat kd.toNat dt w b1.2 b2.2 (by omega) a4
    rw [b1.1, b2.1, b3] at H2
    rw [hq] at H1
    clear e hq a1 a2 a3 a4 b1 b2 b3
    generalize encEnt ix.toNat tm.toNat kd.toNat dt = r at H2 ⊢
    go_enter Try.func39, Try.ntmps39
    go_wp2_with fail
    refine (H1 _).mono ?_
    rintro e w1 ⟨rfl, k1⟩
    have X1 := k1.block _ _ HB.out (fun x => x.elim)
    have q0 := blk_at X1 0 rfl
    have q1 := blk_at X1 1 rfl
    have q2 := blk_at X1 2 rfl
    have q3 := blk_at X1 3 rfl
    go_wp2_with fail
    refine (H2 _).mono ?_
    rintro e w2 ⟨rfl, k2⟩
    go_wp2
    go_ret2
    exact ⟨rfl, (((Kept.refl _ _).alloc _).trans k1).trans k2⟩

end Go.Proofs.Ytijklginabipgaa

/-
  The program's read at a row of numbers: caught or not.
-/
namespace Go.Proofs.Ytijklginabipgaa
open Go.RowKit

theorem blk_drewN {w : World} {b : Nat} {o : Obj} (h : w.heap[b]? = some o) : w.drew.heap[b]? = some o := h
theorem setsN {w : World} {A : Nat} {t : TypeId} {x0 : Value} (hA : w.heap[A]? = some (.cells #[x0] t (0, 0))) (v0 : Value) :
    (w.setCell ⟨A, 0, none⟩ v0).heap[A]? = some (.cells #[v0] t (0, 0)) := by
  have s0 : (w.setCell ⟨A, 0, none⟩ v0).heap[A]? = some (.cells #[v0] t (0, 0)) := blk_set hA 0 v0
  exact s0

end Go.Proofs.Ytijklginabipgaa

/-
  GetNumbers and PutNumbers; and the document's: the same plain answers. Two rows held against each other.
  PutNumbers, and the document's; what is written of numbers is read again.
-/
namespace Go.Proofs.Ytijklginabipgaa
open Go.RowKit

def getNums (n : Nat) (l : List UInt8) : List Nat × Int :=
  match rdTimes rdNum n l with
  | .ok (ns, []) => (ns, 0)
  | .ok (_, _ :: _) => ([], 1)
  | .error c => ([], c)
theorem getNums_err {n : Nat} {l : List UInt8} {c : Int} (h : rdTimes rdNum n l = .error c) : getNums n l = ([], c) := by simp [getNums, h]
theorem getNums_ok {n : Nat} {l : List UInt8} {ns : List Nat} (h : rdTimes rdNum n l = .ok (ns, [])) : getNums n l = (ns, 0) := by simp [getNums, h]
theorem getNums_left {n : Nat} {l : List UInt8} {ns : List Nat} {y : UInt8} {t : List UInt8} (h : rdTimes rdNum n l = .ok (ns, y :: t)) : getNums n l = ([], 1) := by simp [getNums, h]

/-- What is handed out: a row of its own, and the error. -/
def NumsPost (g : List Nat × Int) (w : World) (e : Ending) (w' : World) : Prop := ∃ ao c, e = .returned (.tuple #[.slice ao g.1.length c, .int .i64 g.2]) ∧ OwnNats w.heap.size w' ao c g.1 ∧ Kept Nil w w'

/-! ### the document's -/
/-! ### rows, read -/
theorem OwnNats.shape {B : Nat} {w : World} {ao : Option Addr} {c : Nat} {ns : List Nat} (h : OwnNats B w ao c ns) (hn : ns ≠ []) :
    ∃ g, B ≤ g ∧ ao = some ⟨g, 0, none⟩ ∧ (∃ cs, w.heap[g]? = some (.cells cs 3 (0, 0))) ∧ ∀ j, (hj : j < ns.length) → w.cell? ⟨g, j, none⟩ = some (.int .i64 (ns[j] : Nat)) := by
  have h' := h
  rcases h.2 with ⟨_, h0⟩ | ⟨g, cap, cur, hv, hB, hg, _⟩
  · exact absurd (List.eq_nil_of_length_eq_zero h0) hn
  · simp only [Value.slice.injEq, true_and] at hv
    obtain ⟨rfl, rfl⟩ := hv
    refine ⟨g, hB, rfl, ⟨cur, hg⟩, fun j hj => ?_⟩
    rw [World.ownsRow.cellAt h' j (by omega)]
    simp [natCells, hj]
theorem OwnNats.empty {B : Nat} {w : World} {ao : Option Addr} {c : Nat} (_ : OwnNats B w ao c []) : True := trivial

end Go.Proofs.Ytijklginabipgaa

namespace Go.Proofs.Ytijklginabipgaa
open Go.RowKit

theorem rdTimes_enc : ∀ (ns : List Nat) (t : List UInt8), (∀ n ∈ ns, n ≤ maxNum) → rdTimes rdNum ns.length (encAll ns ++ t) = .ok (ns, t)
  | [], t, _ => rfl
  | n :: ns, t, h => by
    have e : encAll (n :: ns) ++ t = enc n ++ (encAll ns ++ t) := by simp [encAll]
    rw [e, List.length_cons]
    unfold rdTimes
    rw [rdNum_enc (h n (by simp))]
    simp only
    rw [rdTimes_enc ns t (fun m hm => h m (by simp [hm]))]

theorem own_ints {B : Nat} {w : World} {ao : Option Addr} {c : Nat} {ns : List Nat} (h : OwnNats B w ao c ns) (hn : ns ≠ []) :
    ∃ g cs, B ≤ g ∧ ao = some ⟨g, 0, none⟩ ∧ w.heap[g]? = some (.cells cs 3 (0, 0)) ∧ IntsAt w g (intsOf ns) := by
  obtain ⟨g, hB, rfl, ⟨cs, hg⟩, hc⟩ := h.shape hn
  refine ⟨g, cs, hB, rfl, hg, fun j hj => ?_⟩
  have hj' : j < ns.length := by simpa [intsOf] using hj
  rw [hc j hj']
  simp [intsOf, List.getD_eq_getElem?_getD, hj']

theorem wNumbers_nil (p : Addr) (ao : Option Addr) (c : Nat) (w : World) :
    Calls Try.prog 141 #[.pointer (some p), .slice ao 0 c] w fun e w' => e = .returned (.tuple #[]) ∧ w' = w := by
  go_enter Try.func141, Try.ntmps141
  go_wp2
  refine wp_loop_rounds 1 ?_
  rw [rounds_succ]
  go_wp2
  go_end0
  exact ⟨rfl, rfl⟩

/-- Numbers written out of a row, whatever it is. -/
theorem wNumbers_own (b B c : Nat) (ao : Option Addr) (ns : List Nat) (l : List UInt8) (w : World) (h : WInv b w l) (ho : OwnNats B w ao c ns) (hb : ∀ g, ao = some ⟨g, 0, none⟩ → g ≠ b)
    (hn : ∀ n ∈ ns, n ≤ 1099511627775) (hnl : ns.length ≤ 10000000) (hl : l.length ≤ 100000000000) :
    Calls Try.prog 141 #[.pointer (some ⟨b, 0, none⟩), .slice ao ns.length c] w fun e w' => e = .returned (.tuple #[]) ∧ WInv b w' (l ++ encAll ns) ∧ Kept (Wr b) w w' := by
  by_cases hnil : ns = []
  · subst hnil
    refine (wNumbers_nil _ ao c w).mono ?_
    rintro e w' ⟨rfl, rfl⟩
    exact ⟨rfl, by simpa [encAll] using h, .refl _ _⟩
  · obtain ⟨g, cs, _, rfl, hg, hi⟩ := own_ints ho hnil
    exact wNumbers_any b g c cs _ ns l w h hg (hb g rfl) hi hn hnl hl

theorem own_ne {B c : Nat} {w : World} {ao : Option Addr} {ns : List Nat} {b : Nat} (ho : OwnNats B w ao c ns) (hb : w.heap.size ≤ b) : ∀ g, ao = some ⟨g, 0, none⟩ → g ≠ b := by
  intro g hg
  have := (ho.lt g (by rw [hg]; rfl)).2
  omega

theorem encAll_snoc (ns : List Nat) (n : Nat) : encAll (ns ++ [n]) = encAll ns ++ enc n := by simp [encAll]

theorem src_own {B c : Nat} {w : World} {ao : Option Addr} {ns : List Nat} (h : OwnNats B w ao c ns) : Src Try.prog 1 22 (.slice ao ns.length c) ns.length (natCells ns) w := by
  by_cases hn : ns = []
  · subst hn
    rcases h.2 with ⟨hv, _⟩ | ⟨g, cap, cur, hv, _⟩
    · simp only [List.length_nil, Value.slice.injEq, true_and] at hv
      obtain ⟨rfl, rfl⟩ := hv
      exact Src.ofNil w Try.underlying22 0
    · simp only [Value.slice.injEq, true_and] at hv
      obtain ⟨rfl, rfl⟩ := hv
      exact Src.ofSlice w Try.underlying22 _ 0 c [] rfl (fun j u hj => by simp at hj) (fun u hu => by cases hu)
  · obtain ⟨g, _, rfl, _, hc⟩ := h.shape hn
    refine Src.ofSlice w Try.underlying22 _ ns.length c (natCells ns) (by simp [natCells]) ?_ ?_
    · intro j u hj
      have hj' : j < ns.length := by
        have := (List.getElem?_eq_some_iff.1 hj).1
        simpa [natCells] using this
      have e : (⟨g, 0, none⟩ : Addr).add j = ⟨g, j, none⟩ := by unfold Addr.add; split <;> simp_all
      rw [e, hc j hj']
      simpa [natCells, hj'] using hj
    · intro u hu
      obtain ⟨_, _, rfl⟩ := List.mem_map.1 hu
      rfl

/-- What the law makes of any number. -/
def small (z : Int) : Nat := (z.tmod 1099511627776).natAbs
theorem small_le (z : Int) : small z ≤ 1099511627775 := by
  unfold small
  rw [Int.natAbs_tmod]
  have : z.natAbs % (1099511627776 : Int).natAbs < (1099511627776 : Int).natAbs := Nat.mod_lt _ (by decide)
  have e : (1099511627776 : Int).natAbs = 1099511627776 := by decide
  omega
theorem small_pos {z : Int} (h : ¬ z.tmod 1099511627776 < 0) : z.tmod 1099511627776 = (small z : Nat) := by unfold small; omega
theorem small_neg {z : Int} (h : z.tmod 1099511627776 < 0) : -z.tmod 1099511627776 = (small z : Nat) := by unfold small; omega

theorem known_nums : getNums 2 [172, 2, 0] = ([300, 0], 0) := by
  refine getNums_ok ?_
  have e : encAll [300, 0] ++ [] = [172, 2, 0] := by
    simp only [encAll, List.flatMap_cons, List.flatMap_nil, List.append_nil]
    rw [enc_big (by decide), enc_small (n := 300 / 128) (by decide), enc_small (n := 0) (by decide)]
    rfl
  rw [← e]
  exact rdTimes_enc [300, 0] [] (by decide)

end Go.Proofs.Ytijklginabipgaa

/-
  A configuration written: the writer's list and config, PutConfig; and the document's: the same bytes.
-/
namespace Go.Proofs.Ytijklginabipgaa
open Go.RowKit

theorem not_below {b B k : Nat} {o : Obj} (hB : B ≤ b) (hk : k < B) : ¬ Wr b k o := by
  rintro (e | ⟨h, _⟩) <;> omega

def encNums (ns : List Nat) : List UInt8 := enc ns.length ++ encAll ns

set_option maxRecDepth 100000 in
set_option maxHeartbeats 1000000 in
theorem putListI_any (b B cap : Nat) (ao : Option Addr) (ns : List Nat) (l : List UInt8) (w : World) (h : WInv b w l) (hr : IntRow B w ao (intsOf ns)) (hB : B ≤ b)
    (hn : ∀ n ∈ ns, n ≤ 1099511627775) (hnl : ns.length ≤ 1000) (hl : l.length ≤ 100000000000) :
    Calls Try.prog 148 #[.pointer (some ⟨b, 0, none⟩), .slice ao ns.length cap, .func (.func 149) #[] #[]] w fun e w' => e = .returned (.tuple #[]) ∧ WInv b w' (l ++ encNums ns) ∧ Kept (Wr b) w w' := by
  have HR : Hid (IntRow B w ao (intsOf ns)) := hr
  have HN : Hid (∀ n ∈ ns, n ≤ 1099511627775) := hn
  have HL : Hid (l.length ≤ 100000000000 ∧ B ≤ b) := ⟨hl, hB⟩
  have N0 := wNumber_any b ns.length l w h (by omega) (by omega)
  have hnl' : (ns.length : Int) ≤ 1000 := by omega
  have HE0 : Hid ((enc ns.length).length ≤ 6) := enc_len6 (by omega)
  clear hr hn hl hB h
  go_enter Try.func148, Try.ntmps148
  go_wp2_with fail
  refine N0.mono ?_
  rintro e w1 ⟨rfl, i1, k1⟩
  have HK1 : Hid (Kept (Wr b) w w1) := k1
  have HI1 : Hid (WInv b w1 (l ++ enc ns.length)) := i1
  clear i1 k1 N0
  go_wp2
  go_loopw [14] (fun i wr => ∃ k : Nat, k ≤ ns.length ∧ i = .int .i64 k ∧ Hid (WInv b wr ((l ++ enc ns.length) ++ encAll (ns.take k))) ∧ Hid (Kept (Wr b) w wr)) (fun i _ => ns.length - (intOf i).toNat)
  case atStart => exact ⟨0, Nat.zero_le _, rfl, by show WInv _ _ _; simpa [encAll] using HI1.out, HK1.out⟩
  case round =>
    obtain ⟨k, hk, rfl, HI, HK⟩ := hrel
    clear HI1 HK1
    by_cases hlt : k < ns.length
    · obtain ⟨a, rfl, _, hcell⟩ := (HR.out.kept HK.out (fun _ _ h => not_below HL.out.2 h)) k (by simpa [intsOf] using hlt)
      replace hcell : wr.cell? (a.add k) = some (.int .i64 (ns[k] : Nat)) := by simpa [intsOf] using hcell
      have hle := HN.out ns[k] (List.getElem_mem hlt)
      have HE : Hid (((l ++ enc ns.length) ++ encAll (ns.take k)) ++ enc ns[k] = (l ++ enc ns.length) ++ encAll (ns.take (k + 1))) := by
        show _ = _
        rw [List.take_succ_eq_append_getElem hlt, encAll_snoc, List.append_assoc, List.append_assoc]
      have H := wNumber_any b ns[k] _ wr HI.out hle (by
        have h1 := encAll_len (ns.take k) (fun n hn => HN.out n (List.mem_of_mem_take hn))
        have h2 := HL.out.1
        have h3 := HE0.out
        simp only [List.length_append, List.length_take] at h1 ⊢
        omega)
      rw [HE.out] at H
      generalize ns[k] = x at *
      have hle' : (x : Int) ≤ 1099511627775 := by omega
      clear hle HI HE
      go_wp2_with fail
      refine H.mono ?_
      rintro e w' ⟨rfl, i', k'⟩
      have HK' : Hid (Kept (Wr b) w w') := HK.out.trans k'
      have HI' : Hid (WInv b w' ((l ++ enc ns.length) ++ encAll (ns.take (k + 1)))) := i'
      clear i' k'
      go_wp2
      go_roundw
      case rel => exact ⟨k + 1, by omega, by go_num, HI'.out, HK'.out⟩
      case measure => simp [intOf]; omega
    · have HI2 : Hid (WInv b wr (l ++ encNums ns)) := by
        show WInv _ _ _
        have := HI.out
        rw [List.take_of_length_le (by omega), List.append_assoc] at this
        exact this
      go_wp2
      go_end0
      exact ⟨rfl, HI2.out, HK.out⟩

/-- A configuration's bytes. -/
def encCfg (v n l : List Nat) : List UInt8 := encNums v ++ encNums n ++ encNums l
/-- Numbers that are small, and few. -/
structure Few (ns : List Nat) : Prop where
  le : ∀ n ∈ ns, n ≤ 1099511627775
  len : ns.length ≤ 1000
theorem Few.enc {ns : List Nat} (h : Few ns) : (encNums ns).length ≤ 6006 := by
  have h1 := encAll_len ns h.le
  have h2 := enc_len6 (n := ns.length) (by have := h.len; omega)
  have h3 := h.len
  simp only [encNums, List.length_append]
  omega

set_option maxRecDepth 100000 in
set_option maxHeartbeats 1000000 in
theorem wConfig_any (b B c1 c2 c3 : Nat) (a1 a2 a3 : Option Addr) (v n l : List Nat) (t : List UInt8) (w : World) (h : WInv b w t) (hr : CfRows B w a1 a2 a3 (intsOf v) (intsOf n) (intsOf l)) (hB : B ≤ b) (f1 : Few v) (f2 : Few n) (f3 : Few l) (hl : t.length ≤ 10000000000) :
    Calls Try.prog 91 #[.pointer (some ⟨b, 0, none⟩), .agg #[.slice a1 v.length c1, .slice a2 n.length c2, .slice a3 l.length c3]] w fun e w' => e = .returned (.tuple #[]) ∧ WInv b w' (t ++ encCfg v n l) ∧ Kept (Wr b) w w' := by
  have hlt := h.lt
  have HX : Hid (¬ Wr b w.heap.size (.cells #[.slice a1 v.length c1, .slice a2 n.length c2, .slice a3 l.length c3] 24)) := not_wr (Nat.ne_of_gt hlt) (by decide)
  have HB : Hid (_) := blk_new w (.cells #[.slice a1 v.length c1, .slice a2 n.length c2, .slice a3 l.length c3] 24)
  have HR : Hid (CfRows B (w.alloc (.cells #[.slice a1 v.length c1, .slice a2 n.length c2, .slice a3 l.length c3] 24)) a1 a2 a3 (intsOf v) (intsOf n) (intsOf l)) := hr.alloc _
  have HL : Hid (t.length ≤ 10000000000 ∧ B ≤ b ∧ Few v ∧ Few n ∧ Few l) := ⟨hl, hB, f1, f2, f3⟩
  have HE : Hid (t ++ encCfg v n l = ((t ++ encNums v) ++ encNums n) ++ encNums l) := by show _ = _; simp [encCfg]
  have P1 := putListI_any b B c1 a1 v t _ (h.alloc _) HR.out.r1 hB f1.le f1.len (by omega)
  clear hlt hr hB f1 f2 f3 hl h
  rw [HE.out]
  go_enter Try.func91, Try.ntmps91
  go_wp2_with fail
  refine P1.mono ?_
  rintro e w1 ⟨rfl, i1, k1⟩
  have X1 : Hid (_) := k1.block _ _ HB.out HX.out
  have R1 : Hid (_) := HR.out.kept k1 (fun _ _ h => not_below HL.out.2.1 h)
  have q1 := blk_at X1.out 1 rfl
  have P2 := putListI_any b B c2 a2 n _ w1 i1 R1.out.r2 HL.out.2.1 HL.out.2.2.2.1.le HL.out.2.2.2.1.len (by have := HL.out.1; have := HL.out.2.2.1.enc; simp only [List.length_append]; omega)
  go_wp2_with fail
  refine P2.mono ?_
  rintro e w2 ⟨rfl, i2, k2⟩
  have X2 : Hid (_) := k2.block _ _ X1.out HX.out
  have R2 : Hid (_) := R1.out.kept k2 (fun _ _ h => not_below HL.out.2.1 h)
  have q2 := blk_at X2.out 2 rfl
  have P3 := putListI_any b B c3 a3 l _ w2 i2 R2.out.r3 HL.out.2.1 HL.out.2.2.2.2.le HL.out.2.2.2.2.len (by have := HL.out.1; have := HL.out.2.2.1.enc; have := HL.out.2.2.2.1.enc; simp only [List.length_append]; omega)
  go_wp2_with fail
  refine P3.mono ?_
  rintro e w3 ⟨rfl, i3, k3⟩
  go_wp2
  go_end0
  exact ⟨rfl, i3, ((((Kept.refl _ _).alloc _).trans k1).trans k2).trans k3⟩

theorem Kept.belowWr {w w' : World} {o1 o2 : Obj} (h : Kept (Wr (w.heap.size + 1)) ((w.alloc o1).alloc o2) w') : Kept Nil w w' :=
  Kept.ofNew (((Kept.refl _ _).alloc _).alloc _) h (by rintro k o (rfl | ⟨hk, _⟩) <;> omega)

set_option maxRecDepth 100000 in
set_option maxHeartbeats 1000000 in
theorem writeCfg_ok (c1 c2 c3 : Nat) (a1 a2 a3 : Option Addr) (v n l : List Nat) (w : World) (hr : CfRows w.heap.size w a1 a2 a3 (intsOf v) (intsOf n) (intsOf l)) (f1 : Few v) (f2 : Few n) (f3 : Few l) (c : Int) :
    Calls Try.prog 90 #[.agg #[.slice a1 v.length c1, .slice a2 n.length c2, .slice a3 l.length c3], .bool true, .int .i64 c, .func (.func 91) #[] #[]] w fun e w' => e = .returned (.tuple #[.string (bs (encCfg v n l)), .int .i64 0]) ∧ Kept Nil w w' := by
  have hw := winv_new (w.alloc (.cells #[.slice a1 v.length c1, .slice a2 n.length c2, .slice a3 l.length c3] 24))
  have es : (w.alloc (.cells #[.slice a1 v.length c1, .slice a2 n.length c2, .slice a3 l.length c3] 24)).heap.size = w.heap.size + 1 := by simp
  rw [es] at hw
  have H1 := wConfig_any (w.heap.size + 1) w.heap.size c1 c2 c3 a1 a2 a3 v n l [] _ hw ((hr.alloc _).alloc _) (by omega) f1 f2 f3 (by simp)
  simp only [List.nil_append] at H1
  clear hw es hr f1 f2 f3
  go_enter Try.func90, Try.ntmps90
  go_wp2_with fail
  refine H1.mono ?_
  rintro e w1 ⟨rfl, ⟨ao, c', hb, ho⟩, hk⟩
  have h0 := blk_at hb 0 rfl
  have hcv := conv_own ho
  go_wp2
  go_ret2
  exact ⟨rfl, hk.belowWr⟩

set_option maxRecDepth 100000 in
theorem writeCfg_no (cs : Array Value) (w : World) (c : Int) (f : Value) :
    Calls Try.prog 90 #[.agg cs, .bool false, .int .i64 c, f] w fun e w' => e = .returned (.tuple #[.string (bs []), .int .i64 c]) ∧ Kept Nil w w' := by
  go_enter Try.func90, Try.ntmps90
  go_wp2
  go_ret2
  exact ⟨rfl, (Kept.refl _ _).alloc _⟩

/-! ### a configuration that may be has few nodes -/
theorem rise_facts : ∀ (zs : List Int) (p : Int), 0 ≤ p → rise p zs = true → (∀ z ∈ zs, 1 ≤ z ∧ z ≤ 9 ∧ p < z) ∧ (p ≤ 9 → (zs.length : Int) ≤ 9 - p)
  | [], p, _, _ => ⟨fun z hz => by simp at hz, fun h => by simp; omega⟩
  | y :: t, p, hp, h => by
    simp only [rise, Bool.and_eq_true, decide_eq_true_eq, isNd] at h
    obtain ⟨⟨⟨h1, h2⟩, h3⟩, h4⟩ := h
    have ih := rise_facts t y (by omega) h4
    refine ⟨fun z hz => ?_, fun _ => ?_⟩
    · rcases List.mem_cons.1 hz with rfl | hz
      · exact ⟨h1, h2, h3⟩
      · have := ih.1 z hz
        exact ⟨this.1, this.2.1, by omega⟩
    · have := ih.2 h2
      simp only [List.length_cons]
      omega
def natsOf (zs : List Int) : List Nat := zs.map Int.toNat
theorem ints_nats {zs : List Int} (h : ∀ z ∈ zs, 0 ≤ z) : intsOf (natsOf zs) = zs := by
  unfold intsOf natsOf
  rw [List.map_map]
  refine (List.map_congr_left (g := id) fun z hz => ?_).trans (List.map_id _)
  have := h z hz
  show ((z.toNat : Nat) : Int) = z
  omega
theorem rise_few {zs : List Int} (h : rise 0 zs = true) : intsOf (natsOf zs) = zs ∧ Few (natsOf zs) ∧ zs.length ≤ 9 := by
  have hf := rise_facts zs 0 (by omega) h
  have h9 := hf.2 (by omega)
  refine ⟨ints_nats fun z hz => by have := hf.1 z hz; omega, ⟨fun n hn => ?_, by simp [natsOf]; omega⟩, by omega⟩
  obtain ⟨z, hz, rfl⟩ := List.mem_map.1 hn
  have := hf.1 z hz
  omega
theorem isCfg_facts {v n l : List Int} (h : isCfg v n l = true) : rise 0 v = true ∧ rise 0 n = true ∧ rise 0 l = true := by
  simp only [isCfg, Bool.and_eq_true] at h
  exact ⟨h.1.1.1.2, h.1.1.2, h.1.2⟩
def putCfg (v n l : List Int) : List UInt8 × Int := if isCfg v n l then (encCfg (natsOf v) (natsOf n) (natsOf l), 0) else ([], 8)
theorem natsOf_len (zs : List Int) : (natsOf zs).length = zs.length := by simp [natsOf]

theorem writeCfg_any (c1 c2 c3 : Nat) (a1 a2 a3 : Option Addr) (v n l : List Int) (w : World) (hr : CfRows w.heap.size w a1 a2 a3 v n l) :
    Calls Try.prog 90 #[.agg #[.slice a1 v.length c1, .slice a2 n.length c2, .slice a3 l.length c3], .bool (isCfg v n l), .int .i64 8, .func (.func 91) #[] #[]] w fun e w' => e = .returned (.tuple #[.string (bs (putCfg v n l).1), .int .i64 (putCfg v n l).2]) ∧ Kept Nil w w' := by
  unfold putCfg
  cases hq : isCfg v n l with
  | false => exact writeCfg_no _ w 8 _
  | true =>
    obtain ⟨r1, r2, r3⟩ := isCfg_facts hq
    obtain ⟨e1, f1, _⟩ := rise_few r1
    obtain ⟨e2, f2, _⟩ := rise_few r2
    obtain ⟨e3, f3, _⟩ := rise_few r3
    have H := writeCfg_ok c1 c2 c3 a1 a2 a3 (natsOf v) (natsOf n) (natsOf l) w (by rw [e1, e2, e3]; exact hr) f1 f2 f3 8
    rw [natsOf_len, natsOf_len, natsOf_len] at H
    exact H

set_option maxRecDepth 100000 in
set_option maxHeartbeats 1000000 in
theorem putConfig_any (B c1 c2 c3 : Nat) (a1 a2 a3 : Option Addr) (v n l : List Int) (w : World) (h : CfRows B w a1 a2 a3 v n l) (h1 : (v.length : Int) ≤ 9223372036854775807) (h2 : (n.length : Int) ≤ 9223372036854775807) (h3 : (l.length : Int) ≤ 9223372036854775807) :
    Calls Try.prog 42 #[.agg #[.slice a1 v.length c1, .slice a2 n.length c2, .slice a3 l.length c3]] w fun e w' => e = .returned (.tuple #[.string (bs (putCfg v n l).1), .int .i64 (putCfg v n l).2]) ∧ Kept Nil w w' := by
  have HR : Hid (CfRows B w a1 a2 a3 v n l) := h
  have H1 := fun w' (hk : Kept Nil w w') => valid_any B c1 c2 c3 a1 a2 a3 v n l w' (HR.out.nil hk) h1 h2 h3
  have H2 := fun w' (hk : Kept Nil w w') => writeCfg_any c1 c2 c3 a1 a2 a3 v n l w' (HR.out.nil hk).full
  generalize isCfg v n l = okb at H1 H2
  generalize putCfg v n l = pr at H2 ⊢
  obtain ⟨p1, p2⟩ := pr
  simp only at H2 ⊢
  clear h h1 h2 h3
  have HB : Hid (_) := blk_new w (.cells #[.slice a1 v.length c1, .slice a2 n.length c2, .slice a3 l.length c3] 24)
  have HK : Hid (Kept Nil w (w.alloc (.cells #[.slice a1 v.length c1, .slice a2 n.length c2, .slice a3 l.length c3] 24)).drew) := ((Kept.refl _ _).alloc _).drew
  go_enter Try.func42, Try.ntmps42
  go_wp2
  go_region_with (first | (go_at_call 20; go_must (refine (H1 _ HK.out).mono ?_); rintro e w1 ⟨rfl, k1⟩; have X1 := k1.block _ _ HB.out (fun x => x.elim); have q0 := blk_at X1 0 rfl; have q1 := blk_at X1 1 rfl; have q2 := blk_at X1 2 rfl; have HK1 : Hid (Kept Nil w w1) := HK.out.trans k1; clear X1) | (go_at_call 90; go_must (refine (H2 _ HK1.out).mono ?_); rintro e w2 ⟨rfl, k2⟩))
  all_goals go_wp2
  all_goals go_ret2
  all_goals exact ⟨rfl, HK1.out.trans k2⟩

/-! ### the document's -/
set_option maxRecDepth 100000 in
set_option maxHeartbeats 1000000 in
theorem refNumbers_any (B cap : Nat) (ao : Option Addr) (ns : List Nat) (w : World) (hr : IntRow B w ao (intsOf ns)) (hf : Few ns) :
    Calls Try.prog 150 #[.slice ao ns.length cap] w fun e w' => e = .returned (.string (bs (encNums ns))) ∧ Kept Nil w w' := by
  have HR : Hid (IntRow B w ao (intsOf ns)) := hr
  have HF : Hid (Few ns) := hf
  have hnl : (ns.length : Int) ≤ 1000 := by have := hf.len; omega
  have N0 := refNum_any ns.length (by omega)
  have hap := bs_append
  clear hr hf
  go_enter Try.func150, Try.ntmps150
  go_wp2_with fail
  refine (N0 _).mono ?_
  rintro e w1 ⟨rfl, k1⟩
  have HK1 : Hid (Kept Nil w w1) := k1
  clear k1 N0
  go_wp2
  go_loopw [3, 4] (fun s i wr => ∃ k : Nat, k ≤ ns.length ∧ i = .int .i64 k ∧ s = .string (bs (enc ns.length ++ encAll (ns.take k))) ∧ Hid (Kept Nil w wr)) (fun _ i _ => ns.length - (intOf i).toNat)
  case atStart => exact ⟨0, Nat.zero_le _, rfl, by simp [encAll], HK1.out⟩
  case round =>
    obtain ⟨k, hk, rfl, rfl, HK⟩ := hrel
    clear HK1
    by_cases hlt : k < ns.length
    · obtain ⟨a, rfl, _, hcell⟩ := (HR.out.nil HK.out) k (by simpa [intsOf] using hlt)
      replace hcell : wr.cell? (a.add k) = some (.int .i64 (ns[k] : Nat)) := by simpa [intsOf] using hcell
      have hle := HF.out.le ns[k] (List.getElem_mem hlt)
      have HE : Hid ((enc ns.length ++ encAll (ns.take k)) ++ enc ns[k] = enc ns.length ++ encAll (ns.take (k + 1))) := by
        show _ = _
        rw [List.take_succ_eq_append_getElem hlt, encAll_snoc, List.append_assoc]
      have hz1 : (bs (enc ns.length ++ encAll (ns.take k))).size ≤ 6006 := by
        rw [bs_size]
        have h1 := encAll_len (ns.take k) (fun n hn => HF.out.le n (List.mem_of_mem_take hn))
        have h2 := enc_len6 (n := ns.length) (by omega)
        simp only [List.length_take, List.length_append] at h1 ⊢
        omega
      have hz2 : (bs (enc ns[k])).size ≤ 6 := by rw [bs_size]; exact enc_len6 hle
      have H := refNum_any ns[k] hle
      generalize ns[k] = x at *
      generalize enc ns.length ++ encAll (ns.take k) = s at HE hz1
      have hle' : (x : Int) ≤ 1099511627775 := by omega
      clear hle
      go_wp2_with fail
      refine (H _).mono ?_
      rintro e w' ⟨rfl, k'⟩
      have HK' : Hid _ := HK.out.trans k'
      clear k'
      go_wp2
      go_roundw
      case rel => exact ⟨k + 1, by omega, by go_num, by rw [← HE.out, ← bs_append], HK'.out⟩
      case measure => simp [intOf]; omega
    · rw [List.take_of_length_le (by omega)]
      go_wp2
      go_ret
      exact ⟨rfl, HK.out⟩

set_option maxRecDepth 100000 in
set_option maxHeartbeats 1000000 in
theorem refConfig_any (B c1 c2 c3 : Nat) (a1 a2 a3 : Option Addr) (v n l : List Nat) (w : World) (hr : CfRows B w a1 a2 a3 (intsOf v) (intsOf n) (intsOf l)) (f1 : Few v) (f2 : Few n) (f3 : Few l) :
    Calls Try.prog 92 #[.agg #[.slice a1 v.length c1, .slice a2 n.length c2, .slice a3 l.length c3]] w fun e w' => e = .returned (.string (bs (encCfg v n l))) ∧ Kept Nil w w' := by
  have HR : Hid (CfRows B w a1 a2 a3 (intsOf v) (intsOf n) (intsOf l)) := hr
  have HB : Hid (_) := blk_new w (.cells #[.slice a1 v.length c1, .slice a2 n.length c2, .slice a3 l.length c3] 24)
  have N1 := fun w h => refNumbers_any B c1 a1 v w h f1
  have N2 := fun w h => refNumbers_any B c2 a2 n w h f2
  have N3 := fun w h => refNumbers_any B c3 a3 l w h f3
  have z1 : (bs (encNums v)).size ≤ 6006 := by rw [bs_size]; exact f1.enc
  have z2 : (bs (encNums n)).size ≤ 6006 := by rw [bs_size]; exact f2.enc
  have z3 : (bs (encNums l)).size ≤ 6006 := by rw [bs_size]; exact f3.enc
  have z4 : (bs (encNums v) ++ bs (encNums n)).size ≤ 12012 := by rw [bs_append, bs_size, List.length_append]; rw [bs_size] at z1 z2; omega
  have HE : Hid (bs (encNums v) ++ bs (encNums n) ++ bs (encNums l) = bs (encCfg v n l)) := by show _ = _; rw [bs_append, bs_append]; rfl
  clear hr f1 f2 f3
  rw [← HE.out]
  go_enter Try.func92, Try.ntmps92
  go_wp2_with fail
  refine (N1 _ (HR.out.alloc _).r1).mono ?_
  rintro e w1 ⟨rfl, k1⟩
  have K1 : Hid (Kept Nil w w1) := ((Kept.refl _ _).alloc _).trans k1
  have X1 := k1.block _ _ HB.out (fun x => x.elim)
  have q1 := blk_at X1 1 rfl
  go_wp2_with fail
  refine (N2 _ (HR.out.nil K1.out).r2).mono ?_
  rintro e w2 ⟨rfl, k2⟩
  have K2 : Hid (Kept Nil w w2) := K1.out.trans k2
  have X2 := k2.block _ _ X1 (fun x => x.elim)
  have q2 := blk_at X2 2 rfl
  go_wp2_with fail
  refine (N3 _ (HR.out.nil K2.out).r3).mono ?_
  rintro e w3 ⟨rfl, k3⟩
  go_wp2
  go_ret
  exact ⟨rfl, K2.out.trans k3⟩

set_option maxRecDepth 100000 in
set_option maxHeartbeats 1000000 in
theorem refPutConfig_any (B c1 c2 c3 : Nat) (a1 a2 a3 : Option Addr) (v n l : List Int) (w : World) (h : CfRows B w a1 a2 a3 v n l) (h1 : (v.length : Int) ≤ 9223372036854775807) (h2 : (n.length : Int) ≤ 9223372036854775807) (h3 : (l.length : Int) ≤ 9223372036854775807) :
    Calls Try.prog 43 #[.agg #[.slice a1 v.length c1, .slice a2 n.length c2, .slice a3 l.length c3]] w fun e w' => e = .returned (.tuple #[.string (bs (putCfg v n l).1), .int .i64 (putCfg v n l).2]) ∧ Kept Nil w w' := by
  have HR : Hid (CfRows B w a1 a2 a3 v n l) := h
  have HB : Hid (_) := blk_new w (.cells #[.slice a1 v.length c1, .slice a2 n.length c2, .slice a3 l.length c3] 24)
  have H1 := refIsConfig_any B c1 c2 c3 a1 a2 a3 v n l _ (h.alloc (.cells #[.slice a1 v.length c1, .slice a2 n.length c2, .slice a3 l.length c3] 24)) h1 h2 h3
  have HP : Hid (putCfg v n l = if isCfg v n l then (encCfg (natsOf v) (natsOf n) (natsOf l), 0) else ([], 8)) := rfl
  rw [HP.out]
  clear h h1 h2 h3
  cases hq : isCfg v n l with
  | false =>
    rw [hq] at H1
    clear hq
    simp only [Bool.false_eq_true, if_false]
    go_enter Try.func43, Try.ntmps43
    go_wp2_with fail
    refine H1.mono ?_
    rintro e w1 ⟨rfl, k1⟩
    go_wp2
    go_ret2
    exact ⟨rfl, ((Kept.refl _ _).alloc _).trans k1⟩
  | true =>
    obtain ⟨r1, r2, r3⟩ := isCfg_facts hq
    obtain ⟨e1, f1, _⟩ := rise_few r1
    obtain ⟨e2, f2, _⟩ := rise_few r2
    obtain ⟨e3, f3, _⟩ := rise_few r3
    have H2 := fun w' (hk : Kept Nil w w') => refConfig_any B c1 c2 c3 a1 a2 a3 (natsOf v) (natsOf n) (natsOf l) w' (by rw [e1, e2, e3]; exact HR.out.nil hk) f1 f2 f3
    rw [natsOf_len, natsOf_len, natsOf_len] at H2
    rw [hq] at H1
    simp only [if_true]
    clear hq r1 r2 r3 e1 e2 e3 f1 f2 f3
    generalize encCfg (natsOf v) (natsOf n) (natsOf l) = r at H2 ⊢
    go_enter Try.func43, Try.ntmps43
    go_wp2_with fail
    refine H1.mono ?_
    rintro e w1 ⟨rfl, k1⟩
    have K1 : Hid (Kept Nil w w1) := ((Kept.refl _ _).alloc _).trans k1
    have X1 := k1.block _ _ HB.out (fun x => x.elim)
    have q0 := blk_at X1 0 rfl
    have q1 := blk_at X1 1 rfl
    have q2 := blk_at X1 2 rfl
    go_wp2_with fail
    refine (H2 _ K1.out).mono ?_
    rintro e w2 ⟨rfl, k2⟩
    go_wp2
    go_ret2
    exact ⟨rfl, K1.out.trans k2⟩

end Go.Proofs.Ytijklginabipgaa

/-
  The document's reader over a whole record: it goes on behind an error; what it leaves, and what it answers where all was read.
-/
namespace Go.Proofs.Ytijklginabipgaa
open Go.RowKit

/-- The state behind a reading. -/
def stAfter {α : Type} (rd : List UInt8 → Except Int (α × List UInt8)) (st : Except Int (List UInt8)) : Except Int (List UInt8) :=
  match st with
  | .error c => .error c
  | .ok l =>
    match rd l with
    | .ok (_, t) => .ok t
    | .error c => .error c
/-- What is answered, where all was read. -/
def GoodV {α : Type} (rd : List UInt8 → Except Int (α × List UInt8)) (st : Except Int (List UInt8)) (y : α) : Prop := ∀ l, st = .ok l → ∀ z t, rd l = .ok (z, t) → y = z
theorem stAfter_run {α : Type} (rd : List UInt8 → Except Int (α × List UInt8)) (d : α) (st : Except Int (List UInt8)) : (stRun rd d st).2 = stAfter rd st := by
  cases st with
  | error c => rfl
  | ok l =>
    unfold stRun stAfter
    simp only
    cases rd l with
    | error c => rfl
    | ok x => rfl
theorem stAfter_then {α β : Type} (rd : List UInt8 → Except Int (α × List UInt8)) (f : α → List UInt8 → Except Int (β × List UInt8)) (d : α) (st : Except Int (List UInt8)) :
    stAfter (fun l => rdThen (rd l) f) st = stAfter (f (stRun rd d st).1) (stRun rd d st).2 := by
  cases st with
  | error c => rfl
  | ok l =>
    cases hr : rd l with
    | error c =>
      rw [stRun_no hr]
      simp only [stAfter, rdThen_no hr]
    | ok x =>
      obtain ⟨a, t⟩ := x
      rw [stRun_ok hr]
      simp only [stAfter, rdThen_ok hr]
theorem GoodV_then {α β : Type} (rd : List UInt8 → Except Int (α × List UInt8)) (f : α → List UInt8 → Except Int (β × List UInt8)) (d : α) (st : Except Int (List UInt8)) (y : β)
    (h : GoodV (f (stRun rd d st).1) (stRun rd d st).2 y) : GoodV (fun l => rdThen (rd l) f) st y := by
  intro l hl z t hz
  subst hl
  simp only at hz
  cases hr : rd l with
  | error c => rw [rdThen_no hr] at hz; cases hz
  | ok x =>
    obtain ⟨a, u⟩ := x
    rw [rdThen_ok hr] at hz
    rw [stRun_ok hr] at h
    exact h u rfl z t hz
theorem stAfter_end {α : Type} (ok : Bool) (x : α) (c : Int) (st : Except Int (List UInt8)) :
    stAfter (fun l => if ok then .ok (x, l) else .error c) st = if ok then st else stBad c st := by
  cases st with
  | error d => cases ok <;> rfl
  | ok l => cases ok <;> rfl
theorem GoodV_end {α : Type} (ok : Bool) (x : α) (c : Int) (st : Except Int (List UInt8)) : GoodV (fun l => if ok then .ok (x, l) else .error c) st x := by
  intro l _ z t hz
  cases ok with
  | true => simp only [if_true, Except.ok.injEq, Prod.mk.injEq] at hz; exact hz.1
  | false => simp at hz
theorem stAfter_all {α : Type} (x : α) (st : Except Int (List UInt8)) : stAfter (fun l => .ok (x, l)) st = st := by
  cases st <;> rfl
theorem GoodV_all {α : Type} (x : α) (st : Except Int (List UInt8)) : GoodV (fun l => .ok (x, l)) st x := by
  intro l _ z t hz
  simp only [Except.ok.injEq, Prod.mk.injEq] at hz
  exact hz.1
theorem GoodV_run {α : Type} (rd : List UInt8 → Except Int (α × List UInt8)) (d : α) (st : Except Int (List UInt8)) : GoodV rd st (stRun rd d st).1 := by
  intro l hl z t hz
  rw [hl, stRun_ok hz]
/-- A value that is good is as good as the one that was run to. -/
theorem GoodV.run {α : Type} {rd : List UInt8 → Except Int (α × List UInt8)} {st : Except Int (List UInt8)} {y : α} (h : GoodV rd st y) : stRun rd y st = (y, stAfter rd st) := by
  cases st with
  | error c => rfl
  | ok l =>
    cases hr : rd l with
    | error c => rw [stRun_no hr]; simp only [stAfter, hr]
    | ok x =>
      obtain ⟨a, t⟩ := x
      have := h l rfl a t hr
      subst this
      rw [stRun_ok hr]; simp only [stAfter, hr]

/-- What the document's reader of a record leaves. -/
def RefPost {α : Type} (b : Nat) (w : World) (rd : List UInt8 → Except Int (α × List UInt8)) (st : Except Int (List UInt8)) (V : α → World → Value → Prop) (e : Ending) (w' : World) : Prop :=
  (∃ v a, e = .returned v ∧ V a w' v ∧ GoodV rd st a) ∧ RSt b w' (stAfter rd st) ∧ Kept (One b) w w'

/-- Of all the bytes, as the document's faces have it: the value and the error. -/
def refAll {α : Type} (z : α) (x : α) (st : Except Int (List UInt8)) : α × Int := if stEnd st = 0 then (x, 0) else (z, stEnd st)
/-- Of all the bytes, as the program's faces have it. -/
def getAll {α : Type} (z : α) (r : Except Int (α × List UInt8)) : α × Int :=
  match r with
  | .ok (x, []) => (x, 0)
  | .ok (_, _ :: _) => (z, 1)
  | .error c => (z, c)
theorem getAll_err {α : Type} {z : α} {r : Except Int (α × List UInt8)} {c : Int} (h : r = .error c) : getAll z r = (z, c) := by rw [h]; rfl
theorem getAll_ok {α : Type} {z x : α} {r : Except Int (α × List UInt8)} (h : r = .ok (x, [])) : getAll z r = (x, 0) := by rw [h]; rfl
theorem getAll_left {α : Type} {z x : α} {r : Except Int (α × List UInt8)} {y : UInt8} {t : List UInt8} (h : r = .ok (x, y :: t)) : getAll z r = (z, 1) := by rw [h]; rfl
theorem refAll_eq {α : Type} (z x : α) (rd : List UInt8 → Except Int (α × List UInt8)) (l : List UInt8) (hg : GoodV rd (.ok l) x) (he : ∀ c, rd l = .error c → c ≠ 0) : refAll z x (stAfter rd (.ok l)) = getAll z (rd l) := by
  cases hr : rd l with
  | error c =>
    have e : stAfter rd (.ok l) = .error c := by simp only [stAfter, hr]
    rw [e]
    exact if_neg (he c hr)
  | ok y =>
    obtain ⟨a, t⟩ := y
    have e : stAfter rd (.ok l) = .ok t := by simp only [stAfter, hr]
    have := hg l rfl a t hr
    subst this
    rw [e]
    cases t with
    | nil => rfl
    | cons y t => rfl
/-- An error is never 0. -/
def NoZero {α : Type} (rd : List UInt8 → Except Int (α × List UInt8)) : Prop := ∀ l c, rd l = .error c → c ≠ 0
theorem NoZero.then {α β : Type} {rd : List UInt8 → Except Int (α × List UInt8)} {f : α → List UInt8 → Except Int (β × List UInt8)} (h : NoZero rd) (hf : ∀ a, NoZero (f a)) : NoZero (fun l => rdThen (rd l) f) := by
  intro l c hc
  simp only at hc
  cases hr : rd l with
  | error d => rw [rdThen_no hr] at hc; cases hc; exact h l c hr
  | ok x => obtain ⟨a, t⟩ := x; rw [rdThen_ok hr] at hc; exact hf a t c hc
theorem NoZero.end {α : Type} (ok : Bool) (x : α) (c : Int) (hc : c ≠ 0) : NoZero (fun l => if ok then .ok (x, l) else .error c) := by
  intro l d hd
  cases ok with
  | true => simp at hd
  | false => simp at hd; rw [← hd]; exact hc
theorem NoZero.all {α : Type} (x : α) : NoZero (fun l => .ok (x, l)) := by
  intro l d hd
  cases hd
theorem noZero_num : NoZero rdNum := fun _ _ h => rdNum_err h
theorem noZero_text (most : Nat) : NoZero (rdText most) := fun _ _ h => rdText_err h

/-- What a face hands out: the value and the error. -/
def GotPost {α : Type} (V : α → World → Value → Prop) (g : α × Int) (w : World) (e : Ending) (w' : World) : Prop := ∃ v, e = .returned (.tuple #[v, .int .i64 g.2]) ∧ V g.1 w' v ∧ Kept Nil w w'

end Go.Proofs.Ytijklginabipgaa

/-
  An entry read by the program's reader.
-/
namespace Go.Proofs.Ytijklginabipgaa
open Go.RowKit

def rdEntEnd (x : En) (l : List UInt8) : Except Int (En × List UInt8) := if x.ok then .ok (x, l) else .error 6
def rdEnt (l : List UInt8) : Except Int (En × List UInt8) :=
  rdThen (rdNum l) fun ix l => rdThen (rdNum l) fun tm l => rdThen (rdNum l) fun kd l => rdThen (rdText 256 l) fun dt l => rdEntEnd ⟨ix, tm, kd, dt⟩ l
def EnV : En → World → Value → Prop := fun x _ v => v = .agg #[.int .i64 x.ix, .int .i64 x.tm, .int .i64 x.kd, .string (bs x.dt)]

set_option maxRecDepth 100000 in
set_option maxHeartbeats 4000000 in
theorem rEntry_any (p : Addr) (l : List UInt8) (w : World) (hl : Left p w l) :
    Calls Try.prog 87 #[.pointer (some p)] w (RdPost p w (rdEnt l) (EnV)) := by
  have HB : Hid (p.block < w.heap.size) := cell_lt hl.cell
  have HN : Hid (_) := blk_new w (.cells #[.int .i64 0, .int .i64 0, .int .i64 0, .string (bs [])] 52)
  have HX : Hid (¬ One p.block w.heap.size (.cells #[.int .i64 0, .int .i64 0, .int .i64 0, .string (bs [])] 52 (0, 0))) := fun (e : w.heap.size = p.block) => by have := HB.out; omega
  have hla := hl.alloc (.cells #[.int .i64 0, .int .i64 0, .int .i64 0, .string (bs [])] 52)
  clear hl
  cases r1 : rdNum l with
  | error c =>
    have HR : Hid (rdEnt l = .error c) := rdThen_no r1
    go_enter Try.func87, Try.ntmps87
    go_wp2_with fail
    refine (number_no hla r1).mono ?_
    rintro e w1 ⟨rfl, k1⟩
    go_wp2
    unfold bodyPost RdPost
    rw [HR.out]
    exact ⟨rfl, rfl, (((Kept.refl _ _).alloc _).trans k1)⟩
  | ok x1 =>
  obtain ⟨ix, l1⟩ := x1
  cases r2 : rdNum l1 with
  | error c =>
    have HR : Hid (rdEnt l = .error c) := (rdThen_ok r1).trans (rdThen_no r2)
    go_enter Try.func87, Try.ntmps87
    go_wp2_with fail
    refine (number_ok hla r1).mono ?_
    rintro e w1 ⟨rfl, c1, z1, k1⟩
    go_wp2_with fail
    refine (number_no ⟨c1, z1⟩ r2).mono ?_
    rintro e w2 ⟨rfl, k2⟩
    go_wp2
    unfold bodyPost RdPost
    rw [HR.out]
    exact ⟨rfl, rfl, ((((Kept.refl _ _).alloc _).trans k1).trans k2)⟩
  | ok x2 =>
  obtain ⟨tm, l2⟩ := x2
  cases r3 : rdNum l2 with
  | error c =>
    have HR : Hid (rdEnt l = .error c) := (rdThen_ok r1).trans ((rdThen_ok r2).trans (rdThen_no r3))
    go_enter Try.func87, Try.ntmps87
    go_wp2_with fail
    refine (number_ok hla r1).mono ?_
    rintro e w1 ⟨rfl, c1, z1, k1⟩
    go_wp2_with fail
    refine (number_ok ⟨c1, z1⟩ r2).mono ?_
    rintro e w2 ⟨rfl, c2, z2, k2⟩
    go_wp2_with fail
    refine (number_no ⟨c2, z2⟩ r3).mono ?_
    rintro e w3 ⟨rfl, k3⟩
    go_wp2
    unfold bodyPost RdPost
    rw [HR.out]
    exact ⟨rfl, rfl, (((((Kept.refl _ _).alloc _).trans k1).trans k2).trans k3)⟩
  | ok x3 =>
  obtain ⟨kd, l3⟩ := x3
  cases r4 : rdText 256 l3 with
  | error c =>
    have HR : Hid (rdEnt l = .error c) := (rdThen_ok r1).trans ((rdThen_ok r2).trans ((rdThen_ok r3).trans (rdThen_no r4)))
    go_enter Try.func87, Try.ntmps87
    go_wp2_with fail
    refine (number_ok hla r1).mono ?_
    rintro e w1 ⟨rfl, c1, z1, k1⟩
    go_wp2_with fail
    refine (number_ok ⟨c1, z1⟩ r2).mono ?_
    rintro e w2 ⟨rfl, c2, z2, k2⟩
    go_wp2_with fail
    refine (number_ok ⟨c2, z2⟩ r3).mono ?_
    rintro e w3 ⟨rfl, c3, z3, k3⟩
    go_wp2_with fail
    refine (text_no ⟨c3, z3⟩ r4).mono ?_
    rintro e w4 ⟨rfl, k4⟩
    go_wp2
    unfold bodyPost RdPost
    rw [HR.out]
    exact ⟨rfl, rfl, ((((((Kept.refl _ _).alloc _).trans k1).trans k2).trans k3).trans k4)⟩
  | ok x4 =>
  obtain ⟨dt, l4⟩ := x4
  have HI := fun w => isEntry_any ix tm kd dt w (by have := rdText_le r4; unfold maxLen; omega)
  cases hok : En.ok ⟨ix, tm, kd, dt⟩ with
  | false =>
    rw [hok] at HI
    have HR : Hid (rdEnt l = .error 6) := (rdThen_ok r1).trans ((rdThen_ok r2).trans ((rdThen_ok r3).trans ((rdThen_ok r4).trans (if_neg (by rw [hok]; decide)))))
    clear hok
    go_enter Try.func87, Try.ntmps87
    go_wp2_with fail
    refine (number_ok hla r1).mono ?_
    rintro e w1 ⟨rfl, c1, z1, k1⟩
    go_wp2_with fail
    refine (number_ok ⟨c1, z1⟩ r2).mono ?_
    rintro e w2 ⟨rfl, c2, z2, k2⟩
    go_wp2_with fail
    refine (number_ok ⟨c2, z2⟩ r3).mono ?_
    rintro e w3 ⟨rfl, c3, z3, k3⟩
    go_wp2_with fail
    refine (text_ok ⟨c3, z3⟩ r4).mono ?_
    rintro e w4 ⟨rfl, c4, z4, k4⟩
    have hkk : Kept (One p.block) w w4 := ((((((Kept.refl _ _).alloc _).trans k1).trans k2).trans k3).trans k4)
    go_wp2_with fail
    refine (HI _).mono ?_
    rintro e wi ⟨rfl, ki⟩
    go_wp2_with (go_at_call 145; go_must (refine (must_no _ _).mono ?_); rintro e w99 ⟨rfl, rfl⟩)
    unfold bodyPost RdPost
    rw [HR.out]
    exact ⟨rfl, rfl, (hkk.alloc _).trans (ki.mono (fun _ _ x => x.elim))⟩
  | true =>
    rw [hok] at HI
    have HR : Hid (rdEnt l = .ok (⟨ix, tm, kd, dt⟩, l4)) := (rdThen_ok r1).trans ((rdThen_ok r2).trans ((rdThen_ok r3).trans ((rdThen_ok r4).trans (if_pos hok))))
    clear hok
    go_enter Try.func87, Try.ntmps87
    go_wp2_with fail
    refine (number_ok hla r1).mono ?_
    rintro e w1 ⟨rfl, c1, z1, k1⟩
    go_wp2_with fail
    refine (number_ok ⟨c1, z1⟩ r2).mono ?_
    rintro e w2 ⟨rfl, c2, z2, k2⟩
    go_wp2_with fail
    refine (number_ok ⟨c2, z2⟩ r3).mono ?_
    rintro e w3 ⟨rfl, c3, z3, k3⟩
    go_wp2_with fail
    refine (text_ok ⟨c3, z3⟩ r4).mono ?_
    rintro e w4 ⟨rfl, c4, z4, k4⟩
    have HNn : Hid (_) := k4.block _ _ (k3.block _ _ (k2.block _ _ (k1.block _ _ (HN.out) HX.out) HX.out) HX.out) HX.out
    have hkk : Kept (One p.block) w w4 := ((((((Kept.refl _ _).alloc _).trans k1).trans k2).trans k3).trans k4)
    have hln : Left p w4 l4 := ⟨c4, z4⟩
    go_wp2_with fail
    refine (HI _).mono ?_
    rintro e wi ⟨rfl, ki⟩
    have hq := ki.block _ _ (blk_new w4 _) (fun x => x.elim)
    have hbr := ki.block _ _ (blk_past HNn.out _) (fun x => x.elim)
    have q0 := blk_at hq 0 rfl
    have q1 := blk_at hq 1 rfl
    have q2 := blk_at hq 2 rfl
    have q3 := blk_at hq 3 rfl
    have g0 := blk_at hbr 0 rfl
    have g1 := blk_at hbr 1 rfl
    have g2 := blk_at hbr 2 rfl
    have g3 := blk_at hbr 3 rfl
    have f0 := blk_free hbr 0
    have f1 := blk_free hbr 1
    have f2 := blk_free hbr 2
    have f3 := blk_free hbr 3
    go_wp2_with (go_at_call 145; go_must (refine (must_ok _ _).mono ?_); rintro e w99 ⟨rfl, rfl⟩)
    go_wp2
    refine bodyPost_ret (v := .agg #[.int .i64 ix, .int .i64 tm, .int .i64 kd, .string (bs dt)]) (by simp [results, Try.results87, go_sem, g0, g1, g2, g3]) rfl ?_
    unfold RdPost
    rw [HR.out]
    have hl9 : Left p w99 l4 := (hln.alloc _).kept ki
    have hk9 : Kept (One p.block) w w99 := (hkk.alloc _).trans (ki.mono (fun _ _ x => x.elim))
    have hne : p.block ≠ w.heap.size := Nat.ne_of_lt HB.out
    exact ⟨⟨_, rfl, rfl⟩, ((((hl9.other hne _).other hne _).other hne _).other hne _), ((((hk9.setNew (Nat.le_refl _) _).setNew (Nat.le_refl _) _).setNew (Nat.le_refl _) _).setNew (Nat.le_refl _) _)⟩

end Go.Proofs.Ytijklginabipgaa

/-
  An entry read by the document's reader.
-/
namespace Go.Proofs.Ytijklginabipgaa
open Go.RowKit

theorem stText_le (most : Nat) (st : Except Int (List UInt8)) : (stRun (rdText most) [] st).1.length ≤ most := by
  cases st with
  | error c => exact Nat.zero_le _
  | ok l =>
    cases hr : rdText most l with
    | error c => rw [stRun_no hr]; exact Nat.zero_le _
    | ok x => obtain ⟨a, t⟩ := x; rw [stRun_ok hr]; exact rdText_le hr
theorem RSt.lt {b : Nat} {w : World} {st : Except Int (List UInt8)} (h : RSt b w st) : b < w.heap.size := by
  cases st with
  | ok l => exact lt_of_block h.2
  | error c => exact lt_of_block h.2

set_option maxRecDepth 100000 in
set_option maxHeartbeats 4000000 in
theorem refREntry_any (b : Nat) (st : Except Int (List UInt8)) (w : World) (h : RSt b w st) :
    Calls Try.prog 88 #[.pointer (some ⟨b, 0, none⟩)] w (RefPost b w rdEnt st EnV) := by
  have HBL : Hid (b < w.heap.size) := h.lt
  have HBw : Hid (b ≠ w.heap.size ∧ b ≠ w.heap.size + 1) := by have := HBL.out; constructor <;> omega
  have M0 : Hid (((w.alloc (.cells #[.int .i64 0, .int .i64 0, .int .i64 0, .string (bs [])] 52)).alloc (.cells #[.int .i64 0, .int .i64 0, .int .i64 0, .string (bs [])] 52)).heap[w.heap.size + 1]? = some (.cells #[.int .i64 0, .int .i64 0, .int .i64 0, .string (bs [])] 52 (0, 0))) := by
    have := blk_new (w.alloc (.cells #[.int .i64 0, .int .i64 0, .int .i64 0, .string (bs [])] 52)) (.cells #[.int .i64 0, .int .i64 0, .int .i64 0, .string (bs [])] 52)
    rwa [show (w.alloc (.cells #[.int .i64 0, .int .i64 0, .int .i64 0, .string (bs [])] 52)).heap.size = w.heap.size + 1 by simp] at this
  have N0 : Hid (_) := blk_past (blk_new w (.cells #[.int .i64 0, .int .i64 0, .int .i64 0, .string (bs [])] 52)) (.cells #[.int .i64 0, .int .i64 0, .int .i64 0, .string (bs [])] 52)
  have T0 := (h.past (.cells #[.int .i64 0, .int .i64 0, .int .i64 0, .string (bs [])] 52)).past (.cells #[.int .i64 0, .int .i64 0, .int .i64 0, .string (bs [])] 52)
  have K0 : Hid (Kept (One b) w ((w.alloc (.cells #[.int .i64 0, .int .i64 0, .int .i64 0, .string (bs [])] 52)).alloc (.cells #[.int .i64 0, .int .i64 0, .int .i64 0, .string (bs [])] 52))) := ((Kept.refl _ _).alloc _).alloc _
  have hMb : ¬ w.heap.size + 1 = b := fun e => HBw.out.2 e.symm
  have hNb : ¬ w.heap.size = b := fun e => HBw.out.1 e.symm
  have hbM : b ≠ w.heap.size + 1 := HBw.out.2
  have hbN : b ≠ w.heap.size := HBw.out.1
  have hNM : w.heap.size ≠ w.heap.size + 1 := by omega
  clear h
  obtain ⟨⟨ix, s1⟩, h1⟩ : ∃ x, stRun (rdNum) 0 st = x := ⟨_, rfl⟩
  have C1 := fun (w' : World) h => refNumber_any b st w' h
  rw [h1] at C1
  have H1 : Hid (stRun (rdNum) 0 st = (ix, s1)) := h1
  clear h1
  obtain ⟨⟨tm, s2⟩, h2⟩ : ∃ x, stRun (rdNum) 0 s1 = x := ⟨_, rfl⟩
  have C2 := fun (w' : World) h => refNumber_any b s1 w' h
  rw [h2] at C2
  have H2 : Hid (stRun (rdNum) 0 s1 = (tm, s2)) := h2
  clear h2
  obtain ⟨⟨kd, s3⟩, h3⟩ : ∃ x, stRun (rdNum) 0 s2 = x := ⟨_, rfl⟩
  have C3 := fun (w' : World) h => refNumber_any b s2 w' h
  rw [h3] at C3
  have H3 : Hid (stRun (rdNum) 0 s2 = (kd, s3)) := h3
  clear h3
  obtain ⟨⟨dt, s4⟩, h4⟩ : ∃ x, stRun (rdText 256) [] s3 = x := ⟨_, rfl⟩
  have C4 := fun (w' : World) h => refText_any b 256 s3 w' h
  rw [h4] at C4
  have H4 : Hid (stRun (rdText 256) [] s3 = (dt, s4)) := h4
  clear h4
  go_enter Try.func88, Try.ntmps88
  go_wp2_with fail
  refine (C1 _ T0).mono ?_
  rintro e w1 ⟨rfl, t1, k1⟩
  have m1 := k1.block _ _ M0.out hMb
  have o1 := k1.block _ _ N0.out hNb
  have a1_0 := blk_at m1 0 rfl
  have f1_0 := blk_free m1 0
  have M1 : Hid ((w1.setCell ⟨w.heap.size + 1, 0, none⟩ (.int .i64 ix)).heap[w.heap.size + 1]? = some (.cells #[.int .i64 ix, .int .i64 0, .int .i64 0, .string (bs [])] 52 (0, 0))) := blk_set m1 0 _
  have N1 : Hid (_) := blk_other o1 hNM (a := ⟨w.heap.size + 1, 0, none⟩) (.int .i64 ix)
  have T1 := t1.other hbM (a := ⟨w.heap.size + 1, 0, none⟩) (.int .i64 ix)
  have K1 : Hid (Kept (One b) w (w1.setCell ⟨w.heap.size + 1, 0, none⟩ (.int .i64 ix))) := (K0.out.trans k1).setNew (show w.heap.size ≤ w.heap.size + 1 by omega) _
  clear m1 o1
  go_wp2_with fail
  refine (C2 _ T1).mono ?_
  rintro e w2 ⟨rfl, t2, k2⟩
  have m2 := k2.block _ _ M1.out hMb
  have o2 := k2.block _ _ N1.out hNb
  have a2_0 := blk_at m2 1 rfl
  have f2_0 := blk_free m2 1
  have M2 : Hid ((w2.setCell ⟨w.heap.size + 1, 1, none⟩ (.int .i64 tm)).heap[w.heap.size + 1]? = some (.cells #[.int .i64 ix, .int .i64 tm, .int .i64 0, .string (bs [])] 52 (0, 0))) := blk_set m2 1 _
  have N2 : Hid (_) := blk_other o2 hNM (a := ⟨w.heap.size + 1, 1, none⟩) (.int .i64 tm)
  have T2 := t2.other hbM (a := ⟨w.heap.size + 1, 1, none⟩) (.int .i64 tm)
  have K2 : Hid (Kept (One b) w (w2.setCell ⟨w.heap.size + 1, 1, none⟩ (.int .i64 tm))) := (K1.out.trans k2).setNew (show w.heap.size ≤ w.heap.size + 1 by omega) _
  clear m2 o2
  go_wp2_with fail
  refine (C3 _ T2).mono ?_
  rintro e w3 ⟨rfl, t3, k3⟩
  have m3 := k3.block _ _ M2.out hMb
  have o3 := k3.block _ _ N2.out hNb
  have a3_0 := blk_at m3 2 rfl
  have f3_0 := blk_free m3 2
  have M3 : Hid ((w3.setCell ⟨w.heap.size + 1, 2, none⟩ (.int .i64 kd)).heap[w.heap.size + 1]? = some (.cells #[.int .i64 ix, .int .i64 tm, .int .i64 kd, .string (bs [])] 52 (0, 0))) := blk_set m3 2 _
  have N3 : Hid (_) := blk_other o3 hNM (a := ⟨w.heap.size + 1, 2, none⟩) (.int .i64 kd)
  have T3 := t3.other hbM (a := ⟨w.heap.size + 1, 2, none⟩) (.int .i64 kd)
  have K3 : Hid (Kept (One b) w (w3.setCell ⟨w.heap.size + 1, 2, none⟩ (.int .i64 kd))) := (K2.out.trans k3).setNew (show w.heap.size ≤ w.heap.size + 1 by omega) _
  clear m3 o3
  go_wp2_with fail
  refine (C4 _ T3).mono ?_
  rintro e w4 ⟨rfl, t4, k4⟩
  have m4 := k4.block _ _ M3.out hMb
  have o4 := k4.block _ _ N3.out hNb
  have a4_0 := blk_at m4 3 rfl
  have f4_0 := blk_free m4 3
  have M4 : Hid ((w4.setCell ⟨w.heap.size + 1, 3, none⟩ (.string (bs dt))).heap[w.heap.size + 1]? = some (.cells #[.int .i64 ix, .int .i64 tm, .int .i64 kd, .string (bs dt)] 52 (0, 0))) := blk_set m4 3 _
  have N4 : Hid (_) := blk_other o4 hNM (a := ⟨w.heap.size + 1, 3, none⟩) (.string (bs dt))
  have T4 := t4.other hbM (a := ⟨w.heap.size + 1, 3, none⟩) (.string (bs dt))
  have K4 : Hid (Kept (One b) w (w4.setCell ⟨w.heap.size + 1, 3, none⟩ (.string (bs dt)))) := (K3.out.trans k4).setNew (show w.heap.size ≤ w.heap.size + 1 by omega) _
  clear m4 o4
  have HI := fun w => refIsEntry_any ix tm kd dt w (by have := stText_le 256 s3; rw [H4.out] at this; unfold maxLen; simp only at this; omega)
  cases hok : En.ok ⟨ix, tm, kd, dt⟩ with
  | true =>
    rw [hok] at HI
    have HOK : Hid (En.ok ⟨ix, tm, kd, dt⟩ = true) := hok
    clear hok
    have e0 := blk_at M4.out 0 rfl
    have e1 := blk_at M4.out 1 rfl
    have e2 := blk_at M4.out 2 rfl
    have e3 := blk_at M4.out 3 rfl
    go_wp2_with fail
    refine (HI _).mono ?_
    rintro e wi ⟨rfl, ki⟩
    have Mi := ki.block _ _ M4.out (fun x => x.elim)
    have Ni := ki.block _ _ N4.out (fun x => x.elim)
    have Ti := T4.keptN ki
    have Ki : Hid (Kept (One b) w wi) := K4.out.trans (ki.mono (fun _ _ x => x.elim))
    have p0 := blk_at Mi 0 rfl
    have p1 := blk_at Mi 1 rfl
    have p2 := blk_at Mi 2 rfl
    have p3 := blk_at Mi 3 rfl
    have g0 := blk_at Ni 0 rfl
    have g1 := blk_at Ni 1 rfl
    have g2 := blk_at Ni 2 rfl
    have g3 := blk_at Ni 3 rfl
    have u0 := blk_free Ni 0
    have u1 := blk_free Ni 1
    have u2 := blk_free Ni 2
    have u3 := blk_free Ni 3
    go_wp2
    refine bodyPost_ret (v := .agg #[.int .i64 ix, .int .i64 tm, .int .i64 kd, .string (bs dt)]) (by simp [results, Try.results88, go_sem, g0, g1, g2, g3]) rfl ?_
    have hS : stAfter rdEnt st = s4 := by refine (stAfter_then (rdNum) _ 0 st).trans ?_; rw [H1.out]; refine (stAfter_then (rdNum) _ 0 s1).trans ?_; rw [H2.out]; refine (stAfter_then (rdNum) _ 0 s2).trans ?_; rw [H3.out]; refine (stAfter_then (rdText 256) _ [] s3).trans ?_; rw [H4.out]; refine (stAfter_end _ _ _ _).trans ?_; exact if_pos HOK.out
    have hG : GoodV rdEnt st ⟨ix, tm, kd, dt⟩ := by refine GoodV_then (rdNum) _ 0 st _ ?_; rw [H1.out]; refine GoodV_then (rdNum) _ 0 s1 _ ?_; rw [H2.out]; refine GoodV_then (rdNum) _ 0 s2 _ ?_; rw [H3.out]; refine GoodV_then (rdText 256) _ [] s3 _ ?_; rw [H4.out]; exact GoodV_end _ _ _ _
    unfold RefPost
    rw [hS]
    exact ⟨⟨_, ⟨ix, tm, kd, dt⟩, rfl, rfl, hG⟩, ((((Ti.other hbN _).other hbN _).other hbN _).other hbN _), ((((Ki.out.setNew (Nat.le_refl _) _).setNew (Nat.le_refl _) _).setNew (Nat.le_refl _) _).setNew (Nat.le_refl _) _)⟩
  | false =>
    rw [hok] at HI
    have HOK : Hid (En.ok ⟨ix, tm, kd, dt⟩ = false) := hok
    clear hok
    have e0 := blk_at M4.out 0 rfl
    have e1 := blk_at M4.out 1 rfl
    have e2 := blk_at M4.out 2 rfl
    have e3 := blk_at M4.out 3 rfl
    go_wp2_with fail
    refine (HI _).mono ?_
    rintro e wi ⟨rfl, ki⟩
    have Mi := ki.block _ _ M4.out (fun x => x.elim)
    have Ni := ki.block _ _ N4.out (fun x => x.elim)
    have Ti := T4.keptN ki
    have Ki : Hid (Kept (One b) w wi) := K4.out.trans (ki.mono (fun _ _ x => x.elim))
    go_wp2_with fail
    refine (badSt_any b s4 6 _ Ti (by decide)).mono ?_
    rintro e wb ⟨rfl, tb, kb⟩
    have Mb := kb.block _ _ Mi hMb
    have Nb := kb.block _ _ Ni hNb
    have Kb : Hid (Kept (One b) w wb) := Ki.out.trans kb
    have p0 := blk_at Mb 0 rfl
    have p1 := blk_at Mb 1 rfl
    have p2 := blk_at Mb 2 rfl
    have p3 := blk_at Mb 3 rfl
    have g0 := blk_at Nb 0 rfl
    have g1 := blk_at Nb 1 rfl
    have g2 := blk_at Nb 2 rfl
    have g3 := blk_at Nb 3 rfl
    have u0 := blk_free Nb 0
    have u1 := blk_free Nb 1
    have u2 := blk_free Nb 2
    have u3 := blk_free Nb 3
    go_wp2
    refine bodyPost_ret (v := .agg #[.int .i64 ix, .int .i64 tm, .int .i64 kd, .string (bs dt)]) (by simp [results, Try.results88, go_sem, g0, g1, g2, g3]) rfl ?_
    have hS : stAfter rdEnt st = stBad 6 s4 := by refine (stAfter_then (rdNum) _ 0 st).trans ?_; rw [H1.out]; refine (stAfter_then (rdNum) _ 0 s1).trans ?_; rw [H2.out]; refine (stAfter_then (rdNum) _ 0 s2).trans ?_; rw [H3.out]; refine (stAfter_then (rdText 256) _ [] s3).trans ?_; rw [H4.out]; refine (stAfter_end _ _ _ _).trans ?_; exact if_neg (by rw [HOK.out]; decide)
    have hG : GoodV rdEnt st ⟨ix, tm, kd, dt⟩ := by refine GoodV_then (rdNum) _ 0 st _ ?_; rw [H1.out]; refine GoodV_then (rdNum) _ 0 s1 _ ?_; rw [H2.out]; refine GoodV_then (rdNum) _ 0 s2 _ ?_; rw [H3.out]; refine GoodV_then (rdText 256) _ [] s3 _ ?_; rw [H4.out]; exact GoodV_end _ _ _ _
    unfold RefPost
    rw [hS]
    exact ⟨⟨_, ⟨ix, tm, kd, dt⟩, rfl, rfl, hG⟩, ((((tb.other hbN _).other hbN _).other hbN _).other hbN _), ((((Kb.out.setNew (Nat.le_refl _) _).setNew (Nat.le_refl _) _).setNew (Nat.le_refl _) _).setNew (Nat.le_refl _) _)⟩

end Go.Proofs.Ytijklginabipgaa

/-
  Rows of nodes read: the program's nodes (a count, and so many numbers), and the document's numbers.
-/
namespace Go.Proofs.Ytijklginabipgaa
open Go.RowKit

theorem intsOf_len (ns : List Nat) : (intsOf ns).length = ns.length := by simp [intsOf]
theorem nats_row {B c : Nat} {w : World} {ao : Option Addr} {ns : List Nat} (h : OwnNats B w ao c ns) : IntRow w.heap.size w ao (intsOf ns) := by
  intro j hj
  have hj' : j < ns.length := by rwa [intsOf_len] at hj
  obtain ⟨g, _, rfl, ⟨cs, hg⟩, hc⟩ := h.shape (fun e => by subst e; simp at hj')
  refine ⟨⟨g, 0, none⟩, rfl, lt_of_block hg, ?_⟩
  have e : (⟨g, 0, none⟩ : Addr).add j = ⟨g, j, none⟩ := by unfold Addr.add; split <;> simp_all
  rw [e, hc j hj']
  simp [intsOf]

/-- A count, and so many numbers. -/
def rdNums (most : Nat) (l : List UInt8) : Except Int (List Nat × List UInt8) := rdThen (rdUpTo most l) fun n l => rdTimes rdNum n l

theorem natsV_mono {B B' : Nat} {ns : List Nat} {w : World} {v : Value} (h : NatsV B ns w v) (hb : B' ≤ B) : NatsV B' ns w v := by
  obtain ⟨ao, c, rfl, ho⟩ := h
  exact ⟨ao, c, rfl, own_mono ho hb⟩

set_option maxRecDepth 100000 in
set_option maxHeartbeats 1000000 in
theorem listI_any (p : Addr) (most : Nat) (l : List UInt8) (w : World) (hl : Left p w l) (hm : (most : Int) ≤ 1000000) :
    Calls Try.prog 203 #[.pointer (some p), .int .i64 most, .func (.func 146) #[] #[]] w (RdPost p w (rdNums most l) (NatsV w.heap.size)) := by
  cases r1 : rdUpTo most l with
  | error c =>
    have HR : Hid (rdNums most l = .error c) := rdThen_no r1
    go_enter Try.func203, Try.ntmps203
    go_wp2_with fail
    refine (upTo_no hl r1).mono ?_
    rintro e w1 ⟨rfl, k1⟩
    go_wp2
    unfold bodyPost RdPost
    rw [HR.out]
    exact ⟨rfl, rfl, k1⟩
  | ok x1 =>
    obtain ⟨n, l1⟩ := x1
    have hn := (rdUpTo_ok r1).1
    have hn' : (n : Int) ≤ 1000000 := by omega
    have HR : Hid (rdNums most l = rdTimes rdNum n l1) := rdThen_ok r1
    clear hm
    cases r2 : rdTimes rdNum n l1 with
    | error c =>
      go_enter Try.func203, Try.ntmps203
      go_wp2_with fail
      refine (upTo_ok hl r1).mono ?_
      rintro e w1 ⟨rfl, c1, z1, k1⟩
      go_wp2_with fail
      refine (RdPost.no (timesI_any p n l1 w1 ⟨c1, z1⟩ hn') r2).mono ?_
      rintro e w2 ⟨rfl, k2⟩
      go_wp2
      unfold bodyPost RdPost
      rw [HR.out, r2]
      exact ⟨rfl, rfl, k1.trans k2⟩
    | ok x2 =>
      obtain ⟨ns, l2⟩ := x2
      go_enter Try.func203, Try.ntmps203
      go_wp2_with fail
      refine (upTo_ok hl r1).mono ?_
      rintro e w1 ⟨rfl, c1, z1, k1⟩
      go_wp2_with fail
      refine (RdPost.ok (timesI_any p n l1 w1 ⟨c1, z1⟩ hn') r2).mono ?_
      rintro e w2 ⟨v, rfl, hv, c2, z2, k2⟩
      go_wp2
      go_ret
      unfold RdPost
      rw [HR.out, r2]
      exact ⟨⟨_, rfl, natsV_mono hv k1.size⟩, ⟨c2, z2⟩, k1.trans k2⟩

set_option maxRecDepth 100000 in
theorem rNodes_any (p : Addr) (l : List UInt8) (w : World) (hl : Left p w l) :
    Calls Try.prog 152 #[.pointer (some p)] w (RdPost p w (rdNums 9 l) (NatsV w.heap.size)) := by
  have H := listI_any p 9 l w hl (by decide)
  cases hr : rdNums 9 l with
  | error c =>
    have H2 := RdPost.no H hr
    clear H
    go_enter Try.func152, Try.ntmps152
    go_wp2_with fail
    refine H2.mono ?_
    rintro e w1 ⟨rfl, k1⟩
    go_wp2
    exact ⟨rfl, rfl, k1⟩
  | ok x =>
    obtain ⟨ns, t⟩ := x
    have H2 := RdPost.ok H hr
    clear H
    go_enter Try.func152, Try.ntmps152
    go_wp2_with fail
    refine H2.mono ?_
    rintro e w1 ⟨v, rfl, hv, c1, z1, k1⟩
    go_wp2
    go_ret
    exact ⟨⟨_, rfl, hv⟩, ⟨c1, z1⟩, k1⟩

/-! ### the document's -/
theorem rdUpTo_err {most : Nat} {l : List UInt8} {c : Int} (h : rdUpTo most l = .error c) : c ≠ 0 := by
  unfold rdUpTo at h
  cases hn : rdNum l with
  | error d => rw [hn] at h; simp only [Except.error.injEq] at h; subst h; exact rdNum_err hn
  | ok x =>
    obtain ⟨n, t⟩ := x
    rw [hn] at h
    simp only at h
    by_cases h1 : n ≤ most
    · rw [if_pos h1] at h; cases h
    · rw [if_neg h1] at h; cases h; decide
theorem rdTimes_err {α : Type} {rd : List UInt8 → Except Int (α × List UInt8)} (hz : NoZero rd) : ∀ n, NoZero (rdTimes rd n)
  | 0 => fun l c h => by cases h
  | n + 1 => fun l c h => by
    unfold rdTimes at h
    cases hr : rd l with
    | error d => rw [hr] at h; cases h; exact hz l c hr
    | ok x =>
      obtain ⟨a, t⟩ := x
      rw [hr] at h
      simp only at h
      cases h2 : rdTimes rd n t with
      | error d => rw [h2] at h; cases h; exact rdTimes_err hz n t c h2
      | ok y => obtain ⟨xs, u⟩ := y; rw [h2] at h; cases h
theorem noZero_nums (most : Nat) : NoZero (rdNums most) := NoZero.then (rd := rdUpTo most) (fun _ _ h => rdUpTo_err h) (fun n => rdTimes_err noZero_num n)

theorem stUpTo_le (most : Nat) (st : Except Int (List UInt8)) : (stRun (rdUpTo most) 0 st).1 ≤ most := by
  cases st with
  | error c => exact Nat.zero_le _
  | ok l =>
    cases hr : rdUpTo most l with
    | error c => rw [stRun_no hr]; exact Nat.zero_le _
    | ok x => obtain ⟨a, t⟩ := x; rw [stRun_ok hr]; exact (rdUpTo_ok hr).1
/-- The first error, as the reader holds it. -/
def stErr (st : Except Int (List UInt8)) : Int := match st with | .ok _ => 0 | .error c => c
theorem RSt.err {b : Nat} {w : World} {st : Except Int (List UInt8)} (h : RSt b w st) : w.cell? ⟨b, 1, none⟩ = some (.int .i64 (stErr st)) := by
  cases st with
  | ok l => exact blk_cell h.2 1
  | error c => exact blk_cell h.2 1
theorem stRun_zero (most : Nat) (st : Except Int (List UInt8)) {c : Int} (h : (stRun (rdUpTo most) 0 st).2 = .error c) : (stRun (rdUpTo most) 0 st).1 = 0 := by
  cases st with
  | error d => rfl
  | ok l =>
    cases hr : rdUpTo most l with
    | error d => rw [stRun_no hr]
    | ok x => obtain ⟨a, t⟩ := x; rw [stRun_ok hr] at h; cases h

/-- How far a reading of so many has come. -/
def Come {α : Type} (rd : List UInt8 → Except Int (α × List UInt8)) (n k : Nat) (s0 : Except Int (List UInt8)) (xs : List α) (st : Except Int (List UInt8)) : Prop :=
  ∀ t, s0 = .ok t → match st with | .ok u => rdTimes rd n t = preT xs (rdTimes rd (n - k) u) | .error e => rdTimes rd n t = .error e
theorem Come.step {α : Type} {rd : List UInt8 → Except Int (α × List UInt8)} {n k : Nat} {s0 : Except Int (List UInt8)} {xs : List α} {u : List UInt8} {a : α} {s2 : Except Int (List UInt8)} (h : Come rd n k s0 xs (.ok u)) (hk : k < n) (hg : GoodV rd (.ok u) a) (hs : s2 = stAfter rd (.ok u)) :
    Come rd n (k + 1) s0 (xs ++ [a]) s2 := by
  subst hs
  intro t ht
  have h1 := h t ht
  simp only at h1
  rw [show n - k = (n - (k + 1)) + 1 by omega] at h1
  cases hr : rd u with
  | error e =>
    have e1 : stAfter rd (.ok u) = .error e := by simp only [stAfter, hr]
    rw [e1]
    exact h1.trans (rdTimes_no hr)
  | ok x =>
    obtain ⟨y, v⟩ := x
    have e1 : stAfter rd (.ok u) = .ok v := by simp only [stAfter, hr]
    rw [e1]
    have := hg u rfl y v hr
    subst this
    exact h1.trans (rdTimes_more hr)
theorem Come.done {α : Type} {rd : List UInt8 → Except Int (α × List UInt8)} {most n k : Nat} {st s0 s1 : Except Int (List UInt8)} {xs : List α} (h : Come rd n k s0 xs s1) (hr : stRun (rdUpTo most) 0 st = (n, s0)) (hs : ∀ c, s0 = .error c → s1 = .error c) (hk : ∀ u, s1 = .ok u → k = n) :
    stAfter (fun l => rdThen (rdUpTo most l) fun n l => rdTimes rd n l) st = s1 ∧ GoodV (fun l => rdThen (rdUpTo most l) fun n l => rdTimes rd n l) st xs := by
  have e1 : stAfter (rdTimes rd n) s0 = s1 := by
    cases s0 with
    | error c => rw [hs c rfl]; rfl
    | ok t =>
      have h1 := h t rfl
      cases s1 with
      | error e => simp only at h1; simp only [stAfter, h1]
      | ok u =>
        simp only [hk u rfl, Nat.sub_self, rdTimes, preT, List.append_nil] at h1
        simp only [stAfter, h1]
  have e2 : GoodV (rdTimes rd n) s0 xs := by
    intro t ht z u hz
    have h1 := h t ht
    cases s1 with
    | error e => simp only at h1; rw [h1] at hz; cases hz
    | ok v =>
      simp only [hk v rfl, Nat.sub_self, rdTimes, preT, List.append_nil] at h1
      rw [h1] at hz
      simp only [Except.ok.injEq, Prod.mk.injEq] at hz
      exact hz.1
  constructor
  · refine (stAfter_then (rdUpTo most) _ 0 st).trans ?_
    rw [hr]
    exact e1
  · refine GoodV_then (rdUpTo most) _ 0 st _ ?_
    rw [hr]
    exact e2

set_option maxRecDepth 100000 in
set_option maxHeartbeats 2000000 in
theorem refRNumbers_any (b most : Nat) (st : Except Int (List UInt8)) (w : World) (h : RSt b w st) (hm : (most : Int) ≤ 1000000) :
    Calls Try.prog 153 #[.pointer (some ⟨b, 0, none⟩), .int .i64 most] w (RefPost b w (rdNums most) st (NatsV w.heap.size)) := by
  obtain ⟨i0, hi, hz0, hz1, hz2⟩ := info_parts Try.infoInt
  have HBL : Hid (b < w.heap.size) := h.lt
  have U := refUpTo_any b most st w h
  have hle := stUpTo_le most st
  have hzero := fun c => stRun_zero most st (c := c)
  obtain ⟨⟨n, s0⟩, hr⟩ : ∃ x, stRun (rdUpTo most) 0 st = x := ⟨_, rfl⟩
  rw [hr] at U hle hzero
  simp only at U hle hzero
  have HR : Hid (stRun (rdUpTo most) 0 st = (n, s0)) := hr
  have HZ : Hid (∀ c, s0 = .error c → n = 0) := hzero
  have hn : (n : Int) ≤ 1000000 := by omega
  clear hr h hm hle hzero
  go_enter Try.func153, Try.ntmps153
  go_wp2_with fail
  refine U.mono ?_
  rintro e w1 ⟨rfl, t1, k1⟩
  have HT1 : Hid (RSt b w1 s0) := t1
  have HK1 : Hid (Kept (One b) w w1) := k1
  clear t1 k1 U
  go_wp2
  go_loopw [6, 7] (fun v i wr => ∃ k : Nat, ∃ xs : List Nat, ∃ s1 : Except Int (List UInt8), ∃ ao c, k ≤ n ∧ i = .int .i64 k ∧ Hid (xs.length = k) ∧ v = .slice ao xs.length c ∧ Hid (OwnNats w.heap.size wr ao c xs) ∧ Hid (Come rdNum n k s0 xs s1) ∧ Hid (∀ c, s0 = .error c → s1 = .error c) ∧ Hid (RSt b wr s1) ∧ Hid (Kept (One b) w wr)) (fun _ i _ => n - (intOf i).toNat)
  case atStart => exact ⟨0, [], s0, none, 0, by omega, rfl, rfl, rfl, World.ownsRow_nil _ _ _ _, by intro t ht; subst ht; exact (preT_nil _).symm, fun c h => h, HT1.out, HK1.out⟩
  case round =>
    obtain ⟨k, xs, s1, ao, c, hk, rfl, HA, rfl, HO, HC, HS, HT, HK⟩ := hrel
    clear HT1 HK1
    have herr := HT.out.err
    by_cases hgo : k < n ∧ ∃ u, s1 = .ok u
    · obtain ⟨hkn, u, rfl⟩ := hgo
      have herr : wr.cell? ⟨b, 1, none⟩ = some (.int .i64 0) := herr
      have N := refNumber_any _ _ _ HT.out
      have hg := GoodV_run rdNum 0 (.ok u)
      have hs := stAfter_run rdNum 0 (.ok u)
      generalize (stRun rdNum 0 (.ok u)).1 = a at N hg
      generalize (stRun rdNum 0 (.ok u)).2 = s2 at N hs
      have HC2 : Hid (Come rdNum n (k + 1) s0 (xs ++ [a]) s2) := HC.out.step hkn hg hs
      have HS2 : Hid (∀ c, s0 = .error c → s2 = .error c) := fun c h => by have := HS.out c h; cases this
      have HLL : Hid (xs.length + 1 ≤ maxLen ∧ (xs.length + 1) * 8 ≤ 140737488355328) := by
        have := HA.out
        constructor
        · unfold maxLen; omega
        · omega
      clear hg hs HC HS HT
      go_wp2_with (first | (go_at_call 112; go_must (refine N.mono ?_); rintro e w' ⟨rfl, hs', hk'⟩; have HR' : Hid (RSt b w' s2) := hs'; have HK' : Hid (Kept (One b) w w') := HK.out.trans hk'; have ho : w'.ownsRow w.heap.size 3 1 (.slice ao xs.length c) xs.length (natCells xs) := own_kept HO.out hk' (fun k cs hb hx => by have := HBL.out; have : k = b := hx; omega); clear hs' hk') | (at_builtin; go_must (refine wpList_append_src _ rfl _ _ 22 22 rfl w.heap.size 3 i0 (.int .i64 0) 1 8 Try.underlying22 hi hz0 hz1 hz2 rfl _ _ _ rfl (ho.alloc _) (.slice (some ⟨w'.heap.size, 0, none⟩) 1 1) 1 [.int .i64 a] rfl (src_int _) HLL.out.1 HLL.out.2 (le_alloc HK'.out.size _) ?_); intro ao' c' w1 ho' hg'; have HR1 : Hid (RSt b w1 s2) := by { have hne : some b ≠ (Value.slice ao xs.length c).ownBlock := (fun e => by have := (ho.lt _ e.symm).1; have := HBL.out; omega); have hlt : b < w'.heap.size := HR'.out.lt; have hb := hg'.block b (by simp; omega) hne; have hb2 := Below.heap_alloc w' (.cells #[.int .i64 a] 3) b hlt; have h3 := HR'.out; revert h3; cases s2 <;> (simp only [RSt]; rw [hb, hb2]; exact id) }; have HK1 : Hid (Kept (One b) w w1) := (HK'.out.alloc _).grown hg' (own_row ho); clear hg'))
      go_roundw
      case rel => exact ⟨k + 1, xs ++ [a], s2, ao', c', by omega, by go_num, by have := HA.out; show (xs ++ [a]).length = k + 1; simp; omega, by rw [List.length_append]; rfl, OwnNats.push ho', HC2, HS2, HR1, HK1.out⟩
      case measure => simp [intOf]; omega
    · have hkk : ∀ u, s1 = .ok u → k = n := fun u hu => Decidable.byContradiction fun hne => hgo ⟨by omega, u, hu⟩
      obtain ⟨hS, hG⟩ := HC.out.done HR.out HS.out hkk
      have HS9 : Hid (stAfter (rdNums most) st = s1) := hS
      have HG9 : Hid (GoodV (rdNums most) st xs) := hG
      have hne : k < n → stErr s1 ≠ 0 := by
        intro hkn
        have h3 := HT.out
        cases s1 with
        | ok u => exact absurd ⟨hkn, u, rfl⟩ hgo
        | error e => exact h3.1
      generalize stErr s1 = ze at herr hne
      clear hS hG hkk hgo HC HS
      by_cases hkn : k < n
      · have hz : (ze == 0) = false := by simpa using hne hkn
        clear hne
        go_wp2
        go_ret
        unfold RefPost
        rw [HS9.out]
        exact ⟨⟨_, xs, rfl, ⟨ao, c, rfl, HO.out⟩, HG9.out⟩, HT.out, HK.out⟩
      · clear hne
        go_wp2
        go_ret
        unfold RefPost
        rw [HS9.out]
        exact ⟨⟨_, xs, rfl, ⟨ao, c, rfl, HO.out⟩, HG9.out⟩, HT.out, HK.out⟩

end Go.Proofs.Ytijklginabipgaa

/-
  A configuration read by the program's reader.
-/
namespace Go.Proofs.Ytijklginabipgaa
open Go.RowKit

/-- A configuration, plainly: its three rows. -/
structure Cf where
  v : List Nat
  n : List Nat
  l : List Nat
def Cf.ok (c : Cf) : Bool := isCfg (intsOf c.v) (intsOf c.n) (intsOf c.l)
def rdCfgEnd (c : Cf) (l : List UInt8) : Except Int (Cf × List UInt8) := if c.ok then .ok (c, l) else .error 8
def rdCfg (l : List UInt8) : Except Int (Cf × List UInt8) := rdThen (rdNums 9 l) fun v l => rdThen (rdNums 9 l) fun n l => rdThen (rdNums 9 l) fun ls l => rdCfgEnd ⟨v, n, ls⟩ l
/-- A configuration whose rows are its own, behind block B. -/
def CfV (B : Nat) : Cf → World → Value → Prop := fun c w v => ∃ a1 a2 a3 c1 c2 c3, v = .agg #[.slice a1 c.v.length c1, .slice a2 c.n.length c2, .slice a3 c.l.length c3] ∧ OwnNats B w a1 c1 c.v ∧ OwnNats B w a2 c2 c.n ∧ OwnNats B w a3 c3 c.l

theorem rdNums_len {most : Nat} {l t : List UInt8} {ns : List Nat} (h : rdNums most l = .ok (ns, t)) : ns.length ≤ most := by
  unfold rdNums at h
  cases r1 : rdUpTo most l with
  | error c => rw [rdThen_no r1] at h; cases h
  | ok x =>
    obtain ⟨n, l1⟩ := x
    rw [rdThen_ok r1] at h
    rw [rdTimes_len h]
    exact (rdUpTo_ok r1).1
theorem validN_any (c1 c2 c3 : Nat) (a1 a2 a3 : Option Addr) (v n l : List Nat) (w : World) (h : CfRows w.heap.size w a1 a2 a3 (intsOf v) (intsOf n) (intsOf l)) (h1 : v.length ≤ 9223372036854775807) (h2 : n.length ≤ 9223372036854775807) (h3 : l.length ≤ 9223372036854775807) :
    Calls Try.prog 20 #[.agg #[.slice a1 v.length c1, .slice a2 n.length c2, .slice a3 l.length c3]] w fun e w' => e = .returned (.bool (Cf.ok ⟨v, n, l⟩)) ∧ Kept Nil w w' := by
  have H := valid_any w.heap.size c1 c2 c3 a1 a2 a3 (intsOf v) (intsOf n) (intsOf l) w h (by rw [intsOf_len]; omega) (by rw [intsOf_len]; omega) (by rw [intsOf_len]; omega)
  rw [intsOf_len, intsOf_len, intsOf_len] at H
  exact H
theorem refIsConfigN_any (c1 c2 c3 : Nat) (a1 a2 a3 : Option Addr) (v n l : List Nat) (w : World) (h : CfRows w.heap.size w a1 a2 a3 (intsOf v) (intsOf n) (intsOf l)) (h1 : v.length ≤ 9223372036854775807) (h2 : n.length ≤ 9223372036854775807) (h3 : l.length ≤ 9223372036854775807) :
    Calls Try.prog 21 #[.agg #[.slice a1 v.length c1, .slice a2 n.length c2, .slice a3 l.length c3]] w fun e w' => e = .returned (.bool (Cf.ok ⟨v, n, l⟩)) ∧ Kept Nil w w' := by
  have H := refIsConfig_any w.heap.size c1 c2 c3 a1 a2 a3 (intsOf v) (intsOf n) (intsOf l) w h (by rw [intsOf_len]; omega) (by rw [intsOf_len]; omega) (by rw [intsOf_len]; omega)
  rw [intsOf_len, intsOf_len, intsOf_len] at H
  exact H
theorem own_len {B c : Nat} {w : World} {ao : Option Addr} {ns : List Nat} (h : OwnNats B w ao c ns) : ns.length ≤ 9223372036854775807 := by
  rcases h.2 with ⟨_, h0⟩ | ⟨g, cap, cur, _, _, _, h1, h2, _⟩
  · omega
  · unfold maxLen at h2; omega
theorem cf_rows {B c1 c2 c3 : Nat} {w : World} {a1 a2 a3 : Option Addr} {v n l : List Nat} (h1 : OwnNats B w a1 c1 v) (h2 : OwnNats B w a2 c2 n) (h3 : OwnNats B w a3 c3 l) : CfRows w.heap.size w a1 a2 a3 (intsOf v) (intsOf n) (intsOf l) := ⟨nats_row h1, nats_row h2, nats_row h3⟩

set_option maxRecDepth 100000 in
set_option maxHeartbeats 4000000 in
theorem rConfig_any (p : Addr) (l : List UInt8) (w : World) (hl : Left p w l) :
    Calls Try.prog 94 #[.pointer (some p)] w (RdPost p w (rdCfg l) (CfV w.heap.size)) := by
  have HB : Hid (p.block < w.heap.size) := cell_lt hl.cell
  have HN : Hid (_) := blk_new w (.cells #[.slice none 0 0, .slice none 0 0, .slice none 0 0] 24)
  have HX : Hid (¬ One p.block w.heap.size (.cells #[.slice none 0 0, .slice none 0 0, .slice none 0 0] 24 (0, 0))) := fun (e : w.heap.size = p.block) => by have := HB.out; omega
  have hla := hl.alloc (.cells #[.slice none 0 0, .slice none 0 0, .slice none 0 0] 24)
  clear hl
  cases r1 : rdNums 9 l with
  | error c =>
    have HR : Hid (rdCfg l = .error c) := rdThen_no r1
    go_enter Try.func94, Try.ntmps94
    go_wp2_with fail
    refine (RdPost.no (rNodes_any p l _ hla) r1).mono ?_
    rintro e w1 ⟨rfl, k1⟩
    go_wp2
    unfold bodyPost RdPost
    rw [HR.out]
    exact ⟨rfl, rfl, (((Kept.refl _ _).alloc _).trans k1)⟩
  | ok x1 =>
  obtain ⟨vs, l1⟩ := x1
  cases r2 : rdNums 9 l1 with
  | error c =>
    have HR : Hid (rdCfg l = .error c) := (rdThen_ok r1).trans (rdThen_no r2)
    go_enter Try.func94, Try.ntmps94
    go_wp2_with fail
    refine (RdPost.ok (rNodes_any p l _ hla) r1).mono ?_
    rintro e w1 ⟨v1, rfl, hv1, c1, z1, k1⟩
    obtain ⟨ao1, cp1, rfl, ho1⟩ := hv1
    have HO1 : Hid (OwnNats (w.heap.size + 1) w1 ao1 cp1 vs) := own_mono ho1 (by simp)
    clear ho1
    go_wp2_with fail
    refine (RdPost.no (rNodes_any p l1 w1 ⟨c1, z1⟩) r2).mono ?_
    rintro e w2 ⟨rfl, k2⟩
    go_wp2
    unfold bodyPost RdPost
    rw [HR.out]
    exact ⟨rfl, rfl, ((((Kept.refl _ _).alloc _).trans k1).trans k2)⟩
  | ok x2 =>
  obtain ⟨nx, l2⟩ := x2
  cases r3 : rdNums 9 l2 with
  | error c =>
    have HR : Hid (rdCfg l = .error c) := (rdThen_ok r1).trans ((rdThen_ok r2).trans (rdThen_no r3))
    go_enter Try.func94, Try.ntmps94
    go_wp2_with fail
    refine (RdPost.ok (rNodes_any p l _ hla) r1).mono ?_
    rintro e w1 ⟨v1, rfl, hv1, c1, z1, k1⟩
    obtain ⟨ao1, cp1, rfl, ho1⟩ := hv1
    have HO1 : Hid (OwnNats (w.heap.size + 1) w1 ao1 cp1 vs) := own_mono ho1 (by simp)
    clear ho1
    go_wp2_with fail
    refine (RdPost.ok (rNodes_any p l1 w1 ⟨c1, z1⟩) r2).mono ?_
    rintro e w2 ⟨v2, rfl, hv2, c2, z2, k2⟩
    obtain ⟨ao2, cp2, rfl, ho2⟩ := hv2
    have HO2 : Hid (OwnNats (w.heap.size + 1) w2 ao2 cp2 nx) := own_mono ho2 (by have := k1.size; simp at *; omega)
    clear ho2
    go_wp2_with fail
    refine (RdPost.no (rNodes_any p l2 w2 ⟨c2, z2⟩) r3).mono ?_
    rintro e w3 ⟨rfl, k3⟩
    go_wp2
    unfold bodyPost RdPost
    rw [HR.out]
    exact ⟨rfl, rfl, (((((Kept.refl _ _).alloc _).trans k1).trans k2).trans k3)⟩
  | ok x3 =>
  obtain ⟨ls, l3⟩ := x3
  have HI := fun w a1 a2 a3 c1 c2 c3 hr => validN_any c1 c2 c3 a1 a2 a3 vs nx ls w hr (by have := rdNums_len r1; omega) (by have := rdNums_len r2; omega) (by have := rdNums_len r3; omega)
  cases hok : Cf.ok ⟨vs, nx, ls⟩ with
  | false =>
    rw [hok] at HI
    have HR : Hid (rdCfg l = .error 8) := (rdThen_ok r1).trans ((rdThen_ok r2).trans ((rdThen_ok r3).trans (if_neg (by rw [hok]; decide))))
    clear hok
    go_enter Try.func94, Try.ntmps94
    go_wp2_with fail
    refine (RdPost.ok (rNodes_any p l _ hla) r1).mono ?_
    rintro e w1 ⟨v1, rfl, hv1, c1, z1, k1⟩
    obtain ⟨ao1, cp1, rfl, ho1⟩ := hv1
    have HO1 : Hid (OwnNats (w.heap.size + 1) w1 ao1 cp1 vs) := own_mono ho1 (by simp)
    clear ho1
    go_wp2_with fail
    refine (RdPost.ok (rNodes_any p l1 w1 ⟨c1, z1⟩) r2).mono ?_
    rintro e w2 ⟨v2, rfl, hv2, c2, z2, k2⟩
    obtain ⟨ao2, cp2, rfl, ho2⟩ := hv2
    have HO2 : Hid (OwnNats (w.heap.size + 1) w2 ao2 cp2 nx) := own_mono ho2 (by have := k1.size; simp at *; omega)
    clear ho2
    go_wp2_with fail
    refine (RdPost.ok (rNodes_any p l2 w2 ⟨c2, z2⟩) r3).mono ?_
    rintro e w3 ⟨v3, rfl, hv3, c3, z3, k3⟩
    obtain ⟨ao3, cp3, rfl, ho3⟩ := hv3
    have HO3 : Hid (OwnNats (w.heap.size + 1) w3 ao3 cp3 ls) := own_mono ho3 (by have := k1.size; have := k2.size; simp at *; omega)
    clear ho3
    have hXp : ∀ k cs, w.heap.size + 1 ≤ k → ¬ One p.block k (.cells cs 3 (0, 0)) := fun k cs hb hx => by have := HB.out; have : k = p.block := hx; omega
    have P1 : Hid (OwnNats (w.heap.size + 1) w3 ao1 cp1 vs) := own_kept (own_kept HO1.out k2 hXp) k3 hXp
    have P2 : Hid (OwnNats (w.heap.size + 1) w3 ao2 cp2 nx) := own_kept HO2.out k3 hXp
    have P3 : Hid (OwnNats (w.heap.size + 1) w3 ao3 cp3 ls) := HO3.out
    clear hXp
    have hkk : Kept (One p.block) w w3 := (((((Kept.refl _ _).alloc _).trans k1).trans k2).trans k3)
    go_wp2_with fail
    refine (HI _ _ _ _ _ _ _ (cf_rows (World.ownsRow.alloc P1.out _) (World.ownsRow.alloc P2.out _) (World.ownsRow.alloc P3.out _))).mono ?_
    rintro e wi ⟨rfl, ki⟩
    go_wp2_with (go_at_call 145; go_must (refine (must_no _ _).mono ?_); rintro e w99 ⟨rfl, rfl⟩)
    unfold bodyPost RdPost
    rw [HR.out]
    exact ⟨rfl, rfl, (hkk.alloc _).trans (ki.mono (fun _ _ x => x.elim))⟩
  | true =>
    rw [hok] at HI
    have HR : Hid (rdCfg l = .ok (⟨vs, nx, ls⟩, l3)) := (rdThen_ok r1).trans ((rdThen_ok r2).trans ((rdThen_ok r3).trans (if_pos hok)))
    clear hok
    go_enter Try.func94, Try.ntmps94
    go_wp2_with fail
    refine (RdPost.ok (rNodes_any p l _ hla) r1).mono ?_
    rintro e w1 ⟨v1, rfl, hv1, c1, z1, k1⟩
    obtain ⟨ao1, cp1, rfl, ho1⟩ := hv1
    have HO1 : Hid (OwnNats (w.heap.size + 1) w1 ao1 cp1 vs) := own_mono ho1 (by simp)
    clear ho1
    go_wp2_with fail
    refine (RdPost.ok (rNodes_any p l1 w1 ⟨c1, z1⟩) r2).mono ?_
    rintro e w2 ⟨v2, rfl, hv2, c2, z2, k2⟩
    obtain ⟨ao2, cp2, rfl, ho2⟩ := hv2
    have HO2 : Hid (OwnNats (w.heap.size + 1) w2 ao2 cp2 nx) := own_mono ho2 (by have := k1.size; simp at *; omega)
    clear ho2
    go_wp2_with fail
    refine (RdPost.ok (rNodes_any p l2 w2 ⟨c2, z2⟩) r3).mono ?_
    rintro e w3 ⟨v3, rfl, hv3, c3, z3, k3⟩
    obtain ⟨ao3, cp3, rfl, ho3⟩ := hv3
    have HO3 : Hid (OwnNats (w.heap.size + 1) w3 ao3 cp3 ls) := own_mono ho3 (by have := k1.size; have := k2.size; simp at *; omega)
    clear ho3
    have hXp : ∀ k cs, w.heap.size + 1 ≤ k → ¬ One p.block k (.cells cs 3 (0, 0)) := fun k cs hb hx => by have := HB.out; have : k = p.block := hx; omega
    have P1 : Hid (OwnNats (w.heap.size + 1) w3 ao1 cp1 vs) := own_kept (own_kept HO1.out k2 hXp) k3 hXp
    have P2 : Hid (OwnNats (w.heap.size + 1) w3 ao2 cp2 nx) := own_kept HO2.out k3 hXp
    have P3 : Hid (OwnNats (w.heap.size + 1) w3 ao3 cp3 ls) := HO3.out
    clear hXp
    have HNn : Hid (_) := k3.block _ _ (k2.block _ _ (k1.block _ _ (HN.out) HX.out) HX.out) HX.out
    have hkk : Kept (One p.block) w w3 := (((((Kept.refl _ _).alloc _).trans k1).trans k2).trans k3)
    have hln : Left p w3 l3 := ⟨c3, z3⟩
    go_wp2_with fail
    refine (HI _ _ _ _ _ _ _ (cf_rows (World.ownsRow.alloc P1.out _) (World.ownsRow.alloc P2.out _) (World.ownsRow.alloc P3.out _))).mono ?_
    rintro e wi ⟨rfl, ki⟩
    have hq := ki.block _ _ (blk_new w3 _) (fun x => x.elim)
    have hbr := ki.block _ _ (blk_past HNn.out _) (fun x => x.elim)
    have q0 := blk_at hq 0 rfl
    have q1 := blk_at hq 1 rfl
    have q2 := blk_at hq 2 rfl
    have g0 := blk_at hbr 0 rfl
    have g1 := blk_at hbr 1 rfl
    have g2 := blk_at hbr 2 rfl
    have f0 := blk_free hbr 0
    have f1 := blk_free hbr 1
    have f2 := blk_free hbr 2
    go_wp2_with (go_at_call 145; go_must (refine (must_ok _ _).mono ?_); rintro e w99 ⟨rfl, rfl⟩)
    go_wp2
    refine bodyPost_ret (v := .agg #[.slice ao1 vs.length cp1, .slice ao2 nx.length cp2, .slice ao3 ls.length cp3]) (by simp [results, Try.results94, go_sem, g0, g1, g2]) rfl ?_
    unfold RdPost
    rw [HR.out]
    have hl9 : Left p w99 l3 := (hln.alloc _).kept ki
    have hk9 : Kept (One p.block) w w99 := (hkk.alloc _).trans (ki.mono (fun _ _ x => x.elim))
    have hne : p.block ≠ w.heap.size := Nat.ne_of_lt HB.out
    have Q1 : OwnNats (w.heap.size + 1) w99 ao1 cp1 vs := own_kept (World.ownsRow.alloc P1.out _) ki (fun _ _ _ x => x.elim)
    have Q2 : OwnNats (w.heap.size + 1) w99 ao2 cp2 nx := own_kept (World.ownsRow.alloc P2.out _) ki (fun _ _ _ x => x.elim)
    have Q3 : OwnNats (w.heap.size + 1) w99 ao3 cp3 ls := own_kept (World.ownsRow.alloc P3.out _) ki (fun _ _ _ x => x.elim)
    exact ⟨⟨_, rfl, ⟨ao1, ao2, ao3, cp1, cp2, cp3, rfl, own_mono (ownsRow_setCell_below (ownsRow_setCell_below (ownsRow_setCell_below Q1 (Nat.lt_succ_self _) _) (Nat.lt_succ_self _) _) (Nat.lt_succ_self _) _) (Nat.le_succ _), own_mono (ownsRow_setCell_below (ownsRow_setCell_below (ownsRow_setCell_below Q2 (Nat.lt_succ_self _) _) (Nat.lt_succ_self _) _) (Nat.lt_succ_self _) _) (Nat.le_succ _), own_mono (ownsRow_setCell_below (ownsRow_setCell_below (ownsRow_setCell_below Q3 (Nat.lt_succ_self _) _) (Nat.lt_succ_self _) _) (Nat.lt_succ_self _) _) (Nat.le_succ _)⟩⟩, (((hl9.other hne _).other hne _).other hne _), (((hk9.setNew (Nat.le_refl _) _).setNew (Nat.le_refl _) _).setNew (Nat.le_refl _) _)⟩

end Go.Proofs.Ytijklginabipgaa

/-
  What the law makes of bits: nodes, and a configuration of them: rising lists of nodes, the learners none of the voters.
-/
namespace Go.Proofs.Ytijklginabipgaa
open Go.RowKit

/-- Nodes, rising. -/
structure Nodes (ns : List Nat) : Prop where
  up : ns.Pairwise (· < ·)
  le : ∀ n ∈ ns, 1 ≤ n ∧ n ≤ 9
theorem rise_of {ns : List Nat} : ∀ (p : Int), ns.Pairwise (· < ·) → (∀ n ∈ ns, 1 ≤ n ∧ n ≤ 9 ∧ p < n) → rise p (intsOf ns) = true := by
  induction ns with
  | nil => intro p _ _; rfl
  | cons n ns ih =>
    intro p hp hn
    have h1 := hn n (by simp)
    have h2 := List.pairwise_cons.1 hp
    show (isNd (n : Int) && decide (p < (n : Int)) && rise (n : Int) (intsOf ns)) = true
    have h3 := ih (n : Int) h2.2 (fun m hm => by
      have a := h2.1 m hm
      have b := hn m (by simp [hm])
      exact ⟨b.1, b.2.1, by omega⟩)
    rw [h3, Bool.and_true, Bool.and_eq_true]
    refine ⟨?_, decide_eq_true h1.2.2⟩
    unfold isNd
    rw [decide_eq_true (by omega), decide_eq_true (by omega)]
    rfl
theorem Nodes.rise {ns : List Nat} (h : Nodes ns) : rise 0 (intsOf ns) = true := rise_of 0 h.up (fun n hn => by have := h.le n hn; omega)
theorem Nodes.snoc {ns : List Nat} {k : Nat} (h : Nodes ns) (hk : ∀ n ∈ ns, n < k) (h1 : 1 ≤ k) (h9 : k ≤ 9) : Nodes (ns ++ [k]) := by
  refine ⟨List.pairwise_append.2 ⟨h.up, List.pairwise_singleton _ _, fun a ha b hb => ?_⟩, fun n hn => ?_⟩
  · rw [List.mem_singleton.1 hb]; exact hk a ha
  · rcases List.mem_append.1 hn with hn | hn
    · exact h.le n hn
    · rw [List.mem_singleton.1 hn]; omega
theorem Nodes.nil : Nodes [] := ⟨List.Pairwise.nil, fun n hn => by simp at hn⟩
theorem Nodes.few {ns : List Nat} (h : Nodes ns) : ns.length ≤ 9 := by
  have := rise_few h.rise
  simpa [intsOf_len] using this.2.2

/-- What is handed out: nodes in a row of their own. -/
def NodesPost (w : World) (e : Ending) (w' : World) : Prop := ∃ ns ao c, e = .returned (.slice ao ns.length c) ∧ OwnNats w.heap.size w' ao c ns ∧ Nodes ns ∧ Kept Nil w w'

set_option maxRecDepth 100000 in
set_option maxHeartbeats 2000000 in
theorem nodes_any (z : Int) (w : World) : Calls Try.prog 34 #[.int .i64 z] w (NodesPost w) := by
  obtain ⟨i0, hi, hz0, hz1, hz2⟩ := info_parts Try.infoInt
  go_enter Try.func34, Try.ntmps34
  go_wp2
  go_loopw [3, 4] (fun v i wr => ∃ k : Nat, ∃ ns : List Nat, ∃ ao c, 1 ≤ k ∧ k ≤ 10 ∧ i = .int .i64 k ∧ v = .slice ao ns.length c ∧ Hid (OwnNats w.heap.size wr ao c ns) ∧ Hid (Nodes ns ∧ ∀ n ∈ ns, n < k) ∧ Hid (Kept Nil w wr)) (fun _ i _ => 10 - (intOf i).toNat)
  case atStart => exact ⟨1, [], none, 0, by omega, by omega, rfl, rfl, World.ownsRow_nil _ _ _ _, ⟨Nodes.nil, fun n hn => by simp at hn⟩, Kept.refl _ _⟩
  case round =>
    obtain ⟨k, ns, ao, c, hk1, hk10, rfl, rfl, HO, HN, HK⟩ := hrel
    by_cases h9 : k ≤ 9
    · have HLL : Hid (ns.length + 1 ≤ maxLen ∧ (ns.length + 1) * 8 ≤ 140737488355328) := by
        have := HN.out.1.few
        constructor
        · unfold maxLen; omega
        · omega
      have ho : wr.ownsRow w.heap.size 3 1 (.slice ao ns.length c) ns.length (natCells ns) := HO.out
      have HM : Hid (∀ n ∈ ns, n < k + 1) := fun n hn => by have := HN.out.2 n hn; omega
      have HS : Hid (Nodes (ns ++ [k])) := HN.out.1.snoc HN.out.2 hk1 h9
      go_wp2_with fail
      refine (pick_any _ 2 _ (by decide) (by decide)).mono ?_
      rintro e w1 ⟨rfl, rfl⟩
      go_wp2_with (first | (at_builtin; go_must (refine wpList_append_src _ rfl _ _ 22 22 rfl w.heap.size 3 i0 (.int .i64 0) 1 8 Try.underlying22 hi hz0 hz1 hz2 rfl _ _ _ rfl (ho.alloc _) (.slice (some ⟨w1.heap.size, 0, none⟩) 1 1) 1 [.int .i64 k] rfl (src_int _) HLL.out.1 HLL.out.2 (le_alloc HK.out.size _) ?_); intro ao' c' w2 ho' hg'; have HK2 : Hid (Kept Nil w w2) := (HK.out.alloc _).grown hg' (own_row ho); clear hg'))
      · go_roundw
        case rel => exact ⟨k + 1, ns ++ [k], ao', c', by omega, by omega, by go_num, by rw [List.length_append]; rfl, OwnNats.push ho', ⟨HS.out, fun n hn => by rcases List.mem_append.1 hn with hn | hn; exact HM.out n hn; rw [List.mem_singleton.1 hn]; omega⟩, HK2.out⟩
        case measure => simp [intOf]; omega
      · go_roundw
        case rel => exact ⟨k + 1, ns, ao, c, by omega, by omega, by go_num, rfl, HO.out, ⟨HN.out.1, HM.out⟩, HK.out⟩
        case measure => simp [intOf]; omega
    · go_wp2
      go_ret
      exact ⟨ns, ao, c, rfl, HO.out, HN.out.1, HK.out⟩

set_option maxRecDepth 100000 in
set_option maxHeartbeats 1000000 in
theorem keepHas_any (B cap : Nat) (ao : Option Addr) (zs : List Int) (z : Int) (w : World) (h : IntRow B w ao zs) (hl : (zs.length : Int) ≤ 9223372036854775807) :
    Calls Try.prog 37 #[.slice ao zs.length cap, .int .i64 z] w fun e w' => e = .returned (.bool (hasZ zs z)) ∧ w' = w := by
  have HR : Hid (IntRow B w ao zs) := h
  have HP : Hid (decide (0 ≤ pos z 0 zs) = hasZ zs z) := rfl
  clear h
  go_enter Try.func37, Try.ntmps37
  go_wp2
  go_loop [5] (fun i => ∃ k : Nat, k ≤ zs.length ∧ i = .int .i64 k ∧ Hid (pos z 0 zs = pos z k (zs.drop k))) (fun i => zs.length - (intOf i).toNat)
  case atStart => exact ⟨0, Nat.zero_le _, rfl, rfl⟩
  case round =>
    obtain ⟨k, hk, rfl, HI⟩ := hrel
    by_cases hlt : k < zs.length
    · obtain ⟨a, rfl, _, hcell⟩ := HR.out k hlt
      by_cases hz : zs[k] = z
      · have HF : Hid (hasZ zs z = true) := by show hasZ zs z = true; rw [← HP.out, HI.out, (pos_at hlt).trans (if_pos hz)]; simp
        rw [hz] at hcell
        clear hz HI HP
        go_wp2
        go_ret
        rw [HF.out]
        exact ⟨rfl, rfl⟩
      · have HF : Hid (pos z 0 zs = pos z (k + 1) (zs.drop (k + 1))) := HI.out.trans ((pos_at hlt).trans (if_neg hz))
        have hz2 : (zs[k] == z) = false := by simp; exact hz
        generalize zs[k] = y at *
        clear hz HI
        go_wp2
        go_round
        case rel => exact ⟨k + 1, by omega, by go_num, HF⟩
        case measure => simp [intOf]; omega
    · have HF : Hid (hasZ zs z = false) := by show hasZ zs z = false; rw [← HP.out, HI.out, List.drop_of_length_le (by omega)]; rfl
      go_wp2
      go_ret
      rw [HF.out]
      exact ⟨rfl, rfl⟩

end Go.Proofs.Ytijklginabipgaa

/-
  The law's configuration of bits: one that may be.
-/
namespace Go.Proofs.Ytijklginabipgaa
open Go.RowKit

theorem own_set {B : Nat} {w : World} {ao : Option Addr} {c : Nat} {ns : List Nat} (h : OwnNats B w ao c ns) {a : Addr} (ha : a.block < B) (u : Value) : OwnNats B (w.setCell a u) ao c ns := ownsRow_setCell_below h ha u
def offOf (v : List Nat) (k : Nat) (ls : List Nat) : List Nat := (ls.take k).filter fun z => !hasZ (intsOf v) (z : Int)
theorem offOf_more {v ls : List Nat} {k : Nat} (h : k < ls.length) (hz : hasZ (intsOf v) (ls[k] : Nat) = false) : offOf v (k + 1) ls = offOf v k ls ++ [ls[k]] := by
  unfold offOf
  rw [List.take_succ_eq_append_getElem h, List.filter_append]
  simp [hz]
theorem offOf_same {v ls : List Nat} {k : Nat} (h : k < ls.length) (hz : hasZ (intsOf v) (ls[k] : Nat) = true) : offOf v (k + 1) ls = offOf v k ls := by
  unfold offOf
  rw [List.take_succ_eq_append_getElem h, List.filter_append]
  simp [hz]
theorem offOf_len (v : List Nat) (k : Nat) (ls : List Nat) : (offOf v k ls).length ≤ ls.length := by
  unfold offOf
  exact Nat.le_trans (List.length_filter_le _ _) (by simp; omega)
theorem off_cfg {v ls : List Nat} (hv : Nodes v) (hne : v ≠ []) (hl : Nodes ls) : Cf.ok ⟨v, [], offOf v ls.length ls⟩ = true := by
  have e : offOf v ls.length ls = ls.filter (fun (z : Nat) => !hasZ (intsOf v) (z : Int)) := by unfold offOf; rw [List.take_of_length_le (Nat.le_refl _)]
  have hn : Nodes (offOf v ls.length ls) := by
    rw [e]
    exact ⟨hl.up.filter _, fun n hn => hl.le n (List.mem_filter.1 hn).1⟩
  show isCfg (intsOf v) (intsOf []) (intsOf (offOf v ls.length ls)) = true
  rw [isCfg_eq, hv.rise, hn.rise]
  have h1 : (intsOf v).isEmpty = false := by
    cases v with
    | nil => exact absurd rfl hne
    | cons a t => rfl
  have h2 : anyV (intsOf v) (intsOf []) (intsOf (offOf v ls.length ls)) = false := by
    unfold anyV
    rw [List.any_eq_false]
    intro z hz
    obtain ⟨n, hn2, rfl⟩ := List.mem_map.1 hz
    rw [e] at hn2
    have := (List.mem_filter.1 hn2).2
    simp only [vot, Bool.not_eq_true', Bool.or_eq_true] at this ⊢
    rw [this]
    intro h
    rcases h with h | h
    · cases h
    · simp [hasZ, pos, intsOf] at h
  rw [h1, h2]
  rfl

/-- What is handed out: a configuration that may be, its rows its own. -/
def CfgPost (w : World) (e : Ending) (w' : World) : Prop := ∃ c : Cf, ∃ v, e = .returned v ∧ CfV w.heap.size c w' v ∧ c.ok = true ∧ Nodes c.v ∧ c.n = [] ∧ Nodes c.l ∧ Kept Nil w w'

set_option maxRecDepth 100000 in
set_option maxHeartbeats 4000000 in
theorem configOf_any (z1 z2 : Int) (w : World) : Calls Try.prog 32 #[.int .i64 z1, .int .i64 z2] w (CfgPost w) := by
  obtain ⟨i0, hi, hz0, hz1, hz2⟩ := info_parts Try.infoInt
  have HR0 : Hid (_) := blk_new w (.cells #[.slice none 0 0, .slice none 0 0, .slice none 0 0] 24)
  go_enter Try.func32, Try.ntmps32
  go_wp2_with fail
  refine (nodes_any z1 _).mono ?_
  rintro e w1 ⟨vs, a1, c1, rfl, o1, n1, k1⟩
  have HR1 : Hid (w1.heap[w.heap.size]? = some (.cells #[.slice none 0 0, .slice none 0 0, .slice none 0 0] 24 (0, 0))) := k1.block _ _ HR0.out (fun x => x.elim)
  have HK1 : Hid (Kept Nil w w1) := ((Kept.refl _ _).alloc _).trans k1
  have HB1 : Hid (w.heap.size < w1.heap.size) := lt_of_block HR1.out
  by_cases hne : vs = []
  · subst hne
    have HNV : Hid (Nodes [1]) := ⟨List.pairwise_singleton _ _, by simp⟩
    have es : (w1.alloc (.cells #[.slice (some ⟨w1.heap.size + 1, 0, none⟩) 1 1, .slice none 0 0, .slice none 0 0] 24)).heap.size = w1.heap.size + 1 := by simp
    have HCB : Hid (((w1.alloc (.cells #[.slice (some ⟨w1.heap.size + 1, 0, none⟩) 1 1, .slice none 0 0, .slice none 0 0] 24)).alloc (.cells #[.int .i64 1] 3)).heap[w1.heap.size]? = some (.cells #[.slice (some ⟨w1.heap.size + 1, 0, none⟩) 1 1, .slice none 0 0, .slice none 0 0] 24 (0, 0))) := blk_past (blk_new w1 _) _
    have HRB : Hid (_) := blk_past (blk_past HR1.out (.cells #[.slice (some ⟨w1.heap.size + 1, 0, none⟩) 1 1, .slice none 0 0, .slice none 0 0] 24)) (.cells #[.int .i64 1] 3)
    have HOB : Hid (OwnNats (w.heap.size + 1) ((w1.alloc (.cells #[.slice (some ⟨w1.heap.size + 1, 0, none⟩) 1 1, .slice none 0 0, .slice none 0 0] 24)).alloc (.cells #[.int .i64 1] 3)) (some ⟨w1.heap.size + 1, 0, none⟩) 1 [1]) := by
      have := World.ownsRow_lit (base := w.heap.size + 1) (e := 3) (size := 1) (w1.alloc (.cells #[.slice (some ⟨w1.heap.size + 1, 0, none⟩) 1 1, .slice none 0 0, .slice none 0 0] 24)) #[.int .i64 1] 1 (by have := HB1.out; rw [es]; omega) (by decide) rfl
      rw [es] at this
      exact this
    have HKB : Hid (Kept Nil w ((w1.alloc (.cells #[.slice (some ⟨w1.heap.size + 1, 0, none⟩) 1 1, .slice none 0 0, .slice none 0 0] 24)).alloc (.cells #[.int .i64 1] 3))) := (HK1.out.alloc _).alloc _
    have HVN : Hid (∀ g, (Value.slice (some ⟨w1.heap.size + 1, 0, none⟩) 1 1).ownBlock = some g → g ≠ w1.heap.size) := fun g hg => by simp [Value.ownBlock] at hg; omega
    clear o1 n1 es
    go_wp2_with fail
    refine (nodes_any z2 _).mono ?_
    rintro e w2 ⟨ls, a3, c3, rfl, o3, n3, k2⟩
    have HC2 : Hid (w2.heap[w1.heap.size]? = some (.cells #[.slice (some ⟨w1.heap.size + 1, 0, none⟩) 1 1, .slice none 0 0, .slice none 0 0] 24 (0, 0))) := k2.block _ _ HCB.out (fun x => x.elim)
    have HR2 : Hid (w2.heap[w.heap.size]? = some (.cells #[.slice none 0 0, .slice none 0 0, .slice none 0 0] 24 (0, 0))) := k2.block _ _ HRB.out (fun x => x.elim)
    have HO2 : Hid (OwnNats (w.heap.size + 1) w2 ((some ⟨w1.heap.size + 1, 0, none⟩)) 1 [1]) := own_kept HOB.out k2 (fun _ _ _ x => x.elim)
    have HL2 : Hid (OwnNats (w1.heap.size + 1) w2 a3 c3 ls) := own_mono o3 (by simp)
    have HK2 : Hid (Kept Nil w w2) := HKB.out.trans k2
    have HB2 : Hid (w1.heap.size < w2.heap.size) := lt_of_block HC2.out
    have HVB : Hid (∀ g, (Value.slice ((some ⟨w1.heap.size + 1, 0, none⟩)) ([1]).length 1).ownBlock = some g → g < w2.heap.size ∧ g ≠ w1.heap.size) := fun g hg => ⟨(HO2.out.lt g hg).2, HVN.out g hg⟩
    have HLB : Hid (∀ g, (Value.slice a3 ls.length c3).ownBlock = some g → g < w2.heap.size ∧ g ≠ w1.heap.size) := fun g hg => ⟨(HL2.out.lt g hg).2, by have := (HL2.out.lt g hg).1; omega⟩
    have HNL : Hid (Nodes ls) := n3
    have hl9 : (ls.length : Int) ≤ 9 := by have := n3.few; omega
    clear k2 o3 n3
    go_wp2
    go_loopw [7] (fun i wr => ∃ k : Nat, ∃ aL cL, k ≤ ls.length ∧ i = .int .i64 k ∧ Hid (wr.heap[w1.heap.size]? = some (.cells #[.slice (some ⟨w1.heap.size + 1, 0, none⟩) 1 1, .slice none 0 0, .slice aL (offOf [1] k ls).length cL] 24 (0, 0))) ∧ Hid (wr.heap[w.heap.size]? = some (.cells #[.slice none 0 0, .slice none 0 0, .slice none 0 0] 24 (0, 0))) ∧ Hid (OwnNats w2.heap.size wr aL cL (offOf [1] k ls)) ∧ Hid (OwnNats (w.heap.size + 1) wr ((some ⟨w1.heap.size + 1, 0, none⟩)) 1 [1]) ∧ Hid (OwnNats (w1.heap.size + 1) wr a3 c3 ls) ∧ Hid (Kept Nil w wr) ∧ w2.heap.size ≤ wr.heap.size) (fun i _ => ls.length - (intOf i).toNat)
    case atStart => exact ⟨0, none, 0, Nat.zero_le _, rfl, HC2.out, HR2.out, World.ownsRow_nil _ _ _ _, HO2.out, HL2.out, HK2.out, Nat.le_refl _⟩
    case round =>
      obtain ⟨k, aL, cL, hk, rfl, HC, HR, HOL, HO, HL, HK, hsz⟩ := hrel
      clear HC2 HR2 HO2 HL2 HK2
      by_cases hlt : k < ls.length
      · obtain ⟨g3, _, rfl, _, hc3⟩ := HL.out.shape (fun e => by subst e; simp at hlt)
        have hcell := hc3 k hlt
        have q0 : wr.cell? ⟨w1.heap.size, 0, none⟩ = some (.slice (some ⟨w1.heap.size + 1, 0, none⟩) 1 1) := blk_cell HC.out 0
        have Q := fun m => keepHas_any _ 1 ((some ⟨w1.heap.size + 1, 0, none⟩)) (intsOf ([1])) (ls[k] : Nat) (wr.drewN m) ((nats_row HO.out).nil ((Kept.refl _ _).drewN _)) (by rw [intsOf_len]; have := HNV.out.few; omega)
        simp only [intsOf_len] at Q
        have hki : (k : Int) < ls.length := by omega
        have hmore := @offOf_more ([1]) ls k hlt
        have hsame := @offOf_same ([1]) ls k hlt
        clear hc3
        generalize ls[k] = y at *
        generalize hasZ (intsOf ([1])) (y : Int) = d at Q hmore hsame
        have HMORE : Hid (d = false → offOf ([1]) (k + 1) ls = offOf ([1]) k ls ++ [y]) := hmore
        have HSAME : Hid (d = true → offOf ([1]) (k + 1) ls = offOf ([1]) k ls) := hsame
        clear hmore hsame
        go_wp2
        go_quiet (first | (go_at_call 37; exact Calls.quiet_of_same (Q _)))
        generalize hwd : wr.drewN _ = wd
        have HKd : Hid (Kept Nil wr wd) := by rw [← hwd]; exact (Kept.refl _ _).drewN _
        have hcd : wd.cell? ⟨g3, k, none⟩ = some (.int .i64 y) := by rw [← hwd]; exact hcell
        clear hwd Q q0 hcell
        cases d with
        | true =>
          have HT : Hid (offOf ([1]) (k + 1) ls = offOf ([1]) k ls) := HSAME.out rfl
          clear HSAME HMORE
          go_wp2
          go_roundw
          case rel => exact ⟨k + 1, aL, cL, by omega, by go_num, by show wd.heap[w1.heap.size]? = _; rw [HT.out]; exact HKd.out.block _ _ HC.out (fun x => x.elim), HKd.out.block _ _ HR.out (fun x => x.elim), by show OwnNats _ _ _ _ _; rw [HT.out]; exact own_kept HOL.out HKd.out (fun _ _ _ x => x.elim), own_kept HO.out HKd.out (fun _ _ _ x => x.elim), own_kept HL.out HKd.out (fun _ _ _ x => x.elim), HK.out.trans HKd.out, Nat.le_trans hsz HKd.out.size⟩
          case measure => simp [intOf]; omega
        | false =>
          have HT : Hid (offOf ([1]) (k + 1) ls = offOf ([1]) k ls ++ [y]) := HMORE.out rfl
          clear HSAME HMORE
          have HCd := HKd.out.block _ _ HC.out (fun x => x.elim)
          have q2 : wd.cell? ⟨w1.heap.size, 2, none⟩ = some (.slice aL (offOf ([1]) k ls).length cL) := blk_cell HCd 2
          have f2 : wd.frozen? ⟨w1.heap.size, 2, none⟩ = false := blk_free HCd 2
          have hltd : w1.heap.size < wd.heap.size := lt_of_block HCd
          have hlg : g3 < wd.heap.size := cell_lt hcd
          have ho : wd.ownsRow w2.heap.size 3 1 (.slice aL (offOf ([1]) k ls).length cL) (offOf ([1]) k ls).length (natCells (offOf ([1]) k ls)) := own_kept HOL.out HKd.out (fun _ _ _ x => x.elim)
          have HLL : Hid ((offOf ([1]) k ls).length + 1 ≤ maxLen ∧ ((offOf ([1]) k ls).length + 1) * 8 ≤ 140737488355328) := by
            have := offOf_len ([1]) k ls
            constructor
            · unfold maxLen; omega
            · omega
          have hszd : w2.heap.size ≤ wd.heap.size := Nat.le_trans hsz HKd.out.size
          go_wp2
          go_region_law (refine step_append_src _ rfl (.tmp 36) (.tmp 41) 22 22 rfl w2.heap.size 3 i0 (.int .i64 0) 1 8 Try.underlying22 hi hz0 hz1 hz2 rfl (.slice aL (offOf ([1]) k ls).length cL) (offOf ([1]) k ls).length (natCells (offOf ([1]) k ls)) (by simp [Act.eval]) (World.ownsRow.alloc (w := wd.drew) ho _) (.slice (some ⟨wd.heap.size, 0, none⟩) 1 1) 1 [.int .i64 y] (by simp [Act.eval]) (src_int (w := wd.drew) y) HLL.out.1 HLL.out.2 (le_alloc (w := wd.drew) hszd _) ?_; intro ao' c' w4 ho' hg'; have HO4 : Hid _ := ho'; have hb4 := hg'.block w1.heap.size (by simp; omega) (fun e => by have := (ho.lt _ e.symm).1; have := HB2.out; omega); have HC4 : Hid (w4.heap[w1.heap.size]? = some (.cells #[.slice (some ⟨w1.heap.size + 1, 0, none⟩) 1 1, .slice none 0 0, .slice aL (offOf ([1]) k ls).length cL] 24 (0, 0))) := hb4.trans (blk_past (w := wd.drew) HCd _); have q4 : w4.cell? ⟨w1.heap.size, 2, none⟩ = some (.slice aL (offOf ([1]) k ls).length cL) := blk_cell HC4.out 2; have f4 : w4.frozen? ⟨w1.heap.size, 2, none⟩ = false := blk_free HC4.out 2; have HG4 : Hid _ := hg'; clear ho' hg' hb4)
          all_goals go_wp2
          all_goals
            have e4 : (Value.slice aL (offOf ([1]) k ls).length cL).ownBlock = none ∨ ∃ g, (Value.slice aL (offOf ([1]) k ls).length cL).ownBlock = some g ∧ w2.heap.size ≤ g := by
              cases hq : (Value.slice aL (offOf ([1]) k ls).length cL).ownBlock with
              | none => exact .inl rfl
              | some g => exact .inr ⟨g, rfl, (ho.lt g hq).1⟩
            have hrow : ∀ g, (Value.slice aL (offOf ([1]) k ls).length cL).ownBlock = some g → w2.heap.size ≤ g := fun g hq => (ho.lt g hq).1
            have HRd : Hid (w4.heap[w.heap.size]? = some (.cells #[.slice none 0 0, .slice none 0 0, .slice none 0 0] 24 (0, 0))) := (HG4.out.block w.heap.size (by have := HB1.out; simp; omega) (fun e => by have := hrow _ e.symm; have := HB1.out; have := HB2.out; omega)).trans (blk_past (w := wd.drew) (HKd.out.block _ _ HR.out (fun x => x.elim)) _)
            have HOd : Hid (OwnNats (w.heap.size + 1) w4 ((some ⟨w1.heap.size + 1, 0, none⟩)) 1 ([1])) := World.ownsRow.kept (World.ownsRow.alloc (w := wd.drew) (own_kept HO.out HKd.out.drew (fun _ _ _ x => x.elim)) _) HG4.out (by
              cases hq : (Value.slice ((some ⟨w1.heap.size + 1, 0, none⟩)) ([1]).length 1).ownBlock with
              | none => exact .inl rfl
              | some g => exact .inr (fun e => by have := hrow g e.symm; have := (HVB.out g hq).1; omega))
            have HLd : Hid (OwnNats (w1.heap.size + 1) w4 (some ⟨g3, 0, none⟩) c3 ls) := World.ownsRow.kept (World.ownsRow.alloc (w := wd.drew) (own_kept HL.out HKd.out.drew (fun _ _ _ x => x.elim)) _) HG4.out (.inr (fun e => by have := hrow g3 e.symm; have := (HLB.out g3 rfl).1; omega))
            have HKw : Hid (Kept Nil w w4) := (((HK.out.trans HKd.out).drew).alloc _).grown HG4.out (fun g hq => by have := hrow g hq; have := HB1.out; have := HB2.out; omega)
            have hsz4 : w2.heap.size ≤ w4.heap.size := by have := HG4.out.size; simp at this; omega
          all_goals go_roundw
          all_goals first | (simp [intOf]; omega) | exact ⟨k + 1, ao', c', by omega, by go_num, by show _ = _; rw [HT.out, List.length_append]; exact blk_set HC4.out 2 _, blk_other HRd.out (show w.heap.size ≠ w1.heap.size by have := HB1.out; omega) _, by show OwnNats _ _ _ _ _; rw [HT.out]; exact own_set (OwnNats.push HO4.out) (show w1.heap.size < w2.heap.size from HB2.out) _, ownsRow_setCell_other HOd.out (fun e => (HVB.out _ e).2 rfl) _, own_set HLd.out (show w1.heap.size < w1.heap.size + 1 by omega) _, HKw.out.setNew (show w.heap.size ≤ w1.heap.size by have := HB1.out; omega) _, by simp [World.setCell]; exact hsz4⟩
      · obtain rfl : k = ls.length := by omega
        have HOK : Hid (Cf.ok ⟨[1], [], offOf ([1]) ls.length ls⟩ = true) := off_cfg HNV.out (by simp) HNL.out
        have HNO : Hid (Nodes (offOf ([1]) ls.length ls)) := ⟨(HNL.out.up.sublist (List.take_sublist _ _)).filter _, fun n hn => HNL.out.le n (List.mem_of_mem_take (List.mem_filter.1 hn).1)⟩
        have p0 : wr.cell? ⟨w1.heap.size, 0, none⟩ = some (.slice (some ⟨w1.heap.size + 1, 0, none⟩) 1 1) := blk_cell HC.out 0
        have p1 : wr.cell? ⟨w1.heap.size, 1, none⟩ = some (.slice none 0 0) := blk_cell HC.out 1
        have p2 : wr.cell? ⟨w1.heap.size, 2, none⟩ = some (.slice aL (offOf ([1]) ls.length ls).length cL) := blk_cell HC.out 2
        have r0 : wr.cell? ⟨w.heap.size, 0, none⟩ = some (.slice none 0 0) := blk_cell HR.out 0
        have r1 : wr.cell? ⟨w.heap.size, 1, none⟩ = some (.slice none 0 0) := blk_cell HR.out 1
        have r2 : wr.cell? ⟨w.heap.size, 2, none⟩ = some (.slice none 0 0) := blk_cell HR.out 2
        have f0 := blk_free HR.out 0
        have f1 := blk_free HR.out 1
        have f2 := blk_free HR.out 2
        have hB0 : w.heap.size < w.heap.size + 1 := by omega
        have hB2 : w.heap.size < w2.heap.size := by have := HB1.out; have := HB2.out; omega
        go_wp2
        refine bodyPost_ret (v := .agg #[.slice (some ⟨w1.heap.size + 1, 0, none⟩) 1 1, .slice none 0 0, .slice aL (offOf ([1]) ls.length ls).length cL]) (by simp [results, Try.results32, go_sem, r0, r1, r2]) rfl ?_
        exact ⟨⟨[1], [], offOf ([1]) ls.length ls⟩, _, rfl, ⟨(some ⟨w1.heap.size + 1, 0, none⟩), none, aL, 1, 0, cL, rfl, own_mono (own_set (own_set (own_set HO.out hB0 _) hB0 _) hB0 _) (Nat.le_succ _), World.ownsRow_nil _ _ _ _, own_mono (own_set (own_set (own_set HOL.out hB2 _) hB2 _) hB2 _) (Nat.le_of_lt hB2)⟩, HOK.out, HNV.out, rfl, HNO.out, ((HK.out.setNew (Nat.le_refl _) _).setNew (Nat.le_refl _) _).setNew (Nat.le_refl _) _⟩
  · have hne2 : ((vs.length : Int) == 0) = false := by simpa using hne
    have HNV : Hid (Nodes vs) := n1
    have HCB : Hid (_) := blk_new w1 (.cells #[.slice a1 vs.length c1, .slice none 0 0, .slice none 0 0] 24)
    have HRB : Hid (_) := blk_past HR1.out (.cells #[.slice a1 vs.length c1, .slice none 0 0, .slice none 0 0] 24)
    have HOB : Hid (OwnNats (w.heap.size + 1) (w1.alloc (.cells #[.slice a1 vs.length c1, .slice none 0 0, .slice none 0 0] 24)) a1 c1 vs) := World.ownsRow.alloc (own_mono o1 (by simp)) _
    have HKB : Hid (Kept Nil w (w1.alloc (.cells #[.slice a1 vs.length c1, .slice none 0 0, .slice none 0 0] 24))) := HK1.out.alloc _
    have HVN : Hid (∀ g, (Value.slice a1 vs.length c1).ownBlock = some g → g ≠ w1.heap.size) := fun g hg => by have := (o1.lt g hg).2; omega
    clear o1 n1
    go_wp2_with fail
    refine (nodes_any z2 _).mono ?_
    rintro e w2 ⟨ls, a3, c3, rfl, o3, n3, k2⟩
    have HC2 : Hid (w2.heap[w1.heap.size]? = some (.cells #[.slice a1 vs.length c1, .slice none 0 0, .slice none 0 0] 24 (0, 0))) := k2.block _ _ HCB.out (fun x => x.elim)
    have HR2 : Hid (w2.heap[w.heap.size]? = some (.cells #[.slice none 0 0, .slice none 0 0, .slice none 0 0] 24 (0, 0))) := k2.block _ _ HRB.out (fun x => x.elim)
    have HO2 : Hid (OwnNats (w.heap.size + 1) w2 (a1) c1 vs) := own_kept HOB.out k2 (fun _ _ _ x => x.elim)
    have HL2 : Hid (OwnNats (w1.heap.size + 1) w2 a3 c3 ls) := own_mono o3 (by simp)
    have HK2 : Hid (Kept Nil w w2) := HKB.out.trans k2
    have HB2 : Hid (w1.heap.size < w2.heap.size) := lt_of_block HC2.out
    have HVB : Hid (∀ g, (Value.slice (a1) (vs).length c1).ownBlock = some g → g < w2.heap.size ∧ g ≠ w1.heap.size) := fun g hg => ⟨(HO2.out.lt g hg).2, HVN.out g hg⟩
    have HLB : Hid (∀ g, (Value.slice a3 ls.length c3).ownBlock = some g → g < w2.heap.size ∧ g ≠ w1.heap.size) := fun g hg => ⟨(HL2.out.lt g hg).2, by have := (HL2.out.lt g hg).1; omega⟩
    have HNL : Hid (Nodes ls) := n3
    have hl9 : (ls.length : Int) ≤ 9 := by have := n3.few; omega
    clear k2 o3 n3
    go_wp2
    go_loopw [7] (fun i wr => ∃ k : Nat, ∃ aL cL, k ≤ ls.length ∧ i = .int .i64 k ∧ Hid (wr.heap[w1.heap.size]? = some (.cells #[.slice a1 vs.length c1, .slice none 0 0, .slice aL (offOf vs k ls).length cL] 24 (0, 0))) ∧ Hid (wr.heap[w.heap.size]? = some (.cells #[.slice none 0 0, .slice none 0 0, .slice none 0 0] 24 (0, 0))) ∧ Hid (OwnNats w2.heap.size wr aL cL (offOf vs k ls)) ∧ Hid (OwnNats (w.heap.size + 1) wr (a1) c1 vs) ∧ Hid (OwnNats (w1.heap.size + 1) wr a3 c3 ls) ∧ Hid (Kept Nil w wr) ∧ w2.heap.size ≤ wr.heap.size) (fun i _ => ls.length - (intOf i).toNat)
    case atStart => exact ⟨0, none, 0, Nat.zero_le _, rfl, HC2.out, HR2.out, World.ownsRow_nil _ _ _ _, HO2.out, HL2.out, HK2.out, Nat.le_refl _⟩
    case round =>
      obtain ⟨k, aL, cL, hk, rfl, HC, HR, HOL, HO, HL, HK, hsz⟩ := hrel
      clear HC2 HR2 HO2 HL2 HK2
      by_cases hlt : k < ls.length
      · obtain ⟨g3, _, rfl, _, hc3⟩ := HL.out.shape (fun e => by subst e; simp at hlt)
        have hcell := hc3 k hlt
        have q0 : wr.cell? ⟨w1.heap.size, 0, none⟩ = some (.slice a1 vs.length c1) := blk_cell HC.out 0
        have Q := fun m => keepHas_any _ c1 (a1) (intsOf (vs)) (ls[k] : Nat) (wr.drewN m) ((nats_row HO.out).nil ((Kept.refl _ _).drewN _)) (by rw [intsOf_len]; have := HNV.out.few; omega)
        simp only [intsOf_len] at Q
        have hki : (k : Int) < ls.length := by omega
        have hmore := @offOf_more (vs) ls k hlt
        have hsame := @offOf_same (vs) ls k hlt
        clear hc3
        generalize ls[k] = y at *
        generalize hasZ (intsOf (vs)) (y : Int) = d at Q hmore hsame
        have HMORE : Hid (d = false → offOf (vs) (k + 1) ls = offOf (vs) k ls ++ [y]) := hmore
        have HSAME : Hid (d = true → offOf (vs) (k + 1) ls = offOf (vs) k ls) := hsame
        clear hmore hsame
        go_wp2
        go_quiet (first | (go_at_call 37; exact Calls.quiet_of_same (Q _)))
        generalize hwd : wr.drewN _ = wd
        have HKd : Hid (Kept Nil wr wd) := by rw [← hwd]; exact (Kept.refl _ _).drewN _
        have hcd : wd.cell? ⟨g3, k, none⟩ = some (.int .i64 y) := by rw [← hwd]; exact hcell
        clear hwd Q q0 hcell
        cases d with
        | true =>
          have HT : Hid (offOf (vs) (k + 1) ls = offOf (vs) k ls) := HSAME.out rfl
          clear HSAME HMORE
          go_wp2
          go_roundw
          case rel => exact ⟨k + 1, aL, cL, by omega, by go_num, by show wd.heap[w1.heap.size]? = _; rw [HT.out]; exact HKd.out.block _ _ HC.out (fun x => x.elim), HKd.out.block _ _ HR.out (fun x => x.elim), by show OwnNats _ _ _ _ _; rw [HT.out]; exact own_kept HOL.out HKd.out (fun _ _ _ x => x.elim), own_kept HO.out HKd.out (fun _ _ _ x => x.elim), own_kept HL.out HKd.out (fun _ _ _ x => x.elim), HK.out.trans HKd.out, Nat.le_trans hsz HKd.out.size⟩
          case measure => simp [intOf]; omega
        | false =>
          have HT : Hid (offOf (vs) (k + 1) ls = offOf (vs) k ls ++ [y]) := HMORE.out rfl
          clear HSAME HMORE
          have HCd := HKd.out.block _ _ HC.out (fun x => x.elim)
          have q2 : wd.cell? ⟨w1.heap.size, 2, none⟩ = some (.slice aL (offOf (vs) k ls).length cL) := blk_cell HCd 2
          have f2 : wd.frozen? ⟨w1.heap.size, 2, none⟩ = false := blk_free HCd 2
          have hltd : w1.heap.size < wd.heap.size := lt_of_block HCd
          have hlg : g3 < wd.heap.size := cell_lt hcd
          have ho : wd.ownsRow w2.heap.size 3 1 (.slice aL (offOf (vs) k ls).length cL) (offOf (vs) k ls).length (natCells (offOf (vs) k ls)) := own_kept HOL.out HKd.out (fun _ _ _ x => x.elim)
          have HLL : Hid ((offOf (vs) k ls).length + 1 ≤ maxLen ∧ ((offOf (vs) k ls).length + 1) * 8 ≤ 140737488355328) := by
            have := offOf_len (vs) k ls
            constructor
            · unfold maxLen; omega
            · omega
          have hszd : w2.heap.size ≤ wd.heap.size := Nat.le_trans hsz HKd.out.size
          go_wp2
          go_region_law (refine step_append_src _ rfl (.tmp 36) (.tmp 41) 22 22 rfl w2.heap.size 3 i0 (.int .i64 0) 1 8 Try.underlying22 hi hz0 hz1 hz2 rfl (.slice aL (offOf (vs) k ls).length cL) (offOf (vs) k ls).length (natCells (offOf (vs) k ls)) (by simp [Act.eval]) (World.ownsRow.alloc (w := wd.drew) ho _) (.slice (some ⟨wd.heap.size, 0, none⟩) 1 1) 1 [.int .i64 y] (by simp [Act.eval]) (src_int (w := wd.drew) y) HLL.out.1 HLL.out.2 (le_alloc (w := wd.drew) hszd _) ?_; intro ao' c' w4 ho' hg'; have HO4 : Hid _ := ho'; have hb4 := hg'.block w1.heap.size (by simp; omega) (fun e => by have := (ho.lt _ e.symm).1; have := HB2.out; omega); have HC4 : Hid (w4.heap[w1.heap.size]? = some (.cells #[.slice a1 vs.length c1, .slice none 0 0, .slice aL (offOf (vs) k ls).length cL] 24 (0, 0))) := hb4.trans (blk_past (w := wd.drew) HCd _); have q4 : w4.cell? ⟨w1.heap.size, 2, none⟩ = some (.slice aL (offOf (vs) k ls).length cL) := blk_cell HC4.out 2; have f4 : w4.frozen? ⟨w1.heap.size, 2, none⟩ = false := blk_free HC4.out 2; have HG4 : Hid _ := hg'; clear ho' hg' hb4)
          all_goals go_wp2
          all_goals
            have e4 : (Value.slice aL (offOf (vs) k ls).length cL).ownBlock = none ∨ ∃ g, (Value.slice aL (offOf (vs) k ls).length cL).ownBlock = some g ∧ w2.heap.size ≤ g := by
              cases hq : (Value.slice aL (offOf (vs) k ls).length cL).ownBlock with
              | none => exact .inl rfl
              | some g => exact .inr ⟨g, rfl, (ho.lt g hq).1⟩
            have hrow : ∀ g, (Value.slice aL (offOf (vs) k ls).length cL).ownBlock = some g → w2.heap.size ≤ g := fun g hq => (ho.lt g hq).1
            have HRd : Hid (w4.heap[w.heap.size]? = some (.cells #[.slice none 0 0, .slice none 0 0, .slice none 0 0] 24 (0, 0))) := (HG4.out.block w.heap.size (by have := HB1.out; simp; omega) (fun e => by have := hrow _ e.symm; have := HB1.out; have := HB2.out; omega)).trans (blk_past (w := wd.drew) (HKd.out.block _ _ HR.out (fun x => x.elim)) _)
            have HOd : Hid (OwnNats (w.heap.size + 1) w4 (a1) c1 (vs)) := World.ownsRow.kept (World.ownsRow.alloc (w := wd.drew) (own_kept HO.out HKd.out.drew (fun _ _ _ x => x.elim)) _) HG4.out (by
              cases hq : (Value.slice (a1) (vs).length c1).ownBlock with
              | none => exact .inl rfl
              | some g => exact .inr (fun e => by have := hrow g e.symm; have := (HVB.out g hq).1; omega))
            have HLd : Hid (OwnNats (w1.heap.size + 1) w4 (some ⟨g3, 0, none⟩) c3 ls) := World.ownsRow.kept (World.ownsRow.alloc (w := wd.drew) (own_kept HL.out HKd.out.drew (fun _ _ _ x => x.elim)) _) HG4.out (.inr (fun e => by have := hrow g3 e.symm; have := (HLB.out g3 rfl).1; omega))
            have HKw : Hid (Kept Nil w w4) := (((HK.out.trans HKd.out).drew).alloc _).grown HG4.out (fun g hq => by have := hrow g hq; have := HB1.out; have := HB2.out; omega)
            have hsz4 : w2.heap.size ≤ w4.heap.size := by have := HG4.out.size; simp at this; omega
          all_goals go_roundw
          all_goals first | (simp [intOf]; omega) | exact ⟨k + 1, ao', c', by omega, by go_num, by show _ = _; rw [HT.out, List.length_append]; exact blk_set HC4.out 2 _, blk_other HRd.out (show w.heap.size ≠ w1.heap.size by have := HB1.out; omega) _, by show OwnNats _ _ _ _ _; rw [HT.out]; exact own_set (OwnNats.push HO4.out) (show w1.heap.size < w2.heap.size from HB2.out) _, ownsRow_setCell_other HOd.out (fun e => (HVB.out _ e).2 rfl) _, own_set HLd.out (show w1.heap.size < w1.heap.size + 1 by omega) _, HKw.out.setNew (show w.heap.size ≤ w1.heap.size by have := HB1.out; omega) _, by simp [World.setCell]; exact hsz4⟩
      · obtain rfl : k = ls.length := by omega
        have HOK : Hid (Cf.ok ⟨vs, [], offOf (vs) ls.length ls⟩ = true) := off_cfg HNV.out hne HNL.out
        have HNO : Hid (Nodes (offOf (vs) ls.length ls)) := ⟨(HNL.out.up.sublist (List.take_sublist _ _)).filter _, fun n hn => HNL.out.le n (List.mem_of_mem_take (List.mem_filter.1 hn).1)⟩
        have p0 : wr.cell? ⟨w1.heap.size, 0, none⟩ = some (.slice a1 vs.length c1) := blk_cell HC.out 0
        have p1 : wr.cell? ⟨w1.heap.size, 1, none⟩ = some (.slice none 0 0) := blk_cell HC.out 1
        have p2 : wr.cell? ⟨w1.heap.size, 2, none⟩ = some (.slice aL (offOf (vs) ls.length ls).length cL) := blk_cell HC.out 2
        have r0 : wr.cell? ⟨w.heap.size, 0, none⟩ = some (.slice none 0 0) := blk_cell HR.out 0
        have r1 : wr.cell? ⟨w.heap.size, 1, none⟩ = some (.slice none 0 0) := blk_cell HR.out 1
        have r2 : wr.cell? ⟨w.heap.size, 2, none⟩ = some (.slice none 0 0) := blk_cell HR.out 2
        have f0 := blk_free HR.out 0
        have f1 := blk_free HR.out 1
        have f2 := blk_free HR.out 2
        have hB0 : w.heap.size < w.heap.size + 1 := by omega
        have hB2 : w.heap.size < w2.heap.size := by have := HB1.out; have := HB2.out; omega
        go_wp2
        refine bodyPost_ret (v := .agg #[.slice a1 vs.length c1, .slice none 0 0, .slice aL (offOf (vs) ls.length ls).length cL]) (by simp [results, Try.results32, go_sem, r0, r1, r2]) rfl ?_
        exact ⟨⟨vs, [], offOf (vs) ls.length ls⟩, _, rfl, ⟨a1, none, aL, c1, 0, cL, rfl, own_mono (own_set (own_set (own_set HO.out hB0 _) hB0 _) hB0 _) (Nat.le_succ _), World.ownsRow_nil _ _ _ _, own_mono (own_set (own_set (own_set HOL.out hB2 _) hB2 _) hB2 _) (Nat.le_of_lt hB2)⟩, HOK.out, HNV.out, rfl, HNO.out, ((HK.out.setNew (Nat.le_refl _) _).setNew (Nat.le_refl _) _).setNew (Nat.le_refl _) _⟩

end Go.Proofs.Ytijklginabipgaa

/-
  The document's Slice and Compact of a log that may be.
-/
namespace Go.Proofs.Ytijklginabipgaa
open Go.RowKit

theorem grown_oldB {wa w' : World} {B n s : Nat} {e : TypeId} {v : Value} {xs : List Value} {k : Nat} {o : Obj} (hg : wa.grownBy w' v.ownBlock) (ho : wa.ownsRow B e s v n xs) (hk : k < B) (hb : wa.heap[k]? = some o) : w'.heap[k]? = some o := by
  rw [hg.block k (lt_of_block hb) (fun e => by have := own_row ho k e.symm; omega)]
  exact hb
theorem src_en {w : World} (z : En) : Src Try.prog 4 83 (.slice (some ⟨w.heap.size, 0, none⟩) 1 1) 1 [.int .i64 z.ix, .int .i64 z.tm, .int .i64 z.kd, .string (bs z.dt)] (w.alloc (.cells #[.int .i64 z.ix, .int .i64 z.tm, .int .i64 z.kd, .string (bs z.dt)] 52)) := by
  refine Src.ofSlice _ Try.underlying83 _ 1 1 _ rfl ?_ ?_
  · intro j u hj
    match j, hj with
    | 0, hj | 1, hj | 2, hj | 3, hj =>
      simp at hj
      subst hj
      simp [Addr.add]
  · intro u hu
    simp at hu
    rcases hu with rfl | rfl | rfl | rfl <;> rfl
theorem OwnEs.push {B : Nat} {w' : World} {ao : Option Addr} {c : Nat} {es : List En} {x : En} (h : w'.ownsRow B 52 4 (.slice ao (es.length + 1) c) (es.length + 1) (enCells es ++ [.int .i64 x.ix, .int .i64 x.tm, .int .i64 x.kd, .string (bs x.dt)])) : OwnEs B w' ao c (es ++ [x]) := by
  unfold OwnEs
  rw [enCells_append, List.length_append]
  exact h

theorem takeDrop_more {es : List En} {q k : Nat} (h : k < es.length) (hq : q ≤ k) : (es.take (k + 1)).drop q = (es.take k).drop q ++ [⟨es[k].ix, es[k].tm, es[k].kd, es[k].dt⟩] := by
  rw [List.take_succ_eq_append_getElem h, List.drop_append_of_le_length (by rw [List.length_take]; omega)]
theorem takeDrop_same {es : List En} {q k : Nat} (hq : k < q) : (es.take (k + 1)).drop q = (es.take k).drop q := by
  rw [List.drop_eq_nil_of_le (by rw [List.length_take]; omega), List.drop_eq_nil_of_le (by rw [List.length_take]; omega)]

end Go.Proofs.Ytijklginabipgaa
