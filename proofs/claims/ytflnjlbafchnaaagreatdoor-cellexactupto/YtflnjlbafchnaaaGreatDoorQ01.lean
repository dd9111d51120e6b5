/-
  Joined: WTab2, WTorn1, WTimes, WNums, WLog1, WStepA, WLog2, WKv0.
-/
import Derived.Test.YtflnjlbafchnaaaGreatDoorQ00
import Derived.Laws.OwnMore
import Derived.Deep.CutRange
import Derived.Deep.CutBlock
import Derived.Deep.LoopGhost
import Derived.Deep.RegionWith
import Derived.BigQuiet
import Derived.Deep.RegionLaw
import Derived.Lib.SliceRun
import Derived.Deep.AppendSrc
import Derived.Laws.CopyRow
import Derived.OwnWalk
import Derived.Laws.IdiomStrings
import Derived.RegionCalls
import Derived.Lib.AppendZeros
import Derived.Shelf.Small.Strs
import Derived.Deep.DeepFit
/-
  Pairs: rows of three cells; may they be: by the program.
-/
namespace Go.Proofs.YtflnjlbafchnaaaGreatDoor
open Go.RowKit

structure Pr where
  k : List UInt8
  v : List UInt8
  n : Int
/-- A row of pairs that lies below block B. -/
def PairRow (B : Nat) (w : World) (ao : Option Addr) (ps : List Pr) : Prop := ∀ j, (hj : j < ps.length) → ∃ a, ao = some a ∧ a.block < B ∧ w.cell? (a.add (j * 3)) = some (.string (bs ps[j].k)) ∧ w.cell? ⟨(a.add (j * 3)).block, (a.add (j * 3)).off + 1, none⟩ = some (.string (bs ps[j].v)) ∧ w.cell? ⟨(a.add (j * 3)).block, (a.add (j * 3)).off + 2, none⟩ = some (.int .i64 ps[j].n) ∧ ps[j].k.length ≤ maxLen ∧ ps[j].v.length ≤ maxLen
theorem cell_kept {X : Nat → Obj → Prop} {w w' : World} {a : Addr} {v : Value} (hk : Kept X w w') (hX : ∀ o, ¬ X a.block o) (h : w.cell? a = some v) : w'.cell? a = some v := by
  have hlt : a.block < w.heap.size := World.block_lt_of_cell? w _ h
  rw [World.cell?_of_block (w := w) (by rw [hk.block a.block _ (Array.getElem?_eq_getElem hlt) (hX _), Array.getElem?_eq_getElem hlt])]
  exact h
theorem add_block (a : Addr) (n : Nat) : (a.add n).block = a.block := by unfold Addr.add; split <;> rfl
theorem PairRow.kept {X : Nat → Obj → Prop} {B : Nat} {w w' : World} {ao : Option Addr} {ps : List Pr} (h : PairRow B w ao ps) (hk : Kept X w w') (hX : ∀ k o, k < B → ¬ X k o) : PairRow B w' ao ps := by
  intro j hj
  obtain ⟨a, ha, hb, c1, c2, c3, l1, l2⟩ := h j hj
  refine ⟨a, ha, hb, cell_kept hk (fun o => ?_) c1, cell_kept hk (fun o => ?_) c2, cell_kept hk (fun o => ?_) c3, l1, l2⟩ <;> exact hX _ _ (by simpa [add_block] using hb)
theorem PairRow.nil {B : Nat} {w w' : World} {ao : Option Addr} {ps : List Pr} (h : PairRow B w ao ps) (hk : Kept Nil w w') : PairRow B w' ao ps := h.kept hk (fun _ _ _ x => x)
theorem PairRow.alloc {B : Nat} {w : World} {ao : Option Addr} {ps : List Pr} (h : PairRow B w ao ps) (o : Obj) : PairRow B (w.alloc o) ao ps := h.nil ((Kept.refl _ _).alloc o)
def prOk (x : Pr) : Bool := !x.k.isEmpty && decide (x.k.length ≤ 16) && decide (x.v.length ≤ 64) && isCnt x.n
def pRise : Option (List UInt8) → List Pr → Bool
  | _, [] => true
  | p, x :: t => prOk x && (match p with | none => true | some q => lessB q x.k) && pRise (some x.k) t
def ppv (ps : List Pr) (k : Nat) : Option (List UInt8) := if k = 0 then none else (ps[k - 1]?).map Pr.k
theorem pRise_at {ps : List Pr} {k : Nat} (h : k < ps.length) : pRise (ppv ps k) (ps.drop k) = (prOk ps[k] && (match ppv ps k with | none => true | some q => lessB q ps[k].k) && pRise (ppv ps (k + 1)) (ps.drop (k + 1))) := by
  have e : ppv ps (k + 1) = some ps[k].k := by simp [ppv, h]
  rw [List.drop_eq_getElem_cons h, e]
  rfl
theorem pRise_end {ps : List Pr} {k : Nat} (h : ¬ k < ps.length) : pRise (ppv ps k) (ps.drop k) = true := by
  rw [List.drop_of_length_le (by omega)]
  unfold pRise
  cases ppv ps k <;> rfl
def pairsOk (ps : List Pr) : Bool := decide (ps.length ≤ 32) && pRise none ps
theorem ints1k (w : World) (o : Obj) (x : Int) (b : Nat) (hb : b = w.heap.size + 1) : IntsAt ((w.alloc o).alloc (.cells #[.int .i64 x] 3)) b [x] := by
  subst hb
  intro j hj
  have : j = 0 := by simpa using hj
  subst this
  have hsz : (w.alloc o).heap.size = w.heap.size + 1 := by simp
  rw [← hsz]
  exact blk_at (blk_new (w.alloc o) (.cells #[.int .i64 x] 3)) 0 rfl

set_option maxRecDepth 100000 in
set_option maxHeartbeats 4000000 in
theorem isPairs_any (B cap : Nat) (ao : Option Addr) (ps : List Pr) (w : World) (h : PairRow B w ao ps) (hl : (ps.length : Int) ≤ 9223372036854775807) :
    Calls Tryz.prog 111 #[.slice ao ps.length cap] w fun e w' => e = .returned (.bool (pairsOk ps)) ∧ Kept Nil w w' := by
  have HR : Hid (PairRow B w ao ps) := h
  have ht := bs_toList
  have hsz := bs_size
  clear h
  by_cases h32 : ps.length ≤ 32
  · have HO : Hid (pairsOk ps = pRise none ps) := by show pairsOk ps = _; unfold pairsOk; rw [decide_eq_true h32]; rfl
    have h32' : (ps.length : Int) ≤ 32 := by omega
    rw [HO.out]
    clear h32 HO
    go_enter Tryz.func111, Tryz.ntmps111
    go_wp2
    go_loopw [10] (fun i wr => ∃ k : Nat, k ≤ ps.length ∧ i = .int .i64 k ∧ Hid (pRise none ps = pRise (ppv ps k) (ps.drop k)) ∧ Hid (Kept Nil w wr)) (fun i _ => ps.length - (intOf i).toNat)
    case atStart => exact ⟨0, Nat.zero_le _, rfl, rfl, Kept.refl _ _⟩
    case round =>
      obtain ⟨k, hk, rfl, HI, HK⟩ := hrel
      by_cases hlt : k < ps.length
      · obtain ⟨a, rfl, _, hc0, hc1, hc2, hm1, hm2⟩ := (HR.out.nil HK.out) k hlt
        have HA : Hid (pRise none ps = (prOk ps[k] && (match ppv ps k with | none => true | some q => lessB q ps[k].k) && pRise (ppv ps (k + 1)) (ps.drop (k + 1)))) := HI.out.trans (pRise_at hlt)
        have hm1' : (ps[k].k.length : Int) ≤ 9223372036854775807 := by unfold maxLen at hm1; omega
        have hm2' : (ps[k].v.length : Int) ≤ 9223372036854775807 := by unfold maxLen at hm2; omega
        have HN := areCounts_any (wr.heap.size + 1) 1 [ps[k].n] _ (ints1k wr (.cells #[.string (bs ps[k].k), .string (bs ps[k].v), .int .i64 ps[k].n] 63) ps[k].n _ rfl) (by simp)
        have ef : fromTo 1 [ps[k].n] = isCnt ps[k].n := by simp [fromTo, isCnt]
        rw [ef] at HN
        have HKK : Hid (Kept Nil w (wr.alloc (.cells #[.string (bs ps[k].k), .string (bs ps[k].v), .int .i64 ps[k].n] 63))) := HK.out.alloc _
        clear hm1 hm2 HI ef
        by_cases e0 : ps[k].k = []
        · have HF : Hid (pRise none ps = false) := by show pRise none ps = _; rw [HA.out]; unfold prOk; rw [e0]; rfl
          rw [e0] at hc0
          generalize ps[k].v = val at *
          generalize ps[k].n = ver at *
          clear HA HN
          go_wp2
          go_ret
          rw [HF.out]
          exact ⟨rfl, HK.out.alloc _⟩
        · have e1 : ps[k].k.isEmpty = false := by simpa using e0
          by_cases h16 : ps[k].k.length ≤ 16
          · have h16' : (ps[k].k.length : Int) ≤ 16 := by omega
            by_cases h64 : ps[k].v.length ≤ 64
            · have h64' : (ps[k].v.length : Int) ≤ 64 := by omega
              cases hn : isCnt ps[k].n with
              | false =>
                have HF : Hid (pRise none ps = false) := by show pRise none ps = _; rw [HA.out]; unfold prOk; rw [hn]; simp
                rw [hn] at HN
                generalize ps[k].k = key at *
                generalize ps[k].v = val at *
                generalize ps[k].n = ver at *
                clear HA e0 h16 h64 hn
                go_wp2_with fail
                refine HN.mono ?_
                rintro e w1 ⟨rfl, rfl⟩
                go_wp2
                go_ret
                rw [HF.out]
                exact ⟨rfl, HKK.out.alloc _⟩
              | true =>
                have hbox : (((wr.alloc (.cells #[.string (bs ps[k].k), .string (bs ps[k].v), .int .i64 ps[k].n] 63))).alloc (.cells #[.int .i64 ps[k].n] 3)).cell? ⟨wr.heap.size, 0, none⟩ = some (.string (bs ps[k].k)) := blk_at (blk_past (blk_new wr _) _) 0 rfl
                have hok : prOk ps[k] = true := by unfold prOk; rw [e1, hn, decide_eq_true h16, decide_eq_true h64]; rfl
                rw [hn] at HN
                by_cases k0 : k = 0
                · have b3 : decide (0 < k) = false := decide_eq_false (by omega)
                  have hpv : ppv ps k = none := by simp [ppv, k0]
                  have HF : Hid (pRise none ps = pRise (ppv ps (k + 1)) (ps.drop (k + 1))) := by show pRise none ps = _; rw [HA.out, hpv, hok]; rfl
                  generalize ps[k].k = key at *
                  generalize ps[k].v = val at *
                  generalize ps[k].n = ver at *
                  clear HA e0 h16 h64 hn hok k0 hpv
                  go_wp2_with fail
                  refine HN.mono ?_
                  rintro e w1 ⟨rfl, rfl⟩
                  go_wp2
                  go_quiet (fail)
                  go_wp2
                  go_roundw
                  case rel => exact ⟨k + 1, by omega, by go_num, HF, (HKK.out.alloc _).drewN _⟩
                  case measure => simp [intOf]; omega
                · obtain ⟨a', ha', _, hprev, _⟩ := (HR.out.nil (HKK.out.alloc (.cells #[.int .i64 ps[k].n] 3))) (k - 1) (by omega)
                  simp only [Option.some.injEq] at ha'
                  subst ha'
                  have hpv : ppv ps k = some ps[k - 1].k := by simp [ppv, k0, show k - 1 < ps.length by omega]
                  rw [hpv] at HA
                  simp only at HA
                  have hkp : (0 : Int) < (k : Int) := by omega
                  have hki : (k : Int) < ps.length := by omega
                  have b3 : decide (0 < k) = true := decide_eq_true (by omega)
                  have hprev2 : (((wr.alloc (.cells #[.string (bs ps[k].k), .string (bs ps[k].v), .int .i64 ps[k].n] 63))).alloc (.cells #[.int .i64 ps[k].n] 3)).cell? (a.add (((k : Int) - 1).toNat * 3)) = some (.string (bs ps[k - 1].k)) := by rw [show ((k : Int) - 1).toNat = k - 1 by omega]; exact hprev
                  cases hls : lessB ps[k - 1].k ps[k].k with
                  | true =>
                    have HF : Hid (pRise none ps = pRise (ppv ps (k + 1)) (ps.drop (k + 1))) := by show pRise none ps = _; rw [HA.out, hls, hok]; rfl
                    have hls' : Op.bytesLess ps[k - 1].k ps[k].k = true := hls
                    generalize ps[k].k = key at *
                    generalize ps[k].v = val at *
                    generalize ps[k].n = ver at *
                    generalize ps[k - 1].k = y at *
                    clear HA e0 h16 h64 hn hok k0 hpv hls
                    go_wp2_with fail
                    refine HN.mono ?_
                    rintro e w1 ⟨rfl, rfl⟩
                    go_wp2
                    go_quiet (fail)
                    go_wp2
                    go_roundw
                    case rel => exact ⟨k + 1, by omega, by go_num, HF, (HKK.out.alloc _).drewN _⟩
                    case measure => simp [intOf]; omega
                  | false =>
                    have HF : Hid (pRise none ps = false) := by show pRise none ps = _; rw [HA.out, hls]; simp
                    have hls' : Op.bytesLess ps[k - 1].k ps[k].k = false := hls
                    generalize ps[k].k = key at *
                    generalize ps[k].v = val at *
                    generalize ps[k].n = ver at *
                    generalize ps[k - 1].k = y at *
                    clear HA e0 h16 h64 hn hok k0 hpv hls
                    go_wp2_with fail
                    refine HN.mono ?_
                    rintro e w1 ⟨rfl, rfl⟩
                    go_wp2
                    go_quiet (fail)
                    go_wp2
                    go_ret
                    rw [HF.out]
                    exact ⟨rfl, (HKK.out.alloc _).drewN _⟩
            · have HF : Hid (pRise none ps = false) := by show pRise none ps = _; rw [HA.out]; unfold prOk; rw [decide_eq_false h64]; simp
              have h64' : ¬ (ps[k].v.length : Int) ≤ 64 := by omega
              generalize ps[k].k = key at *
              generalize ps[k].v = val at *
              generalize ps[k].n = ver at *
              clear HA HN e0 h16 h64
              go_wp2
              go_ret
              rw [HF.out]
              exact ⟨rfl, HK.out.alloc _⟩
          · have HF : Hid (pRise none ps = false) := by show pRise none ps = _; rw [HA.out]; unfold prOk; rw [decide_eq_false h16]; simp
            have h16' : ¬ (ps[k].k.length : Int) ≤ 16 := by omega
            generalize ps[k].k = key at *
            generalize ps[k].v = val at *
            generalize ps[k].n = ver at *
            clear HA HN e0 h16
            go_wp2
            go_ret
            rw [HF.out]
            exact ⟨rfl, HK.out.alloc _⟩
      · have HF : Hid (pRise none ps = true) := HI.out.trans (pRise_end hlt)
        go_wp2
        go_ret
        rw [HF.out]
        exact ⟨rfl, HK.out⟩
  · have HO : Hid (pairsOk ps = false) := by show pairsOk ps = _; unfold pairsOk; rw [decide_eq_false h32]; rfl
    have h32' : ¬ (ps.length : Int) ≤ 32 := by omega
    rw [HO.out]
    clear h32 HO
    go_enter Tryz.func111, Tryz.ntmps111
    go_wp2
    go_ret
    exact ⟨rfl, Kept.refl _ _⟩

end Go.Proofs.YtflnjlbafchnaaaGreatDoor

/-
  What comes of the sum and of numbers written: no two texts that part in up to four bytes standing together have one sum; what is written of a number is read again; what is cut off is short.
-/
namespace Go.Proofs.YtflnjlbafchnaaaGreatDoor

/-- Bytes as one number, the first one lowest. -/
def word : List UInt8 → Nat
  | [] => 0
  | b :: l => b.toNat ^^^ word l * 2 ^ 8

/-! ### what is written is read -/

/-! ### the turned bytes -/
end Go.Proofs.YtflnjlbafchnaaaGreatDoor

/-
  Rows of numbers: what is read so many times, by the program (times) and by the document's reader; numbers written one behind the other; two rows held against each other.
-/
namespace Go.Proofs.YtflnjlbafchnaaaGreatDoor
open Go.RowKit

/-! ### a row of its own, and what calls leave of it -/
theorem own_kept {X : Nat → Obj → Prop} {w w' : World} {B : Nat} {e : TypeId} {size : Nat} {v : Value} {n : Nat} {xs : List Value} (h : w.ownsRow B e size v n xs) (hk : Kept X w w')
    (hX : ∀ k cs, B ≤ k → ¬ X k (.cells cs e (0, 0))) : w'.ownsRow B e size v n xs := by
  refine ⟨h.1, h.2.imp id ?_⟩
  rintro ⟨g, cap, cur, h1, h2, h3, h4⟩
  exact ⟨g, cap, cur, h1, h2, hk.block _ _ h3 (hX _ _ h2), h4⟩
theorem Kept.grown {X : Nat → Obj → Prop} {a w w' : World} {row : Option Nat} (h : Kept X a w) (hg : w.grownBy w' row) (hrow : ∀ k, row = some k → a.heap.size ≤ k) : Kept X a w' :=
  ⟨hg.os.trans h.os, hg.tape.trans h.tape, hg.output.trans h.output, Nat.le_trans h.size hg.size, fun k o ho hx => by
    have hk := lt_of_block ho
    rw [hg.block k (by have := h.size; omega) (fun e => by have := hrow k e.symm; omega)]
    exact h.block k o ho hx⟩
theorem own_row {w : World} {B : Nat} {e : TypeId} {size : Nat} {v : Value} {n : Nat} {xs : List Value} (h : w.ownsRow B e size v n xs) : ∀ k, v.ownBlock = some k → B ≤ k := fun k hk => (h.lt k hk).1

/-! ### so many of a kind -/
/-! ### rows of ints -/
def natCells (ns : List Nat) : List Value := ns.map fun (n : Nat) => Value.int .i64 n
theorem natCells_snoc (ns : List Nat) (n : Nat) : natCells (ns ++ [n]) = natCells ns ++ [.int .i64 n] := by simp [natCells]
def OwnNats (B : Nat) (w : World) (ao : Option Addr) (c : Nat) (ns : List Nat) : Prop := w.ownsRow B 3 1 (.slice ao ns.length c) ns.length (natCells ns)
theorem OwnNats.push {B : Nat} {w' : World} {ao : Option Addr} {c : Nat} {ns : List Nat} {n : Nat} (h : w'.ownsRow B 3 1 (.slice ao (ns.length + 1) c) (ns.length + 1) (natCells ns ++ [.int .i64 n])) : OwnNats B w' ao c (ns ++ [n]) := by
  unfold OwnNats
  rw [natCells_snoc, List.length_append]
  exact h

end Go.Proofs.YtflnjlbafchnaaaGreatDoor

/-
  GetNumbers's own function: so many numbers, the count lying in a cell of its own; what it got.
-/
namespace Go.Proofs.YtflnjlbafchnaaaGreatDoor
open Go.RowKit

theorem own_mono {w : World} {B B' : Nat} {e : TypeId} {size : Nat} {v : Value} {n : Nat} {xs : List Value} (h : w.ownsRow B e size v n xs) (hb : B' ≤ B) : w.ownsRow B' e size v n xs :=
  ⟨h.1, h.2.imp id fun ⟨g, cap, cur, h1, h2, h3⟩ => ⟨g, cap, cur, h1, Nat.le_trans hb h2, h3⟩⟩

end Go.Proofs.YtflnjlbafchnaaaGreatDoor

/-
  Rows of entries, as rows that can be read and as rows of one's own; the short functions of logs, the program's and the document's.
-/
namespace Go.Proofs.YtflnjlbafchnaaaGreatDoor
open Go.RowKit

/-- A row of entries that can be read. -/
def EntRow (B : Nat) (w : World) (ao : Option Addr) (es : List En) : Prop := ∀ j, (hj : j < es.length) → ∃ a, ao = some a ∧ a.block < B ∧ w.cell? (a.add (j * 4)) = some (.int .i64 es[j].ix) ∧ w.cell? ⟨(a.add (j * 4)).block, (a.add (j * 4)).off + 1, none⟩ = some (.int .i64 es[j].tm) ∧ w.cell? ⟨(a.add (j * 4)).block, (a.add (j * 4)).off + 2, none⟩ = some (.int .i64 es[j].kd) ∧ w.cell? ⟨(a.add (j * 4)).block, (a.add (j * 4)).off + 3, none⟩ = some (.string (bs es[j].dt)) ∧ es[j].dt.length ≤ maxLen
theorem EntRow.kept {X : Nat → Obj → Prop} {B : Nat} {w w' : World} {ao : Option Addr} {es : List En} (h : EntRow B w ao es) (hk : Kept X w w') (hX : ∀ k o, k < B → ¬ X k o) : EntRow B w' ao es := by
  intro j hj
  obtain ⟨a, h0, h1, h2, h3, h4, h5, h6⟩ := h j hj
  have hb : (a.add (j * 4)).block < B := by rw [add_block]; exact h1
  exact ⟨a, h0, h1, cell_kept hk (fun o => hX _ o hb) h2, cell_kept hk (fun o => hX _ o hb) h3, cell_kept hk (fun o => hX _ o hb) h4, cell_kept hk (fun o => hX _ o hb) h5, h6⟩
theorem EntRow.nil {B : Nat} {w w' : World} {ao : Option Addr} {es : List En} (h : EntRow B w ao es) (hk : Kept Nil w w') : EntRow B w' ao es := h.kept hk (fun _ _ _ x => x)
theorem EntRow.alloc {B : Nat} {w : World} {ao : Option Addr} {es : List En} (h : EntRow B w ao es) (o : Obj) : EntRow B (w.alloc o) ao es := h.nil ((Kept.refl _ _).alloc o)
theorem EntRow.mono {B B' : Nat} {w : World} {ao : Option Addr} {es : List En} (h : EntRow B w ao es) (hB : B ≤ B') : EntRow B' w ao es := fun j hj => by
  obtain ⟨a, h0, h1, h2⟩ := h j hj
  exact ⟨a, h0, Nat.lt_of_lt_of_le h1 hB, h2⟩
theorem EntRow.full {B : Nat} {w : World} {ao : Option Addr} {es : List En} (h : EntRow B w ao es) : EntRow w.heap.size w ao es := fun j hj => by
  obtain ⟨a, h0, h1, h2, h3⟩ := h j hj
  have hb := cell_lt h2
  rw [add_block] at hb
  exact ⟨a, h0, hb, h2, h3⟩
theorem addr_add2 (a : Addr) (i j : Nat) : (a.add i).add j = a.add (i + j) := by
  unfold Addr.add
  by_cases hi : i = 0
  · subst hi
    by_cases hj : j = 0
    · subst hj; simp
    · simp [hj]
  · by_cases hj : j = 0
    · subst hj; simp [hi]
    · simp [hi, hj, Nat.add_assoc]
theorem EntRow.drop {B : Nat} {w : World} {a : Addr} {es : List En} (h : EntRow B w (some a) es) (k : Nat) : EntRow B w (some (a.add (k * 4))) (es.drop k) := by
  intro j hj
  have hj' : k + j < es.length := by rw [List.length_drop] at hj; omega
  obtain ⟨a', h0, h1, h2⟩ := h (k + j) hj'
  simp only [Option.some.injEq] at h0
  subst h0
  simp only [List.getElem_drop]
  refine ⟨_, rfl, by rw [add_block]; exact h1, ?_⟩
  rw [addr_add2, show k * 4 + j * 4 = (k + j) * 4 by omega]
  exact h2
theorem EntRow.take {B : Nat} {w : World} {ao : Option Addr} {es : List En} (h : EntRow B w ao es) (k : Nat) : EntRow B w ao (es.take k) := by
  intro j hj
  have hj' : j < es.length := by rw [List.length_take] at hj; omega
  simp only [List.getElem_take]
  exact h j hj'

theorem addr_addE (g j : Nat) : (⟨g, 0, none⟩ : Addr).add j = ⟨g, j, none⟩ := by unfold Addr.add; split <;> simp_all
/-! ### the term of a place -/
theorem EntRow.tm {B : Nat} {w : World} {ao : Option Addr} {es : List En} (h : EntRow B w ao es) {j : Nat} (hj : j < es.length) : ∃ a, ao = some a ∧ w.cell? ⟨(a.add (j * 4)).block, (a.add (j * 4)).off + 1, none⟩ = some (.int .i64 es[j].tm) := by
  obtain ⟨a, h0, _, _, h3, _⟩ := h j hj
  exact ⟨a, h0, h3⟩
theorem EntRow.ix {B : Nat} {w : World} {ao : Option Addr} {es : List En} (h : EntRow B w ao es) {j : Nat} (hj : j < es.length) : ∃ a, ao = some a ∧ w.cell? (a.add (j * 4)) = some (.int .i64 es[j].ix) := by
  obtain ⟨a, h0, _, h2, _⟩ := h j hj
  exact ⟨a, h0, h2⟩

end Go.Proofs.YtflnjlbafchnaaaGreatDoor

/-
  'append' onto a row of the call's own, as a step within a region that draws its order. A law on the model, over any program.
-/
namespace Go.Proofs.YtflnjlbafchnaaaGreatDoor
open Go.RowKit
variable {P : Program} (w : World)

theorem step_append_src {ops : Array Oper} {o : Oper} {a : Act} {K : Act → World → Prop} {Q : Exit → Act → World → Prop} {E : Prop} (hgd : o.guard = none) (s xo : Operand) (t tx : TypeId)
    (ho : o.op = .call { callee := .builtin .append, args := #[s, xo], argTypes := #[t, tx] })
    (base : Nat) (e : TypeId) (i : TypeInfo) (z : Value) (size bytes : Nat) (ht : P.underlying t = some (.slice e)) (hi : P.info? e = some i) (hz : i.zero = some z)
    (hsize : i.size = size) (hby : i.bytes = bytes) (hzs : z.cells.size = size)
    (v : Value) (n : Nat) (xs : List Value) (hv : a.eval s = v) (hown : w.ownsRow base e size v n xs) (x : Value) (m : Nat) (news : List Value) (hx : a.eval xo = x) (hs : Src P size tx x m news w)
    (h63 : n + m ≤ maxLen) (hbytes : (n + m) * bytes ≤ 140737488355328) (hbase : base ≤ w.heap.size)
    (h : ∀ ao c w', w'.ownsRow base e size (.slice ao (n + m) c) (n + m) (xs ++ news) → w.grownBy w' v.ownBlock → K (a.put o.dst (.slice ao (n + m) c)) w') :
    if Region.wanted o (yielded ops a.tmps) = true then Oper.wp P o a w K Q else E := by
  rw [if_pos (by simp [Region.wanted, hgd])]
  exact wp_append_src w s xo t tx ho base e i z size bytes ht hi hz hsize hby hzs v n xs hv hown x m news hx hs h63 hbytes hbase fun v' w' h2 h3 => by
    obtain ⟨ao, c, rfl⟩ := own_shape h2
    exact h ao c w' h2 h3

end Go.Proofs.YtflnjlbafchnaaaGreatDoor

/-
  TermAt and Fresh, and slices.Clone at entries: the program's.
-/
namespace Go.Proofs.YtflnjlbafchnaaaGreatDoor
open Go.RowKit

/-! ### the library's Clone at entries -/
theorem add_posE (a : Addr) {i : Nat} (h : 0 < i) : a.add i = ⟨a.block, a.off + i, none⟩ := by unfold Addr.add; rw [if_neg (by omega)]
end Go.Proofs.YtflnjlbafchnaaaGreatDoor

/-
  What the map's texts take from others: cells set in a row, blocks that grow, texts compared.
-/
namespace Go.Proofs.YtflnjlbafchnaaaGreatDoor
open Go.RowKit

theorem blk_setCellsK {b : Nat} {t : TypeId} : ∀ (vs : List Value) (o : Nat) (w : World) (cs : Array Value), w.heap[b]? = some (.cells cs t (0, 0)) → ∃ cs', (w.setCells b o vs).heap[b]? = some (.cells cs' t (0, 0)) ∧ cs'.size = cs.size ∧ ∀ i, cs'[i]? = if o ≤ i ∧ i < o + vs.length ∧ i < cs.size then vs[i - o]? else cs[i]?
  | [], o, w, cs, h => ⟨cs, h, rfl, fun i => by rw [if_neg (by simp; omega)]⟩
  | v :: r, o, w, cs, h => by
    obtain ⟨cs', h1, h2, h3⟩ := blk_setCellsK r (o + 1) _ _ (blk_set h o v)
    refine ⟨cs', h1, by simpa using h2, fun i => ?_⟩
    rw [h3 i]
    simp only [Array.size_setIfInBounds, List.length_cons]
    by_cases hi : i = o
    · subst hi
      rw [if_neg (by omega)]
      by_cases hs : i < cs.size
      · rw [if_pos (by omega)]
        simp [hs]
      · rw [if_neg (by omega)]
        simp [hs]
    · by_cases hc : o + 1 ≤ i ∧ i < o + 1 + r.length ∧ i < cs.size
      · rw [if_pos hc, if_pos (by omega), show i - o = (i - (o + 1)) + 1 by omega, List.getElem?_cons_succ]
      · rw [if_neg hc, if_neg (by omega)]
        rw [Array.getElem?_setIfInBounds, if_neg (by omega)]
theorem grownBy_setCellsK (b : Nat) : ∀ (vs : List Value) (o : Nat) {a w : World}, a.grownBy w (some b) → a.grownBy (w.setCells b o vs) (some b)
  | [], _, _, _, h => h
  | v :: r, o, a, w, h => grownBy_setCellsK b r (o + 1) ⟨h.os, h.tape, h.output, by simpa [World.setCell] using h.size, fun k hk hne => by
      rw [Below.heap_setCell _ _ _ _ (by intro e; exact hne (by rw [e]))]; exact h.block k hk hne⟩
theorem grown_drewK {a w : World} {r : Option Nat} (h : a.grownBy w r) : a.grownBy w.drew r := ⟨h.os, h.tape, h.output, h.size, h.block⟩
theorem grown_reflK (w : World) (r : Option Nat) : w.grownBy w r := ⟨rfl, rfl, rfl, Nat.le_refl _, fun _ _ _ => rfl⟩
theorem grown_allocK {a w : World} {r : Option Nat} (h : a.grownBy w r) (o : Obj) : a.grownBy (w.alloc o) r := ⟨h.os, h.tape, h.output, by have := h.size; simp; omega, fun k hk hne => by
  rw [Below.heap_alloc _ _ _ (by have := h.size; omega)]; exact h.block k hk hne⟩
theorem own_setAtK {B e size g n cap : Nat} {w : World} {xs : List Value} (h : w.ownsRow B e size (.slice (some ⟨g, 0, none⟩) n cap) n xs) (i : Nat) (u : Value) : (w.setCell ⟨g, i, none⟩ u).ownsRow B e size (.slice (some ⟨g, 0, none⟩) n cap) n (xs.set i u) := by
  refine ⟨by rw [List.length_set]; exact h.1, ?_⟩
  rcases h.2 with ⟨h1, _⟩ | ⟨g', cap', cur, hv, hb, hh, h1, h2, h3, h4⟩
  · simp at h1
  · simp only [Value.slice.injEq, Option.some.injEq, Addr.mk.injEq, true_and, and_true] at hv
    obtain ⟨rfl, rfl⟩ := hv
    refine .inr ⟨g, cap, _, rfl, hb, blk_set hh i u, h1, h2, by simpa using h3, ?_⟩
    rw [Array.toList_setIfInBounds, List.take_set, h4]
end Go.Proofs.YtflnjlbafchnaaaGreatDoor
