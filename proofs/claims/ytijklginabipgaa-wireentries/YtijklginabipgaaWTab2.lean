/-
  Pairs: rows of three cells; may they be: by the program.
-/
import Derived.Test.YtijklginabipgaaWTab1
import Derived.Test.YtijklginabipgaaWEnt1
namespace Go.Proofs.Ytijklginabipgaa
open Go.RowKit

structure Pr where
  k : List UInt8
  v : List UInt8
  n : Int
/-- A row of pairs that lies below block B. -/
def PairRow (B : Nat) (w : World) (ao : Option Addr) (ps : List Pr) : Prop := ∀ j, (hj : j < ps.length) → ∃ a, ao = some a ∧ a.block < B ∧ w.cell? (a.add (j * 3)) = some (.string (bs ps[j].k)) ∧ w.cell? ⟨(a.add (j * 3)).block, (a.add (j * 3)).off + 1, none⟩ = some (.string (bs ps[j].v)) ∧ w.cell? ⟨(a.add (j * 3)).block, (a.add (j * 3)).off + 2, none⟩ = some (.int .i64 ps[j].n) ∧ ps[j].k.length ≤ maxLen ∧ ps[j].v.length ≤ maxLen
theorem cell_kept {X : Nat → Obj → Prop} {w w' : World} {a : Addr} {v : Value} (hk : Kept X w w') (hX : ∀ o, ¬ X a.block o) (h : w.cell? a = some v) : w'.cell? a = some v := by
  have hlt : a.block < w.heap.size := World.block_lt_of_cell? w _ h
  rw [World.cell?_of_block (w := w) (by rw [hk.block a.block _ (Array.getElem?_eq_getElem hlt) (hX _), Array.getElem?_eq_getElem hlt])]
  exact h
theorem add_block (a : Addr) (n : Nat) : (a.add n).block = a.block := by unfold Addr.add; split <;> rfl
theorem PairRow.kept {X : Nat → Obj → Prop} {B : Nat} {w w' : World} {ao : Option Addr} {ps : List Pr} (h : PairRow B w ao ps) (hk : Kept X w w') (hX : ∀ k o, k < B → ¬ X k o) : PairRow B w' ao ps := by
  intro j hj
  obtain ⟨a, ha, hb, c1, c2, c3, l1, l2⟩ := h j hj
  refine ⟨a, ha, hb, cell_kept hk (fun o => ?_) c1, cell_kept hk (fun o => ?_) c2, cell_kept hk (fun o => ?_) c3, l1, l2⟩ <;> exact hX _ _ (by simpa [add_block] using hb)
theorem PairRow.nil {B : Nat} {w w' : World} {ao : Option Addr} {ps : List Pr} (h : PairRow B w ao ps) (hk : Kept Nil w w') : PairRow B w' ao ps := h.kept hk (fun _ _ _ x => x)
theorem PairRow.alloc {B : Nat} {w : World} {ao : Option Addr} {ps : List Pr} (h : PairRow B w ao ps) (o : Obj) : PairRow B (w.alloc o) ao ps := h.nil ((Kept.refl _ _).alloc o)
theorem pairRow_nil (B : Nat) (w : World) (ao : Option Addr) : PairRow B w ao [] := fun j hj => by simp at hj

def prOk (x : Pr) : Bool := !x.k.isEmpty && decide (x.k.length ≤ 16) && decide (x.v.length ≤ 64) && isCnt x.n
def pRise : Option (List UInt8) → List Pr → Bool
  | _, [] => true
  | p, x :: t => prOk x && (match p with | none => true | some q => lessB q x.k) && pRise (some x.k) t
def ppv (ps : List Pr) (k : Nat) : Option (List UInt8) := if k = 0 then none else (ps[k - 1]?).map Pr.k
theorem pRise_at {ps : List Pr} {k : Nat} (h : k < ps.length) : pRise (ppv ps k) (ps.drop k) = (prOk ps[k] && (match ppv ps k with | none => true | some q => lessB q ps[k].k) && pRise (ppv ps (k + 1)) (ps.drop (k + 1))) := by
  have e : ppv ps (k + 1) = some ps[k].k := by simp [ppv, h]
  rw [List.drop_eq_getElem_cons h, e]
  rfl
theorem pRise_end {ps : List Pr} {k : Nat} (h : ¬ k < ps.length) : pRise (ppv ps k) (ps.drop k) = true := by
  rw [List.drop_of_length_le (by omega)]
  unfold pRise
  cases ppv ps k <;> rfl
def pairsOk (ps : List Pr) : Bool := decide (ps.length ≤ 32) && pRise none ps
theorem ints1k (w : World) (o : Obj) (x : Int) (b : Nat) (hb : b = w.heap.size + 1) : IntsAt ((w.alloc o).alloc (.cells #[.int .i64 x] 3)) b [x] := by
  subst hb
  intro j hj
  have : j = 0 := by simpa using hj
  subst this
  have hsz : (w.alloc o).heap.size = w.heap.size + 1 := by simp
  rw [← hsz]
  exact blk_at (blk_new (w.alloc o) (.cells #[.int .i64 x] 3)) 0 rfl

set_option maxRecDepth 100000 in
set_option maxHeartbeats 4000000 in
theorem isPairs_any (B cap : Nat) (ao : Option Addr) (ps : List Pr) (w : World) (h : PairRow B w ao ps) (hl : (ps.length : Int) ≤ 9223372036854775807) :
    Calls Try.prog 159 #[.slice ao ps.length cap] w fun e w' => e = .returned (.bool (pairsOk ps)) ∧ Kept Nil w w' := by
  have HR : Hid (PairRow B w ao ps) := h
  have ht := bs_toList
  have hsz := bs_size
  clear h
  by_cases h32 : ps.length ≤ 32
  · have HO : Hid (pairsOk ps = pRise none ps) := by show pairsOk ps = _; unfold pairsOk; rw [decide_eq_true h32]; rfl
    have h32' : (ps.length : Int) ≤ 32 := by omega
    rw [HO.out]
    clear h32 HO
    go_enter Try.func159, Try.ntmps159
    go_wp2
    go_loopw [10] (fun i wr => ∃ k : Nat, k ≤ ps.length ∧ i = .int .i64 k ∧ Hid (pRise none ps = pRise (ppv ps k) (ps.drop k)) ∧ Hid (Kept Nil w wr)) (fun i _ => ps.length - (intOf i).toNat)
    case atStart => exact ⟨0, Nat.zero_le _, rfl, rfl, Kept.refl _ _⟩
    case round =>
      obtain ⟨k, hk, rfl, HI, HK⟩ := hrel
      by_cases hlt : k < ps.length
      · obtain ⟨a, rfl, _, hc0, hc1, hc2, hm1, hm2⟩ := (HR.out.nil HK.out) k hlt
        have HA : Hid (pRise none ps = (prOk ps[k] && (match ppv ps k with | none => true | some q => lessB q ps[k].k) && pRise (ppv ps (k + 1)) (ps.drop (k + 1)))) := HI.out.trans (pRise_at hlt)
        have hm1' : (ps[k].k.length : Int) ≤ 9223372036854775807 := by unfold maxLen at hm1; omega
        have hm2' : (ps[k].v.length : Int) ≤ 9223372036854775807 := by unfold maxLen at hm2; omega
        have HN := areCounts_any (wr.heap.size + 1) 1 [ps[k].n] _ (ints1k wr (.cells #[.string (bs ps[k].k), .string (bs ps[k].v), .int .i64 ps[k].n] 128) ps[k].n _ rfl) (by simp)
        have ef : fromTo 1 [ps[k].n] = isCnt ps[k].n := by simp [fromTo, isCnt]
        rw [ef] at HN
        have HKK : Hid (Kept Nil w (wr.alloc (.cells #[.string (bs ps[k].k), .string (bs ps[k].v), .int .i64 ps[k].n] 128))) := HK.out.alloc _
        clear hm1 hm2 HI ef
        by_cases e0 : ps[k].k = []
        · have HF : Hid (pRise none ps = false) := by show pRise none ps = _; rw [HA.out]; unfold prOk; rw [e0]; rfl
          rw [e0] at hc0
          generalize ps[k].v = val at *
          generalize ps[k].n = ver at *
          clear HA HN
          go_wp2
          go_ret
          rw [HF.out]
          exact ⟨rfl, HK.out.alloc _⟩
        · have e1 : ps[k].k.isEmpty = false := by simpa using e0
          by_cases h16 : ps[k].k.length ≤ 16
          · have h16' : (ps[k].k.length : Int) ≤ 16 := by omega
            by_cases h64 : ps[k].v.length ≤ 64
            · have h64' : (ps[k].v.length : Int) ≤ 64 := by omega
              cases hn : isCnt ps[k].n with
              | false =>
                have HF : Hid (pRise none ps = false) := by show pRise none ps = _; rw [HA.out]; unfold prOk; rw [hn]; simp
                rw [hn] at HN
                generalize ps[k].k = key at *
                generalize ps[k].v = val at *
                generalize ps[k].n = ver at *
                clear HA e0 h16 h64 hn
                go_wp2_with fail
                refine HN.mono ?_
                rintro e w1 ⟨rfl, rfl⟩
                go_wp2
                go_ret
                rw [HF.out]
                exact ⟨rfl, HKK.out.alloc _⟩
              | true =>
                have hbox : (((wr.alloc (.cells #[.string (bs ps[k].k), .string (bs ps[k].v), .int .i64 ps[k].n] 128))).alloc (.cells #[.int .i64 ps[k].n] 3)).cell? ⟨wr.heap.size, 0, none⟩ = some (.string (bs ps[k].k)) := blk_at (blk_past (blk_new wr _) _) 0 rfl
                have hok : prOk ps[k] = true := by unfold prOk; rw [e1, hn, decide_eq_true h16, decide_eq_true h64]; rfl
                rw [hn] at HN
                by_cases k0 : k = 0
                · have b3 : decide (0 < k) = false := decide_eq_false (by omega)
                  have hpv : ppv ps k = none := by simp [ppv, k0]
                  have HF : Hid (pRise none ps = pRise (ppv ps (k + 1)) (ps.drop (k + 1))) := by show pRise none ps = _; rw [HA.out, hpv, hok]; rfl
                  generalize ps[k].k = key at *
                  generalize ps[k].v = val at *
                  generalize ps[k].n = ver at *
                  clear HA e0 h16 h64 hn hok k0 hpv
                  go_wp2_with fail
                  refine HN.mono ?_
                  rintro e w1 ⟨rfl, rfl⟩
                  go_wp2
                  go_quiet (fail)
                  go_wp2
                  go_roundw
                  case rel => exact ⟨k + 1, by omega, by go_num, HF, (HKK.out.alloc _).drewN _⟩
                  case measure => simp [intOf]; omega
                · obtain ⟨a', ha', _, hprev, _⟩ := (HR.out.nil (HKK.out.alloc (.cells #[.int .i64 ps[k].n] 3))) (k - 1) (by omega)
                  simp only [Option.some.injEq] at ha'
                  subst ha'
                  have hpv : ppv ps k = some ps[k - 1].k := by simp [ppv, k0, show k - 1 < ps.length by omega]
                  rw [hpv] at HA
                  simp only at HA
                  have hkp : (0 : Int) < (k : Int) := by omega
                  have hki : (k : Int) < ps.length := by omega
                  have b3 : decide (0 < k) = true := decide_eq_true (by omega)
                  have hprev2 : (((wr.alloc (.cells #[.string (bs ps[k].k), .string (bs ps[k].v), .int .i64 ps[k].n] 128))).alloc (.cells #[.int .i64 ps[k].n] 3)).cell? (a.add (((k : Int) - 1).toNat * 3)) = some (.string (bs ps[k - 1].k)) := by rw [show ((k : Int) - 1).toNat = k - 1 by omega]; exact hprev
                  cases hls : lessB ps[k - 1].k ps[k].k with
                  | true =>
                    have HF : Hid (pRise none ps = pRise (ppv ps (k + 1)) (ps.drop (k + 1))) := by show pRise none ps = _; rw [HA.out, hls, hok]; rfl
                    have hls' : Op.bytesLess ps[k - 1].k ps[k].k = true := hls
                    generalize ps[k].k = key at *
                    generalize ps[k].v = val at *
                    generalize ps[k].n = ver at *
                    generalize ps[k - 1].k = y at *
                    clear HA e0 h16 h64 hn hok k0 hpv hls
                    go_wp2_with fail
                    refine HN.mono ?_
                    rintro e w1 ⟨rfl, rfl⟩
                    go_wp2
                    go_quiet (fail)
                    go_wp2
                    go_roundw
                    case rel => exact ⟨k + 1, by omega, by go_num, HF, (HKK.out.alloc _).drewN _⟩
                    case measure => simp [intOf]; omega
                  | false =>
                    have HF : Hid (pRise none ps = false) := by show pRise none ps = _; rw [HA.out, hls]; simp
                    have hls' : Op.bytesLess ps[k - 1].k ps[k].k = false := hls
                    generalize ps[k].k = key at *
                    generalize ps[k].v = val at *
                    generalize ps[k].n = ver at *
                    generalize ps[k - 1].k = y at *
                    clear HA e0 h16 h64 hn hok k0 hpv hls
                    go_wp2_with fail
                    refine HN.mono ?_
                    rintro e w1 ⟨rfl, rfl⟩
                    go_wp2
                    go_quiet (fail)
                    go_wp2
                    go_ret
                    rw [HF.out]
                    exact ⟨rfl, (HKK.out.alloc _).drewN _⟩
            · have HF : Hid (pRise none ps = false) := by show pRise none ps = _; rw [HA.out]; unfold prOk; rw [decide_eq_false h64]; simp
              have h64' : ¬ (ps[k].v.length : Int) ≤ 64 := by omega
              generalize ps[k].k = key at *
              generalize ps[k].v = val at *
              generalize ps[k].n = ver at *
              clear HA HN e0 h16 h64
              go_wp2
              go_ret
              rw [HF.out]
              exact ⟨rfl, HK.out.alloc _⟩
          · have HF : Hid (pRise none ps = false) := by show pRise none ps = _; rw [HA.out]; unfold prOk; rw [decide_eq_false h16]; simp
            have h16' : ¬ (ps[k].k.length : Int) ≤ 16 := by omega
            generalize ps[k].k = key at *
            generalize ps[k].v = val at *
            generalize ps[k].n = ver at *
            clear HA HN e0 h16
            go_wp2
            go_ret
            rw [HF.out]
            exact ⟨rfl, HK.out.alloc _⟩
      · have HF : Hid (pRise none ps = true) := HI.out.trans (pRise_end hlt)
        go_wp2
        go_ret
        rw [HF.out]
        exact ⟨rfl, HK.out⟩
  · have HO : Hid (pairsOk ps = false) := by show pairsOk ps = _; unfold pairsOk; rw [decide_eq_false h32]; rfl
    have h32' : ¬ (ps.length : Int) ≤ 32 := by omega
    rw [HO.out]
    clear h32 HO
    go_enter Try.func159, Try.ntmps159
    go_wp2
    go_ret
    exact ⟨rfl, Kept.refl _ _⟩

end Go.Proofs.Ytijklginabipgaa
