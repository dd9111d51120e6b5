/-
  Keys: a row of texts, rising, none too long: by the program (areKeys).
-/
import Derived.Test.YtijklginabipgaaWCfg1
namespace Go.Proofs.Ytijklginabipgaa
open Go.RowKit

/-- A row of texts that lies below block B. -/
def StrRow (B : Nat) (w : World) (ao : Option Addr) (ks : List (List UInt8)) : Prop := ∀ j, (hj : j < ks.length) → ∃ a, ao = some a ∧ a.block < B ∧ w.cell? (a.add j) = some (.string (bs ks[j])) ∧ ks[j].length ≤ maxLen
theorem StrRow.kept {X : Nat → Obj → Prop} {B : Nat} {w w' : World} {ao : Option Addr} {ks : List (List UInt8)} (h : StrRow B w ao ks) (hk : Kept X w w') (hX : ∀ k o, k < B → ¬ X k o) : StrRow B w' ao ks := by
  intro j hj
  obtain ⟨a, ha, hb, hc, hl⟩ := h j hj
  refine ⟨a, ha, hb, ?_, hl⟩
  have e : (a.add j).block = a.block := by unfold Addr.add; split <;> rfl
  have hlt : a.block < w.heap.size := by
    have : (a.add j).block < w.heap.size := World.block_lt_of_cell? w _ hc
    omega
  rw [World.cell?_of_block (w := w) (by rw [e, hk.block a.block _ (Array.getElem?_eq_getElem hlt) (hX _ _ hb), Array.getElem?_eq_getElem hlt])]
  exact hc
theorem StrRow.nil {B : Nat} {w w' : World} {ao : Option Addr} {ks : List (List UInt8)} (h : StrRow B w ao ks) (hk : Kept Nil w w') : StrRow B w' ao ks := h.kept hk (fun _ _ _ x => x)
theorem StrRow.alloc {B : Nat} {w : World} {ao : Option Addr} {ks : List (List UInt8)} (h : StrRow B w ao ks) (o : Obj) : StrRow B (w.alloc o) ao ks := h.nil ((Kept.refl _ _).alloc o)

/-- Is one text ahead of another? -/
def lessB (x y : List UInt8) : Bool := Op.bytesLess x y
/-- Rising, none longer than 16 (the first one may be anything). -/
def kRise : Option (List UInt8) → List (List UInt8) → Bool
  | _, [] => true
  | p, k :: t => decide (k.length ≤ 16) && (match p with | none => true | some q => lessB q k) && kRise (some k) t
def kpv (ks : List (List UInt8)) (k : Nat) : Option (List UInt8) := if k = 0 then none else ks[k - 1]?
theorem kRise_at {ks : List (List UInt8)} {k : Nat} (h : k < ks.length) : kRise (kpv ks k) (ks.drop k) = (decide (ks[k].length ≤ 16) && (match kpv ks k with | none => true | some q => lessB q ks[k]) && kRise (kpv ks (k + 1)) (ks.drop (k + 1))) := by
  have e : kpv ks (k + 1) = some ks[k] := by simp [kpv, h]
  rw [List.drop_eq_getElem_cons h, e]
  rfl
theorem kRise_end {ks : List (List UInt8)} {k : Nat} (h : ¬ k < ks.length) : kRise (kpv ks k) (ks.drop k) = true := by
  rw [List.drop_of_length_le (by omega)]
  unfold kRise
  cases kpv ks k <;> rfl
def keysOk (ks : List (List UInt8)) : Bool := decide (ks.length ≤ 32) && kRise none ks

set_option maxRecDepth 100000 in
set_option maxHeartbeats 2000000 in
theorem areKeys_any (B cap : Nat) (ao : Option Addr) (ks : List (List UInt8)) (w : World) (h : StrRow B w ao ks) (hl : (ks.length : Int) ≤ 9223372036854775807) :
    Calls Try.prog 204 #[.slice ao ks.length cap] w fun e w' => e = .returned (.bool (keysOk ks)) ∧ Kept Nil w w' := by
  have HR : Hid (StrRow B w ao ks) := h
  have ht := bs_toList
  have hsz := bs_size
  clear h
  by_cases h32 : ks.length ≤ 32
  · have HO : Hid (keysOk ks = kRise none ks) := by show keysOk ks = _; unfold keysOk; rw [decide_eq_true h32]; rfl
    have h32' : (ks.length : Int) ≤ 32 := by omega
    rw [HO.out]
    clear h32 HO
    go_enter Try.func204, Try.ntmps204
    go_wp2
    go_loopw [10] (fun i wr => ∃ k : Nat, k ≤ ks.length ∧ i = .int .i64 k ∧ Hid (kRise none ks = kRise (kpv ks k) (ks.drop k)) ∧ Hid (Kept Nil w wr)) (fun i _ => ks.length - (intOf i).toNat)
    case atStart => exact ⟨0, Nat.zero_le _, rfl, rfl, Kept.refl _ _⟩
    case round =>
      obtain ⟨k, hk, rfl, HI, HK⟩ := hrel
      by_cases hlt : k < ks.length
      · obtain ⟨a, rfl, _, hcell, hmax⟩ := (HR.out.nil HK.out) k hlt
        have HA : Hid (kRise none ks = (decide (ks[k].length ≤ 16) && (match kpv ks k with | none => true | some q => lessB q ks[k]) && kRise (kpv ks (k + 1)) (ks.drop (k + 1)))) := HI.out.trans (kRise_at hlt)
        have hmax' : (ks[k].length : Int) ≤ 9223372036854775807 := by unfold maxLen at hmax; omega
        clear hmax HI
        by_cases h16 : ks[k].length ≤ 16
        · by_cases k0 : k = 0
          · have hk0 : (k : Int) ≤ 0 := by omega
            have hpv : kpv ks k = none := by simp [kpv, k0]
            have HF : Hid (kRise none ks = kRise (kpv ks (k + 1)) (ks.drop (k + 1))) := by show kRise none ks = _; rw [HA.out, hpv, decide_eq_true h16]; rfl
            have h16' : (ks[k].length : Int) ≤ 16 := by omega
            generalize ks[k] = x at *
            clear HA h16 k0 hpv
            go_wp2
            go_roundw
            case rel => exact ⟨k + 1, by omega, by go_num, HF, HK.out⟩
            case measure => simp [intOf]; omega
          · obtain ⟨a', ha', _, hprev, _⟩ := (HR.out.nil HK.out) (k - 1) (by omega)
            simp only [Option.some.injEq] at ha'
            subst ha'
            have hpv : kpv ks k = some ks[k - 1] := by simp [kpv, k0, show k - 1 < ks.length by omega]
            rw [hpv] at HA
            simp only at HA
            have hkp : 0 < k := by omega
            have h16' : (ks[k].length : Int) ≤ 16 := by omega
            cases hls : lessB ks[k - 1] ks[k] with
            | true =>
              have HF : Hid (kRise none ks = kRise (kpv ks (k + 1)) (ks.drop (k + 1))) := by show kRise none ks = _; rw [HA.out, hls, decide_eq_true h16]; rfl
              have hls' : Op.bytesLess ks[k - 1] ks[k] = true := hls
              generalize ks[k] = x at *
              generalize ks[k - 1] = y at *
              clear HA h16 k0 hpv hls
              go_wp2
              go_roundw
              case rel => exact ⟨k + 1, by omega, by go_num, HF, HK.out⟩
              case measure => simp [intOf]; omega
            | false =>
              have HF : Hid (kRise none ks = false) := by show kRise none ks = _; rw [HA.out, hls]; simp
              have hls' : Op.bytesLess ks[k - 1] ks[k] = false := hls
              generalize ks[k] = x at *
              generalize ks[k - 1] = y at *
              clear HA h16 k0 hpv hls
              go_wp2
              go_ret
              rw [HF.out]
              exact ⟨rfl, HK.out⟩
        · have HF : Hid (kRise none ks = false) := by show kRise none ks = _; rw [HA.out, decide_eq_false h16]; rfl
          have h16' : ¬ (ks[k].length : Int) ≤ 16 := by omega
          generalize ks[k] = x at *
          clear HA h16
          go_wp2
          go_ret
          rw [HF.out]
          exact ⟨rfl, HK.out⟩
      · have HF : Hid (kRise none ks = true) := HI.out.trans (kRise_end hlt)
        go_wp2
        go_ret
        rw [HF.out]
        exact ⟨rfl, HK.out⟩
  · have HO : Hid (keysOk ks = false) := by show keysOk ks = _; unfold keysOk; rw [decide_eq_false h32]; rfl
    have h32' : ¬ (ks.length : Int) ≤ 32 := by omega
    rw [HO.out]
    clear h32 HO
    go_enter Try.func204, Try.ntmps204
    go_wp2
    go_ret
    exact ⟨rfl, Kept.refl _ _⟩

end Go.Proofs.Ytijklginabipgaa
