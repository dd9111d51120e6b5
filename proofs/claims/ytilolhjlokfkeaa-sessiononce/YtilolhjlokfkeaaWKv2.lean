/-
  kv: a key is searched.
-/
import Derived.Test.YtilolhjlokfkeaaWKvM
namespace Go.Proofs.Ytilolhjlokfkeaa
open Go.RowKit

set_option maxRecDepth 100000 in
set_option maxHeartbeats 2000000 in
theorem bsf_any (B c : Nat) (ao : Option Addr) (ps : List Pr) (key : List UInt8) (w : World) (h : PairRow B w ao ps) (hs : Srt ps) (hl : ps.length ≤ 32) :
    Calls Try.prog 109 #[.slice ao ps.length c, .string (bs key), .func (.func 110) #[] #[]] w fun e w' => e = .returned (.tuple #[.int .i64 (lowP key ps), .bool (isThere key ps)]) ∧ Kept Nil w w' := by
  have HR : Hid (PairRow B w ao ps) := h
  have HS : Hid (Srt ps) := hs
  clear h hs
  go_enter Try.func109, Try.ntmps109
  go_wp2
  go_loopw [9, 10] (fun u v wr => ∃ i j : Nat, i ≤ j ∧ j ≤ ps.length ∧ u = .int .i64 i ∧ v = .int .i64 j ∧ Hid (∀ q, (hq : q < ps.length) → q < i → lessB ps[q].k key = true) ∧ Hid (∀ q, (hq : q < ps.length) → j ≤ q → lessB ps[q].k key = false) ∧ Hid (Kept Nil w wr)) (fun u v _ => (intOf v).toNat - (intOf u).toNat)
  case atStart => exact ⟨0, ps.length, Nat.zero_le _, Nat.le_refl _, rfl, rfl, fun q hq h0 => by omega, fun q hq h0 => by omega, Kept.refl _ _⟩
  case round =>
    obtain ⟨i, j, hij, hjn, rfl, rfl, H1, H2, HK⟩ := hrel
    by_cases hlt : i < j
    · have hli : (i : Int) < (j : Int) := by omega
      have hm : (i + j) / 2 < ps.length := by omega
      obtain ⟨a, rfl, hb, c0, c1, c2, _, _⟩ := (HR.out.nil HK.out) ((i + j) / 2) hm
      obtain ⟨y, HY⟩ : ∃ y : Pr, Hid (y = ps[(i + j) / 2]) := ⟨ps[(i + j) / 2], (rfl : ps[(i + j) / 2] = ps[(i + j) / 2])⟩
      rw [← HY.out] at c0 c1 c2
      have CM := findF_any y key wr
      have HC : Hid (cmpB y.k key < 0 ↔ lessB y.k key = true) := (cmp_less y.k key).1
      generalize cmpB y.k key = z at *
      by_cases hz : z < 0
      · have HL : Hid (lessB y.k key = true) := HC.out.1 hz
        go_wp2_with fail
        go_fit CM
        rintro e w1 ⟨rfl, k1⟩
        have K1 : Hid (Kept Nil w w1) := HK.out.trans k1
        clear k1 CM
        go_wp2
        go_roundw
        case rel => exact ⟨(i + j) / 2 + 1, j, by omega, hjn, by congr 1, rfl, fun q hq hqi => (by
          by_cases e : q = (i + j) / 2
          · subst e; rw [← HY.out]; exact HL.out
          · have h1 := List.pairwise_iff_getElem.1 HS.out q ((i + j) / 2) hq hm (by omega)
            rw [← HY.out] at h1
            exact less_trans h1 HL.out), H2.out, K1.out⟩
        case measure => simp [intOf]; omega
      · have HL : Hid (lessB y.k key = false) := by
          show lessB y.k key = false
          cases hx : lessB y.k key
          · rfl
          · exact absurd (HC.out.2 hx) hz
        go_wp2_with fail
        go_fit CM
        rintro e w1 ⟨rfl, k1⟩
        have K1 : Hid (Kept Nil w w1) := HK.out.trans k1
        clear k1 CM
        go_wp2
        go_roundw
        case rel => exact ⟨i, (i + j) / 2, by omega, by omega, rfl, by congr 1, H1.out, fun q hq hqi => (by
          by_cases e : q = (i + j) / 2
          · subst e; rw [← HY.out]; exact HL.out
          · cases hx : lessB ps[q].k key
            · rfl
            · have h1 := List.pairwise_iff_getElem.1 HS.out ((i + j) / 2) q hm hq (by omega)
              rw [← HY.out] at h1
              have h2 := HL.out
              rw [less_trans h1 hx] at h2
              cases h2), K1.out⟩
        case measure => simp [intOf]; omega
    · obtain rfl : i = j := by omega
      have HLow : Hid (lowP key ps = i) := lowP_eq HS.out hjn H1.out H2.out
      by_cases hin : i < ps.length
      · have hii : (i : Int) < ps.length := by omega
        obtain ⟨a, rfl, hb, c0, c1, c2, _, _⟩ := (HR.out.nil HK.out) i hin
        obtain ⟨y, HY⟩ : ∃ y : Pr, Hid (y = ps[i]) := ⟨ps[i], (rfl : ps[i] = ps[i])⟩
        rw [← HY.out] at c0 c1 c2
        have HTH : Hid (isThere key ps = decide (y.k = key)) := by
          show isThere key ps = _
          unfold isThere
          rw [HLow.out, List.getElem?_eq_getElem hin, ← HY.out]
        have CM := findF_any y key wr
        have HC : Hid (cmpB y.k key = 0 ↔ y.k = key) := (cmp_less y.k key).2
        generalize cmpB y.k key = z at *
        go_wp2_with fail
        go_fit CM
        rintro e w1 ⟨rfl, k1⟩
        have K1 : Hid (Kept Nil w w1) := HK.out.trans k1
        clear k1 CM
        go_wp2
        go_ret2
        exact ⟨by rw [HLow.out, HTH.out, ← decide_eq_decide.2 HC.out]; first | rfl | (cases hd : decide (z = 0) <;> simp_all), K1.out⟩
      · have hii : ¬ (i : Int) < ps.length := by omega
        have HTH : Hid (isThere key ps = false) := by
          show isThere key ps = _
          unfold isThere
          rw [HLow.out, List.getElem?_eq_none (by omega)]
        go_wp2
        go_ret2
        exact ⟨by rw [HLow.out, HTH.out]; rfl, HK.out⟩

/-- A spot in memory: its key, value, version, the pairs, the place. -/
def SpotAt (w : World) (b : Nat) (k v : List UInt8) (n : Int) (ao : Option Addr) (len c : Nat) (at' : Int) : Prop := w.heap[b]? = some (.cells #[.string (bs k), .string (bs v), .int .i64 n, .slice ao len c, .int .i64 at'] 104 (0, 0))
/-- What a key has: its value and version; nothing, and version 0, if it is not there. -/
def spotV (key : List UInt8) (ps : List Pr) : List UInt8 := if isThere key ps = true then ((ps[lowP key ps]?).map Pr.v).getD [] else []
def spotN (key : List UInt8) (ps : List Pr) : Int := if isThere key ps = true then ((ps[lowP key ps]?).map Pr.n).getD 0 else 0
theorem kept_one {b i : Nat} {w X : World} (h : Kept (One b) w X) (u : Value) : Kept (One b) w (X.setCell ⟨b, i, none⟩ u) := h.setCell (p := ⟨b, i, none⟩) (fun _ => rfl) u
theorem there_at {key : List UInt8} {ps : List Pr} (h : isThere key ps = true) : ∃ hl : lowP key ps < ps.length, ps[lowP key ps].k = key ∧ spotV key ps = ps[lowP key ps].v ∧ spotN key ps = ps[lowP key ps].n := by
  have h' := h
  unfold isThere at h'
  by_cases hl : lowP key ps < ps.length
  · rw [List.getElem?_eq_getElem hl] at h'
    refine ⟨hl, of_decide_eq_true h', ?_, ?_⟩
    · unfold spotV; rw [if_pos h, List.getElem?_eq_getElem hl]; rfl
    · unfold spotN; rw [if_pos h, List.getElem?_eq_getElem hl]; rfl
  · rw [List.getElem?_eq_none (by omega)] at h'
    cases h'

set_option maxRecDepth 100000 in
set_option maxHeartbeats 2000000 in
theorem find_any (b c : Nat) (ao : Option Addr) (ps : List Pr) (key : List UInt8) (w : World) (h : PairRow w.heap.size w ao ps) (hs : Srt ps) (hl : ps.length ≤ 32) (hb : SpotAt w b [] [] 0 ao ps.length c 0) (hne : ∀ a, ao = some a → a.block ≠ b) :
    Calls Try.prog 76 #[.pointer (some ⟨b, 0, none⟩), .string (bs key)] w fun e w' => e = .returned (.tuple #[]) ∧ SpotAt w' b key (spotV key ps) (spotN key ps) ao ps.length c (lowP key ps) ∧ Kept (One b) w w' := by
  have HR : Hid (PairRow w.heap.size w ao ps) := h
  have HB : Hid (w.heap[b]? = some (.cells #[.string (bs []), .string (bs []), .int .i64 0, .slice ao ps.length c, .int .i64 0] 104 (0, 0))) := hb
  have HNE : Hid (∀ a, ao = some a → a.block ≠ b) := hne
  have BS := bsf_any w.heap.size c ao ps key w h hs hl
  have q3 : w.cell? ⟨b, 3, none⟩ = some (.slice ao ps.length c) := blk_at HB.out 3 rfl
  clear h hs hb hne
  obtain ⟨sv, HSV⟩ : ∃ x : List UInt8, Hid (x = spotV key ps) := ⟨_, rfl⟩
  obtain ⟨sn, HSN⟩ : ∃ x : Int, Hid (x = spotN key ps) := ⟨_, rfl⟩
  obtain ⟨lo, HLO⟩ : ∃ x : Nat, Hid (x = lowP key ps) := ⟨_, rfl⟩
  obtain ⟨th, HTH⟩ : ∃ x : Bool, Hid (x = isThere key ps) := ⟨_, rfl⟩
  rw [← HSV.out, ← HSN.out, ← HLO.out]
  rw [← HLO.out, ← HTH.out] at BS
  go_enter Try.func76, Try.ntmps76
  go_wp2_with fail
  go_fit BS
  rintro e w1 ⟨rfl, k1⟩
  have K1 : Hid (Kept Nil w w1) := k1
  have HB1 : Hid (w1.heap[b]? = some (.cells #[.string (bs []), .string (bs []), .int .i64 0, .slice ao ps.length c, .int .i64 0] 104 (0, 0))) := k1.block _ _ HB.out (fun x => x.elim)
  clear k1 BS q3
  have p0 : w1.cell? ⟨b, 0, none⟩ = some (.string (bs [])) := blk_at HB1.out 0 rfl
  have p1 : w1.cell? ⟨b, 1, none⟩ = some (.string (bs [])) := blk_at HB1.out 1 rfl
  have p2 : w1.cell? ⟨b, 2, none⟩ = some (.int .i64 0) := blk_at HB1.out 2 rfl
  have p3 : w1.cell? ⟨b, 3, none⟩ = some (.slice ao ps.length c) := blk_at HB1.out 3 rfl
  have p4 : w1.cell? ⟨b, 4, none⟩ = some (.int .i64 0) := blk_at HB1.out 4 rfl
  have z0 : w1.frozen? ⟨b, 0, none⟩ = false := blk_free HB1.out 0
  have z1 : w1.frozen? ⟨b, 1, none⟩ = false := blk_free HB1.out 1
  have z2 : w1.frozen? ⟨b, 2, none⟩ = false := blk_free HB1.out 2
  have z4 : w1.frozen? ⟨b, 4, none⟩ = false := blk_free HB1.out 4
  cases th with
  | false =>
    have HV : Hid (sv = [] ∧ sn = 0) := ⟨by rw [HSV.out]; unfold spotV; rw [← HTH.out]; rfl, by rw [HSN.out]; unfold spotN; rw [← HTH.out]; rfl⟩
    go_wp2
    go_end0
    refine ⟨rfl, ?_, kept_one (kept_one (K1.out.mono (fun _ _ x => x.elim)) _) _⟩
    rw [HV.out.1, HV.out.2]
    exact blk_set (blk_set HB1.out 4 _) 0 _
  | true =>
    obtain ⟨hl', e1, e2, e3⟩ := there_at HTH.out.symm
    obtain ⟨a, rfl, hba, c0, c1, c2, _, _⟩ := (HR.out.nil K1.out) (lowP key ps) hl'
    have hne2 := HNE.out a rfl
    rw [e1] at c0
    rw [← e2, ← HSV.out] at c1
    rw [← e3, ← HSN.out] at c2
    rw [← HLO.out] at c0 c1 c2
    have hlo : lo < ps.length := by rw [HLO.out]; exact hl'
    clear e1 e2 e3
    have hne3 : (a.add (lo * 3)).block ≠ b := by rw [add_block]; exact hne2
    have hai : (lo : Int) < ps.length := by omega
    obtain ⟨W2, hW2⟩ : ∃ W, W = (w1.setCell ⟨b, 4, none⟩ (.int .i64 lo)).setCell ⟨b, 0, none⟩ (.string (bs key)) := ⟨_, rfl⟩
    have KO : Hid (Kept (One b) w1 W2) := by rw [hW2]; exact kept_one (kept_one (Kept.refl _ _) _) _
    have HB2 : Hid (W2.heap[b]? = some (.cells #[.string (bs key), .string (bs []), .int .i64 0, .slice (some a) ps.length c, .int .i64 lo] 104 (0, 0))) := by rw [hW2]; exact blk_set (blk_set HB1.out 4 _) 0 _
    have d0 := cell_kept KO.out (fun o e => hne3 e) c0
    have d1 : W2.cell? ⟨(a.add (lo * 3)).block, (a.add (lo * 3)).off + 1, none⟩ = some (.string (bs sv)) := cell_kept KO.out (fun o e => hne3 e) c1
    have d2 : W2.cell? ⟨(a.add (lo * 3)).block, (a.add (lo * 3)).off + 2, none⟩ = some (.int .i64 sn) := cell_kept KO.out (fun o e => hne3 e) c2
    go_upto_region 3 with fail
    rw [← hW2]
    clear hW2 c0 c1 c2 p0 p1 p2 p3 p4 z0 z1 z2 z4
    have p0 : W2.cell? ⟨b, 0, none⟩ = some (.string (bs key)) := blk_at HB2.out 0 rfl
    have p1 : W2.cell? ⟨b, 1, none⟩ = some (.string (bs [])) := blk_at HB2.out 1 rfl
    have p2 : W2.cell? ⟨b, 2, none⟩ = some (.int .i64 0) := blk_at HB2.out 2 rfl
    have p3 : W2.cell? ⟨b, 3, none⟩ = some (.slice (some a) ps.length c) := blk_at HB2.out 3 rfl
    have z0 : W2.frozen? ⟨b, 0, none⟩ = false := blk_free HB2.out 0
    have z1 : W2.frozen? ⟨b, 1, none⟩ = false := blk_free HB2.out 1
    have z2 : W2.frozen? ⟨b, 2, none⟩ = false := blk_free HB2.out 2
    go_wp2
    go_end0
    exact ⟨rfl, blk_set (blk_set (blk_set HB2.out 0 _) 1 _) 2 _, kept_one (kept_one (kept_one ((K1.out.mono (fun _ _ x => x.elim)).trans KO.out) _) _) _⟩

end Go.Proofs.Ytilolhjlokfkeaa
