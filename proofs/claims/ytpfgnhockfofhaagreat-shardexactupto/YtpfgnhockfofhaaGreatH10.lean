/-
  Joined: WDx2.
-/
import Derived.Test.YtpfgnhockfofhaaGreatH09
import Derived.Test.YtpfgnhockfofhaaGreatH04
import Derived.Deep.LoopGhost
/-
  DelegExact: the document's edges.
-/
namespace Go.Proofs.YtpfgnhockfofhaaGreat
open Go.RowKit

/-- A text put into its place. -/
def insT (out : List (List UInt8)) (x : List UInt8) : List (List UInt8) := if out[out.findIdx (fun y => !lessB y x)]? = some x then out else out.take (out.findIdx (fun y => !lessB y x)) ++ [x] ++ out.drop (out.findIdx (fun y => !lessB y x))
def edgesL (l : List Bd) (fr up : List UInt8) : List (List UInt8) := (fr :: up :: l.map Bd.f).foldl insT []
theorem insT_len (out : List (List UInt8)) (x : List UInt8) : (insT out x).length ≤ out.length + 1 := by
  unfold insT
  split
  · omega
  · simp [List.length_take, List.length_drop]
    have := List.findIdx_le_length (p := fun y => !lessB y x) (xs := out)
    omega
theorem OwnTd.block {B c : Nat} {w : World} {ao : Option Addr} {ks : List (List UInt8)} (h : OwnTd B w ao c ks) (h0 : ao ≠ none) : ∃ g cs, ao = some ⟨g, 0, none⟩ ∧ B ≤ g ∧ w.heap[g]? = some (.cells cs 9 (0, 0)) ∧ ks.length ≤ c ∧ c ≤ maxLen ∧ cs.size = c ∧ cs.toList.take ks.length = tdCells ks := by
  rcases h.2 with ⟨h1, h2⟩ | ⟨g, cap, cur, hv, hb, hh, h1, h2, h3, h4⟩
  · simp only [Value.slice.injEq] at h1
    exact absurd h1.1 h0
  · simp only [Value.slice.injEq] at hv
    obtain ⟨rfl, _, rfl⟩ := hv
    exact ⟨g, cur, rfl, hb, hh, h1, h2, by omega, by rw [Nat.mul_one] at h4; exact h4⟩
theorem OwnTd.none {B c : Nat} {w : World} {ks : List (List UInt8)} (h : OwnTd B w none c ks) : ks = [] ∧ c = 0 := by
  rcases h.2 with ⟨h1, _⟩ | ⟨g, cap, cur, hv, _⟩
  · simp at h1
    exact ⟨h1.1, h1.2⟩
  · simp at hv
theorem OwnTd.mono {B B' c : Nat} {w : World} {ao : Option Addr} {ps : List (List UInt8)} (h : OwnTd B w ao c ps) (hb : B' ≤ B) : OwnTd B' w ao c ps := by
  refine ⟨h.1, h.2.imp id ?_⟩
  rintro ⟨g, cap, cur, h1, h2, h3⟩
  exact ⟨g, cap, cur, h1, Nat.le_trans hb h2, h3⟩
theorem OwnTd.cellT {B c g j : Nat} {w : World} {ks : List (List UInt8)} (h : OwnTd B w (some ⟨g, 0, .none⟩) c ks) (hj : j < ks.length) : w.cell? ⟨g, j, .none⟩ = some (.string (bs ks[j])) := by
  obtain ⟨g', e, _, hc⟩ := h.cell hj
  cases e
  exact hc
theorem OwnTd.head {B g c i : Nat} {w : World} {fs : List (List UInt8)} (h : OwnTd B w (some ⟨g, 0, .none⟩) c fs) (hi : i ≤ fs.length) : w.ownsRow B 9 1 (.slice (some ⟨g, 0, .none⟩) i c) i (tdCells (fs.take i)) := by
  obtain ⟨g', cs, e0, hb, hh, h1, h2, h3, h4⟩ := h.block (by simp)
  cases e0
  refine ⟨by rw [tdCells_len, List.length_take]; omega, .inr ⟨g, c, cs, rfl, hb, hh, by omega, h2, by omega, ?_⟩⟩
  rw [Nat.mul_one, show tdCells (fs.take i) = (tdCells fs).take i by simp [tdCells, List.map_take], ← h4, List.take_take, Nat.min_eq_left hi]
theorem OwnTd.srcD {B g c i d : Nat} {w : World} {fs : List (List UInt8)} (h : OwnTd B w (some ⟨g, 0, .none⟩) c fs) : Src Tryz.prog 1 27 (.slice (some ⟨g, i, .none⟩) (fs.length - i) d) (fs.length - i) (tdCells (fs.drop i)) w := by
  refine Src.ofSlice _ Tryz.underlying27 ⟨g, i, .none⟩ (fs.length - i) d _ (by rw [tdCells_len, List.length_drop]) ?_ (tdCells_one _)
  intro j u hj
  have hlt : j < fs.length - i := by have := (List.getElem?_eq_some_iff.1 hj).1; simpa [tdCells] using this
  have hc := h.cellT (j := i + j) (by omega)
  have e : (⟨g, i, .none⟩ : Addr).add j = ⟨g, i + j, .none⟩ := by unfold Addr.add; split <;> simp_all
  rw [e, hc, ← hj]
  simp [tdCells, show i + j < fs.length by omega]
theorem OwnTd.src {B c : Nat} {w : World} {ao : Option Addr} {fs : List (List UInt8)} (h : OwnTd B w ao c fs) : Src Tryz.prog 1 27 (.slice ao fs.length c) fs.length (tdCells fs) w := by
  cases ao with
  | none =>
    obtain ⟨rfl, rfl⟩ := h.none
    exact Src.ofNil _ Tryz.underlying27 0
  | some a =>
    obtain ⟨g, cs, e0, _⟩ := h.block (by simp)
    cases e0
    exact h.srcD (i := 0)
theorem oneT_src (w : World) (x : List UInt8) : Src Tryz.prog 1 27 (.slice (some ⟨w.heap.size, 0, .none⟩) 1 1) 1 [.string (bs x)] (w.alloc (.cells #[.string (bs x)] 9)) := by
  refine Src.ofSlice _ Tryz.underlying27 ⟨w.heap.size, 0, .none⟩ 1 1 _ rfl ?_ (fun u hu => by simp at hu; subst hu; rfl)
  intro j u hj
  have : j = 0 := by have := (List.getElem?_eq_some_iff.1 hj).1; simpa using this
  subst this
  rw [addr_addE, blk_cell (blk_new w (.cells #[.string (bs x)] 9)), ← hj]
  rfl
theorem OwnTd.app {B c n m : Nat} {w : World} {ao : Option Addr} {fs gs : List (List UInt8)} (hn : n = fs.length) (hm : m = gs.length) (h : w.ownsRow B 9 1 (.slice ao (n + m) c) (n + m) (tdCells fs ++ tdCells gs)) : OwnTd B w ao c (fs ++ gs) := by
  subst hn
  subst hm
  show World.ownsRow _ _ _ _ _ _ _
  rw [List.length_append, show tdCells (fs ++ gs) = tdCells fs ++ tdCells gs by simp [tdCells]]
  exact h

set_option maxRecDepth 100000 in
set_option maxHeartbeats 8000000 in
theorem edges_any (B c : Nat) (a : Addr) (ps : List Bd) (fr up : List UInt8) (w : World) (h : BdRow B w (some a) ps) (hl : (ps.length : Int) ≤ 5864062014800) :
    Calls Tryz.prog 76 #[.slice (some a) ps.length c, .string (bs fr), .string (bs up)] w fun e w' => ∃ ao co, e = .returned (.slice ao (edgesL ps fr up).length co) ∧ OwnTd w.heap.size w' ao co (edgesL ps fr up) ∧ Kept Nil w w' := by
  have HR : Hid (BdRow B w (some a) ps) := h
  obtain ⟨j0, hj, hy0, hy1, hy2⟩ := info_parts Tryz.infoTd
  obtain ⟨al, HAL⟩ : ∃ al, Hid (al = fr :: up :: ps.map Bd.f) := ⟨_, rfl⟩
  have HALn : Hid (al.length = ps.length + 2) := by show _ = _; rw [HAL.out]; simp
  have HAi : ∀ i, Hid ((fr :: up :: (ps.take i).map Bd.f) = al.take (i + 2)) := fun i => by show _ = _; rw [HAL.out]; simp [List.map_take]
  obtain ⟨rs, HRS⟩ : ∃ rs, Hid (rs = edgesL ps fr up) := ⟨_, rfl⟩
  have HRE : Hid (rs = al.foldl insT []) := by show _ = _; rw [HRS.out, HAL.out]; rfl
  rw [← HRS.out]
  have HA0 : Hid (OwnTd w.heap.size (w.alloc (.cells #[.string (bs fr), .string (bs up)] 9)) (some ⟨w.heap.size, 0, none⟩) 2 (al.take 2)) := by
    have e : al.take 2 = [fr, up] := by rw [HAL.out]; rfl
    rw [e]
    exact World.ownsRow_lit w #[.string (bs fr), .string (bs up)] 2 (Nat.le_refl _) (by decide) rfl
  clear h
  go_enter Tryz.func76, Tryz.ntmps76
  go_upto_block 0 with fail
  go_cut [7] (fun s wc => ∃ aA cA, s = .slice aA al.length cA ∧ Hid (OwnTd w.heap.size wc aA cA al) ∧ Hid (Kept Nil w wc))
  case first =>
    go_wp2_with fail
    go_loopw [7, 8] (fun s u wr => ∃ i cA : Nat, ∃ aA : Option Addr, i ≤ ps.length ∧ u = .int .i64 i ∧ s = .slice aA (i + 2) cA ∧ Hid (OwnTd w.heap.size wr aA cA (al.take (i + 2))) ∧ Hid (Kept Nil w wr)) (fun _ u _ => ps.length - (intOf u).toNat)
    case atStart => exact ⟨0, 2, _, Nat.zero_le _, rfl, rfl, HA0.out, (Kept.refl _ _).alloc _⟩
    case round =>
      obtain ⟨i, cA, aA, hin, rfl, rfl, HA, HK⟩ := hrel
      by_cases hlt : i < ps.length
      · have hli : (i : Int) < ps.length := by omega
        obtain ⟨c0, c1, _⟩ := (HR.out.nil HK.out).at2 hlt
        obtain ⟨y, HY⟩ : ∃ y : Bd, Hid (y = ps[i]) := ⟨ps[i], (rfl : ps[i] = ps[i])⟩
        rw [← HY.out] at c0 c1
        have hll : (al.take (i + 2)).length = i + 2 := by rw [List.length_take, HALn.out]; omega
        have HAo : Hid (wr.ownsRow w.heap.size 9 1 (.slice aA (i + 2) cA) (i + 2) (tdCells (al.take (i + 2)))) := by have o := HA.out; unfold OwnTd at o; rw [hll] at o; exact o
        have HNx : Hid (al.take (i + 1 + 2) = al.take (i + 2) ++ [y.f]) := by
          have e : al[i + 2]? = some y.f := by rw [HAL.out, HY.out]; simp [hlt]
          show _ = _
          rw [show i + 1 + 2 = (i + 2) + 1 by omega, List.take_add_one, e]
          rfl
        have HLL : Hid (i + 2 + 1 ≤ maxLen ∧ (i + 2 + 1) * 16 ≤ 140737488355328) := by constructor <;> (try unfold maxLen) <;> omega
        go_wp2_with (at_builtin; go_must (refine wpList_append_src _ rfl _ _ 27 27 rfl w.heap.size 9 j0 (.string ⟨#[]⟩) 1 16 Tryz.underlying27 hj hy0 hy1 hy2 rfl (.slice aA (i + 2) cA) (i + 2) (tdCells (al.take (i + 2))) rfl (World.ownsRow.alloc HAo.out _) (.slice (some ⟨wr.heap.size, 0, none⟩) 1 1) 1 [.string (bs y.f)] rfl (oneT_src wr y.f) HLL.out.1 HLL.out.2 (le_alloc HK.out.size _) ?_); intro aA2 cA2 w2 ho2 hg2; have HA2 : Hid (OwnTd w.heap.size w2 aA2 cA2 (al.take (i + 1 + 2))) := (by rw [HNx.out]; exact OwnTd.app (gs := [y.f]) hll.symm rfl ho2); have K2 : Hid (Kept Nil w w2) := (HK.out.alloc _).grown hg2 (fun k hk => own_row HAo.out k hk); clear ho2 hg2)
        go_roundw
        case rel => exact ⟨i + 1, cA2, aA2, by omega, by go_num, (by first | rfl | (congr 1; omega)), HA2.out, K2.out⟩
        case measure => simp [intOf]; omega
      · obtain rfl : i = ps.length := by omega
        have hirr : ¬ (ps.length : Int) < ps.length := by omega
        go_wp2
        go_meet
        have e : al.take (ps.length + 2) = al := List.take_of_length_le (by rw [HALn.out]; omega)
        exact ⟨aA, cA, by rw [HALn.out], by have := HA.out; rw [e] at this; exact this, HK.out⟩
  case rest =>
    obtain ⟨aA, cA, rfl, HA, HK1⟩ := hcut
    rename World => w1
    have HAs : Hid (∀ X, Kept Nil w1 X → ∀ j, (hj : j < al.length) → ∃ gA, aA = some ⟨gA, 0, none⟩ ∧ X.cell? ⟨gA, j, none⟩ = some (.string (bs al[j]))) := fun X kX j hj => by
      obtain ⟨g, e, _, hc⟩ := (HA.out.kept kX).cell hj
      exact ⟨g, e, hc⟩
    clear HA
    go_upto_block 2 with fail
    go_cut [9] (fun s wc => ∃ ao co, s = .slice ao rs.length co ∧ Hid (OwnTd w1.heap.size wc ao co rs) ∧ Hid (Kept Nil w1 wc))
    case first =>
      go_wp2_with fail
      go_loopw [9, 10] (fun s u wr => ∃ i co : Nat, ∃ ao : Option Addr, ∃ out : List (List UInt8), i ≤ al.length ∧ u = .int .i64 i ∧ s = .slice ao out.length co ∧ Hid (out = (al.take i).foldl insT []) ∧ out.length ≤ i ∧ Hid (OwnTd w1.heap.size wr ao co out) ∧ Hid (Kept Nil w1 wr)) (fun _ u _ => al.length - (intOf u).toNat)
      case atStart => exact ⟨0, 0, none, [], Nat.zero_le _, rfl, rfl, rfl, Nat.le_refl _, World.ownsRow_nil _ _ _ _, Kept.refl _ _⟩
      case round =>
        obtain ⟨i, co, ao, out, hin, rfl, rfl, HOut, hon, HO, HK⟩ := hrel
        by_cases hlt : i < al.length
        · have hli : (i : Int) < al.length := by omega
          have HLt : Hid (i < al.length ∧ out.length ≤ i) := ⟨hlt, hon⟩
          have hib : (i : Int) ≤ 9000000000000000000 := by have := HALn.out; omega
          obtain ⟨wo, hwo⟩ : ∃ x : World, x = wr := ⟨_, rfl⟩
          rw [← hwo] at HO HK ⊢
          clear hwo
          obtain ⟨gA, eA, _⟩ := HAs.out wo HK.out i hlt
          cases eA
          obtain ⟨x, HX⟩ : ∃ x : List UInt8, Hid (x = al[i]) := ⟨al[i], (rfl : al[i] = al[i])⟩
          have HCx : ∀ X, Kept Nil w1 X → X.cell? ⟨gA, i, none⟩ = some (.string (bs x)) := fun X kX => by
            obtain ⟨g, e, hc⟩ := HAs.out X kX i hlt
            cases e
            rw [HX.out]; exact hc
          have HNx : Hid ((al.take (i + 1)).foldl insT [] = insT out x) := by show _ = _; rw [List.take_succ_eq_append_getElem hlt, List.foldl_append, ← HOut.out, HX.out]; rfl
          have hle : out.length ≤ co ∧ co ≤ 9223372036854775807 := by
            cases ao with
            | none => obtain ⟨e1, e2⟩ := HO.out.none; rw [e1, e2]; simp
            | some a' => obtain ⟨_, _, _, _, _, h9, h8, _⟩ := HO.out.block (by simp); exact ⟨h9, h8⟩
          have t1 := bs_toList x
          go_upto_block 4 with fail
          go_cut [11] from 36 to 52 (fun s wc => ∃ k : Nat, s = .int .i64 k ∧ k ≤ out.length ∧ Hid (out.findIdx (fun y => !lessB y x) = k) ∧ Hid (Kept Nil wo wc))
          case first =>
            go_wp2_with fail
            go_loopw [11] (fun u wr => ∃ k : Nat, k ≤ out.length ∧ u = .int .i64 k ∧ Hid (∀ j, (hj : j < out.length) → j < k → lessB out[j] x = true) ∧ Hid (Kept Nil wo wr)) (fun u _ => out.length - (intOf u).toNat)
            case atStart => exact ⟨0, Nat.zero_le _, rfl, fun j _ h => by omega, Kept.refl _ _⟩
            case round =>
              obtain ⟨k, hk, rfl, HN, HKq⟩ := hrel
              have cx := HCx wr (HK.out.trans HKq.out)
              by_cases hkl : k < out.length
              · have hki : (k : Int) < out.length := by omega
                have hkd : decide ((k : Int) < out.length) = true := decide_eq_true hki
                obtain ⟨g, eg, _, c0⟩ := (HO.out.kept HKq.out).cell hkl
                cases eg
                obtain ⟨y, HY⟩ : ∃ y : List UInt8, Hid (y = out[k]) := ⟨out[k], (rfl : out[k] = out[k])⟩
                rw [← HY.out] at c0
                have t2 := bs_toList y
                cases h1 : lessB y x with
                | true =>
                  have a1 : Op.bytesLess y x = true := h1
                  have HLy : Hid (lessB y x = true) := h1
                  clear h1
                  go_wp2_with fail
                  go_quiet (fail)
                  go_wp2
                  go_roundw
                  case rel => exact ⟨k + 1, by omega, by go_num, fun j hj hjk => (by
                    by_cases e : j = k
                    · subst e; rw [← HY.out]; exact HLy.out
                    · exact HN.out j hj (by omega)), HKq.out.drewN _⟩
                  case measure => simp [intOf]; omega
                | false =>
                  have a1 : Op.bytesLess y x = false := h1
                  have HFI : Hid (out.findIdx (fun y => !lessB y x) = k) := (List.findIdx_eq hkl).2 ⟨by rw [← HY.out, h1]; rfl, fun j hj => by rw [HN.out j (by omega) hj]; rfl⟩
                  clear h1
                  go_wp2_with fail
                  go_quiet (fail)
                  go_wp2
                  go_meet
                  exact ⟨k, rfl, hk, HFI.out, HKq.out.drewN _⟩
              · have hki : ¬ (k : Int) < out.length := by omega
                have hkd : decide ((k : Int) < out.length) = false := decide_eq_false hki
                have HFI : Hid (out.findIdx (fun y => !lessB y x) = k) := by
                  show _ = _
                  obtain rfl : k = out.length := by omega
                  exact List.findIdx_eq_length.2 (fun z hz => by
                    obtain ⟨j, hj, rfl⟩ := List.getElem_of_mem hz
                    rw [HN.out j hj hj]; rfl)
                go_wp2_with fail
                go_quiet (fail)
                go_wp2
                go_meet
                exact ⟨k, rfl, hk, HFI.out, HKq.out.drewN _⟩
          case rest =>
            obtain ⟨k, rfl, hk, HFI, HKc⟩ := hcut
            rename World => w5
            have HO5 : Hid (OwnTd w1.heap.size w5 ao co out) := HO.out.kept HKc.out
            have K5 : Hid (Kept Nil w1 w5) := HK.out.trans HKc.out
            have cx := HCx w5 K5.out
            obtain ⟨t, HTt⟩ : ∃ t : Bool, Hid (t = decide (out[k]? = some x)) := ⟨_, rfl⟩
            go_upto_region 13 with fail
            go_cut [67] from 30 to 82 (fun s wc => s = .bool t ∧ Hid (Kept Nil w5 wc))
            case first =>
              by_cases hkl : k < out.length
              · have hki : (k : Int) < out.length := by omega
                have hkd : decide ((k : Int) < out.length) = true := decide_eq_true hki
                obtain ⟨g, eg, _, c0⟩ := HO5.out.cell hkl
                cases eg
                obtain ⟨y, HY⟩ : ∃ y : List UInt8, Hid (y = out[k]) := ⟨out[k], (rfl : out[k] = out[k])⟩
                rw [← HY.out] at c0
                have t2 := bs_toList y
                have HTe : Hid (t = decide (y = x)) := by show _ = _; rw [HTt.out, List.getElem?_eq_getElem hkl, ← HY.out]; simp
                go_quiet (fail)
                go_wp2
                go_meet
                exact ⟨by rw [HTe.out]; first | rfl | (by_cases e : y = x <;> simp [e]), (Kept.refl _ _).drewN _⟩
              · have hki : ¬ (k : Int) < out.length := by omega
                have hkd : decide ((k : Int) < out.length) = false := decide_eq_false hki
                have HTe : Hid (t = false) := by show _ = _; rw [HTt.out, List.getElem?_eq_none (by omega)]; rfl
                go_quiet (fail)
                go_wp2
                go_meet
                exact ⟨by rw [HTe.out], (Kept.refl _ _).drewN _⟩
            case rest =>
              obtain ⟨rfl, KC⟩ := hcut
              rename World => w6
              have HO6 : Hid (OwnTd w1.heap.size w6 ao co out) := HO5.out.kept KC.out
              have K6 : Hid (Kept Nil w1 w6) := K5.out.trans KC.out
              cases t with
              | true =>
                have HIn : Hid (insT out x = out) := by show _ = _; unfold insT; rw [HFI.out, if_pos (of_decide_eq_true HTt.out.symm)]
                go_wp2
                go_roundw
                case rel => exact ⟨i + 1, co, ao, out, (by have := HLt.out; omega), by go_num, rfl, (by show out = _; rw [HNx.out, HIn.out]), (by have := HLt.out; omega), HO6.out, K6.out⟩
                case measure => have := HLt.out; simp [intOf]; omega
              | false =>
                have HIn : Hid (insT out x = out.take k ++ [x] ++ out.drop k) := by show _ = _; unfold insT; rw [HFI.out, if_neg (of_decide_eq_false HTt.out.symm)]
                clear cx
                have HLf : Hid (out.length + 1 ≤ maxLen ∧ (out.length + 1) * 16 ≤ 140737488355328) := by have h1 := HLt.out; have h2 := HALn.out; constructor <;> (try unfold maxLen) <;> omega
                have HLk : Hid (0 + (out.length - k) ≤ maxLen ∧ (0 + (out.length - k)) * 16 ≤ 140737488355328) := by have h1 := HLf.out; constructor <;> omega
                have HLk1 : Hid (k + 1 ≤ maxLen ∧ (k + 1) * 16 ≤ 140737488355328) := by have h1 := HLf.out; constructor <;> omega
                have HLk2 : Hid (k + 1 + (out.length - k) ≤ maxLen ∧ (k + 1 + (out.length - k)) * 16 ≤ 140737488355328) := by have h1 := HLf.out; constructor <;> omega
                have hkc : (k : Int) ≤ (co : Int) := by omega
                have hkl : (k : Int) ≤ (out.length : Int) := by omega
                have hlc : (out.length : Int) ≤ (co : Int) := by omega
                have HdL : Hid ((out.drop k).length = out.length - k) := List.length_drop
                have HtL : Hid ((out.take k).length = k) := by show _ = _; rw [List.length_take]; omega
                go_upto_region 14 with fail
                go_cut [12] from 30 to 82 (fun s wc => ∃ aR cR, s = .slice aR (out.length - k) cR ∧ Hid (OwnTd w6.heap.size wc aR cR (out.drop k)) ∧ Hid (Kept Nil w6 wc))
                case first =>
                  cases ao with
                  | none =>
                    obtain ⟨e1, e2⟩ := HO6.out.none
                    have e3 : k = 0 := by rw [e1] at hk; simpa using hk
                    clear HLk HLk1 HLk2 HLf HdL HtL HIn HNx HOut HO HO5 HO6 HFI HTt HLt
                    subst e1
                    subst e2
                    subst e3
                    have SRC : Hid (Src Tryz.prog 1 27 (.slice none 0 0) 0 [] w6) := Src.ofNil _ Tryz.underlying27 0
                    go_wp2_with (at_builtin; go_must (refine wpList_append_src _ rfl _ _ 27 27 rfl w6.heap.size 9 j0 (.string ⟨#[]⟩) 1 16 Tryz.underlying27 hj hy0 hy1 hy2 rfl (.slice none 0 0) 0 [] rfl (World.ownsRow_nil _ _ _ _) (.slice none 0 0) 0 [] rfl SRC.out (by decide) (by decide) (Nat.le_refl _) ?_); intro aR cR w7 ho7 hg7; have HO7 : Hid (w7.ownsRow w6.heap.size 9 1 (.slice aR (0 + 0) cR) (0 + 0) ([] ++ [])) := ho7; have K7 : Hid (Kept Nil w6 w7) := (Kept.refl _ _).grown hg7 (fun k hk => by simp [Value.ownBlock] at hk); clear ho7 hg7)
                    go_meet
                    exact ⟨aR, cR, rfl, HO7.out, K7.out⟩
                  | some a0 =>
                    obtain ⟨g, _, eg, _⟩ := HO6.out.block (by simp)
                    cases eg
                    by_cases hkco : k = co
                    · have hko : k = out.length := by omega
                      have HDn : Hid (out.drop k = []) := List.drop_of_length_le (by omega)
                      have SRC : Hid (Src Tryz.prog 1 27 (.slice (some ⟨g, 0, none⟩) 0 0) 0 [] w6) := Src.ofSlice _ Tryz.underlying27 ⟨g, 0, none⟩ 0 0 [] rfl (fun j u hj => by simp at hj) (fun u hu => by simp at hu)
                      subst hkco
                      subst hko
                      go_wp2_with (at_builtin; go_must (refine wpList_append_src _ rfl _ _ 27 27 rfl w6.heap.size 9 j0 (.string ⟨#[]⟩) 1 16 Tryz.underlying27 hj hy0 hy1 hy2 rfl (.slice none 0 0) 0 [] rfl (World.ownsRow_nil _ _ _ _) (.slice (some ⟨g, 0, none⟩) 0 0) 0 [] rfl SRC.out (by decide) (by decide) (Nat.le_refl _) ?_); intro aR cR w7 ho7 hg7; have HO7 : Hid (w7.ownsRow w6.heap.size 9 1 (.slice aR (0 + 0) cR) (0 + 0) ([] ++ [])) := ho7; have K7 : Hid (Kept Nil w6 w7) := (Kept.refl _ _).grown hg7 (fun k hk => by simp [Value.ownBlock] at hk); clear ho7 hg7)
                      go_meet
                      exact ⟨aR, cR, by rw [Nat.sub_self], by rw [HDn.out]; exact HO7.out, K7.out⟩
                    · have hkc2 : (k : Int) < (co : Int) := by omega
                      have SRC : Hid (Src Tryz.prog 1 27 (.slice (some ⟨g, k, none⟩) (out.length - k) (co - k)) (out.length - k) (tdCells (out.drop k)) w6) := HO6.out.srcD
                      go_wp2_with (at_builtin; go_must (refine wpList_append_src _ rfl _ _ 27 27 rfl w6.heap.size 9 j0 (.string ⟨#[]⟩) 1 16 Tryz.underlying27 hj hy0 hy1 hy2 rfl (.slice none 0 0) 0 [] rfl (World.ownsRow_nil _ _ _ _) (.slice (some ⟨g, k, none⟩) (out.length - k) (co - k)) (out.length - k) (tdCells (out.drop k)) rfl SRC.out HLk.out.1 HLk.out.2 (Nat.le_refl _) ?_); intro aR cR w7 ho7 hg7; have HO7 : Hid (w7.ownsRow w6.heap.size 9 1 (.slice aR (0 + (out.length - k)) cR) (0 + (out.length - k)) ([] ++ tdCells (out.drop k))) := ho7; have K7 : Hid (Kept Nil w6 w7) := (Kept.refl _ _).grown hg7 (fun k hk => by simp [Value.ownBlock] at hk); clear ho7 hg7)
                      go_meet
                      refine ⟨aR, cR, rfl, ?_, K7.out⟩
                      have o := HO7.out
                      rw [Nat.zero_add, List.nil_append, ← HdL.out] at o
                      exact o
                case rest =>
                  obtain ⟨aR, cR, rfl, HR7, K67⟩ := hcut
                  rename World => w7
                  have HO7 : Hid (OwnTd w1.heap.size w7 ao co out) := HO6.out.kept K67.out
                  have K7 : Hid (Kept Nil w1 w7) := K6.out.trans K67.out
                  have cx := HCx w7 K7.out
                  have HOk : Hid (w7.ownsRow w1.heap.size 9 1 (.slice ao k co) k (tdCells (out.take k))) := by
                    cases ao with
                    | none =>
                      obtain ⟨e1, e2⟩ := HO7.out.none
                      have e3 : k = 0 := by rw [e1] at hk; simpa using hk
                      rw [e2, e3]
                      exact World.ownsRow_nil _ _ _ _
                    | some a0 =>
                      obtain ⟨g, _, eg, _⟩ := HO7.out.block (by simp)
                      cases eg
                      exact HO7.out.head hk
                  have HFar : Hid (∀ g', (Value.slice aR (out.drop k).length cR).ownBlock = some g' → (Value.slice ao k co).ownBlock ≠ some g') := fun g' h1 h2 => by
                    have b1 := own_row HR7.out g' h1
                    cases ao with
                    | none => simp [Value.ownBlock] at h2
                    | some a0 =>
                      obtain ⟨g, _, eg, _, hh, _⟩ := HO6.out.block (by simp)
                      cases eg
                      simp [Value.ownBlock] at h2
                      have := lt_of_block hh
                      omega
                  have HR7o : Hid (w7.ownsRow w6.heap.size 9 1 (.slice aR (out.drop k).length cR) (out.drop k).length (tdCells (out.drop k))) := HR7.out
                  have KVw : Hid (Kept Nil w1 (w7.drew.alloc (.cells #[.string (bs x)] 9))) := K7.out.drew.alloc _
                  have HOV : Hid ((w7.drew.alloc (.cells #[.string (bs x)] 9)).ownsRow w1.heap.size 9 1 (.slice ao k co) k (tdCells (out.take k))) := own_kept (X := Nil) HOk.out ((Kept.refl _ _).drew.alloc _) (fun _ _ _ x => x.elim)
                  have HRV : Hid ((w7.drew.alloc (.cells #[.string (bs x)] 9)).ownsRow w6.heap.size 9 1 (.slice aR (out.drop k).length cR) (out.drop k).length (tdCells (out.drop k))) := own_kept (X := Nil) HR7o.out ((Kept.refl _ _).drew.alloc _) (fun _ _ _ x => x.elim)
                  obtain ⟨m, HMe⟩ : ∃ m, Hid (m = out.length - k) := ⟨_, rfl⟩
                  have HdM : Hid ((out.drop k).length = m) := by show _ = _; rw [HMe.out]; exact HdL.out
                  rw [HdM.out] at HRV HFar
                  rw [← HMe.out]
                  rw [← HMe.out] at HLk2
                  go_upto_region 15 with fail
                  have HLn : Hid ((out.take k ++ [x] ++ out.drop k).length = k + 1 + m) := by show _ = _; rw [List.length_append, List.length_append, HtL.out, HdM.out]; rfl
                  have HLe : Hid (k + 1 + m = out.length + 1) := by show _ = _; rw [HMe.out]; omega
                  cases ao with
                  | none =>
                    obtain ⟨e1, e2⟩ := HO7.out.none
                    have e3 : k = 0 := by rw [e1] at hk; simpa using hk
                    clear HO HO5 HO6 HO7 HOk
                    subst e2
                    subst e3
                    go_region_held3 (fun w' => w'.cell? ⟨gA, i, none⟩ = some (.string (bs x))) (first | assumption | go_keep) (first | (refine step_append_src (w7.drew.alloc (.cells #[.string (bs x)] 9)) (by rfl) (.tmp 74) (.tmp 79) 27 27 (by rfl) w1.heap.size 9 j0 (.string ⟨#[]⟩) 1 16 Tryz.underlying27 hj hy0 hy1 hy2 rfl (.slice none 0 0) 0 (tdCells (out.take 0)) (by simp [Act.eval]) HOV.out (.slice (some ⟨w7.heap.size, 0, none⟩) 1 1) 1 [.string (bs x)] (by simp [Act.eval]) (oneT_src w7.drew x) HLk1.out.1 HLk1.out.2 KVw.out.size ?_; intro ao8 c8 w8 ho8 hg8; have HO8 : Hid (w8.ownsRow w1.heap.size 9 1 (.slice ao8 (0 + 1) c8) (0 + 1) (tdCells (out.take 0) ++ [.string (bs x)])) := ho8; have HR8 : Hid (w8.ownsRow w6.heap.size 9 1 (.slice aR m cR) m (tdCells (out.drop 0))) := own_farD HRV.out hg8 (fun g' h1 => HFar.out g' h1); have K8 : Hid (Kept Nil w1 w8) := KVw.out.grown hg8 (fun k hk => own_row HOV.out k hk); have s8 := HCx w8 K8.out; have SRC8 : Hid (Src Tryz.prog 1 27 (.slice aR m cR) m (tdCells (out.drop 0)) w8) := (by have h9 : OwnTd w6.heap.size w8 aR cR (out.drop 0) := (by show World.ownsRow _ _ _ _ _ _ _; rw [HdM.out]; exact HR8.out); have h8 := h9.src; rw [HdM.out] at h8; exact h8); clear ho8 hg8) | (refine step_append_src w8 (by rfl) (.tmp 80) (.tmp 81) 27 27 (by rfl) w1.heap.size 9 j0 (.string ⟨#[]⟩) 1 16 Tryz.underlying27 hj hy0 hy1 hy2 rfl (.slice ao8 (0 + 1) c8) (0 + 1) (tdCells (out.take 0) ++ [.string (bs x)]) (by simp [Act.eval]) HO8.out (.slice aR m cR) m (tdCells (out.drop 0)) (by simp [Act.eval]) SRC8.out HLk2.out.1 HLk2.out.2 K8.out.size ?_; intro ao9 c9 w9 ho9 hg9; have HO9 : Hid (w9.ownsRow w1.heap.size 9 1 (.slice ao9 (0 + 1 + m) c9) (0 + 1 + m) (tdCells (out.take 0) ++ [.string (bs x)] ++ tdCells (out.drop 0))) := ho9; have K9 : Hid (Kept Nil w1 w9) := K8.out.grown hg9 (fun k hk => own_row HO8.out k hk); have s9 := HCx w9 K9.out; clear ho9 hg9))
                    have HO9' : Hid (OwnTd w1.heap.size w9 ao9 c9 (out.take 0 ++ [x] ++ out.drop 0)) := OwnTd.app (fs := out.take 0 ++ [x]) (gs := out.drop 0) (by rw [List.length_append, HtL.out]) HdM.out.symm (by rw [show tdCells (out.take 0 ++ [x]) = tdCells (out.take 0) ++ [.string (bs x)] by simp [tdCells]]; exact HO9.out)
                    go_wp2
                    go_roundw
                    case rel => exact ⟨i + 1, c9, ao9, out.take 0 ++ [x] ++ out.drop 0, (by have := HLt.out; omega), by go_num, by rw [HLn.out], (by show _ = _; rw [HNx.out, HIn.out]), (by have h8 := HLt.out; have h7 := HLn.out; have h6 := HLe.out; omega), HO9'.out, K9.out⟩
                    case measure => have := HLt.out; simp [intOf]; omega
                  | some a0 =>
                    obtain ⟨g, _, eg, _⟩ := HO7.out.block (by simp)
                    cases eg
                    go_region_held3 (fun w' => w'.cell? ⟨gA, i, none⟩ = some (.string (bs x))) (first | assumption | go_keep) (first | (refine step_append_src (w7.drew.alloc (.cells #[.string (bs x)] 9)) (by rfl) (.tmp 74) (.tmp 79) 27 27 (by rfl) w1.heap.size 9 j0 (.string ⟨#[]⟩) 1 16 Tryz.underlying27 hj hy0 hy1 hy2 rfl (.slice (some ⟨g, 0, none⟩) k co) k (tdCells (out.take k)) (by simp [Act.eval]) HOV.out (.slice (some ⟨w7.heap.size, 0, none⟩) 1 1) 1 [.string (bs x)] (by simp [Act.eval]) (oneT_src w7.drew x) HLk1.out.1 HLk1.out.2 KVw.out.size ?_; intro ao8 c8 w8 ho8 hg8; have HO8 : Hid (w8.ownsRow w1.heap.size 9 1 (.slice ao8 (k + 1) c8) (k + 1) (tdCells (out.take k) ++ [.string (bs x)])) := ho8; have HR8 : Hid (w8.ownsRow w6.heap.size 9 1 (.slice aR m cR) m (tdCells (out.drop k))) := own_farD HRV.out hg8 (fun g' h1 => HFar.out g' h1); have K8 : Hid (Kept Nil w1 w8) := KVw.out.grown hg8 (fun k hk => own_row HOV.out k hk); have s8 := HCx w8 K8.out; have SRC8 : Hid (Src Tryz.prog 1 27 (.slice aR m cR) m (tdCells (out.drop k)) w8) := (by have h9 : OwnTd w6.heap.size w8 aR cR (out.drop k) := (by show World.ownsRow _ _ _ _ _ _ _; rw [HdM.out]; exact HR8.out); have h8 := h9.src; rw [HdM.out] at h8; exact h8); clear ho8 hg8) | (refine step_append_src w8 (by rfl) (.tmp 80) (.tmp 81) 27 27 (by rfl) w1.heap.size 9 j0 (.string ⟨#[]⟩) 1 16 Tryz.underlying27 hj hy0 hy1 hy2 rfl (.slice ao8 (k + 1) c8) (k + 1) (tdCells (out.take k) ++ [.string (bs x)]) (by simp [Act.eval]) HO8.out (.slice aR m cR) m (tdCells (out.drop k)) (by simp [Act.eval]) SRC8.out HLk2.out.1 HLk2.out.2 K8.out.size ?_; intro ao9 c9 w9 ho9 hg9; have HO9 : Hid (w9.ownsRow w1.heap.size 9 1 (.slice ao9 (k + 1 + m) c9) (k + 1 + m) (tdCells (out.take k) ++ [.string (bs x)] ++ tdCells (out.drop k))) := ho9; have K9 : Hid (Kept Nil w1 w9) := K8.out.grown hg9 (fun k hk => own_row HO8.out k hk); have s9 := HCx w9 K9.out; clear ho9 hg9))
                    have HO9' : Hid (OwnTd w1.heap.size w9 ao9 c9 (out.take k ++ [x] ++ out.drop k)) := OwnTd.app (fs := out.take k ++ [x]) (gs := out.drop k) (by rw [List.length_append, HtL.out]) HdM.out.symm (by rw [show tdCells (out.take k ++ [x]) = tdCells (out.take k) ++ [.string (bs x)] by simp [tdCells]]; exact HO9.out)
                    go_wp2
                    go_roundw
                    case rel => exact ⟨i + 1, c9, ao9, out.take k ++ [x] ++ out.drop k, (by have := HLt.out; omega), by go_num, by rw [HLn.out], (by show _ = _; rw [HNx.out, HIn.out]), (by have h8 := HLt.out; have h7 := HLn.out; have h6 := HLe.out; omega), HO9'.out, K9.out⟩
                    case measure => have := HLt.out; simp [intOf]; omega
        · obtain rfl : i = al.length := by omega
          have hirr : ¬ (al.length : Int) < al.length := by omega
          have HE : Hid (out = rs) := by show _ = _; rw [HRE.out, HOut.out, List.take_length]
          go_wp2
          go_meet
          exact ⟨ao, co, by rw [← HE.out], by rw [← HE.out]; exact HO.out, HK.out⟩
    case rest =>
      obtain ⟨ao, co, rfl, HO, HK2⟩ := hcut
      rename World => w3
      go_wp2
      go_ret
      exact ⟨ao, co, rfl, HO.out.mono HK1.out.size, HK1.out.trans HK2.out⟩
end Go.Proofs.YtpfgnhockfofhaaGreat
