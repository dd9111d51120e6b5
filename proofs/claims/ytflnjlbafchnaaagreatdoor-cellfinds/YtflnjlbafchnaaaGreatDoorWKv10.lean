/-
  kv: list.
-/
import Derived.Test.YtflnjlbafchnaaaGreatDoorWKvZ
import Derived.Test.YtflnjlbafchnaaaGreatDoorWKv6
import Derived.Deep.DeepCutAuto
namespace Go.Proofs.YtflnjlbafchnaaaGreatDoor
open Go.RowKit

def kyCells (ns : List (List UInt8)) : List Value := ns.map fun n => Value.string (bs n)
theorem kyCells_snoc (ns : List (List UInt8)) (n : List UInt8) : kyCells (ns ++ [n]) = kyCells ns ++ [.string (bs n)] := by simp [kyCells]
/-- Texts of one's own. -/
def OwnK (B : Nat) (w : World) (ao : Option Addr) (c : Nat) (ns : List (List UInt8)) : Prop := w.ownsRow B 9 1 (.slice ao ns.length c) ns.length (kyCells ns)
theorem OwnK.kept {B c : Nat} {w w' : World} {ao : Option Addr} {ns : List (List UInt8)} (h : OwnK B w ao c ns) (hk : Kept Nil w w') : OwnK B w' ao c ns := own_kept h hk (fun _ _ _ x => x.elim)
theorem Tryz.infoSt : (Tryz.prog.info? 9).map (fun i => (i.zero, i.size, i.bytes)) = some (some (.string ⟨#[]⟩), 1, 16) := by kernel_rfl
theorem src_ky {w : World} (z : List UInt8) : Src Tryz.prog 1 48 (.slice (some ⟨w.heap.size, 0, none⟩) 1 1) 1 [.string (bs z)] (w.alloc (.cells #[.string (bs z)] 9)) := by
  refine Src.ofSlice _ Tryz.underlying48 _ 1 1 _ rfl ?_ ?_
  · intro j u hj
    match j, hj with
    | 0, hj =>
      simp at hj
      subst hj
      simp [Addr.add]
  · intro u hu
    simp at hu
    subst hu
    rfl
def resK (ko : Option Addr) (len kc : Nat) : Value := .agg #[.int .i64 1, .string ⟨#[]⟩, .int .i64 0, .slice ko len kc]
theorem drop_row {B c g i : Nat} {w : World} {ps : List Pr} (h : OwnP B w (some ⟨g, 0, none⟩) c ps) (hs : Fit ps) : PairRow w.heap.size w (some ⟨g, i * 3, none⟩) (ps.drop i) := fun j hj => by
  rw [List.length_drop] at hj
  obtain ⟨g', e, _, hg, hc⟩ := h.cells (by omega)
  cases e
  obtain ⟨e1, e2, e3, _⟩ := hc (i + j) (by omega)
  obtain ⟨l1, l2⟩ := hs ps[i + j] (List.getElem_mem (by omega))
  refine ⟨_, rfl, hg, ?_⟩
  rw [List.getElem_drop, Addr.add_lit]
  rw [show (i + j) * 3 = i * 3 + j * 3 by omega] at e1 e2 e3
  exact ⟨e1, e2, e3, l1, l2⟩

theorem ownP_nil {B c : Nat} {w : World} {ps : List Pr} (h : OwnP B w none c ps) : ps = [] ∧ c = 0 := by
  rcases h.2 with ⟨h1, _⟩ | ⟨g', cap', cur, hv, _⟩
  · simp at h1
    exact ⟨by cases ps with | nil => rfl | cons a t => simp at h1, by omega⟩
  · simp at hv
theorem take_len_find {L : List Pr} {p : Pr → Bool} : (L.take (L.findIdx p)).length = L.findIdx p := by
  rw [List.length_take]
  have : L.findIdx p ≤ L.length := List.findIdx_le_length
  omega
theorem PairRow.take' {B : Nat} {w : World} {ao : Option Addr} {ps : List Pr} (h : PairRow B w ao ps) (k : Nat) : PairRow B w ao (ps.take k) := fun j hj => by
  rw [List.length_take] at hj
  have := h j (by omega)
  rw [List.getElem_take]
  exact this

set_option maxRecDepth 100000 in
set_option maxHeartbeats 2000000 in
theorem list_any (B b c i : Nat) (ao : Option Addr) (ps : List Pr) (key v : List UInt8) (n most : Int) (w : World) (hb : SpotAt w b key v n ao ps.length c i) (hO : OwnP B w ao c ps) (hi : i ≤ ps.length) (hl : ps.length ≤ 32) (hf : Fit ps) :
    Calls Tryz.prog 119 #[.pointer (some ⟨b, 0, none⟩), .int .i64 most] w fun e w' => ∃ ko kc, e = .returned (resK ko (listP key most (ps.drop i)).length kc) ∧ OwnK w.heap.size w' ko kc ((listP key most (ps.drop i)).map Pr.k) ∧ Kept Nil w w' := by
  obtain ⟨i0, hi0, hz0, hz1, hz2⟩ := info_parts Tryz.infoSt
  obtain ⟨W, hW⟩ : ∃ W, W = (w.alloc (.cells #[.pointer (some ⟨b, 0, none⟩)] 163)).alloc (.cells #[.int .i64 0, .string ⟨#[]⟩, .int .i64 0, .slice none 0 0] 50) := ⟨_, rfl⟩
  have KW : Hid (Kept Nil w W) := by rw [hW]; exact ((Kept.refl _ _).alloc _).alloc _
  have HB : Hid (SpotAt W b key v n ao ps.length c i) := KW.out.block _ _ hb (fun x => x.elim)
  have HC : Hid (W.heap[w.heap.size]? = some (.cells #[.pointer (some ⟨b, 0, none⟩)] 163 (0, 0))) := by rw [hW]; exact blk_past (blk_new _ _) _
  have HN : Hid (W.heap[w.heap.size + 1]? = some (.cells #[.int .i64 0, .string ⟨#[]⟩, .int .i64 0, .slice none 0 0] 50 (0, 0))) := by
    rw [hW]
    have := blk_new (w.alloc (.cells #[.pointer (some ⟨b, 0, none⟩)] 163)) (.cells #[.int .i64 0, .string ⟨#[]⟩, .int .i64 0, .slice none 0 0] 50)
    show _ = _
    simpa using this
  have HO : Hid (OwnP B W ao c ps) := hO.kept KW.out
  obtain ⟨L, HL⟩ : ∃ L, Hid (L = ps.drop i) := ⟨_, rfl⟩
  rw [← HL.out]
  have HLL : Hid (L.length = ps.length - i) := by show _ = _; rw [HL.out, List.length_drop]
  have HL32 : Hid (L.length ≤ 32) := by show _ ≤ _; rw [HLL.out]; omega
  have q0 : W.cell? ⟨w.heap.size, 0, none⟩ = some (.pointer (some ⟨b, 0, none⟩)) := blk_at HC.out 0 rfl
  have q3 : W.cell? ⟨b, 3, none⟩ = some (.slice ao ps.length c) := blk_at HB.out 3 rfl
  have q4 : W.cell? ⟨b, 4, none⟩ = some (.int .i64 i) := blk_at HB.out 4 rfl
  have HF : Hid (Fit ps) := hf
  obtain ⟨R, HRR⟩ : ∃ R, Hid (R = listP key most L) := ⟨_, rfl⟩
  obtain ⟨R1, HR1⟩ : ∃ R1, Hid (R1 = L.take (L.findIdx (offK key))) := ⟨_, rfl⟩
  have HRL : Hid (R = if 0 < most ∧ most < (R1.length : Int) then R1.take most.toNat else R1) := by show _ = _; rw [HRR.out, HR1.out]; rfl
  have HRN : Hid (R1.length = L.findIdx (offK key)) := by show _ = _; rw [HR1.out]; exact take_len_find
  rw [← HRR.out]
  clear hb hO hf
  go_enter Tryz.func119, Tryz.ntmps119
  go_upto_region 1 with fail
  rw [← hW]
  obtain ⟨C, HCe⟩ : ∃ C, Hid (C = w.heap.size) := ⟨_, rfl⟩
  obtain ⟨pr, HPe⟩ : ∃ pr, Hid (pr = w.heap.size + 1) := ⟨_, rfl⟩
  rw [← HPe.out] at HN ⊢
  rw [← HCe.out] at HC q0 ⊢
  clear hW
  go_cut [5] (fun l wc => ∃ ao2 c2, l = .slice ao2 L.length c2 ∧ Hid (PairRow W.heap.size W ao2 L) ∧ Hid (L.length ≤ c2) ∧ wc = W.drew)
  case first =>
    cases ao with
    | none =>
      obtain ⟨rfl, rfl⟩ := ownP_nil HO.out
      obtain rfl : i = 0 := by simpa using hi
      have HLe : Hid (L = []) := by show _ = _; rw [HL.out]; rfl
      go_region
      all_goals
        go_wp2_with fail
        go_meet
        exact ⟨none, 0, by rw [HLe.out]; rfl, by rw [HLe.out]; exact fun j hj => absurd hj (by simp), by rw [HLe.out]; exact Nat.zero_le _, rfl⟩
    | some a =>
      obtain ⟨g, cs, e0, _, _, hlc, hcm, _, _⟩ := HO.out.block (by simp)
      cases e0
      unfold maxLen at hcm
      have hii : (i : Int) ≤ (ps.length : Int) := by omega
      have hpc : (ps.length : Int) ≤ (c : Int) := by omega
      by_cases hci : c = i
      · subst hci
        have HLe : Hid (L = []) := by show _ = _; rw [HL.out]; exact List.drop_eq_nil_of_le (by omega)
        have hlp : ps.length = c := by omega
        rw [hlp] at q3
        go_region
        all_goals
          go_wp2_with fail
          go_meet
          exact ⟨some ⟨g, 0, none⟩, 0, by rw [HLe.out]; rfl, by rw [HLe.out]; exact fun j hj => absurd hj (by simp), by rw [HLe.out]; exact Nat.zero_le _, rfl⟩
      · go_region
        all_goals
          go_wp2_with fail
          go_meet
          exact ⟨some ⟨g, i * 3, none⟩, c - i, by rw [HLL.out], by rw [HL.out]; exact drop_row HO.out HF.out, by rw [HLL.out]; show _ ≤ _; omega, rfl⟩
  case rest =>
    obtain ⟨ao2, c2, rfl, HR, HL2, rfl⟩ := hcut
    have IX := indexP_any W.heap.size c2 C b ao2 L key W.drew (HR.out.nil (Kept.refl _ _).drew) (by have := HL32.out; omega) (blk_at HC.out 0 rfl) (blk_at HB.out 0 rfl)
    clear q0 q3 q4
    go_wp2_with fail
    go_fit IX
    rintro _ w2 ⟨rfl, k2⟩
    have K2 : Hid (Kept Nil W w2) := (Kept.refl _ _).drew.trans k2
    clear k2 IX
    go_upto_if 23 with fail
    go_cut [5, 6] (fun l _ wc => l = .slice ao2 R1.length c2 ∧ wc = w2)
    case first =>
      by_cases hh : L.findIdx (offK key) < L.length
      · have hp : plcP (offK key) L = (L.findIdx (offK key) : Int) := by unfold plcP; rw [if_pos hh]
        obtain ⟨a, rfl, hjunk⟩ := HR.out 0 (Nat.lt_of_le_of_lt (Nat.zero_le _) hh)
        clear hjunk
        rw [hp]
        obtain ⟨k, HKe⟩ : ∃ k, Hid (k = L.findIdx (offK key)) := ⟨_, rfl⟩
        rw [← HKe.out] at hh ⊢
        have HK1 : Hid (R1.length = k) := by show _ = _; rw [HRN.out, HKe.out]
        have hk2 : (k : Int) ≤ (c2 : Int) := by have := HL2.out; omega
        have h32 := HL32.out
        go_wp2
        go_meet
        exact ⟨by rw [HK1.out], rfl⟩
      · have hp : plcP (offK key) L = -1 := by unfold plcP; rw [if_neg hh]
        rw [hp]
        have HK1 : Hid (R1.length = L.length) := by show _ = _; rw [HRN.out]; have : L.findIdx (offK key) ≤ L.length := List.findIdx_le_length; omega
        clear hp hh
        go_wp2
        go_meet
        exact ⟨by rw [HK1.out], rfl⟩
    case rest =>
      obtain ⟨rfl, rfl⟩ := hcut
      rename World => w2
      obtain ⟨t, HT⟩ : ∃ t : Bool, Hid (t = decide (0 < most ∧ most < (R1.length : Int))) := ⟨_, rfl⟩
      go_upto_region 5 with fail
      go_cut [34] (fun x wc => x = .bool t ∧ wc = w2)
      case first =>
        by_cases hm : 0 < most
        · by_cases hm2 : most < (R1.length : Int)
          · go_wp2
            go_meet
            exact ⟨by rw [HT.out, decide_eq_true ⟨hm, hm2⟩], rfl⟩
          · go_wp2
            go_meet
            exact ⟨by rw [HT.out, decide_eq_false (by omega)], rfl⟩
        · go_wp2
          go_meet
          exact ⟨by rw [HT.out, decide_eq_false (by omega)], rfl⟩
      case rest =>
        obtain ⟨rfl, rfl⟩ := hcut
        rename World => w2
        go_upto_if 34 with fail
        go_cut [5] (fun l wc => l = .slice ao2 R.length c2 ∧ wc = w2)
        case first =>
          have h32 : R1.length ≤ 32 := by have := HL32.out; have := HRN.out; have : L.findIdx (offK key) ≤ L.length := List.findIdx_le_length; omega
          cases t with
          | true =>
            obtain ⟨hm, hm2⟩ := of_decide_eq_true HT.out.symm
            have HK1 : Hid (R = R1.take most.toNat) := by show _ = _; rw [HRL.out, if_pos ⟨hm, hm2⟩]
            obtain ⟨k, rfl⟩ : ∃ k : Nat, most = k := ⟨most.toNat, by omega⟩
            have HK2 : Hid (R.length = k) := by show _ = _; rw [HK1.out, List.length_take]; omega
            obtain ⟨a, rfl, hjunk⟩ := HR.out 0 (by have := HRN.out; have : L.findIdx (offK key) ≤ L.length := List.findIdx_le_length; omega)
            clear hjunk
            have hk2 : (k : Int) ≤ (c2 : Int) := by have := HL2.out; have := HRN.out; have : L.findIdx (offK key) ≤ L.length := List.findIdx_le_length; omega
            go_wp2
            go_meet
            exact ⟨by rw [HK2.out], rfl⟩
          | false =>
            have HK1 : Hid (R = R1) := by show _ = _; rw [HRL.out, if_neg (of_decide_eq_false HT.out.symm)]
            go_wp2
            go_meet
            exact ⟨by rw [HK1.out], rfl⟩
        case rest =>
          obtain ⟨rfl, rfl⟩ := hcut
          rename World => w2
          have HRS : Hid (R = L.take R.length) := by
            show _ = _
            refine List.prefix_iff_eq_take.1 ?_
            have h1 : R1 <+: L := by rw [HR1.out]; exact List.take_prefix _ _
            rw [HRL.out]
            split
            · exact (List.take_prefix _ _).trans h1
            · exact h1
          have HRW : Hid (PairRow W.heap.size W ao2 R) := by rw [HRS.out]; exact HR.out.take' _
          have HR32 : Hid (R.length ≤ 32) := by show _ ≤ _; rw [HRS.out, List.length_take]; have := HL32.out; omega
          clear HR1 HRL HRN HRR HRS HL HLL HR HT
          obtain ⟨rb, HRB⟩ : ∃ rb, Hid (rb = w2.heap.size) := ⟨_, rfl⟩
          obtain ⟨X0, hX0⟩ : ∃ X0, X0 = w2.alloc (.cells #[.int .i64 1, .string ⟨#[]⟩, .int .i64 0, .slice none 0 0] 50) := ⟨_, rfl⟩
          have HX0 : Hid (X0.heap[rb]? = some (.cells #[.int .i64 1, .string ⟨#[]⟩, .int .i64 0, .slice none 0 0] 50 (0, 0))) := by rw [hX0, HRB.out]; exact blk_new _ _
          have HKX : Hid (Kept Nil W X0) := by rw [hX0]; exact K2.out.alloc _
          have HSZ : Hid (W.heap.size ≤ rb) := by show _ ≤ _; rw [HRB.out]; exact K2.out.size
          go_wp2_with fail
          rw [← hX0, ← HRB.out]
          clear hX0
          go_loopw [9, 41] (fun _ i wr => ∃ k : Nat, ∃ ko kc, k ≤ R.length ∧ i = .int .i64 k ∧ Hid (OwnK (rb + 1) wr ko kc ((R.take k).map Pr.k)) ∧ Hid (wr.heap[rb]? = some (.cells #[.int .i64 1, .string ⟨#[]⟩, .int .i64 0, .slice ko k kc] 50 (0, 0))) ∧ Hid (Kept Nil W wr)) (fun _ i _ => R.length - (intOf i).toNat)
          case atStart => exact ⟨0, none, 0, Nat.zero_le _, rfl, World.ownsRow_nil _ _ _ _, HX0.out, HKX.out⟩
          case round =>
            obtain ⟨k, ko, kc, hk, rfl, HOk, HX, HKk⟩ := hrel
            clear HX0 HKX
            have hln : ((R.take k).map Pr.k).length = k := by rw [List.length_map, List.length_take]; omega
            have HLN : Hid (((R.take k).map Pr.k).length = k) := hln
            clear hln
            have x3 : (_ : World).cell? ⟨rb, 3, none⟩ = some (.slice ko k kc) := blk_at HX.out 3 rfl
            by_cases hlt : k < R.length
            · obtain ⟨a, rfl, _, c0, c1, c2', _, _⟩ := HRW.out.nil HKk.out k hlt
              have hki : (k : Int) < R.length := by omega
              have h32 := HR32.out
              have HT : Hid ((R.take (k + 1)).map Pr.k = (R.take k).map Pr.k ++ [R[k].k]) := by
                show _ = _
                rw [List.take_succ_eq_append_getElem hlt, List.map_append]
                rfl
              obtain ⟨y, HY⟩ : ∃ y : Pr, Hid (y = R[k]) := ⟨R[k], (rfl : R[k] = R[k])⟩
              rw [← HY.out] at c0 c1 c2' HT
              obtain ⟨yk, yv, yn⟩ := y
              rename World => wr
              have hrlt : rb < wr.heap.size := lt_of_block HX.out
              have HOO : Hid (wr.ownsRow (rb + 1) 9 1 (.slice ko k kc) k (kyCells ((R.take k).map Pr.k))) := by
                have := HOk.out
                unfold OwnK at this
                rw [HLN.out] at this
                exact this
              have HSRC : Hid (Src Tryz.prog 1 48 (.slice (some ⟨wr.heap.size + 1, 0, none⟩) 1 1) 1 [.string (bs yk)] ((wr.alloc (.cells #[.string (bs yk), .string (bs yv), .int .i64 yn] 63)).alloc (.cells #[.string (bs yk)] 9))) := by
                have := src_ky (w := wr.alloc (.cells #[.string (bs yk), .string (bs yv), .int .i64 yn] 63)) yk
                show Src _ _ _ _ _ _ _
                simpa using this
              have HLL : Hid (k + 1 ≤ maxLen ∧ (k + 1) * 16 ≤ 140737488355328) := by constructor <;> (try unfold maxLen) <;> omega
              go_wp2_with (at_builtin; go_must (refine wpList_append_src _ rfl _ _ 48 48 rfl (rb + 1) 9 i0 (.string ⟨#[]⟩) 1 16 Tryz.underlying48 hi0 hz0 hz1 hz2 rfl _ _ _ rfl (World.ownsRow.alloc (World.ownsRow.alloc HOO.out _) _) (.slice (some ⟨wr.heap.size + 1, 0, none⟩) 1 1) 1 [.string (bs yk)] rfl HSRC.out HLL.out.1 HLL.out.2 (le_alloc (le_alloc hrlt _) _) ?_); intro ao' c' w4 ho' hg'; have HO4 : Hid (w4.ownsRow (rb + 1) 9 1 (.slice ao' (k + 1) c') (k + 1) (kyCells ((R.take k).map Pr.k) ++ [.string (bs yk)])) := ho'; have HB4 : Hid (w4.heap[rb]? = some (.cells #[.int .i64 1, .string ⟨#[]⟩, .int .i64 0, .slice ko k kc] 50 (0, 0))) := grown_blk hg' (blk_past (blk_past HX.out _) _) (fun e => by have := own_row HOO.out _ e; omega); have HK4 : Hid (Kept Nil W w4) := ((HKk.out.alloc _).alloc _).grown hg' (fun q hq => by have := own_row HOO.out q hq; have := HSZ.out; omega); have c3 : w4.cell? ⟨rb, 3, none⟩ = some (.slice ko k kc) := blk_at HB4.out 3 rfl; have f3 : w4.frozen? ⟨rb, 3, none⟩ = false := blk_free HB4.out 3; clear ho' hg')
              go_roundw
              case rel => exact ⟨k + 1, ao', c', by omega, by go_num, by show OwnK _ _ _ _ _; rw [HT.out]; refine ownsRow_setCell_below ?_ (Nat.lt_succ_self rb) _; rw [kyCells_snoc, List.length_append, HLN.out]; exact HO4.out, blk_set HB4.out 3 _, HK4.out.setNew (p := ⟨rb, 3, none⟩) HSZ.out _⟩
              case measure => simp [intOf]; omega
            · obtain rfl : k = R.length := by omega
              have HT : Hid ((R.take R.length).map Pr.k = R.map Pr.k) := by show _ = _; rw [List.take_length]
              rename World => wr
              have HN9 : Hid (wr.heap[pr]? = some (.cells #[.int .i64 0, .string ⟨#[]⟩, .int .i64 0, .slice none 0 0] 50 (0, 0))) := HKk.out.block _ _ HN.out (fun x => x.elim)
              have x0 : wr.cell? ⟨rb, 0, none⟩ = some (.int .i64 1) := blk_at HX.out 0 rfl
              have x1 : wr.cell? ⟨rb, 1, none⟩ = some (.string ⟨#[]⟩) := blk_at HX.out 1 rfl
              have x2 : wr.cell? ⟨rb, 2, none⟩ = some (.int .i64 0) := blk_at HX.out 2 rfl
              have r0 : wr.cell? ⟨pr, 0, none⟩ = some (.int .i64 0) := blk_at HN9.out 0 rfl
              have r1 : wr.cell? ⟨pr, 1, none⟩ = some (.string ⟨#[]⟩) := blk_at HN9.out 1 rfl
              have r2 : wr.cell? ⟨pr, 2, none⟩ = some (.int .i64 0) := blk_at HN9.out 2 rfl
              have r3 : wr.cell? ⟨pr, 3, none⟩ = some (.slice none 0 0) := blk_at HN9.out 3 rfl
              have z0 : wr.frozen? ⟨pr, 0, none⟩ = false := blk_free HN9.out 0
              have z1 : wr.frozen? ⟨pr, 1, none⟩ = false := blk_free HN9.out 1
              have z2 : wr.frozen? ⟨pr, 2, none⟩ = false := blk_free HN9.out 2
              have z3 : wr.frozen? ⟨pr, 3, none⟩ = false := blk_free HN9.out 3
              have hpw : Hid (w.heap.size ≤ pr ∧ pr < rb + 1) := ⟨by rw [HPe.out]; omega, by have := lt_of_block HN.out; have := HSZ.out; omega⟩
              obtain ⟨V, hV⟩ : ∃ V, V = (((wr.setCell ⟨pr, 0, none⟩ (.int .i64 1)).setCell ⟨pr, 1, none⟩ (.string ⟨#[]⟩)).setCell ⟨pr, 2, none⟩ (.int .i64 0)).setCell ⟨pr, 3, none⟩ (.slice ko R.length kc) := ⟨_, rfl⟩
              have HV : Hid (V.heap[pr]? = some (.cells #[.int .i64 1, .string ⟨#[]⟩, .int .i64 0, .slice ko R.length kc] 50 (0, 0))) := by rw [hV]; exact blk_set (blk_set (blk_set (blk_set HN9.out 0 _) 1 _) 2 _) 3 _
              have KV : Hid (Kept Nil w V) := by rw [hV]; exact ((((KW.out.trans HKk.out).setNew (p := ⟨pr, 0, none⟩) hpw.out.1 _).setNew (p := ⟨pr, 1, none⟩) hpw.out.1 _).setNew (p := ⟨pr, 2, none⟩) hpw.out.1 _).setNew (p := ⟨pr, 3, none⟩) hpw.out.1 _
              have OV : Hid (OwnK (rb + 1) V ko kc (R.map Pr.k)) := by
                rw [← HT.out, hV]
                exact ownsRow_setCell_below (ownsRow_setCell_below (ownsRow_setCell_below (ownsRow_setCell_below HOk.out hpw.out.2 _) hpw.out.2 _) hpw.out.2 _) hpw.out.2 _
              go_wp2
              rw [← hV]
              clear hV r0 r1 r2 r3
              have j0 := blk_at HV.out 0 rfl
              have j1 := blk_at HV.out 1 rfl
              have j2 := blk_at HV.out 2 rfl
              have j3 := blk_at HV.out 3 rfl
              exact bodyPost_ret (v := resK ko R.length kc) (by simp [results, Tryz.results119, go_sem, j0, j1, j2, j3, resK]) rfl ⟨ko, kc, rfl, own_mono OV.out (by have := hpw.out; omega), KV.out⟩

end Go.Proofs.YtflnjlbafchnaaaGreatDoor
