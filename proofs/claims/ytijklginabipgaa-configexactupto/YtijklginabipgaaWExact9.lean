/-
  ConfigExact: config.Quorum of great lists, config.Lost.
-/
import Derived.Test.YtijklginabipgaaWExact8
namespace Go.Proofs.Ytijklginabipgaa
open Go.RowKit Go.Sort

def outZ (hs zs : List Int) : List Int := zs.filter fun x => !(hasZ hs x)
theorem IntRow.same {B : Nat} {w w' : World} {ao : Option Addr} {zs : List Int} (h : IntRow B w ao zs) (hb : ∀ k, k < B → w'.heap[k]? = w.heap[k]?) : IntRow B w' ao zs := fun j hj => by
  obtain ⟨a, e, hl, hc⟩ := h j hj
  refine ⟨a, e, hl, ?_⟩
  rw [World.cell?_of_block (w := w) (by rw [add_block, hb _ hl])]
  exact hc
theorem IntRow.over {B g : Nat} {w w' : World} {ao : Option Addr} {zs : List Int} (h : IntRow B w ao zs) (hg : B ≤ g) (hb : ∀ a : Addr, a.block < w.heap.size → a.block ≠ g → w'.cell? a = w.cell? a) : IntRow B w' ao zs := fun j hj => by
  obtain ⟨a, e, hl, hc⟩ := h j hj
  exact ⟨a, e, hl, (hb _ (World.block_lt_of_cell? w _ hc) (by rw [add_block]; omega)).trans hc⟩

set_option maxRecDepth 100000 in
set_option maxHeartbeats 2000000 in
theorem isMajorityX_any (B c1 c2 : Nat) (a1 a2 : Option Addr) (vs hs : List Int) (w : World) (h1 : IntRow B w a1 vs) (h2 : IntRow B w a2 hs) (hl1 : (vs.length : Int) ≤ 2000000) (hl2 : (hs.length : Int) ≤ 9223372036854775807) :
    Calls Try.prog 76 #[.slice a1 vs.length c1, .slice a2 hs.length c2] w fun e w' => e = .returned (.bool (maj vs hs)) ∧ w' = w := by
  have HR : Hid (IntRow B w a1 vs ∧ IntRow B w a2 hs) := ⟨h1, h2⟩
  clear h1 h2
  go_enter Try.func76, Try.ntmps76
  go_wp2
  go_loop [5, 10] (fun v i => ∃ k : Nat, k ≤ vs.length ∧ i = .int .i64 k ∧ v = .int .i64 (cntIn (vs.take k) hs : Nat)) (fun _ i => vs.length - (intOf i).toNat)
  case atStart => exact ⟨0, Nat.zero_le _, rfl, rfl⟩
  case round =>
    obtain ⟨k, hk, rfl, rfl⟩ := hrel
    by_cases hlt : k < vs.length
    · obtain ⟨a, rfl, _, hcell⟩ := HR.out.1 k hlt
      have C := contains_any B c2 a2 hs vs[k] w HR.out.2 hl2
      have hst := cntIn_succ hs hlt
      have hcl := cntIn_le (vs.take k) hs
      have hcl2 : (vs.take k).length ≤ vs.length := by rw [List.length_take]; omega
      have hki : (k : Int) < vs.length := by omega
      generalize vs[k] = z at *
      generalize cntIn (vs.take k) hs = n at *
      cases hz : hasZ hs z with
      | true =>
        rw [hz] at C hst
        simp only [if_true] at hst
        have HST : Hid (cntIn (vs.take (k + 1)) hs = n + 1) := hst
        clear hz hst
        go_wp2_with fail
        refine C.mono ?_
        rintro e w1 ⟨rfl, rfl⟩
        go_wp2
        go_round
        case rel => exact ⟨k + 1, by omega, by go_num, by rw [HST.out]; go_num⟩
        case measure => simp [intOf]; omega
      | false =>
        rw [hz] at C hst
        have HST : Hid (cntIn (vs.take (k + 1)) hs = n) := by show _ = _; simpa using hst
        clear hz hst
        go_wp2_with fail
        refine C.mono ?_
        rintro e w1 ⟨rfl, rfl⟩
        go_wp2
        go_round
        case rel => exact ⟨k + 1, by omega, by go_num, by rw [HST.out]⟩
        case measure => simp [intOf]; omega
    · obtain rfl : k = vs.length := by omega
      rw [List.take_length]
      have hcl := cntIn_le vs hs
      have HM : Hid (maj vs hs = decide ((vs.length : Int) < 2 * (cntIn vs hs : Nat))) := rfl
      generalize cntIn vs hs = n at *
      go_wp2
      go_ret
      rw [HM.out]
      exact ⟨rfl, rfl⟩

set_option maxRecDepth 100000 in
set_option maxHeartbeats 2000000 in
theorem quorumX_any (B c1 c2 c3 d : Nat) (a1 a2 a3 ao : Option Addr) (v n l hs : List Int) (w : World) (h : CfRows B w a1 a2 a3 v n l) (hh : IntRow B w ao hs) (h1 : (v.length : Int) ≤ 2000000) (h2 : (n.length : Int) ≤ 2000000) (h3 : (hs.length : Int) ≤ 9223372036854775807) :
    Calls Try.prog 22 #[.agg #[.slice a1 v.length c1, .slice a2 n.length c2, .slice a3 l.length c3], .slice ao hs.length d] w fun e w' => e = .returned (.bool (quo v n hs)) ∧ Kept Nil w w' := by
  have M1 := isMajorityX_any B c1 d a1 ao v hs _ (h.r1.alloc (.cells #[.slice a1 v.length c1, .slice a2 n.length c2, .slice a3 l.length c3] 24)) (hh.alloc _) h1 h3
  have M2 := fun w' (hk : Kept Nil w w') => isMajorityX_any B c2 d a2 ao n hs w' (h.r2.nil hk) (hh.nil hk) h2 h3
  have J := fun w' => joint_any c1 c2 c3 a1 a2 a3 v.length n.length l.length w'
  have HB : Hid ((w.alloc (.cells #[.slice a1 v.length c1, .slice a2 n.length c2, .slice a3 l.length c3] 24)).heap[w.heap.size]? = some (.cells #[.slice a1 v.length c1, .slice a2 n.length c2, .slice a3 l.length c3] 24 (0, 0))) := blk_new _ _
  have HV : Hid (quo v n hs = (maj v hs && (n.isEmpty || maj n hs))) := rfl
  generalize maj v hs = b1 at *
  generalize maj n hs = b2 at *
  clear h hh h1 h2 h3
  cases b1 with
  | false =>
    go_enter Try.func22, Try.ntmps22
    go_wp2_with fail
    refine M1.mono ?_
    rintro e w1 ⟨rfl, rfl⟩
    go_wp2
    go_ret
    rw [HV.out]
    exact ⟨rfl, (Kept.refl _ _).alloc _⟩
  | true =>
    by_cases hn : n = []
    · have hj : decide (0 < n.length) = false := by rw [hn]; rfl
      simp only [hj] at J
      have HF : Hid (quo v n hs = true) := by show quo v n hs = true; rw [HV.out, hn]; rfl
      clear hn HV hj
      go_enter Try.func22, Try.ntmps22
      go_wp2_with fail
      refine M1.mono ?_
      rintro e w1 ⟨rfl, hw1⟩
      have HB1 : Hid (w1.heap[w.heap.size]? = some (.cells #[.slice a1 v.length c1, .slice a2 n.length c2, .slice a3 l.length c3] 24 (0, 0))) := by show _ = _; rw [hw1]; exact HB.out
      have HK1 : Hid (Kept Nil w w1) := by show Kept _ _ _; rw [hw1]; exact (Kept.refl _ _).alloc _
      clear hw1 HB
      have q0 := blk_at HB1.out 0 rfl
      have q1 := blk_at HB1.out 1 rfl
      have q2 := blk_at HB1.out 2 rfl
      go_wp2_with fail
      refine (J _).mono ?_
      rintro e w2 ⟨rfl, k2⟩
      have HK2 : Hid (Kept Nil w w2) := HK1.out.trans k2
      go_wp2
      go_ret
      rw [HF.out]
      exact ⟨rfl, HK2.out⟩
    · have hj : decide (0 < n.length) = true := decide_eq_true (List.length_pos_iff.2 hn)
      simp only [hj] at J
      have HF : Hid (quo v n hs = b2) := by
        show quo v n hs = b2
        rw [HV.out]
        cases n with
        | nil => exact absurd rfl hn
        | cons x t => simp
      clear hn HV hj
      go_enter Try.func22, Try.ntmps22
      go_wp2_with fail
      refine M1.mono ?_
      rintro e w1 ⟨rfl, hw1⟩
      have HB1 : Hid (w1.heap[w.heap.size]? = some (.cells #[.slice a1 v.length c1, .slice a2 n.length c2, .slice a3 l.length c3] 24 (0, 0))) := by show _ = _; rw [hw1]; exact HB.out
      have HK1 : Hid (Kept Nil w w1) := by show Kept _ _ _; rw [hw1]; exact (Kept.refl _ _).alloc _
      clear hw1 HB
      have q0 := blk_at HB1.out 0 rfl
      have q1 := blk_at HB1.out 1 rfl
      have q2 := blk_at HB1.out 2 rfl
      go_wp2_with fail
      refine (J _).mono ?_
      rintro e w2 ⟨rfl, k2⟩
      have HK2 : Hid (Kept Nil w w2) := HK1.out.trans k2
      have HB2 : Hid (_) := k2.block _ _ HB1.out (fun x => x.elim)
      have r1 := blk_at HB2.out 1 rfl
      clear k2 q0 q1 q2
      go_wp2_with fail
      refine (M2 _ HK2.out).mono ?_
      rintro e w3 ⟨rfl, rfl⟩
      go_wp2
      go_ret
      rw [HF.out]
      exact ⟨rfl, HK2.out⟩

set_option maxRecDepth 100000 in
set_option maxHeartbeats 2000000 in
theorem lostF_any (hs : List Int) (ho : Option Addr) (d : Nat) (x : Int) (C : Nat) (w : World) {B : Nat} (hr : IntRow B w ho hs) (hl : hs.length ≤ 4000000) (hc : w.cell? ⟨C, 0, none⟩ = some (.slice ho hs.length d)) :
    FnGives Try.prog 78 #[.pointer (some ⟨C, 0, none⟩)] #[.int .i64 x] (.bool (hasZ hs x)) w := by
  show Calls Try.prog 78 #[.int .i64 x, .pointer (some ⟨C, 0, none⟩)] w _
  have K := contains_any B d ho hs x w hr (by omega)
  clear hr
  go_enter Try.func78, Try.ntmps78
  go_wp2_with fail
  go_fit K
  rintro e w1 ⟨rfl, rfl⟩
  go_wp2
  go_ret
  exact ⟨rfl, 0, rfl⟩

set_option maxRecDepth 100000 in
set_option maxHeartbeats 2000000 in
theorem delLost_any (B c C : Nat) (ao : Option Addr) (zs : List Int) (hs : List Int) (ho : Option Addr) (d : Nat) (w : World) (h : OwnInts B w ao c zs) (hr : IntRow B w ho hs) (hC : w.heap[C]? = some (.cells #[.slice ho hs.length d] 22 (0, 0))) (hne : (Value.slice ao zs.length c).ownBlock ≠ some C) (hl : hs.length ≤ 4000000) (hzl : zs.length ≤ 4000000) :
    Calls Try.prog 80 #[.slice ao zs.length c, .func (.func 78) #[] #[.pointer (some ⟨C, 0, none⟩)]] w (RowPost B ao zs.length c w (outZ hs zs)) := by
  cases hz : zs with
  | nil =>
    subst hz
    have hI : Calls Try.prog 138 #[.slice ao 0 c, .func (.func 78) #[] #[.pointer (some ⟨C, 0, none⟩)]] w fun e w' => e = .returned (.int .i64 (-1)) ∧ w' = w := by
      go_enter Try.func138, Try.ntmps138
      go_wp2
      go_loop [8] (fun i => i = .int .i64 0) (fun _ => 0)
      case atStart => rfl
      case round =>
        subst hrel
        go_wp2
        go_ret
        exact ⟨rfl, rfl⟩
    have HO : Hid (OwnInts B w ao c []) := h
    clear h hne
    show Calls Try.prog 80 #[.slice ao 0 c, .func (.func 78) #[] #[.pointer (some ⟨C, 0, none⟩)]] w _
    go_enter Try.func80, Try.ntmps80
    go_wp2_with fail
    go_fit hI
    rintro e w1 ⟨rfl, rfl⟩
    go_wp2
    go_ret
    exact ⟨ao, c, rfl, HO.out, grown_refl _ _, fun g hg => .inl hg⟩
  | cons x t =>
    rw [← hz]
    obtain ⟨hle, hcm⟩ := own_le h
    obtain ⟨g, cur, rfl, hbg, hb, hn1, hn2, hn3, ht⟩ := own_blockI h (by rw [hz]; simp)
    have hgC : C ≠ g := fun e => hne (by rw [e]; rfl)
    have eg : ∀ args w, (callFunc 78 args).run Try.prog w = .ok (.enter 78 args) w := enters_of Try.func78 (by kernel_rfl) rfl
    have hcell : w.cell? ⟨C, 0, none⟩ = some (.slice ho hs.length d) := blk_at hC 0 rfl
    have hCl := lt_of_block hC
    have hH := Go.holds_of_blockI hb ht
    have hp : PredAt Try.prog 78 #[.pointer (some ⟨C, 0, none⟩)] (Value.int .i64) (hasZ hs) w := fun W x hbl => lostF_any hs ho d x C W (hr.full.same (fun k hk => hbl.block k hk)) hl ((hbl.cell (p := ⟨C, 0, none⟩) hCl).trans hcell)
    have hpo : PredOver Try.prog 78 #[.pointer (some ⟨C, 0, none⟩)] (Value.int .i64) (hasZ hs) g 0 zs.toArray.size w := fun n os dk x _ => lostF_any hs ho d x C _ (hr.over hbg (fun a ha hag => by
      unfold sortWorld
      rw [cell?_grow _ _ _ (by show a.block < (putRow _ _ _ _ _).heap.size; rw [size_putRow]; exact ha), cell?_putRow_other _ _ g 0 _ _ (Or.inl hag)]
      rfl)) hl (by
      unfold sortWorld
      rw [cell?_grow _ _ _ (by show C < (putRow _ _ _ _ _).heap.size; rw [size_putRow]; exact hCl), cell?_putRow_other _ _ g 0 _ _ (Or.inl hgC)]
      exact hcell)
    have D := Try.slices_DeleteFunc (Value.int .i64) (fun _ => rfl) (hasZ hs) 78 #[.pointer (some ⟨C, 0, none⟩)] eg 0 Try.zeroValue3 g 0 c zs.toArray w hp hpo hH (by simp; omega) (by simpa using hle)
    have e1 : (zs.toArray.toList.filter fun x => !(hasZ hs x)) = outZ hs zs := by simp [outZ]
    have e2 : zs.toArray.size = zs.length := by simp
    rw [e1, e2] at D
    have hdl : (outZ hs zs).length ≤ zs.length := List.length_filter_le _ _
    refine D.mono ?_
    rintro e w' ⟨rfl, q, rfl⟩
    have hfull : (outZ hs zs ++ List.replicate (zs.length - (outZ hs zs).length) (0 : Int)).length = zs.length := by simp; omega
    have own4 : (putRow (Value.int .i64) (Sort.ahead w q) g 0 (outZ hs zs ++ List.replicate (zs.length - (outZ hs zs).length) (0 : Int)).toArray).ownsRow B 3 1 (.slice (some ⟨g, 0, none⟩) (outZ hs zs ++ List.replicate (zs.length - (outZ hs zs).length) (0 : Int)).length c) (outZ hs zs ++ List.replicate (zs.length - (outZ hs zs).length) (0 : Int)).length ((outZ hs zs ++ List.replicate (zs.length - (outZ hs zs).length) (0 : Int)).map (Value.int .i64)) := by
      rw [← grow_empty (putRow _ _ _ _ _)]
      exact Go.ownsRow_sortedI rfl hbg hb (by rw [hfull]; exact hle) hcm hn3
    refine ⟨some ⟨g, 0, none⟩, c, rfl, ?_, ?_, fun g' hg' => .inl hg'⟩
    · have := own_prefixI own4 (k := (outZ hs zs).length) (by simp)
      show World.ownsRow _ _ _ _ _ _ _
      simpa using this
    · rw [← grow_empty (putRow _ _ _ _ _)]
      exact Go.grownBy_sortedI _

theorem mem_le (v n l : List Int) : (mem v n l).length ≤ v.length + n.length + l.length := by
  unfold mem
  have h1 := Lib.compact_length_le ((v ++ n ++ l).mergeSort fun x y => decide (x ≤ y))
  rw [List.length_mergeSort] at h1
  simp only [List.length_append] at h1
  exact h1

set_option maxRecDepth 100000 in
set_option maxHeartbeats 2000000 in
theorem lost_any (B c1 c2 c3 d : Nat) (a1 a2 a3 ao : Option Addr) (v n l hs : List Int) (w : World) (h : CfRows B w a1 a2 a3 v n l) (hh : IntRow B w ao hs) (hB : B ≤ w.heap.size) (h1 : v.length ≤ 1048576) (h2 : n.length ≤ 1048576) (h3 : l.length ≤ 1048576) (h4 : hs.length ≤ 1048576) :
    Calls Try.prog 24 #[.agg #[.slice a1 v.length c1, .slice a2 n.length c2, .slice a3 l.length c3], .slice ao hs.length d] w fun e w' => e = .returned (.bool (!(quo v n (outZ hs (mem v n l))))) ∧ Kept Nil w w' := by
  have hmf : ∀ (fn : Fn) (first cap : Array Value) (w : World), (Instr.makeFunc fn first cap).run Try.prog w = .ok (.func fn first cap) w := fun _ _ _ _ => rfl
  have HR : Hid (CfRows B w a1 a2 a3 v n l ∧ IntRow B w ao hs) := ⟨h, hh⟩
  obtain ⟨W, hW⟩ : ∃ W, W = (w.alloc (.cells #[.slice a1 v.length c1, .slice a2 n.length c2, .slice a3 l.length c3] 24)).alloc (.cells #[.slice ao hs.length d] 22) := ⟨_, rfl⟩
  have KW : Hid (Kept Nil w W) := by rw [hW]; exact ((Kept.refl _ _).alloc _).alloc _
  have HB : Hid (W.heap[w.heap.size]? = some (.cells #[.slice a1 v.length c1, .slice a2 n.length c2, .slice a3 l.length c3] 24 (0, 0))) := by rw [hW]; exact blk_past (blk_new _ _) _
  have HN : Hid (W.heap[w.heap.size + 1]? = some (.cells #[.slice ao hs.length d] 22 (0, 0))) := by
    have := blk_new (w.alloc (.cells #[.slice a1 v.length c1, .slice a2 n.length c2, .slice a3 l.length c3] 24)) (.cells #[.slice ao hs.length d] 22)
    rw [show (w.alloc (.cells #[.slice a1 v.length c1, .slice a2 n.length c2, .slice a3 l.length c3] 24)).heap.size = w.heap.size + 1 by simp] at this
    rw [hW]
    exact this
  have I1 := membersY_any B c1 c2 c3 a1 a2 a3 v n l W.drew ((HR.out.1.nil KW.out).nil (Kept.refl _ _).drew) h1 h2 h3
  have hml := mem_le v n l
  have HQ : Hid (quo v n (outZ hs (mem v n l)) = quo v n (outZ hs (mem v n l))) := rfl
  generalize mem v n l = M at *
  have hol : (outZ hs M).length ≤ M.length := List.length_filter_le _ _
  have I2 := fun X ao' c' (o : OwnInts W.heap.size X ao' c' M) (k : Kept Nil W X) => delLost_any W.heap.size c' (w.heap.size + 1) ao' M hs ao d X o ((HR.out.2.nil (KW.out.trans k)).mono (Nat.le_trans hB KW.out.size)) (k.block _ _ HN.out (fun x => x.elim)) (fun e => by have := (World.ownsRow.lt o _ e).1; have := lt_of_block HN.out; omega) (by omega) (by omega)
  generalize outZ hs M = N at *
  have I3 := fun X ao' c' (o : OwnInts W.heap.size X ao' c' N) (k : Kept Nil W X) => quorumX_any X.heap.size c1 c2 c3 c' a1 a2 a3 ao' v n l N X ⟨(HR.out.1.nil (KW.out.trans k)).r1.full, (HR.out.1.nil (KW.out.trans k)).r2.full, (HR.out.1.nil (KW.out.trans k)).r3.full⟩ o.row (by omega) (by omega) (by omega)
  generalize quo v n N = b at *
  have q0 : W.cell? ⟨w.heap.size, 0, none⟩ = some (.slice a1 v.length c1) := blk_at HB.out 0 rfl
  have q1 : W.cell? ⟨w.heap.size, 1, none⟩ = some (.slice a2 n.length c2) := blk_at HB.out 1 rfl
  have q2 : W.cell? ⟨w.heap.size, 2, none⟩ = some (.slice a3 l.length c3) := blk_at HB.out 2 rfl
  have sD : W.drew.cell? ⟨w.heap.size, 0, none⟩ = some (.slice a1 v.length c1) ∧ W.drew.cell? ⟨w.heap.size, 1, none⟩ = some (.slice a2 n.length c2) ∧ W.drew.cell? ⟨w.heap.size, 2, none⟩ = some (.slice a3 l.length c3) := ⟨q0, q1, q2⟩
  clear h hh hB h1 h2 h3 h4 hml hol HQ
  go_enter Try.func24, Try.ntmps24
  go_wp2_with fail
  rw [← hW]
  clear hW
  go_region_held3 (fun w' => w'.cell? ⟨w.heap.size, 0, none⟩ = some (.slice a1 v.length c1) ∧ w'.cell? ⟨w.heap.size, 1, none⟩ = some (.slice a2 n.length c2) ∧ w'.cell? ⟨w.heap.size, 2, none⟩ = some (.slice a3 l.length c3)) (first | assumption | go_keep) (first | (go_at_call 17; go_fit I1; rintro e wa ⟨g1, d1, rfl, oA, kA⟩; have PA : Hid (Kept Nil W wa) := (Kept.refl _ _).drew.trans kA; have XA : Hid (OwnInts W.heap.size wa g1 d1 M) := oA; have BA : Hid (wa.heap[w.heap.size]? = some (.cells #[.slice a1 v.length c1, .slice a2 n.length c2, .slice a3 l.length c3] 24 (0, 0))) := PA.out.block _ _ HB.out (fun x => x.elim); have sA : wa.cell? ⟨w.heap.size, 0, none⟩ = some (.slice a1 v.length c1) ∧ wa.cell? ⟨w.heap.size, 1, none⟩ = some (.slice a2 n.length c2) ∧ wa.cell? ⟨w.heap.size, 2, none⟩ = some (.slice a3 l.length c3) := ⟨blk_at BA.out 0 rfl, blk_at BA.out 1 rfl, blk_at BA.out 2 rfl⟩; clear oA kA) | (go_at_call 80; go_fit (I2 wa g1 d1 XA.out PA.out); rintro e wb ⟨g2, d2, rfl, oB, kB, _⟩; have PB : Hid (Kept Nil W wb) := PA.out.grown kB (own_row XA.out); have XB : Hid (OwnInts W.heap.size wb g2 d2 N) := oB; have BB : Hid (wb.heap[w.heap.size]? = some (.cells #[.slice a1 v.length c1, .slice a2 n.length c2, .slice a3 l.length c3] 24 (0, 0))) := PB.out.block _ _ HB.out (fun x => x.elim); have sB : wb.cell? ⟨w.heap.size, 0, none⟩ = some (.slice a1 v.length c1) ∧ wb.cell? ⟨w.heap.size, 1, none⟩ = some (.slice a2 n.length c2) ∧ wb.cell? ⟨w.heap.size, 2, none⟩ = some (.slice a3 l.length c3) := ⟨blk_at BB.out 0 rfl, blk_at BB.out 1 rfl, blk_at BB.out 2 rfl⟩; clear oB kB) | (go_at_call 22; go_fit (I3 wb g2 d2 XB.out PB.out); rintro e wc ⟨rfl, kC⟩; have PC : Hid (Kept Nil W wc) := PB.out.trans kC; have BC : Hid (wc.heap[w.heap.size]? = some (.cells #[.slice a1 v.length c1, .slice a2 n.length c2, .slice a3 l.length c3] 24 (0, 0))) := PC.out.block _ _ HB.out (fun x => x.elim); have sC : wc.cell? ⟨w.heap.size, 0, none⟩ = some (.slice a1 v.length c1) ∧ wc.cell? ⟨w.heap.size, 1, none⟩ = some (.slice a2 n.length c2) ∧ wc.cell? ⟨w.heap.size, 2, none⟩ = some (.slice a3 l.length c3) := ⟨blk_at BC.out 0 rfl, blk_at BC.out 1 rfl, blk_at BC.out 2 rfl⟩; clear kC))
  all_goals
    go_wp2
    go_ret
    exact ⟨rfl, KW.out.trans PC.out⟩

end Go.Proofs.Ytijklginabipgaa
