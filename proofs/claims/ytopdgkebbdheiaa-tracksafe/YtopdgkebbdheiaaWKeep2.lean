/-
  The law's configuration of bits: one that may be.
-/
import Derived.Test.YtopdgkebbdheiaaWKeep1
import Derived.Test.YtopdgkebbdheiaaWOld
namespace Go.Proofs.Ytopdgkebbdheiaa
open Go.RowKit

theorem own_set {B : Nat} {w : World} {ao : Option Addr} {c : Nat} {ns : List Nat} (h : OwnNats B w ao c ns) {a : Addr} (ha : a.block < B) (u : Value) : OwnNats B (w.setCell a u) ao c ns := ownsRow_setCell_below h ha u
def offOf (v : List Nat) (k : Nat) (ls : List Nat) : List Nat := (ls.take k).filter fun z => !hasZ (intsOf v) (z : Int)
theorem offOf_more {v ls : List Nat} {k : Nat} (h : k < ls.length) (hz : hasZ (intsOf v) (ls[k] : Nat) = false) : offOf v (k + 1) ls = offOf v k ls ++ [ls[k]] := by
  unfold offOf
  rw [List.take_succ_eq_append_getElem h, List.filter_append]
  simp [hz]
theorem offOf_same {v ls : List Nat} {k : Nat} (h : k < ls.length) (hz : hasZ (intsOf v) (ls[k] : Nat) = true) : offOf v (k + 1) ls = offOf v k ls := by
  unfold offOf
  rw [List.take_succ_eq_append_getElem h, List.filter_append]
  simp [hz]
theorem offOf_len (v : List Nat) (k : Nat) (ls : List Nat) : (offOf v k ls).length ≤ ls.length := by
  unfold offOf
  exact Nat.le_trans (List.length_filter_le _ _) (by simp; omega)
theorem off_cfg {v ls : List Nat} (hv : Nodes v) (hne : v ≠ []) (hl : Nodes ls) : Cf.ok ⟨v, [], offOf v ls.length ls⟩ = true := by
  have e : offOf v ls.length ls = ls.filter (fun (z : Nat) => !hasZ (intsOf v) (z : Int)) := by unfold offOf; rw [List.take_of_length_le (Nat.le_refl _)]
  have hn : Nodes (offOf v ls.length ls) := by
    rw [e]
    exact ⟨hl.up.filter _, fun n hn => hl.le n (List.mem_filter.1 hn).1⟩
  show isCfg (intsOf v) (intsOf []) (intsOf (offOf v ls.length ls)) = true
  rw [isCfg_eq, hv.rise, hn.rise]
  have h1 : (intsOf v).isEmpty = false := by
    cases v with
    | nil => exact absurd rfl hne
    | cons a t => rfl
  have h2 : anyV (intsOf v) (intsOf []) (intsOf (offOf v ls.length ls)) = false := by
    unfold anyV
    rw [List.any_eq_false]
    intro z hz
    obtain ⟨n, hn2, rfl⟩ := List.mem_map.1 hz
    rw [e] at hn2
    have := (List.mem_filter.1 hn2).2
    simp only [vot, Bool.not_eq_true', Bool.or_eq_true] at this ⊢
    rw [this]
    intro h
    rcases h with h | h
    · cases h
    · simp [hasZ, pos, intsOf] at h
  rw [h1, h2]
  rfl

/-- What is handed out: a configuration that may be, its rows its own. -/
def CfgPost (w : World) (e : Ending) (w' : World) : Prop := ∃ c : Cf, ∃ v, e = .returned v ∧ CfV w.heap.size c w' v ∧ c.ok = true ∧ Nodes c.v ∧ c.n = [] ∧ Nodes c.l ∧ Kept Nil w w'

set_option maxRecDepth 100000 in
set_option maxHeartbeats 4000000 in
theorem configOf_any (z1 z2 : Int) (w : World) : Calls Try.prog 32 #[.int .i64 z1, .int .i64 z2] w (CfgPost w) := by
  obtain ⟨i0, hi, hz0, hz1, hz2⟩ := info_parts Try.infoInt
  have HR0 : Hid (_) := blk_new w (.cells #[.slice none 0 0, .slice none 0 0, .slice none 0 0] 24)
  go_enter Try.func32, Try.ntmps32
  go_wp2_with fail
  refine (nodes_any z1 _).mono ?_
  rintro e w1 ⟨vs, a1, c1, rfl, o1, n1, k1⟩
  have HR1 : Hid (w1.heap[w.heap.size]? = some (.cells #[.slice none 0 0, .slice none 0 0, .slice none 0 0] 24 (0, 0))) := k1.block _ _ HR0.out (fun x => x.elim)
  have HK1 : Hid (Kept Nil w w1) := ((Kept.refl _ _).alloc _).trans k1
  have HB1 : Hid (w.heap.size < w1.heap.size) := lt_of_block HR1.out
  by_cases hne : vs = []
  · subst hne
    have HNV : Hid (Nodes [1]) := ⟨List.pairwise_singleton _ _, by simp⟩
    have es : (w1.alloc (.cells #[.slice (some ⟨w1.heap.size + 1, 0, none⟩) 1 1, .slice none 0 0, .slice none 0 0] 24)).heap.size = w1.heap.size + 1 := by simp
    have HCB : Hid (((w1.alloc (.cells #[.slice (some ⟨w1.heap.size + 1, 0, none⟩) 1 1, .slice none 0 0, .slice none 0 0] 24)).alloc (.cells #[.int .i64 1] 3)).heap[w1.heap.size]? = some (.cells #[.slice (some ⟨w1.heap.size + 1, 0, none⟩) 1 1, .slice none 0 0, .slice none 0 0] 24 (0, 0))) := blk_past (blk_new w1 _) _
    have HRB : Hid (_) := blk_past (blk_past HR1.out (.cells #[.slice (some ⟨w1.heap.size + 1, 0, none⟩) 1 1, .slice none 0 0, .slice none 0 0] 24)) (.cells #[.int .i64 1] 3)
    have HOB : Hid (OwnNats (w.heap.size + 1) ((w1.alloc (.cells #[.slice (some ⟨w1.heap.size + 1, 0, none⟩) 1 1, .slice none 0 0, .slice none 0 0] 24)).alloc (.cells #[.int .i64 1] 3)) (some ⟨w1.heap.size + 1, 0, none⟩) 1 [1]) := by
      have := World.ownsRow_lit (base := w.heap.size + 1) (e := 3) (size := 1) (w1.alloc (.cells #[.slice (some ⟨w1.heap.size + 1, 0, none⟩) 1 1, .slice none 0 0, .slice none 0 0] 24)) #[.int .i64 1] 1 (by have := HB1.out; rw [es]; omega) (by decide) rfl
      rw [es] at this
      exact this
    have HKB : Hid (Kept Nil w ((w1.alloc (.cells #[.slice (some ⟨w1.heap.size + 1, 0, none⟩) 1 1, .slice none 0 0, .slice none 0 0] 24)).alloc (.cells #[.int .i64 1] 3))) := (HK1.out.alloc _).alloc _
    have HVN : Hid (∀ g, (Value.slice (some ⟨w1.heap.size + 1, 0, none⟩) 1 1).ownBlock = some g → g ≠ w1.heap.size) := fun g hg => by simp [Value.ownBlock] at hg; omega
    clear o1 n1 es
    go_wp2_with fail
    refine (nodes_any z2 _).mono ?_
    rintro e w2 ⟨ls, a3, c3, rfl, o3, n3, k2⟩
    have HC2 : Hid (w2.heap[w1.heap.size]? = some (.cells #[.slice (some ⟨w1.heap.size + 1, 0, none⟩) 1 1, .slice none 0 0, .slice none 0 0] 24 (0, 0))) := k2.block _ _ HCB.out (fun x => x.elim)
    have HR2 : Hid (w2.heap[w.heap.size]? = some (.cells #[.slice none 0 0, .slice none 0 0, .slice none 0 0] 24 (0, 0))) := k2.block _ _ HRB.out (fun x => x.elim)
    have HO2 : Hid (OwnNats (w.heap.size + 1) w2 ((some ⟨w1.heap.size + 1, 0, none⟩)) 1 [1]) := own_kept HOB.out k2 (fun _ _ _ x => x.elim)
    have HL2 : Hid (OwnNats (w1.heap.size + 1) w2 a3 c3 ls) := own_mono o3 (by simp)
    have HK2 : Hid (Kept Nil w w2) := HKB.out.trans k2
    have HB2 : Hid (w1.heap.size < w2.heap.size) := lt_of_block HC2.out
    have HVB : Hid (∀ g, (Value.slice ((some ⟨w1.heap.size + 1, 0, none⟩)) ([1]).length 1).ownBlock = some g → g < w2.heap.size ∧ g ≠ w1.heap.size) := fun g hg => ⟨(HO2.out.lt g hg).2, HVN.out g hg⟩
    have HLB : Hid (∀ g, (Value.slice a3 ls.length c3).ownBlock = some g → g < w2.heap.size ∧ g ≠ w1.heap.size) := fun g hg => ⟨(HL2.out.lt g hg).2, by have := (HL2.out.lt g hg).1; omega⟩
    have HNL : Hid (Nodes ls) := n3
    have hl9 : (ls.length : Int) ≤ 9 := by have := n3.few; omega
    clear k2 o3 n3
    go_wp2
    go_loopw [7] (fun i wr => ∃ k : Nat, ∃ aL cL, k ≤ ls.length ∧ i = .int .i64 k ∧ Hid (wr.heap[w1.heap.size]? = some (.cells #[.slice (some ⟨w1.heap.size + 1, 0, none⟩) 1 1, .slice none 0 0, .slice aL (offOf [1] k ls).length cL] 24 (0, 0))) ∧ Hid (wr.heap[w.heap.size]? = some (.cells #[.slice none 0 0, .slice none 0 0, .slice none 0 0] 24 (0, 0))) ∧ Hid (OwnNats w2.heap.size wr aL cL (offOf [1] k ls)) ∧ Hid (OwnNats (w.heap.size + 1) wr ((some ⟨w1.heap.size + 1, 0, none⟩)) 1 [1]) ∧ Hid (OwnNats (w1.heap.size + 1) wr a3 c3 ls) ∧ Hid (Kept Nil w wr) ∧ w2.heap.size ≤ wr.heap.size) (fun i _ => ls.length - (intOf i).toNat)
    case atStart => exact ⟨0, none, 0, Nat.zero_le _, rfl, HC2.out, HR2.out, World.ownsRow_nil _ _ _ _, HO2.out, HL2.out, HK2.out, Nat.le_refl _⟩
    case round =>
      obtain ⟨k, aL, cL, hk, rfl, HC, HR, HOL, HO, HL, HK, hsz⟩ := hrel
      clear HC2 HR2 HO2 HL2 HK2
      by_cases hlt : k < ls.length
      · obtain ⟨g3, _, rfl, _, hc3⟩ := HL.out.shape (fun e => by subst e; simp at hlt)
        have hcell := hc3 k hlt
        have q0 : wr.cell? ⟨w1.heap.size, 0, none⟩ = some (.slice (some ⟨w1.heap.size + 1, 0, none⟩) 1 1) := blk_cell HC.out 0
        have Q := fun m => keepHas_any _ 1 ((some ⟨w1.heap.size + 1, 0, none⟩)) (intsOf ([1])) (ls[k] : Nat) (wr.drewN m) ((nats_row HO.out).nil ((Kept.refl _ _).drewN _)) (by rw [intsOf_len]; have := HNV.out.few; omega)
        simp only [intsOf_len] at Q
        have hki : (k : Int) < ls.length := by omega
        have hmore := @offOf_more ([1]) ls k hlt
        have hsame := @offOf_same ([1]) ls k hlt
        clear hc3
        generalize ls[k] = y at *
        generalize hasZ (intsOf ([1])) (y : Int) = d at Q hmore hsame
        have HMORE : Hid (d = false → offOf ([1]) (k + 1) ls = offOf ([1]) k ls ++ [y]) := hmore
        have HSAME : Hid (d = true → offOf ([1]) (k + 1) ls = offOf ([1]) k ls) := hsame
        clear hmore hsame
        go_wp2
        go_quiet (first | (go_at_call 37; exact Calls.quiet_of_same (Q _)))
        generalize hwd : wr.drewN _ = wd
        have HKd : Hid (Kept Nil wr wd) := by rw [← hwd]; exact (Kept.refl _ _).drewN _
        have hcd : wd.cell? ⟨g3, k, none⟩ = some (.int .i64 y) := by rw [← hwd]; exact hcell
        clear hwd Q q0 hcell
        cases d with
        | true =>
          have HT : Hid (offOf ([1]) (k + 1) ls = offOf ([1]) k ls) := HSAME.out rfl
          clear HSAME HMORE
          go_wp2
          go_roundw
          case rel => exact ⟨k + 1, aL, cL, by omega, by go_num, by show wd.heap[w1.heap.size]? = _; rw [HT.out]; exact HKd.out.block _ _ HC.out (fun x => x.elim), HKd.out.block _ _ HR.out (fun x => x.elim), by show OwnNats _ _ _ _ _; rw [HT.out]; exact own_kept HOL.out HKd.out (fun _ _ _ x => x.elim), own_kept HO.out HKd.out (fun _ _ _ x => x.elim), own_kept HL.out HKd.out (fun _ _ _ x => x.elim), HK.out.trans HKd.out, Nat.le_trans hsz HKd.out.size⟩
          case measure => simp [intOf]; omega
        | false =>
          have HT : Hid (offOf ([1]) (k + 1) ls = offOf ([1]) k ls ++ [y]) := HMORE.out rfl
          clear HSAME HMORE
          have HCd := HKd.out.block _ _ HC.out (fun x => x.elim)
          have q2 : wd.cell? ⟨w1.heap.size, 2, none⟩ = some (.slice aL (offOf ([1]) k ls).length cL) := blk_cell HCd 2
          have f2 : wd.frozen? ⟨w1.heap.size, 2, none⟩ = false := blk_free HCd 2
          have hltd : w1.heap.size < wd.heap.size := lt_of_block HCd
          have hlg : g3 < wd.heap.size := cell_lt hcd
          have ho : wd.ownsRow w2.heap.size 3 1 (.slice aL (offOf ([1]) k ls).length cL) (offOf ([1]) k ls).length (natCells (offOf ([1]) k ls)) := own_kept HOL.out HKd.out (fun _ _ _ x => x.elim)
          have HLL : Hid ((offOf ([1]) k ls).length + 1 ≤ maxLen ∧ ((offOf ([1]) k ls).length + 1) * 8 ≤ 140737488355328) := by
            have := offOf_len ([1]) k ls
            constructor
            · unfold maxLen; omega
            · omega
          have hszd : w2.heap.size ≤ wd.heap.size := Nat.le_trans hsz HKd.out.size
          go_wp2
          go_region_law (refine step_append_src _ rfl (.tmp 36) (.tmp 41) 22 22 rfl w2.heap.size 3 i0 (.int .i64 0) 1 8 Try.underlying22 hi hz0 hz1 hz2 rfl (.slice aL (offOf ([1]) k ls).length cL) (offOf ([1]) k ls).length (natCells (offOf ([1]) k ls)) (by simp [Act.eval]) (World.ownsRow.alloc (w := wd.drew) ho _) (.slice (some ⟨wd.heap.size, 0, none⟩) 1 1) 1 [.int .i64 y] (by simp [Act.eval]) (src_int (w := wd.drew) y) HLL.out.1 HLL.out.2 (le_alloc (w := wd.drew) hszd _) ?_; intro ao' c' w4 ho' hg'; have HO4 : Hid _ := ho'; have hb4 := hg'.block w1.heap.size (by simp; omega) (fun e => by have := (ho.lt _ e.symm).1; have := HB2.out; omega); have HC4 : Hid (w4.heap[w1.heap.size]? = some (.cells #[.slice (some ⟨w1.heap.size + 1, 0, none⟩) 1 1, .slice none 0 0, .slice aL (offOf ([1]) k ls).length cL] 24 (0, 0))) := hb4.trans (blk_past (w := wd.drew) HCd _); have q4 : w4.cell? ⟨w1.heap.size, 2, none⟩ = some (.slice aL (offOf ([1]) k ls).length cL) := blk_cell HC4.out 2; have f4 : w4.frozen? ⟨w1.heap.size, 2, none⟩ = false := blk_free HC4.out 2; have HG4 : Hid _ := hg'; clear ho' hg' hb4)
          all_goals go_wp2
          all_goals
            have e4 : (Value.slice aL (offOf ([1]) k ls).length cL).ownBlock = none ∨ ∃ g, (Value.slice aL (offOf ([1]) k ls).length cL).ownBlock = some g ∧ w2.heap.size ≤ g := by
              cases hq : (Value.slice aL (offOf ([1]) k ls).length cL).ownBlock with
              | none => exact .inl rfl
              | some g => exact .inr ⟨g, rfl, (ho.lt g hq).1⟩
            have hrow : ∀ g, (Value.slice aL (offOf ([1]) k ls).length cL).ownBlock = some g → w2.heap.size ≤ g := fun g hq => (ho.lt g hq).1
            have HRd : Hid (w4.heap[w.heap.size]? = some (.cells #[.slice none 0 0, .slice none 0 0, .slice none 0 0] 24 (0, 0))) := (HG4.out.block w.heap.size (by have := HB1.out; simp; omega) (fun e => by have := hrow _ e.symm; have := HB1.out; have := HB2.out; omega)).trans (blk_past (w := wd.drew) (HKd.out.block _ _ HR.out (fun x => x.elim)) _)
            have HOd : Hid (OwnNats (w.heap.size + 1) w4 ((some ⟨w1.heap.size + 1, 0, none⟩)) 1 ([1])) := World.ownsRow.kept (World.ownsRow.alloc (w := wd.drew) (own_kept HO.out HKd.out.drew (fun _ _ _ x => x.elim)) _) HG4.out (by
              cases hq : (Value.slice ((some ⟨w1.heap.size + 1, 0, none⟩)) ([1]).length 1).ownBlock with
              | none => exact .inl rfl
              | some g => exact .inr (fun e => by have := hrow g e.symm; have := (HVB.out g hq).1; omega))
            have HLd : Hid (OwnNats (w1.heap.size + 1) w4 (some ⟨g3, 0, none⟩) c3 ls) := World.ownsRow.kept (World.ownsRow.alloc (w := wd.drew) (own_kept HL.out HKd.out.drew (fun _ _ _ x => x.elim)) _) HG4.out (.inr (fun e => by have := hrow g3 e.symm; have := (HLB.out g3 rfl).1; omega))
            have HKw : Hid (Kept Nil w w4) := (((HK.out.trans HKd.out).drew).alloc _).grown HG4.out (fun g hq => by have := hrow g hq; have := HB1.out; have := HB2.out; omega)
            have hsz4 : w2.heap.size ≤ w4.heap.size := by have := HG4.out.size; simp at this; omega
          all_goals go_roundw
          all_goals first | (simp [intOf]; omega) | exact ⟨k + 1, ao', c', by omega, by go_num, by show _ = _; rw [HT.out, List.length_append]; exact blk_set HC4.out 2 _, blk_other HRd.out (show w.heap.size ≠ w1.heap.size by have := HB1.out; omega) _, by show OwnNats _ _ _ _ _; rw [HT.out]; exact own_set (OwnNats.push HO4.out) (show w1.heap.size < w2.heap.size from HB2.out) _, ownsRow_setCell_other HOd.out (fun e => (HVB.out _ e).2 rfl) _, own_set HLd.out (show w1.heap.size < w1.heap.size + 1 by omega) _, HKw.out.setNew (show w.heap.size ≤ w1.heap.size by have := HB1.out; omega) _, by simp [World.setCell]; exact hsz4⟩
      · obtain rfl : k = ls.length := by omega
        have HOK : Hid (Cf.ok ⟨[1], [], offOf ([1]) ls.length ls⟩ = true) := off_cfg HNV.out (by simp) HNL.out
        have HNO : Hid (Nodes (offOf ([1]) ls.length ls)) := ⟨(HNL.out.up.sublist (List.take_sublist _ _)).filter _, fun n hn => HNL.out.le n (List.mem_of_mem_take (List.mem_filter.1 hn).1)⟩
        have p0 : wr.cell? ⟨w1.heap.size, 0, none⟩ = some (.slice (some ⟨w1.heap.size + 1, 0, none⟩) 1 1) := blk_cell HC.out 0
        have p1 : wr.cell? ⟨w1.heap.size, 1, none⟩ = some (.slice none 0 0) := blk_cell HC.out 1
        have p2 : wr.cell? ⟨w1.heap.size, 2, none⟩ = some (.slice aL (offOf ([1]) ls.length ls).length cL) := blk_cell HC.out 2
        have r0 : wr.cell? ⟨w.heap.size, 0, none⟩ = some (.slice none 0 0) := blk_cell HR.out 0
        have r1 : wr.cell? ⟨w.heap.size, 1, none⟩ = some (.slice none 0 0) := blk_cell HR.out 1
        have r2 : wr.cell? ⟨w.heap.size, 2, none⟩ = some (.slice none 0 0) := blk_cell HR.out 2
        have f0 := blk_free HR.out 0
        have f1 := blk_free HR.out 1
        have f2 := blk_free HR.out 2
        have hB0 : w.heap.size < w.heap.size + 1 := by omega
        have hB2 : w.heap.size < w2.heap.size := by have := HB1.out; have := HB2.out; omega
        go_wp2
        refine bodyPost_ret (v := .agg #[.slice (some ⟨w1.heap.size + 1, 0, none⟩) 1 1, .slice none 0 0, .slice aL (offOf ([1]) ls.length ls).length cL]) (by simp [results, Try.results32, go_sem, r0, r1, r2]) rfl ?_
        exact ⟨⟨[1], [], offOf ([1]) ls.length ls⟩, _, rfl, ⟨(some ⟨w1.heap.size + 1, 0, none⟩), none, aL, 1, 0, cL, rfl, own_mono (own_set (own_set (own_set HO.out hB0 _) hB0 _) hB0 _) (Nat.le_succ _), World.ownsRow_nil _ _ _ _, own_mono (own_set (own_set (own_set HOL.out hB2 _) hB2 _) hB2 _) (Nat.le_of_lt hB2)⟩, HOK.out, HNV.out, rfl, HNO.out, ((HK.out.setNew (Nat.le_refl _) _).setNew (Nat.le_refl _) _).setNew (Nat.le_refl _) _⟩
  · have hne2 : ((vs.length : Int) == 0) = false := by simpa using hne
    have HNV : Hid (Nodes vs) := n1
    have HCB : Hid (_) := blk_new w1 (.cells #[.slice a1 vs.length c1, .slice none 0 0, .slice none 0 0] 24)
    have HRB : Hid (_) := blk_past HR1.out (.cells #[.slice a1 vs.length c1, .slice none 0 0, .slice none 0 0] 24)
    have HOB : Hid (OwnNats (w.heap.size + 1) (w1.alloc (.cells #[.slice a1 vs.length c1, .slice none 0 0, .slice none 0 0] 24)) a1 c1 vs) := World.ownsRow.alloc (own_mono o1 (by simp)) _
    have HKB : Hid (Kept Nil w (w1.alloc (.cells #[.slice a1 vs.length c1, .slice none 0 0, .slice none 0 0] 24))) := HK1.out.alloc _
    have HVN : Hid (∀ g, (Value.slice a1 vs.length c1).ownBlock = some g → g ≠ w1.heap.size) := fun g hg => by have := (o1.lt g hg).2; omega
    clear o1 n1
    go_wp2_with fail
    refine (nodes_any z2 _).mono ?_
    rintro e w2 ⟨ls, a3, c3, rfl, o3, n3, k2⟩
    have HC2 : Hid (w2.heap[w1.heap.size]? = some (.cells #[.slice a1 vs.length c1, .slice none 0 0, .slice none 0 0] 24 (0, 0))) := k2.block _ _ HCB.out (fun x => x.elim)
    have HR2 : Hid (w2.heap[w.heap.size]? = some (.cells #[.slice none 0 0, .slice none 0 0, .slice none 0 0] 24 (0, 0))) := k2.block _ _ HRB.out (fun x => x.elim)
    have HO2 : Hid (OwnNats (w.heap.size + 1) w2 (a1) c1 vs) := own_kept HOB.out k2 (fun _ _ _ x => x.elim)
    have HL2 : Hid (OwnNats (w1.heap.size + 1) w2 a3 c3 ls) := own_mono o3 (by simp)
    have HK2 : Hid (Kept Nil w w2) := HKB.out.trans k2
    have HB2 : Hid (w1.heap.size < w2.heap.size) := lt_of_block HC2.out
    have HVB : Hid (∀ g, (Value.slice (a1) (vs).length c1).ownBlock = some g → g < w2.heap.size ∧ g ≠ w1.heap.size) := fun g hg => ⟨(HO2.out.lt g hg).2, HVN.out g hg⟩
    have HLB : Hid (∀ g, (Value.slice a3 ls.length c3).ownBlock = some g → g < w2.heap.size ∧ g ≠ w1.heap.size) := fun g hg => ⟨(HL2.out.lt g hg).2, by have := (HL2.out.lt g hg).1; omega⟩
    have HNL : Hid (Nodes ls) := n3
    have hl9 : (ls.length : Int) ≤ 9 := by have := n3.few; omega
    clear k2 o3 n3
    go_wp2
    go_loopw [7] (fun i wr => ∃ k : Nat, ∃ aL cL, k ≤ ls.length ∧ i = .int .i64 k ∧ Hid (wr.heap[w1.heap.size]? = some (.cells #[.slice a1 vs.length c1, .slice none 0 0, .slice aL (offOf vs k ls).length cL] 24 (0, 0))) ∧ Hid (wr.heap[w.heap.size]? = some (.cells #[.slice none 0 0, .slice none 0 0, .slice none 0 0] 24 (0, 0))) ∧ Hid (OwnNats w2.heap.size wr aL cL (offOf vs k ls)) ∧ Hid (OwnNats (w.heap.size + 1) wr (a1) c1 vs) ∧ Hid (OwnNats (w1.heap.size + 1) wr a3 c3 ls) ∧ Hid (Kept Nil w wr) ∧ w2.heap.size ≤ wr.heap.size) (fun i _ => ls.length - (intOf i).toNat)
    case atStart => exact ⟨0, none, 0, Nat.zero_le _, rfl, HC2.out, HR2.out, World.ownsRow_nil _ _ _ _, HO2.out, HL2.out, HK2.out, Nat.le_refl _⟩
    case round =>
      obtain ⟨k, aL, cL, hk, rfl, HC, HR, HOL, HO, HL, HK, hsz⟩ := hrel
      clear HC2 HR2 HO2 HL2 HK2
      by_cases hlt : k < ls.length
      · obtain ⟨g3, _, rfl, _, hc3⟩ := HL.out.shape (fun e => by subst e; simp at hlt)
        have hcell := hc3 k hlt
        have q0 : wr.cell? ⟨w1.heap.size, 0, none⟩ = some (.slice a1 vs.length c1) := blk_cell HC.out 0
        have Q := fun m => keepHas_any _ c1 (a1) (intsOf (vs)) (ls[k] : Nat) (wr.drewN m) ((nats_row HO.out).nil ((Kept.refl _ _).drewN _)) (by rw [intsOf_len]; have := HNV.out.few; omega)
        simp only [intsOf_len] at Q
        have hki : (k : Int) < ls.length := by omega
        have hmore := @offOf_more (vs) ls k hlt
        have hsame := @offOf_same (vs) ls k hlt
        clear hc3
        generalize ls[k] = y at *
        generalize hasZ (intsOf (vs)) (y : Int) = d at Q hmore hsame
        have HMORE : Hid (d = false → offOf (vs) (k + 1) ls = offOf (vs) k ls ++ [y]) := hmore
        have HSAME : Hid (d = true → offOf (vs) (k + 1) ls = offOf (vs) k ls) := hsame
        clear hmore hsame
        go_wp2
        go_quiet (first | (go_at_call 37; exact Calls.quiet_of_same (Q _)))
        generalize hwd : wr.drewN _ = wd
        have HKd : Hid (Kept Nil wr wd) := by rw [← hwd]; exact (Kept.refl _ _).drewN _
        have hcd : wd.cell? ⟨g3, k, none⟩ = some (.int .i64 y) := by rw [← hwd]; exact hcell
        clear hwd Q q0 hcell
        cases d with
        | true =>
          have HT : Hid (offOf (vs) (k + 1) ls = offOf (vs) k ls) := HSAME.out rfl
          clear HSAME HMORE
          go_wp2
          go_roundw
          case rel => exact ⟨k + 1, aL, cL, by omega, by go_num, by show wd.heap[w1.heap.size]? = _; rw [HT.out]; exact HKd.out.block _ _ HC.out (fun x => x.elim), HKd.out.block _ _ HR.out (fun x => x.elim), by show OwnNats _ _ _ _ _; rw [HT.out]; exact own_kept HOL.out HKd.out (fun _ _ _ x => x.elim), own_kept HO.out HKd.out (fun _ _ _ x => x.elim), own_kept HL.out HKd.out (fun _ _ _ x => x.elim), HK.out.trans HKd.out, Nat.le_trans hsz HKd.out.size⟩
          case measure => simp [intOf]; omega
        | false =>
          have HT : Hid (offOf (vs) (k + 1) ls = offOf (vs) k ls ++ [y]) := HMORE.out rfl
          clear HSAME HMORE
          have HCd := HKd.out.block _ _ HC.out (fun x => x.elim)
          have q2 : wd.cell? ⟨w1.heap.size, 2, none⟩ = some (.slice aL (offOf (vs) k ls).length cL) := blk_cell HCd 2
          have f2 : wd.frozen? ⟨w1.heap.size, 2, none⟩ = false := blk_free HCd 2
          have hltd : w1.heap.size < wd.heap.size := lt_of_block HCd
          have hlg : g3 < wd.heap.size := cell_lt hcd
          have ho : wd.ownsRow w2.heap.size 3 1 (.slice aL (offOf (vs) k ls).length cL) (offOf (vs) k ls).length (natCells (offOf (vs) k ls)) := own_kept HOL.out HKd.out (fun _ _ _ x => x.elim)
          have HLL : Hid ((offOf (vs) k ls).length + 1 ≤ maxLen ∧ ((offOf (vs) k ls).length + 1) * 8 ≤ 140737488355328) := by
            have := offOf_len (vs) k ls
            constructor
            · unfold maxLen; omega
            · omega
          have hszd : w2.heap.size ≤ wd.heap.size := Nat.le_trans hsz HKd.out.size
          go_wp2
          go_region_law (refine step_append_src _ rfl (.tmp 36) (.tmp 41) 22 22 rfl w2.heap.size 3 i0 (.int .i64 0) 1 8 Try.underlying22 hi hz0 hz1 hz2 rfl (.slice aL (offOf (vs) k ls).length cL) (offOf (vs) k ls).length (natCells (offOf (vs) k ls)) (by simp [Act.eval]) (World.ownsRow.alloc (w := wd.drew) ho _) (.slice (some ⟨wd.heap.size, 0, none⟩) 1 1) 1 [.int .i64 y] (by simp [Act.eval]) (src_int (w := wd.drew) y) HLL.out.1 HLL.out.2 (le_alloc (w := wd.drew) hszd _) ?_; intro ao' c' w4 ho' hg'; have HO4 : Hid _ := ho'; have hb4 := hg'.block w1.heap.size (by simp; omega) (fun e => by have := (ho.lt _ e.symm).1; have := HB2.out; omega); have HC4 : Hid (w4.heap[w1.heap.size]? = some (.cells #[.slice a1 vs.length c1, .slice none 0 0, .slice aL (offOf (vs) k ls).length cL] 24 (0, 0))) := hb4.trans (blk_past (w := wd.drew) HCd _); have q4 : w4.cell? ⟨w1.heap.size, 2, none⟩ = some (.slice aL (offOf (vs) k ls).length cL) := blk_cell HC4.out 2; have f4 : w4.frozen? ⟨w1.heap.size, 2, none⟩ = false := blk_free HC4.out 2; have HG4 : Hid _ := hg'; clear ho' hg' hb4)
          all_goals go_wp2
          all_goals
            have e4 : (Value.slice aL (offOf (vs) k ls).length cL).ownBlock = none ∨ ∃ g, (Value.slice aL (offOf (vs) k ls).length cL).ownBlock = some g ∧ w2.heap.size ≤ g := by
              cases hq : (Value.slice aL (offOf (vs) k ls).length cL).ownBlock with
              | none => exact .inl rfl
              | some g => exact .inr ⟨g, rfl, (ho.lt g hq).1⟩
            have hrow : ∀ g, (Value.slice aL (offOf (vs) k ls).length cL).ownBlock = some g → w2.heap.size ≤ g := fun g hq => (ho.lt g hq).1
            have HRd : Hid (w4.heap[w.heap.size]? = some (.cells #[.slice none 0 0, .slice none 0 0, .slice none 0 0] 24 (0, 0))) := (HG4.out.block w.heap.size (by have := HB1.out; simp; omega) (fun e => by have := hrow _ e.symm; have := HB1.out; have := HB2.out; omega)).trans (blk_past (w := wd.drew) (HKd.out.block _ _ HR.out (fun x => x.elim)) _)
            have HOd : Hid (OwnNats (w.heap.size + 1) w4 (a1) c1 (vs)) := World.ownsRow.kept (World.ownsRow.alloc (w := wd.drew) (own_kept HO.out HKd.out.drew (fun _ _ _ x => x.elim)) _) HG4.out (by
              cases hq : (Value.slice (a1) (vs).length c1).ownBlock with
              | none => exact .inl rfl
              | some g => exact .inr (fun e => by have := hrow g e.symm; have := (HVB.out g hq).1; omega))
            have HLd : Hid (OwnNats (w1.heap.size + 1) w4 (some ⟨g3, 0, none⟩) c3 ls) := World.ownsRow.kept (World.ownsRow.alloc (w := wd.drew) (own_kept HL.out HKd.out.drew (fun _ _ _ x => x.elim)) _) HG4.out (.inr (fun e => by have := hrow g3 e.symm; have := (HLB.out g3 rfl).1; omega))
            have HKw : Hid (Kept Nil w w4) := (((HK.out.trans HKd.out).drew).alloc _).grown HG4.out (fun g hq => by have := hrow g hq; have := HB1.out; have := HB2.out; omega)
            have hsz4 : w2.heap.size ≤ w4.heap.size := by have := HG4.out.size; simp at this; omega
          all_goals go_roundw
          all_goals first | (simp [intOf]; omega) | exact ⟨k + 1, ao', c', by omega, by go_num, by show _ = _; rw [HT.out, List.length_append]; exact blk_set HC4.out 2 _, blk_other HRd.out (show w.heap.size ≠ w1.heap.size by have := HB1.out; omega) _, by show OwnNats _ _ _ _ _; rw [HT.out]; exact own_set (OwnNats.push HO4.out) (show w1.heap.size < w2.heap.size from HB2.out) _, ownsRow_setCell_other HOd.out (fun e => (HVB.out _ e).2 rfl) _, own_set HLd.out (show w1.heap.size < w1.heap.size + 1 by omega) _, HKw.out.setNew (show w.heap.size ≤ w1.heap.size by have := HB1.out; omega) _, by simp [World.setCell]; exact hsz4⟩
      · obtain rfl : k = ls.length := by omega
        have HOK : Hid (Cf.ok ⟨vs, [], offOf (vs) ls.length ls⟩ = true) := off_cfg HNV.out hne HNL.out
        have HNO : Hid (Nodes (offOf (vs) ls.length ls)) := ⟨(HNL.out.up.sublist (List.take_sublist _ _)).filter _, fun n hn => HNL.out.le n (List.mem_of_mem_take (List.mem_filter.1 hn).1)⟩
        have p0 : wr.cell? ⟨w1.heap.size, 0, none⟩ = some (.slice a1 vs.length c1) := blk_cell HC.out 0
        have p1 : wr.cell? ⟨w1.heap.size, 1, none⟩ = some (.slice none 0 0) := blk_cell HC.out 1
        have p2 : wr.cell? ⟨w1.heap.size, 2, none⟩ = some (.slice aL (offOf (vs) ls.length ls).length cL) := blk_cell HC.out 2
        have r0 : wr.cell? ⟨w.heap.size, 0, none⟩ = some (.slice none 0 0) := blk_cell HR.out 0
        have r1 : wr.cell? ⟨w.heap.size, 1, none⟩ = some (.slice none 0 0) := blk_cell HR.out 1
        have r2 : wr.cell? ⟨w.heap.size, 2, none⟩ = some (.slice none 0 0) := blk_cell HR.out 2
        have f0 := blk_free HR.out 0
        have f1 := blk_free HR.out 1
        have f2 := blk_free HR.out 2
        have hB0 : w.heap.size < w.heap.size + 1 := by omega
        have hB2 : w.heap.size < w2.heap.size := by have := HB1.out; have := HB2.out; omega
        go_wp2
        refine bodyPost_ret (v := .agg #[.slice a1 vs.length c1, .slice none 0 0, .slice aL (offOf (vs) ls.length ls).length cL]) (by simp [results, Try.results32, go_sem, r0, r1, r2]) rfl ?_
        exact ⟨⟨vs, [], offOf (vs) ls.length ls⟩, _, rfl, ⟨a1, none, aL, c1, 0, cL, rfl, own_mono (own_set (own_set (own_set HO.out hB0 _) hB0 _) hB0 _) (Nat.le_succ _), World.ownsRow_nil _ _ _ _, own_mono (own_set (own_set (own_set HOL.out hB2 _) hB2 _) hB2 _) (Nat.le_of_lt hB2)⟩, HOK.out, HNV.out, rfl, HNO.out, ((HK.out.setNew (Nat.le_refl _) _).setNew (Nat.le_refl _) _).setNew (Nat.le_refl _) _⟩

end Go.Proofs.Ytopdgkebbdheiaa
