/-
  Joined: WTz3, WTza, WTzb.
-/
import Derived.Test.YtflnjlbafchnaaaGreatDoorR23
import Derived.Deep.DeepCutAuto
import Derived.Test.YtflnjlbafchnaaaGreatDoorR09
import Derived.Test.YtflnjlbafchnaaaGreatDoorR22
import Derived.Test.YtflnjlbafchnaaaGreatDoorR17
import Derived.Test.YtflnjlbafchnaaaGreatDoorR21
import Derived.Test.YtflnjlbafchnaaaGreatDoorR14
/-
  TxnExact: the document's Command, whole.
-/
namespace Go.Proofs.YtflnjlbafchnaaaGreatDoor
open Go.RowKit

set_option maxRecDepth 100000 in
set_option maxHeartbeats 4000000 in
theorem dcmd_any (w : World) (b : Nat) (t : Tx) (D : Dx) (ap oo : Option Addr) (cp oc : Nat) (h : TdAt w b t D ap oo cp oc) (hP : PtRow w.heap.size w ap t.ps) (sm : Sim t D) (ok : t.Ok) :
    Calls Tryz.prog 13 #[.pointer (some ⟨b, 0, none⟩)] w (NxPost w t.next) := by
  have SM : Hid (Sim t D ∧ t.Ok) := ⟨sm, ok⟩
  obtain ⟨W, hW⟩ : ∃ W, W = w.alloc (.cells #[.int .i64 0, .string ⟨#[]⟩, .string ⟨#[]⟩, .int .i64 0] 31) := ⟨_, rfl⟩
  obtain ⟨R, HRe⟩ : ∃ R, Hid (R = w.heap.size) := ⟨_, rfl⟩
  have KW : Hid (Kept Nil w W) := by rw [hW]; exact (Kept.refl _ _).alloc _
  have HT : Hid (TdAt W b t D ap oo cp oc) := h.kept KW.out
  have HR : Hid (CqAt W R 0 [] [] 0) := by rw [hW, HRe.out]; exact blk_new _ _
  have HN : Hid (w.heap.size ≤ R ∧ b ≠ R) := by have h1 := lt_of_block h; have h2 := HRe.out; exact ⟨by omega, by omega⟩
  have HP : Hid (PtRow w.heap.size W ap t.ps) := hP.keptX KW.out (fun _ _ _ x => x)
  obtain ⟨di, Hdi⟩ : ∃ x, Hid (x = Lib.decDigits t.id) := ⟨_, rfl⟩
  obtain ⟨db, Hdb⟩ : ∃ x, Hid (x = Lib.decDigits D.sn.b) := ⟨_, rfl⟩
  obtain ⟨own, Hown⟩ : ∃ x, Hid (x = tKey t.id) := ⟨_, rfl⟩
  obtain ⟨oth, Hoth⟩ : ∃ x, Hid (x = tKey D.sn.b) := ⟨_, rfl⟩
  obtain ⟨key, Hkey⟩ : ∃ x, Hid (x = t.key) := ⟨_, rfl⟩
  obtain ⟨pk, Hpk⟩ : ∃ x, Hid (x = t.part.k) := ⟨_, rfl⟩
  have zi : (bs di).size ≤ 9 := by rw [Hdi.out, bs_size]; exact digits_len9 (by have := ok.id; omega)
  have zb : (bs db).size ≤ 9 := by rw [Hdb.out, bs_size]; exact digits_len9 (by have := sm.ok.b; omega)
  have hmem : t.part ∈ t.ps := by unfold Tx.part; rw [List.getElem?_eq_getElem ok.at']; exact List.getElem_mem _
  have zk : (bs pk).size ≤ 15 := by rw [Hpk.out, bs_size]; exact (ok.keys t.part hmem).2.1
  have gi : (⟨#[116]⟩ : ByteArray) ++ bs di = bs own := by rw [Hown.out, Hdi.out]; exact bs_append [116] _
  have gb : (⟨#[116]⟩ : ByteArray) ++ bs db = bs oth := by rw [Hoth.out, Hdb.out]; exact bs_append [116] _
  have gk : (⟨#[107]⟩ : ByteArray) ++ bs pk = bs key := by rw [Hkey.out, Hpk.out]; exact bs_append [107] _
  have hks2 : ¬ 9223372036854775807 < 1 + (bs pk).size := by omega
  have D1 := fun X => refDecimal_any t.id (by have := ok.id; omega) X
  have D2 := fun X => refDecimal_any D.sn.b (by have := sm.ok.b; omega) X
  simp only [← Hdi.out] at D1
  simp only [← Hdb.out] at D2
  obtain ⟨nn, Hnn⟩ : ∃ x, Hid (x = if D.d = true then D.sn.t else D.sn.n) := ⟨_, rfl⟩
  clear hmem h hP sm ok
  go_enter Tryz.func13, Tryz.ntmps13
  go_upto_region 1 with fail
  rw [← hW, ← HRe.out]
  clear hW HRe
  have q0 : W.cell? ⟨b, 0, none⟩ = some (.int .i64 t.id) := blk_at HT.out 0 rfl
  go_wp2_with fail
  go_fit (D1 W)
  rintro _ w1 ⟨rfl, k1⟩
  have K1 : Hid (Kept Nil W w1) := k1
  clear k1 q0 D1
  have q6 : w1.cell? ⟨b, 6, none⟩ = some (.int .i64 D.sn.b) := blk_at (HT.out.kept K1.out) 6 rfl
  go_wp2_with fail
  go_fit (D2 w1)
  rintro _ w2 ⟨rfl, k2⟩
  have K2 : Hid (Kept Nil W w2) := K1.out.trans k2
  clear k2 q6 D2
  have HT2 : Hid (TdAt w2 b t D ap oo cp oc) := HT.out.kept K2.out
  have HIn : Hid (DmIn w w2.drew b R t D ap oo cp oc own oth key nn) := by
    obtain ⟨sm, ok⟩ := SM.out
    exact ⟨(KW.out.trans K2.out).drew, HT2.out.drew, (HR.out.kept K2.out).kept (Kept.refl _ _).drew, HN.out.1, HN.out.2, fun j hj => by
      obtain ⟨a, h1, h2, h3, h4⟩ := (HP.out.keptX K2.out (fun _ _ _ x => x)) j hj
      exact ⟨a, h1, Nat.lt_of_lt_of_le h2 (KW.out.trans K2.out).size, h3, h4⟩, Hown.out, Hoth.out, Hkey.out, Hnn.out, sm, ok⟩
  obtain ⟨pa, hpa, _, c0, _⟩ := (HP.out.keptX K2.out (fun _ _ _ x => x)) t.at' SM.out.2.at'
  have hpk : t.part = t.ps[t.at']'(SM.out.2.at') := by unfold Tx.part; rw [List.getElem?_eq_getElem SM.out.2.at']; rfl
  rw [← hpk, ← Hpk.out] at c0
  subst hpa
  have q1 : w2.cell? ⟨b, 1, none⟩ = some (.slice (some pa) t.ps.length cp) := blk_at HT2.out 1 rfl
  have q3 : w2.cell? ⟨b, 3, none⟩ = some (.int .i64 t.at') := blk_at HT2.out 3 rfl
  have hat : (t.at' : Int) < t.ps.length := by have := SM.out.2.at'; omega
  go_upto_region 3 with fail
  go_region
  all_goals
    have q5 : w2.drew.cell? ⟨b, 5, none⟩ = some (.int .i64 D.sn.n) := blk_at HT2.out.drew 5 rfl
    have q7 : w2.drew.cell? ⟨b, 7, none⟩ = some (.int .i64 D.sn.t) := blk_at HT2.out.drew 7 rfl
    have q9 : w2.drew.cell? ⟨b, 9, none⟩ = some (.bool D.d) := blk_at HT2.out.drew 9 rfl
    clear hpk q1 q3 c0
    go_upto_region 5 with fail
    go_upto_if 44 with fail
    go_cut [7] from 41 to 49 (fun v wc => v = .int .i64 nn ∧ wc = w2.drew)
    case first =>
      have hnn := Hnn.out
      cases hd : D.d with
      | false =>
        rw [hd] at q9 hnn
        obtain rfl : nn = D.sn.n := hnn
        clear hd
        go_wp2
        go_meet
        exact ⟨rfl, rfl⟩
      | true =>
        rw [hd] at q9 hnn
        obtain rfl : nn = D.sn.t := hnn
        clear hd
        go_wp2
        go_meet
        exact ⟨rfl, rfl⟩
    case rest =>
      obtain ⟨rfl, hww⟩ := hcut
      rw [hww]
      clear hww q5 q7 q9
      have hp := SM.out.2.ph
      apply_assumption
      have hc : t.ph = 0 ∨ t.ph = 1 ∨ t.ph = 2 ∨ t.ph = 3 ∨ t.ph = 4 ∨ t.ph = 5 ∨ t.ph = 6 ∨ t.ph = 7 ∨ t.ph = 8 ∨ t.ph = 9 ∨ t.ph = 10 := by omega
      rcases hc with hp | hp | hp | hp | hp | hp | hp | hp | hp | hp | hp
      · exact dmT0 w _ b R t D _ oo cp oc own oth key nn HIn hp _ _ _ _ _ _ _ _ _ _ _ _ _ _ _ _ _ _ _ _ _ _ _ _ _ _ _ _ _ _ _ _ _ _ _ _ _ _ _ _ _ _ _ _ _ _ _ _ _ _ _ _ _ _ _ _ _ _ _ _ _ _ _ _ _ _ _ _ _ _ _ _ _ _ _ _ _ _ _ _ _ _ _ _ _ _ _ _ _ _ _ _ _ _ _ _ _ _ _ _ _ _ _ _ _ _ _ _ _ _ _ _ _ _ _ _ _ _ _ _ _ _ _ _ _ _ _ _ _ _
      · exact dmT1 w _ b R t D _ oo cp oc own oth key nn HIn hp _ _ _ _ _ _ _ _ _ _ _ _ _ _ _ _ _ _ _ _ _ _ _ _ _ _ _ _ _ _ _ _ _ _ _ _ _ _ _ _ _ _ _ _ _ _ _ _ _ _ _ _ _ _ _ _ _ _ _ _ _ _ _ _ _ _ _ _ _ _ _ _ _ _ _ _ _ _ _ _ _ _ _ _ _ _ _ _ _ _ _ _ _ _ _ _ _ _ _ _ _ _ _ _ _ _ _ _ _ _ _ _ _ _ _ _ _ _ _ _ _ _ _ _ _ _ _ _ _ _
      · exact dmT2 w _ b R t D _ oo cp oc own oth key nn HIn hp _ _ _ _ _ _ _ _ _ _ _ _ _ _ _ _ _ _ _ _ _ _ _ _ _ _ _ _ _ _ _ _ _ _ _ _ _ _ _ _ _ _ _ _ _ _ _ _ _ _ _ _ _ _ _ _ _ _ _ _ _ _ _ _ _ _ _ _ _ _ _ _ _ _ _ _ _ _ _ _ _ _ _ _ _ _ _ _ _ _ _ _ _ _ _ _ _ _ _ _ _ _ _ _ _ _ _ _ _ _ _ _ _ _ _ _ _ _ _ _ _ _ _ _ _ _ _ _ _ _
      · exact dmT3 w _ b R t D _ oo cp oc own oth key nn HIn hp _ _ _ _ _ _ _ _ _ _ _ _ _ _ _ _ _ _ _ _ _ _ _ _ _ _ _ _ _ _ _ _ _ _ _ _ _ _ _ _ _ _ _ _ _ _ _ _ _ _ _ _ _ _ _ _ _ _ _ _ _ _ _ _ _ _ _ _ _ _ _ _ _ _ _ _ _ _ _ _ _ _ _ _ _ _ _ _ _ _ _ _ _ _ _ _ _ _ _ _ _ _ _ _ _ _ _ _ _ _ _ _ _ _ _ _ _ _ _ _ _ _ _ _ _ _ _ _ _ _
      · exact dmT4 w _ b R t D _ oo cp oc own oth key nn HIn hp _ _ _ _ _ _ _ _ _ _ _ _ _ _ _ _ _ _ _ _ _ _ _ _ _ _ _ _ _ _ _ _ _ _ _ _ _ _ _ _ _ _ _ _ _ _ _ _ _ _ _ _ _ _ _ _ _ _ _ _ _ _ _ _ _ _ _ _ _ _ _ _ _ _ _ _ _ _ _ _ _ _ _ _ _ _ _ _ _ _ _ _ _ _ _ _ _ _ _ _ _ _ _ _ _ _ _ _ _ _ _ _ _ _ _ _ _ _ _ _ _ _ _ _ _ _ _ _ _ _
      · exact dmT5 w _ b R t D _ oo cp oc own oth key nn HIn hp _ _ _ _ _ _ _ _ _ _ _ _ _ _ _ _ _ _ _ _ _ _ _ _ _ _ _ _ _ _ _ _ _ _ _ _ _ _ _ _ _ _ _ _ _ _ _ _ _ _ _ _ _ _ _ _ _ _ _ _ _ _ _ _ _ _ _ _ _ _ _ _ _ _ _ _ _ _ _ _ _ _ _ _ _ _ _ _ _ _ _ _ _ _ _ _ _ _ _ _ _ _ _ _ _ _ _ _ _ _ _ _ _ _ _ _ _ _ _ _ _ _ _ _ _ _ _ _ _ _
      · exact dmT6 w _ b R t D _ oo cp oc own oth key nn HIn hp _ _ _ _ _ _ _ _ _ _ _ _ _ _ _ _ _ _ _ _ _ _ _ _ _ _ _ _ _ _ _ _ _ _ _ _ _ _ _ _ _ _ _ _ _ _ _ _ _ _ _ _ _ _ _ _ _ _ _ _ _ _ _ _ _ _ _ _ _ _ _ _ _ _ _ _ _ _ _ _ _ _ _ _ _ _ _ _ _ _ _ _ _ _ _ _ _ _ _ _ _ _ _ _ _ _ _ _ _ _ _ _ _ _ _ _ _ _ _ _ _ _ _ _ _ _ _ _ _ _
      · exact dmT7 w _ b R t D _ oo cp oc own oth key nn HIn hp _ _ _ _ _ _ _ _ _ _ _ _ _ _ _ _ _ _ _ _ _ _ _ _ _ _ _ _ _ _ _ _ _ _ _ _ _ _ _ _ _ _ _ _ _ _ _ _ _ _ _ _ _ _ _ _ _ _ _ _ _ _ _ _ _ _ _ _ _ _ _ _ _ _ _ _ _ _ _ _ _ _ _ _ _ _ _ _ _ _ _ _ _ _ _ _ _ _ _ _ _ _ _ _ _ _ _ _ _ _ _ _ _ _ _ _ _ _ _ _ _ _ _ _ _ _ _ _ _ _
      · exact dmT8 w _ b R t D _ oo cp oc own oth key nn HIn hp _ _ _ _ _ _ _ _ _ _ _ _ _ _ _ _ _ _ _ _ _ _ _ _ _ _ _ _ _ _ _ _ _ _ _ _ _ _ _ _ _ _ _ _ _ _ _ _ _ _ _ _ _ _ _ _ _ _ _ _ _ _ _ _ _ _ _ _ _ _ _ _ _ _ _ _ _ _ _ _ _ _ _ _ _ _ _ _ _ _ _ _ _ _ _ _ _ _ _ _ _ _ _ _ _ _ _ _ _ _ _ _ _ _ _ _ _ _ _ _ _ _ _ _ _ _ _ _ _ _
      · exact dmT9 w _ b R t D _ oo cp oc own oth key nn HIn hp _ _ _ _ _ _ _ _ _ _ _ _ _ _ _ _ _ _ _ _ _ _ _ _ _ _ _ _ _ _ _ _ _ _ _ _ _ _ _ _ _ _ _ _ _ _ _ _ _ _ _ _ _ _ _ _ _ _ _ _ _ _ _ _ _ _ _ _ _ _ _ _ _ _ _ _ _ _ _ _ _ _ _ _ _ _ _ _ _ _ _ _ _ _ _ _ _ _ _ _ _ _ _ _ _ _ _ _ _ _ _ _ _ _ _ _ _ _ _ _ _ _ _ _ _ _ _ _ _ _
      · exact dmT10 w _ b R t D _ oo cp oc own oth key nn HIn hp _ _ _ _ _ _ _ _ _ _ _ _ _ _ _ _ _ _ _ _ _ _ _ _ _ _ _ _ _ _ _ _ _ _ _ _ _ _ _ _ _ _ _ _ _ _ _ _ _ _ _ _ _ _ _ _ _ _ _ _ _ _ _ _ _ _ _ _ _ _ _ _ _ _ _ _ _ _ _ _ _ _ _ _ _ _ _ _ _ _ _ _ _ _ _ _ _ _ _ _ _ _ _ _ _ _ _ _ _ _ _ _ _ _ _ _ _ _ _ _ _ _ _ _ _ _ _ _ _ _
end Go.Proofs.YtflnjlbafchnaaaGreatDoor

/-
  The law's overInts on numbers of one's own; the document's SameInts.
-/
namespace Go.Proofs.YtflnjlbafchnaaaGreatDoor
open Go.RowKit

theorem src_in2 {w : World} (y z : Int) : Src Tryz.prog 1 37 (.slice (some ⟨w.heap.size, 0, none⟩) 2 2) 2 [.int .i64 y, .int .i64 z] (w.alloc (.cells #[.int .i64 y, .int .i64 z] 3)) := by
  refine Src.ofSlice _ Tryz.underlying37 _ 2 2 _ rfl ?_ ?_
  · intro j u hj
    match j, hj with
    | 0, hj | 1, hj =>
      simp at hj
      subst hj
      simp [Addr.add]
  · intro u hu
    simp at hu
    rcases hu with rfl | rfl <;> rfl
theorem OwnI.frees {B c : Nat} {w : World} {ao : Option Addr} {ks : List Int} (h : OwnI B w ao c ks) (h0 : 0 < ks.length) : ∃ g cs, ao = some ⟨g, 0, none⟩ ∧ w.heap[g]? = some (.cells cs 3 (0, 0)) ∧ ks.length ≤ cs.size := by
  rcases h.2 with ⟨h1, _⟩ | ⟨g, cap, cur, hv, hb, hh, h1, h2, h3, h4⟩
  · simp at h1
    omega
  · simp only [Value.slice.injEq] at hv
    exact ⟨g, cur, hv.1, hh, by rw [h3]; omega⟩
theorem OwnI.set {B g c k : Nat} {w : World} {ks : List Int} (h : OwnI B w (some ⟨g, 0, none⟩) c ks) (z : Int) : OwnI B (w.setCell ⟨g, k, none⟩ (.int .i64 z)) (some ⟨g, 0, none⟩) c (ks.set k z) := by
  have := own_setAtK h k (.int .i64 z)
  unfold OwnI intC
  rw [List.length_set, List.map_set]
  exact this

set_option maxRecDepth 100000 in
set_option maxHeartbeats 2000000 in
theorem overInts_any (B c : Nat) (ao : Option Addr) (ks : List Int) (w : World) (h : OwnI B w ao c ks) (hB : B ≤ w.heap.size) (hl : ks.length ≤ 4000000) :
    Calls Tryz.prog 16 #[.slice ao ks.length c] w fun e w' => e = .returned (.tuple #[]) ∧ w.grownBy w' (Value.slice ao ks.length c).ownBlock := by
  obtain ⟨i0, hi, hz0, hz1, hz2⟩ := info_parts Tryz.infoI2
  have HO0 : Hid (OwnI B w ao c ks) := h
  clear h
  go_enter Tryz.func16, Tryz.ntmps16
  go_wp2
  go_loopw [2] (fun i wr => ∃ k : Nat, ∃ ys : List Int, k ≤ ks.length ∧ i = .int .i64 k ∧ Hid (ys.length = ks.length) ∧ Hid (OwnI B wr ao c ys) ∧ Hid (w.grownBy wr (Value.slice ao ks.length c).ownBlock)) (fun i _ => ks.length - (intOf i).toNat)
  case atStart => exact ⟨0, ks, Nat.zero_le _, rfl, rfl, HO0.out, grown_reflK _ _⟩
  case round =>
    obtain ⟨k, ys, hk, rfl, HL, HO, HG⟩ := hrel
    clear HO0
    rename World => wr
    by_cases hlt : k < ks.length
    · have hly : k < ys.length := by rw [HL.out]; exact hlt
      obtain ⟨g, cs, rfl, hb, hcl⟩ := HO.out.frees (by omega)
      have hki : (k : Int) < ks.length := by omega
      obtain ⟨u, hcell⟩ : ∃ u, wr.cell? ⟨g, k, none⟩ = some u := ⟨_, by rw [blk_cell hb, Array.getElem?_eq_getElem (by omega)]⟩
      have hfz : wr.frozen? ⟨g, k, none⟩ = false := blk_free hb k
      have HO2 : Hid (OwnI B (wr.setCell ⟨g, k, none⟩ (.int .i64 (-7))) (some ⟨g, 0, none⟩) c (ys.set k (-7))) := HO.out.set (-7)
      have HG2 : Hid (w.grownBy (wr.setCell ⟨g, k, none⟩ (.int .i64 (-7))) (Value.slice (some ⟨g, 0, none⟩) ks.length c).ownBlock) := grown_set HG.out _
      clear hb hcl
      go_wp2
      go_roundw
      case rel => exact ⟨k + 1, ys.set k (-7), by omega, by go_num, (List.length_set ..).trans HL.out, HO2.out, HG2.out⟩
      case measure => simp [intOf]; omega
    · have ho : wr.ownsRow B 3 1 (.slice ao ks.length c) ks.length (intC ys) := by have := HO.out; unfold OwnI at this; rw [HL.out] at this; exact this
      have HLL : Hid (ks.length + 2 ≤ maxLen ∧ (ks.length + 2) * 8 ≤ 140737488355328) := by constructor; unfold maxLen; omega; omega
      have HSZ : Hid (B ≤ wr.heap.size) := Nat.le_trans hB HG.out.size
      go_wp2_with (first | (at_builtin; go_must (refine wpList_append_src _ rfl _ _ 37 37 rfl B 3 i0 (.int .i64 0) 1 8 Tryz.underlying37 hi hz0 hz1 hz2 rfl _ _ _ rfl (World.ownsRow.alloc ho _) (.slice (some ⟨wr.heap.size, 0, none⟩) 2 2) 2 [.int .i64 (-7), .int .i64 (-7)] rfl (src_in2 (-7) (-7)) HLL.out.1 HLL.out.2 (le_alloc HSZ.out _) ?_); intro ao' c' w2 ho' hg'; have HG2 : Hid (w.grownBy w2 (Value.slice ao ks.length c).ownBlock) := grown_transK (grown_allocK HG.out _) hg'; clear hg' ho'))
      go_end0
      exact ⟨rfl, HG2.out⟩


theorem OwnI.int {B c : Nat} {w : World} {ao : Option Addr} {zs : List Int} (h : OwnI B w ao c zs) : IntRow w.heap.size w ao zs := fun j hj => by
  rcases h.2 with ⟨h1, _⟩ | ⟨g, cap, cur, hv, hb, hh, h1, h2, h3, h4⟩
  · simp at h1
    rw [h1.2.1] at hj
    simp at hj
  · simp only [Value.slice.injEq] at hv
    obtain ⟨rfl, _, _⟩ := hv
    refine ⟨_, rfl, lt_of_block hh, ?_⟩
    rw [addr_addE, blk_cell hh]
    have := congrArg (fun l => l[j]?) h4
    simp only [List.getElem?_take, if_pos (show j < zs.length * 1 by omega), Array.getElem?_toList] at this
    rw [this]
    simp [intC, hj]

set_option maxRecDepth 100000 in
set_option maxHeartbeats 1000000 in
theorem docInts_any (B1 B2 c1 c2 : Nat) (a1 a2 : Option Addr) (ns ms : List Int) (w : World) (h1 : IntRow B1 w a1 ns) (h2 : IntRow B2 w a2 ms) (hl1 : (ns.length : Int) ≤ 9223372036854775807) (hl2 : (ms.length : Int) ≤ 9223372036854775807) :
    Calls Tryz.prog 15 #[.slice a1 ns.length c1, .slice a2 ms.length c2] w fun e w' => e = .returned (.bool (decide (ns = ms))) ∧ Kept Nil w w' := by
  by_cases hlen : ns.length = ms.length
  · have H1 : Hid (IntRow B1 w a1 ns) := h1
    have H2 : Hid (IntRow B2 w a2 ms) := h2
    clear h1 h2
    have hl : (ns.length : Int) = ms.length := by omega
    go_enter Tryz.func15, Tryz.ntmps15
    go_wp2
    go_loopw [5] (fun i wr => ∃ k : Nat, k ≤ ns.length ∧ i = .int .i64 k ∧ Hid (ns.take k = ms.take k) ∧ Hid (Kept Nil w wr)) (fun i _ => ns.length - (intOf i).toNat)
    case atStart => exact ⟨0, Nat.zero_le _, rfl, rfl, Kept.refl _ _⟩
    case round =>
      obtain ⟨k, hk, rfl, HT, HK⟩ := hrel
      by_cases hlt : k < ns.length
      · have hlt2 : k < ms.length := by omega
        obtain ⟨x1, rfl, _, e1⟩ := (H1.out.nil HK.out) k hlt
        obtain ⟨x2, rfl, _, e2⟩ := (H2.out.nil HK.out) k hlt2
        have HX : Hid (ns[k] = ms[k] → ns.take (k + 1) = ms.take (k + 1)) := fun h => by
          rw [List.take_succ_eq_append_getElem hlt, List.take_succ_eq_append_getElem hlt2, HT.out, h]
        have HY : Hid (ns[k] ≠ ms[k] → ns ≠ ms) := fun h e => by subst e; exact h rfl
        generalize ns[k] = x at e1 HX HY
        generalize ms[k] = y at e2 HX HY
        by_cases hxy : x = y
        · subst hxy
          have HT2 : Hid _ := HX.out rfl
          clear HX HY
          go_wp2
          go_region
          go_wp2
          go_roundw
          case rel => exact ⟨k + 1, by omega, by go_num, HT2, HK.out.drew⟩
          case measure => simp [intOf]; omega
        · have HN : Hid (decide (ns = ms) = false) := decide_eq_false (HY.out hxy)
          have hxy' : (x != y) = true := by simpa using hxy
          clear HX HY
          go_wp2
          go_region
          go_wp2
          go_ret
          rw [HN.out]
          exact ⟨rfl, HK.out.drew⟩
      · have HN : Hid (decide (ns = ms) = true) := by
          refine decide_eq_true ?_
          have := HT.out
          rwa [List.take_of_length_le (by omega), List.take_of_length_le (by omega)] at this
        go_wp2
        go_ret
        rw [HN.out]
        exact ⟨rfl, HK.out⟩
  · have HN : Hid (decide (ns = ms) = false) := decide_eq_false (fun e => hlen (by rw [e]))
    have hl : ((ns.length : Int) != (ms.length : Int)) = true := by simp; omega
    clear h1 h2 hlen
    go_enter Tryz.func15, Tryz.ntmps15
    go_wp2
    go_ret
    rw [HN.out]
    exact ⟨rfl, Kept.refl _ _⟩


end Go.Proofs.YtflnjlbafchnaaaGreatDoor

/-
  TxnExact: a transaction on both sides; results in a row.
-/
namespace Go.Proofs.YtflnjlbafchnaaaGreatDoor
open Go.RowKit

theorem Tx.answer_psX (t : Tx) (r : Rr) : (t.answer r).ps = t.ps := by
  have hf : ∀ (u : Tx) (p b : Nat), (u.further p b).ps = u.ps := fun u p b => by unfold Tx.further; split <;> rfl
  have hn : ∀ u : Tx, u.note.ps = u.ps := fun u => hf _ _ _
  unfold Tx.answer Tx.looked Tx.looked' Tx.took Tx.begun Tx.asked Tx.settle Tx.cleared
  (repeat' split) <;> first | rfl | exact hn _ | exact hf _ _ _
theorem Kept.underX {X : Nat → Obj → Prop} {a w w' : World} (h : Kept Nil a w) (k : Kept X w w') (hb : ∀ q o, X q o → a.heap.size ≤ q) : Kept Nil a w' :=
  ⟨k.os.trans h.os, k.tape.trans h.tape, k.output.trans h.output, Nat.le_trans h.size k.size, fun q o ho hx => k.block q o (h.block q o ho hx) (fun e => by
    have h1 := lt_of_block ho
    have h2 := hb q o e
    omega)⟩
theorem OwnT.ltX {B c : Nat} {w : World} {ao : Option Addr} {ps : List Pt} (h : OwnT B w ao c ps) : ∀ a, ao = some a → B ≤ a.block ∧ ∃ cur fr, w.heap[a.block]? = some (.cells cur 29 fr) := fun a ha => by
  rcases h.2 with ⟨h1, _⟩ | ⟨g, cap, cur, h1, h2, h3, _⟩
  · simp at h1
    rw [h1.1] at ha
    cases ha
  · simp only [Value.slice.injEq] at h1
    rw [h1.1] at ha
    cases ha
    exact ⟨h2, _, _, h3⟩
/-- A transaction on both sides. -/
structure BT (n0 : Nat) (w : World) (bx bY : Nat) (t : Tx) (D : Dx) (ax : Option Addr) (cx : Nat) (ay : Option Addr) (cy : Nat) (oo : Option Addr) (oc : Nat) (oq : Option Addr) (qc : Nat) : Prop where
  tx : TxAt w bx t ax oo cx oc
  px : OwnT n0 w ax cx t.ps
  ox : OwnI n0 w oo oc t.old
  td : TdAt w bY t D ay oq cy qc
  py : OwnT n0 w ay cy t.ps
  oy : OwnI n0 w oq qc t.old
  far : ∀ a b, oo = some a → oq = some b → a.block ≠ b.block
  sm : Sim t D
  ok : t.Ok
theorem BT.kept {n0 : Nat} {w w' : World} {bx bY : Nat} {t : Tx} {D : Dx} {ax ay oo oq : Option Addr} {cx cy oc qc : Nat} (h : BT n0 w bx bY t D ax cx ay cy oo oc oq qc) (k : Kept Nil w w') : BT n0 w' bx bY t D ax cx ay cy oo oc oq qc :=
  ⟨h.tx.kept k, h.px.keptX k (fun _ _ _ x => x), h.ox.kept k, h.td.kept k, h.py.keptX k (fun _ _ _ x => x), h.oy.kept k, h.far, h.sm, h.ok⟩
theorem ne_ty {w : World} {p q : Nat} {c c' : Array Value} {t t' : TypeId} {f f' : Nat × Nat} (h : w.heap[p]? = some (.cells c t f)) (h' : w.heap[q]? = some (.cells c' t' f')) (ht : t ≠ t') : p ≠ q := fun e => by
  subst e
  rw [h] at h'
  simp at h'
  exact ht h'.2.1
/-- Behind the program's answer: what the document's wants. -/
theorem BT.mid {n0 : Nat} {w w1 : World} {bx bY : Nat} {t : Tx} {D : Dx} {ax ay oo oq : Option Addr} {cx cy oc qc : Nat} {r : Rr} {e : Ending} (h : BT n0 w bx bY t D ax cx ay cy oo oc oq qc) (p : TxPost n0 w bx (t.answer r) ax oo cx e w1) :
    TdAt w1 bY t D ay oq cy qc ∧ OwnI n0 w1 oq qc t.old ∧ OwnT n0 w1 ay cy t.ps ∧ OwnT n0 w1 ax cx t.ps ∧ (∀ a, ay = some a → a.block ≠ bY) ∧ ∀ a : World, Kept Nil a w → a.heap.size ≤ bx → a.heap.size ≤ n0 → Kept Nil a w1 := by
  obtain ⟨_, oo', oc', h1, h2, k, h3⟩ := p
  refine ⟨h.td.keptX k (fun o x => ?_), h.oy.keptX k (fun a ha o x => ?_), h.py.keptX k (fun a ha o x => ?_), h.px.keptX k (fun a ha o x => ?_), fun a ha => ?_, fun a ka la lc => ka.underX k (fun q o x => ?_)⟩
  · rcases x with x | ⟨a, ha, x⟩
    · exact ne_ty h.td h.tx (by decide) x
    · obtain ⟨_, cur, fr, hb⟩ := h.ox.lt a ha
      exact ne_ty hb h.td (by decide) x
  · rcases x with x | ⟨b, hb, x⟩
    · exact h.oy.ne h.tx a ha x
    · exact h.far b a hb ha x
  · obtain ⟨_, cur, fr, hp⟩ := h.py.ltX a ha
    rcases x with x | ⟨b, hb, x⟩
    · exact ne_ty hp h.tx (by decide) x
    · obtain ⟨_, cur2, fr2, hb2⟩ := h.ox.lt b hb
      exact ne_ty hb2 hp (by decide) x
  · obtain ⟨_, cur, fr, hp⟩ := h.px.ltX a ha
    rcases x with x | ⟨b, hb, x⟩
    · exact ne_ty hp h.tx (by decide) x
    · obtain ⟨_, cur2, fr2, hb2⟩ := h.ox.lt b hb
      exact ne_ty hb2 hp (by decide) x
  · obtain ⟨_, cur, fr, hp⟩ := h.py.ltX a ha
    exact ne_ty hp h.td (by decide)
  · rcases x with x | ⟨b, hb, x⟩
    · omega
    · have := (h.ox.lt b hb).1
      omega
/-- Behind both. -/
theorem BT.both {n0 : Nat} {w w1 w2 : World} {bx bY : Nat} {t : Tx} {D : Dx} {ax ay oo oq : Option Addr} {cx cy oc qc : Nat} {r : Rr} {e e2 : Ending} (h : BT n0 w bx bY t D ax cx ay cy oo oc oq qc) (p : TxPost n0 w bx (t.answer r) ax oo cx e w1) (d : DdPost n0 w1 bY (t.answer r) (D.ans t r) ay cy oq e2 w2) :
    e2 = .returned (.tuple #[]) ∧ (∃ oo oc oq qc, BT n0 w2 bx bY (t.answer r) (D.ans t r) ax cx ay cy oo oc oq qc) ∧ ∀ a : World, Kept Nil a w → a.heap.size ≤ bx → a.heap.size ≤ bY → a.heap.size ≤ n0 → Kept Nil a w2 := by
  obtain ⟨m1, m2, m3, m4, m5, _⟩ := h.mid p
  obtain ⟨_, oo', oc', h1, h2, k, h3⟩ := p
  obtain ⟨rfl, ⟨oq', qc', d1, d2, d3⟩, k2⟩ := d
  refine ⟨rfl, ⟨oo', oc', oq', qc', ?_, ?_, ?_, d1, ?_, d2, ?_, h.sm.answer h.ok r, Tx.answer_ok h.ok r⟩, fun a ka la lb lc => ?_⟩
  · exact h1.keptX k2 (fun o x => ne_ty h1 m1 (by decide) x)
  · rw [Tx.answer_psX]
    exact m4.keptX k2 (fun a ha o x => by
      obtain ⟨_, cur, fr, hp⟩ := m4.ltX a ha
      exact ne_ty hp m1 (by decide) x)
  · exact h2.keptX k2 (fun a ha o x => by
      obtain ⟨_, cur, fr, hp⟩ := h2.lt a ha
      exact ne_ty hp m1 (by decide) x)
  · rw [Tx.answer_psX]
    exact m3.keptX k2 (fun a ha o x => m5 a ha x)
  · intro a b ha hb e
    obtain ⟨_, cur, fr, hp⟩ := h2.lt a ha
    have l1 := lt_of_block hp
    rcases d3 with rfl | d3
    · rcases h3 a ha with ⟨x, hx, he⟩ | h4
      · exact h.far x b hx hb (he.trans e)
      · obtain ⟨_, cur2, fr2, hq⟩ := h.oy.lt b hb
        have l2 := lt_of_block hq
        omega
    · have := d3 b hb
      omega
  · refine (ka.underX k (fun q o x => ?_)).under k2 lb
    rcases x with x | ⟨b, hb, x⟩
    · omega
    · have := (h.ox.lt b hb).1
      omega
end Go.Proofs.YtflnjlbafchnaaaGreatDoor
