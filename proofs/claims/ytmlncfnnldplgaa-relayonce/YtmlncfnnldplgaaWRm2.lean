/-
  Relays: slices.Delete of texts, acknowledge, Receive.
-/
import Derived.Test.YtmlncfnnldplgaaWRm1
import Derived.Test.YtmlncfnnldplgaaWShR
namespace Go.Proofs.Ytmlncfnnldplgaa
open Go.RowKit Go.Sort

theorem getD_bs (wt : List (List UInt8)) : Lib.strsOf (fun i => bs (wt.getD i [])) wt.length = wt := by
  unfold Lib.strsOf
  apply List.ext_getElem
  · simp
  · intro i h1 h2
    simp [bs_data, h2]
set_option maxRecDepth 100000 in
theorem deleteT_any (B c n g : Nat) (wt : List (List UInt8)) (w : World) (h : OwnTd B w (some ⟨g, 0, none⟩) c wt) (hn : n ≤ wt.length) :
    Calls Try.prog 42 #[.slice (some ⟨g, 0, none⟩) wt.length c, .int .i64 0, .int .i64 n] w fun e w' => e = .returned (.slice (some ⟨g, 0, none⟩) (wt.length - n) c) ∧ OwnTd B w' (some ⟨g, 0, none⟩) c (wt.drop n) ∧ w.grownBy w' (some g) := by
  obtain ⟨g', cs, e, hB, hh, hl, hm, hs, ht⟩ := h.block (by simp)
  cases e
  have D := Try.slices_Delete_string_cells g 0 wt.length c 0 n (fun i => bs (wt.getD i [])) w hl hm (Nat.zero_le _) hn (fun i hi => by rw [Nat.zero_add, h.cellT hi]; simp [hi]) (fun j _ => blk_free hh _)
  rw [getD_bs, List.take_zero, List.nil_append, Nat.sub_zero] at D
  refine D.mono ?_
  rintro e w' ⟨rfl, q, rfl⟩
  refine ⟨rfl, ?_, ?_⟩
  · obtain ⟨cs', b1, s1, g1⟩ := blk_setCellsK (b := g) ((wt.drop n ++ List.replicate n []).map encStr) 0 (w.drewN q) cs hh
    refine ⟨tdCells_len _, .inr ⟨g, c, cs', rfl, hB, b1, by rw [List.length_drop]; omega, hm, by omega, ?_⟩⟩
    apply List.ext_getElem?
    intro i
    rw [Nat.mul_one, List.getElem?_take]
    split
    · rename_i hi
      rw [List.length_drop] at hi
      rw [Array.getElem?_toList, g1 i, if_pos (by simp; omega), Nat.sub_zero, List.map_append, List.getElem?_append_left (by simp; omega)]
      rfl
    · rename_i hi
      exact (List.getElem?_eq_none (by rw [tdCells_len]; omega)).symm
  · exact grownBy_setCellsK g _ _ ⟨rfl, rfl, rfl, Nat.le_refl _, fun _ _ _ => rfl⟩
/-- What an Ack does. -/
def ackO (o : Oh) (m : Int) : Oh := if m - o.ak < 1 ∨ m - o.ak > o.wt.length then o else ⟨m.toNat, o.wt.drop (m.toNat - o.ak), o.cm⟩
set_option maxRecDepth 100000 in
set_option maxHeartbeats 4000000 in
theorem ack_any (B : Nat → Prop) (b k : Nat) (id m : Int) (os : Nat → Oh) (ao : Nat → Option Addr) (cs : Nat → Nat) (w : World) (h : Rl B w b id os ao cs) (hk : k < 10) (hm : 1 ≤ m) (hm2 : m ≤ 9223372036854775807) (hf : (os k).wt.length ≤ 16) (ha : (os k).ak ≤ 9000000000000000000) :
    Calls Try.prog 32 #[.pointer (some ⟨b, 1 + k * 3, none⟩), .int .i64 m] w fun e w' => e = .returned (.tuple #[]) ∧ (∃ a c, Rl B w' b id (upd os k (ackO (os k) m)) (upd ao k a) (upd cs k c)) ∧ Kept (TX B b) w w' := by
  obtain ⟨cells, hc⟩ := h.cl
  have HH : Hid (Rl B w b id os ao cs) := h
  have HC : Hid (RlC w b id os ao cs cells) := hc
  have c0 : w.cell? ⟨b, 1 + k * 3, none⟩ = some (.int .i64 (os k).ak) := by rw [blk_cell hc.blk]; exact hc.ca k hk
  have c1 : w.cell? ⟨b, 1 + k * 3 + 1, none⟩ = some (.slice (ao k) (os k).wt.length (cs k)) := by rw [blk_cell hc.blk]; exact hc.cw k hk
  obtain ⟨a0, Ha0⟩ : ∃ a, Hid (a = ao k) := ⟨_, rfl⟩
  obtain ⟨n0, Hn0⟩ : ∃ a, Hid (a = cs k) := ⟨_, rfl⟩
  obtain ⟨wt, Hwt⟩ : ∃ a, Hid (a = (os k).wt) := ⟨_, rfl⟩
  obtain ⟨ak, Hak⟩ : ∃ a, Hid (a = (os k).ak) := ⟨_, rfl⟩
  rw [← Hak.out] at c0
  rw [← Ha0.out, ← Hn0.out, ← Hwt.out] at c1
  rw [← Hwt.out] at hf
  rw [← Hak.out] at ha
  have hai : (ak : Int) ≤ 9000000000000000000 := by omega
  have f0 : w.frozen? ⟨b, 1 + k * 3, none⟩ = false := blk_free hc.blk _
  clear hc h
  by_cases hx : m - ak < 1 ∨ m - ak > wt.length
  · have HE : Hid (ackO (os k) m = os k) := by show _ = _; unfold ackO; rw [← Hak.out, ← Hwt.out, if_pos hx]
    have fin : (∃ a c, Rl B w b id (upd os k (ackO (os k) m)) (upd ao k a) (upd cs k c)) ∧ Kept (TX B b) w w := ⟨⟨ao k, cs k, by rw [HE.out, upd_id, upd_id, upd_id]; exact HH.out⟩, Kept.refl _ _⟩
    have HFin : Hid ((∃ a c, Rl B w b id (upd os k (ackO (os k) m)) (upd ao k a) (upd cs k c)) ∧ Kept (TX B b) w w) := fin
    clear fin
    by_cases h1 : m - ak < 1
    · clear hx
      go_enter Try.func32, Try.ntmps32
      go_wp2
      refine bodyPost_ret (results_none rfl _ _ _) rfl ?_
      exact ⟨rfl, HFin.out⟩
    · have h2 : m - ak > wt.length := by rcases hx with h | h; exact absurd h h1; exact h
      clear hx
      go_enter Try.func32, Try.ntmps32
      go_wp2
      refine bodyPost_ret (results_none rfl _ _ _) rfl ?_
      exact ⟨rfl, HFin.out⟩
  · have h1 : ¬ m - ak < 1 := fun h => hx (.inl h)
    have h2 : ¬ m - ak > wt.length := fun h => hx (.inr h)
    have HE : Hid (ackO (os k) m = ⟨m.toNat, wt.drop (m.toNat - ak), (os k).cm⟩) := by show _ = _; unfold ackO; rw [← Hak.out, ← Hwt.out, if_neg hx]
    clear hx
    obtain ⟨M, rfl⟩ : ∃ M : Nat, m = (M : Int) := ⟨m.toNat, by omega⟩
    obtain ⟨n, HN⟩ : ∃ n : Nat, Hid (n = M - ak) := ⟨_, rfl⟩
    have hMn : (M : Int) - ak = (n : Int) := by have := HN.out; omega
    have hnw : n ≤ wt.length := by omega
    obtain ⟨W1, hW1⟩ : ∃ W, W = w.setCell ⟨b, 1 + k * 3, none⟩ (.int .i64 M) := ⟨_, rfl⟩
    have R1 : Hid (Rl B W1 b id (upd os k { os k with ak := M }) ao cs) := by rw [hW1]; exact HH.out.setI (r := 0) hk (.inl rfl) M
    have K1 : Hid (Kept (TX B b) w W1) := by rw [hW1]; exact (Kept.refl _ _).setT (fun o ho => by rw [HC.out.blk] at ho; cases ho; exact .inl ⟨rfl, _, rfl⟩) _ _
    obtain ⟨cells1, hc1⟩ := R1.out.cl
    have HC1 : Hid (RlC W1 b id (upd os k { os k with ak := M }) ao cs cells1) := hc1
    have d1 : W1.cell? ⟨b, 1 + k * 3 + 1, none⟩ = some (.slice a0 wt.length n0) := by
      rw [blk_cell hc1.blk, hc1.cw k hk, upd_self, Ha0.out, Hn0.out, Hwt.out]
    have hane : a0 ≠ none := fun e => by
      have hr := HH.out.rows k hk
      rw [← Ha0.out, e, ← Hwt.out, ← Hn0.out] at hr
      have e9 := hr.none.1
      rw [e9] at hnw
      simp at hnw
      omega
    have HO1 : Hid (OwnTd 0 W1 a0 n0 wt) := by have hr := R1.out.rows k hk; rw [upd_self] at hr; rw [Ha0.out, Hn0.out, Hwt.out]; exact hr
    obtain ⟨g, csg, eg, hBg, hhg, _⟩ := HO1.out.block hane
    subst eg
    have HBg : Hid (0 ≤ g ∧ W1.heap[g]? = some (.cells csg 9 (0, 0))) := ⟨hBg, hhg⟩
    have hgb : (Value.slice (some ⟨g, 0, none⟩) wt.length n0).ownBlock ≠ some b := ownTd_ne HO1.out hc1.blk (by decide)
    have DE := deleteT_any 0 n0 n g wt W1 HO1.out hnw
    clear hane hhg hBg hc1
    go_enter Try.func32, Try.ntmps32
    go_upto_region 3 with fail
    rw [← hW1]
    clear hW1 c0 c1 f0
    go_wp2_with fail
    go_fit DE
    rintro e w2 ⟨rfl, o2, hg2⟩
    have HO2 : Hid (OwnTd 0 w2 (some ⟨g, 0, none⟩) n0 (wt.drop n)) := o2
    have HG2 : Hid (W1.grownBy w2 (some g)) := hg2
    have hb2 : w2.heap[b]? = some (.cells cells1 90 (0, 0)) := by rw [hg2.block b (lt_of_block HC1.out.blk) (fun e => hgb (by cases e; rfl))]; exact HC1.out.blk
    have d2 : w2.cell? ⟨b, 1 + k * 3 + 1, none⟩ = some (.slice (some ⟨g, 0, none⟩) wt.length n0) := by rw [blk_cell hb2, ← blk_cell HC1.out.blk]; exact d1
    have f2 : w2.frozen? ⟨b, 1 + k * 3 + 1, none⟩ = false := blk_free hb2 _
    clear o2 hg2 DE d1
    go_wp2
    go_end0
    have hwt : ∀ j, (upd os k { os k with ak := M } j).wt = (os j).wt := fun j => by
      by_cases e : j = k
      · subst e; rw [upd_self]
      · rw [upd_ne _ _ e]
    have hak' : ao k = some ⟨g, 0, none⟩ := Ha0.out.symm
    have key := R1.out.setW HC1.out hk hb2 (a' := some ⟨g, 0, none⟩) (c' := n0) (wt' := wt.drop n) (fun j hj hjk => own_farD (R1.out.rows j hj) HG2.out (fun q hq e => R1.out.far j k hj hk hjk q hq (by rw [hwt, hak']; cases e; rfl))) HO2.out (B' := B) (fun _ h => h) (fun q hq => HH.out.good k hk q (by rw [hak']; simpa [Value.ownBlock] using hq)) (fun j hj hjk q hq e => R1.out.far j k hj hk hjk q hq (by rw [hwt, hak']; simp [Value.ownBlock] at e; subst e; rfl))
    have e1 : (upd (upd os k { os k with ak := M }) k { (upd os k { os k with ak := M } k) with wt := wt.drop n }) = upd os k (ackO (os k) (M : Int)) := by
      funext j
      by_cases e : j = k
      · subst e
        rw [upd_self, upd_self, upd_self, HE.out, HN.out, Int.toNat_natCast]
      · rw [upd_ne _ _ e, upd_ne _ _ e, upd_ne _ _ e]
    rw [e1, List.length_drop] at key
    refine ⟨rfl, ⟨_, _, key⟩, ?_⟩
    have K2 := K1.out.grownT HG2.out (fun q hq o ho => by
      cases hq
      rcases Nat.lt_or_ge g w.heap.size with hgs | hgs
      · have hr := HH.out.rows k hk
        rw [hak'] at hr
        obtain ⟨g', cs', e', hB', hh', _⟩ := hr.block (by simp)
        cases e'
        rw [hh'] at ho
        cases ho
        exact .inr ⟨HH.out.good k hk g (by rw [hak']; rfl), _, rfl⟩
      · rw [Array.getElem?_eq_none hgs] at ho; cases ho)
    exact K2.setT (fun o ho => by rw [HC.out.blk] at ho; cases ho; exact .inl ⟨rfl, _, rfl⟩) _ _
end Go.Proofs.Ytmlncfnnldplgaa
