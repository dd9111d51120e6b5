/-
  The document's Slice and Compact of a log that may be.
-/
import Derived.Test.YtcbeonhohbgnmaaWLog8
namespace Go.Proofs.Ytcbeonhohbgnmaa
open Go.RowKit

theorem grown_oldB {wa w' : World} {B n s : Nat} {e : TypeId} {v : Value} {xs : List Value} {k : Nat} {o : Obj} (hg : wa.grownBy w' v.ownBlock) (ho : wa.ownsRow B e s v n xs) (hk : k < B) (hb : wa.heap[k]? = some o) : w'.heap[k]? = some o := by
  rw [hg.block k (lt_of_block hb) (fun e => by have := own_row ho k e.symm; omega)]
  exact hb
theorem src_en {w : World} (z : En) : Src Try.prog 4 78 (.slice (some ⟨w.heap.size, 0, none⟩) 1 1) 1 [.int .i64 z.ix, .int .i64 z.tm, .int .i64 z.kd, .string (bs z.dt)] (w.alloc (.cells #[.int .i64 z.ix, .int .i64 z.tm, .int .i64 z.kd, .string (bs z.dt)] 48)) := by
  refine Src.ofSlice _ Try.underlying78 _ 1 1 _ rfl ?_ ?_
  · intro j u hj
    match j, hj with
    | 0, hj | 1, hj | 2, hj | 3, hj =>
      simp at hj
      subst hj
      simp [Addr.add]
  · intro u hu
    simp at hu
    rcases hu with rfl | rfl | rfl | rfl <;> rfl
theorem OwnEs.push {B : Nat} {w' : World} {ao : Option Addr} {c : Nat} {es : List En} {x : En} (h : w'.ownsRow B 48 4 (.slice ao (es.length + 1) c) (es.length + 1) (enCells es ++ [.int .i64 x.ix, .int .i64 x.tm, .int .i64 x.kd, .string (bs x.dt)])) : OwnEs B w' ao c (es ++ [x]) := by
  unfold OwnEs
  rw [enCells_append, List.length_append]
  exact h

set_option maxRecDepth 100000 in
set_option maxHeartbeats 2000000 in
theorem refSlice_any (B c : Nat) (base bt fr most : Int) (ao : Option Addr) (es : List En) (w : World) (h : EntRow B w ao es) (hb : 0 ≤ base ∧ base ≤ 1099511627775) (hl : (es.length : Int) ≤ 1099511627776) (hi : -4611686018427387904 ≤ fr ∧ fr ≤ 4611686018427387904) :
    Calls Try.prog 76 #[.agg #[.int .i64 base, .int .i64 bt, .slice ao es.length c], .int .i64 fr, .int .i64 most] w fun e w' => ∃ ao' c', e = .returned (.tuple #[.slice ao' (slL base es fr most).length c', .int .i64 (slE base es.length fr most)]) ∧ OwnEs w.heap.size w' ao' c' (slL base es fr most) ∧ Kept Nil w w' := by
  obtain ⟨i0, hii, hz0, hz1, hz2⟩ := info_parts Try.infoEn
  have HR : Hid (EntRow B w ao es) := h
  have L := fun w' => refEndL_any c base bt ao es.length w' hb (by omega)
  have HBN : Hid (_) := blk_new w (.cells #[.int .i64 base, .int .i64 bt, .slice ao es.length c] 108)
  obtain ⟨hb0, hb1⟩ := hb
  obtain ⟨hi0, hi1⟩ := hi
  clear h
  by_cases h1 : fr ≤ base
  · have e1 : slE base es.length fr most = 11 := if_pos h1
    have e2 : slL base es fr most = [] := if_neg (by rw [e1]; decide)
    rw [e1, e2]
    go_enter Try.func76, Try.ntmps76
    go_wp2
    go_ret2
    exact ⟨none, 0, rfl, World.ownsRow_nil _ _ _ _, (Kept.refl _ _).alloc _⟩
  · by_cases h2 : base + es.length + 1 < fr ∨ most < 0
    · have e1 : slE base es.length fr most = 12 := (if_neg h1).trans (if_pos h2)
      have e2 : slL base es fr most = [] := if_neg (by rw [e1]; decide)
      rw [e1, e2]
      clear e1 e2
      by_cases h3 : base + (es.length : Int) + 1 < fr
      · clear h2
        go_enter Try.func76, Try.ntmps76
        go_wp2_with fail
        refine (L _).mono ?_
        rintro e w1 ⟨rfl, k1⟩
        have KK : Hid (Kept Nil w w1) := ((Kept.refl _ _).alloc _).trans k1
        clear k1
        go_wp2
        go_ret2
        exact ⟨none, 0, rfl, World.ownsRow_nil _ _ _ _, KK.out⟩
      · have h4 : most < 0 := by omega
        clear h2
        go_enter Try.func76, Try.ntmps76
        go_wp2_with fail
        refine (L _).mono ?_
        rintro e w1 ⟨rfl, k1⟩
        have KK : Hid (Kept Nil w w1) := ((Kept.refl _ _).alloc _).trans k1
        clear k1
        go_wp2
        go_ret2
        exact ⟨none, 0, rfl, World.ownsRow_nil _ _ _ _, KK.out⟩
    · have e1 : slE base es.length fr most = 0 := (if_neg h1).trans (if_neg h2)
      obtain ⟨q, rfl⟩ : ∃ q : Nat, fr = base + 1 + q := ⟨(fr - 1 - base).toNat, by omega⟩
      obtain ⟨mo, rfl⟩ : ∃ mo : Nat, most = mo := ⟨most.toNat, by omega⟩
      have hq : q ≤ es.length := by omega
      have e2 : slL base es (base + 1 + q) mo = (es.drop q).take mo := by
        unfold slL
        rw [if_pos e1, show (base + 1 + (q : Int) - 1 - base).toNat = q by omega, Int.toNat_natCast]
      rw [e1, e2]
      obtain ⟨res, hres⟩ : ∃ r, (es.drop q).take mo = r := ⟨_, rfl⟩
      have HRES : Hid ((es.drop q).take mo = res) := hres
      rw [hres]
      clear hres
      have hsub : base + 1 + (q : Int) - base = (q : Int) + 1 := by omega
      have h3 : ¬ base + (es.length : Int) + 1 < base + 1 + (q : Int) := by omega
      clear e1 e2 h2
      go_enter Try.func76, Try.ntmps76
      go_wp2_with fail
      refine (L _).mono ?_
      rintro e w1 ⟨rfl, k1⟩
      have KK : Hid (Kept Nil w w1) := ((Kept.refl _ _).alloc _).trans k1
      have B1 := k1.block _ _ HBN.out (fun x => x.elim)
      have HB1 : Hid (_) := B1
      obtain ⟨x0, x1, x2⟩ := lookB B1
      clear k1 B1
      go_wp2
      go_loopw [8, 9] (fun v i wr => ∃ j : Nat, ∃ ao' c', j ≤ mo ∧ q + j ≤ es.length ∧ i = .int .i64 (q + j : Nat) ∧ v = .slice ao' j c' ∧ Hid (OwnEs (w.heap.size + 1) wr ao' c' ((es.drop q).take j)) ∧ Hid (Kept Nil w wr) ∧ Hid (wr.heap[w.heap.size]? = some (.cells #[.int .i64 base, .int .i64 bt, .slice ao es.length c] 108 (0, 0)))) (fun _ i _ => es.length - (intOf i).toNat)
      case atStart => exact ⟨0, none, 0, Nat.zero_le _, by omega, rfl, rfl, World.ownsRow_nil _ _ _ _, KK.out, HB1.out⟩
      case round =>
        obtain ⟨j, ao', c', hj, hqj, rfl, rfl, HO, HK, HB⟩ := hrel
        clear KK HB1 x0 x1 x2
        obtain ⟨x0, x1, x2⟩ := lookB HB.out
        have hlen : ((es.drop q).take j).length = j := by rw [List.length_take, List.length_drop]; omega
        by_cases hgo : q + j < es.length ∧ j < mo
        · obtain ⟨g1, g2⟩ := hgo
          obtain ⟨a, rfl, _, c0, c1, c2, c3, _⟩ := (HR.out.nil HK.out) (q + j) g1
          have HT : Hid ((es.drop q).take (j + 1) = (es.drop q).take j ++ [⟨es[q + j].ix, es[q + j].tm, es[q + j].kd, es[q + j].dt⟩]) := by
            show _ = _
            rw [List.take_succ_eq_append_getElem (by rw [List.length_drop]; omega), List.getElem_drop]
          have ho : wr.ownsRow (w.heap.size + 1) 48 4 (.slice ao' j c') j (enCells ((es.drop q).take j)) := by
            have := HO.out
            unfold OwnEs at this
            rw [hlen] at this
            exact this
          have HOO : Hid _ := ho
          generalize es[q + j].ix = ix at *
          generalize es[q + j].tm = tm at *
          generalize es[q + j].kd = kd at *
          generalize es[q + j].dt = dt at *
          have HLL : Hid (j + 1 ≤ maxLen ∧ (j + 1) * 40 ≤ 140737488355328) := by constructor <;> (try unfold maxLen) <;> omega
          have HSZ : Hid (w.heap.size + 1 ≤ wr.heap.size) := lt_of_block HB.out
          have hi3 : ((q + j : Nat) : Int) < es.length := by omega
          have hi4 : (j : Int) < mo := by omega
          have HLN : Hid (((es.drop q).take j).length = j) := hlen
          clear hlen ho
          go_wp2_with (at_builtin; go_must (refine wpList_append_src _ rfl _ _ 78 78 rfl (w.heap.size + 1) 48 i0 (.agg #[.int .i64 0, .int .i64 0, .int .i64 0, .string ⟨#[]⟩]) 4 40 Try.underlying78 hii hz0 hz1 hz2 rfl _ _ _ rfl (World.ownsRow.alloc HOO.out _) (.slice (some ⟨wr.heap.size, 0, none⟩) 1 1) 1 [.int .i64 ix, .int .i64 tm, .int .i64 kd, .string (bs dt)] rfl (src_en ⟨ix, tm, kd, dt⟩) HLL.out.1 HLL.out.2 (le_alloc HSZ.out _) ?_); intro ao2 c2 w4 ho' hg'; have HO4 : Hid (w4.ownsRow (w.heap.size + 1) 48 4 (.slice ao2 (j + 1) c2) (j + 1) (enCells ((es.drop q).take j) ++ [.int .i64 ix, .int .i64 tm, .int .i64 kd, .string (bs dt)])) := ho'; have HB4 : Hid _ := grown_oldB hg' (World.ownsRow.alloc HOO.out _) (Nat.lt_succ_self w.heap.size) (blk_past HB.out _); have HK4 : Hid (Kept Nil w w4) := (HK.out.alloc _).grown hg' (fun k hk => by have := own_row HOO.out k hk; omega); clear ho' hg')
          go_roundw
          case rel => exact ⟨j + 1, ao2, c2, by omega, by omega, by go_num, rfl, by show OwnEs _ _ _ _ _; rw [HT.out]; exact OwnEs.push (x := ⟨ix, tm, kd, dt⟩) (by rw [HLN.out]; exact HO4.out), HK4.out, HB4.out⟩
          case measure => simp [intOf]; omega
        · have HT : Hid (res = (es.drop q).take j) := by
            show _ = _
            rw [← HRES.out]
            by_cases e : j = mo
            · rw [e]
            · rw [List.take_of_length_le (by rw [List.length_drop]; omega), List.take_of_length_le (by rw [List.length_drop]; omega)]
          have HLN : Hid (res.length = j) := by show _ = _; rw [HT.out]; exact hlen
          clear hlen
          by_cases g1 : q + j < es.length
          · have hi3 : ((q + j : Nat) : Int) < es.length := by omega
            have hi4 : ¬ (j : Int) < mo := by omega
            clear hgo
            go_wp2
            go_ret2
            exact ⟨ao', c', by rw [HLN.out]; rfl, by rw [HT.out]; exact own_mono HO.out (by omega), HK.out⟩
          · have hi3 : ¬ ((q + j : Nat) : Int) < es.length := by omega
            clear hgo
            go_wp2
            go_ret2
            exact ⟨ao', c', by rw [HLN.out]; rfl, by rw [HT.out]; exact own_mono HO.out (by omega), HK.out⟩

theorem takeDrop_more {es : List En} {q k : Nat} (h : k < es.length) (hq : q ≤ k) : (es.take (k + 1)).drop q = (es.take k).drop q ++ [⟨es[k].ix, es[k].tm, es[k].kd, es[k].dt⟩] := by
  rw [List.take_succ_eq_append_getElem h, List.drop_append_of_le_length (by rw [List.length_take]; omega)]
theorem takeDrop_same {es : List En} {q k : Nat} (hq : k < q) : (es.take (k + 1)).drop q = (es.take k).drop q := by
  rw [List.drop_eq_nil_of_le (by rw [List.length_take]; omega), List.drop_eq_nil_of_le (by rw [List.length_take]; omega)]

set_option maxRecDepth 100000 in
set_option maxHeartbeats 4000000 in
theorem refCompact_any (B c : Nat) (base bt i : Int) (ao : Option Addr) (es : List En) (w : World) (h : EntRow B w ao es) (hb : 0 ≤ base ∧ base ≤ 1099511627775) (hl : (es.length : Int) ≤ 1099511627776) (hi : -4611686018427387904 ≤ i ∧ i ≤ 4611686018427387904) (hix : ∀ j, (hj : j < es.length) → es[j].ix = base + 1 + j) :
    Calls Try.prog 74 #[.agg #[.int .i64 base, .int .i64 bt, .slice ao es.length c], .int .i64 i] w fun e w' => ∃ ao' c', e = .returned (.tuple #[.agg #[.int .i64 (cmpL base bt es i).1, .int .i64 (cmpL base bt es i).2.1, .slice ao' (cmpL base bt es i).2.2.length c'], .int .i64 (cmpE base bt es i)]) ∧ OwnEs w.heap.size w' ao' c' (cmpL base bt es i).2.2 ∧ Kept Nil w w' := by
  obtain ⟨i0, hii, hz0, hz1, hz2⟩ := info_parts Try.infoEn
  have HR : Hid (EntRow B w ao es) := h
  have HIX : Hid (∀ j, (hj : j < es.length) → es[j].ix = base + 1 + j) := hix
  have T := fun w' (hk : Kept Nil w w') => refTermAt_any B c base bt i ao es w' (HR.out.nil hk) hb (by omega) hi
  obtain ⟨hb0, hb1⟩ := hb
  obtain ⟨hi0, hi1⟩ := hi
  have HQ : Hid (((w.alloc (.cells #[.int .i64 base, .int .i64 bt, .slice ao es.length c] 108)).alloc (.cells #[.int .i64 0, .int .i64 0, .slice none 0 0] 108)).heap[w.heap.size]? = some (.cells #[.int .i64 base, .int .i64 bt, .slice ao es.length c] 108 (0, 0)) ∧ ((w.alloc (.cells #[.int .i64 base, .int .i64 bt, .slice ao es.length c] 108)).alloc (.cells #[.int .i64 0, .int .i64 0, .slice none 0 0] 108)).heap[w.heap.size + 1]? = some (.cells #[.int .i64 0, .int .i64 0, .slice none 0 0] 108 (0, 0))) := by
    refine ⟨blk_past (blk_new w _) _, ?_⟩
    have := blk_new (w.alloc (.cells #[.int .i64 base, .int .i64 bt, .slice ao es.length c] 108)) (.cells #[.int .i64 0, .int .i64 0, .slice none 0 0] 108)
    rwa [show (w.alloc (.cells #[.int .i64 base, .int .i64 bt, .slice ao es.length c] 108)).heap.size = w.heap.size + 1 by simp] at this
  have hE : cmpE base bt es i = (tAt base bt es i).2 := rfl
  have hok := @tAt_ok base bt i es
  have hL : cmpL base bt es i = if (tAt base bt es i).2 = 0 then (i, (tAt base bt es i).1, es.drop (i - base).toNat) else (0, 0, []) := rfl
  generalize cmpE base bt es i = er at hE ⊢
  generalize cmpL base bt es i = cl at hL ⊢
  generalize tAt base bt es i = ta at T hE hL hok
  obtain ⟨t, x⟩ := ta
  simp only at T hE hL hok
  rw [hE]
  clear hE hix h
  by_cases hx : x = 0
  · subst hx
    rw [if_pos rfl] at hL
    subst hL
    obtain ⟨hlo, hhi⟩ := hok rfl
    obtain ⟨q, rfl⟩ : ∃ q : Nat, i = base + q := ⟨(i - base).toNat, by omega⟩
    have hq : q ≤ es.length := by omega
    rw [show (base + (q : Int) - base).toNat = q by omega]
    clear hok hlo hhi
    go_enter Try.func74, Try.ntmps74
    go_wp2_with fail
    refine (T _ (((Kept.refl _ _).alloc _).alloc _)).mono ?_
    rintro e w1 ⟨rfl, k1⟩
    have B1 : Hid (_) := k1.block _ _ HQ.out.1 (fun x => x.elim)
    have B2 : Hid (_) := k1.block _ _ HQ.out.2 (fun x => x.elim)
    have K1 : Hid (Kept Nil w w1) := (((Kept.refl _ _).alloc _).alloc _).trans k1
    have HM : Hid (w.heap.size + 1 < w1.heap.size) := lt_of_block B2.out
    have A1 : Hid (_) := blk_new w1 (.cells #[.int .i64 (base + q), .int .i64 t, .slice none 0 0] 108)
    clear k1 T HQ
    go_wp2
    go_loopw [9] (fun v wr => ∃ k : Nat, ∃ ao' c', k ≤ es.length ∧ v = .int .i64 k ∧ Hid (wr.heap[w1.heap.size]? = some (.cells #[.int .i64 (base + q), .int .i64 t, .slice ao' ((es.take k).drop q).length c'] 108 (0, 0))) ∧ Hid (OwnEs (w1.heap.size + 1) wr ao' c' ((es.take k).drop q)) ∧ Hid (Kept Nil w wr) ∧ Hid (wr.heap[w.heap.size]? = some (.cells #[.int .i64 base, .int .i64 bt, .slice ao es.length c] 108 (0, 0))) ∧ Hid (wr.heap[w.heap.size + 1]? = some (.cells #[.int .i64 0, .int .i64 0, .slice none 0 0] 108 (0, 0)))) (fun v _ => es.length - (intOf v).toNat)
    case atStart => exact ⟨0, none, 0, Nat.zero_le _, rfl, by show _ = _; rw [show (es.take 0).drop q = [] by simp]; exact A1.out, by show OwnEs _ _ _ _ _; rw [show (es.take 0).drop q = [] by simp]; exact World.ownsRow_nil _ _ _ _, K1.out.alloc _, blk_past B1.out _, blk_past B2.out _⟩
    case round =>
      obtain ⟨k, ao', c', hk, rfl, HA, HO, HK, HB, HZ⟩ := hrel
      clear A1 K1 B1 B2
      obtain ⟨x0, x1, x2⟩ := lookB HB.out
      by_cases hlt : k < es.length
      · obtain ⟨a, rfl, _, c0, c1, c2, c3, _⟩ := (HR.out.nil HK.out) k hlt
        have hki : (k : Int) < es.length := by omega
        have hxk := HIX.out k hlt
        have hmore := @takeDrop_more es q k hlt
        generalize es[k].ix = ix at *
        generalize es[k].tm = tm at *
        generalize es[k].kd = kd at *
        generalize es[k].dt = dt at *
        subst hxk
        by_cases hqk : q ≤ k
        · have HT : Hid ((es.take (k + 1)).drop q = (es.take k).drop q ++ [⟨base + 1 + k, tm, kd, dt⟩]) := hmore hqk
          have hgt : base + (q : Int) < base + 1 + (k : Int) := by omega
          have y2 := blk_at HA.out 2 rfl
          have g2 := blk_free HA.out 2
          have hlen : ((es.take k).drop q).length ≤ es.length := by rw [List.length_drop, List.length_take]; omega
          have HLL : Hid (((es.take k).drop q).length + 1 ≤ maxLen ∧ (((es.take k).drop q).length + 1) * 40 ≤ 140737488355328) := by constructor <;> (try unfold maxLen) <;> omega
          have HSZ : Hid (w1.heap.size + 1 ≤ wr.heap.size) := lt_of_block HA.out
          have hsz2 : w1.heap.size < wr.heap.size := HSZ.out
          clear hmore hqk hlen
          generalize (es.take k).drop q = pr at *
          go_wp2
          go_region_law (refine step_append_src _ rfl (.tmp 39) (.tmp 45) 78 78 rfl (w1.heap.size + 1) 48 i0 (.agg #[.int .i64 0, .int .i64 0, .int .i64 0, .string ⟨#[]⟩]) 4 40 Try.underlying78 hii hz0 hz1 hz2 rfl (.slice ao' pr.length c') pr.length (enCells pr) (by simp [Act.eval]) (World.ownsRow.alloc (w := wr.drew) HO.out _) (.slice (some ⟨wr.heap.size, 0, none⟩) 1 1) 1 [.int .i64 (base + 1 + k), .int .i64 tm, .int .i64 kd, .string (bs dt)] (by simp [Act.eval]) (src_en (w := wr.drew) ⟨base + 1 + k, tm, kd, dt⟩) HLL.out.1 HLL.out.2 (le_alloc (w := wr.drew) HSZ.out _) ?_; intro ao2 c2 w4 ho' hg'; have HO4 : Hid _ := ho'; have HA4 := grown_oldB hg' (World.ownsRow.alloc (w := wr.drew) HO.out _) (Nat.lt_succ_self w1.heap.size) (blk_past (w := wr.drew) HA.out _); have q4 := blk_at HA4 2 rfl; have f4 := blk_free HA4 2; have HA4' : Hid _ := HA4; have HB4 : Hid _ := grown_oldB hg' (World.ownsRow.alloc (w := wr.drew) HO.out _) (show w.heap.size < w1.heap.size + 1 by have := HM.out; omega) (blk_past (w := wr.drew) HB.out _); have HZ4 : Hid _ := grown_oldB hg' (World.ownsRow.alloc (w := wr.drew) HO.out _) (show w.heap.size + 1 < w1.heap.size + 1 by have := HM.out; omega) (blk_past (w := wr.drew) HZ.out _); have HK4 : Hid (Kept Nil w w4) := ((HK.out.drew).alloc _).grown hg' (fun k hk => by have := own_row HO.out k hk; have := HM.out; omega); clear ho' hg' HA4)
          all_goals go_wp2
          all_goals go_roundw
          all_goals first
            | (simp [intOf]; omega)
            | (have hM := HM.out
               exact ⟨k + 1, ao2, c2, by omega, by go_num, by show _ = _; rw [HT.out, List.length_append]; exact blk_set HA4'.out 2 _, by show OwnEs _ _ _ _ _; rw [HT.out]; exact OwnEs.push (x := ⟨base + 1 + k, tm, kd, dt⟩) (ownsRow_setCell_below HO4.out (Nat.lt_succ_self _) _), HK4.out.setNew (show w.heap.size ≤ w1.heap.size by omega) _, blk_other HB4.out (show w.heap.size ≠ w1.heap.size by omega) _, blk_other HZ4.out (show w.heap.size + 1 ≠ w1.heap.size by omega) _⟩)
        · have HT : Hid ((es.take (k + 1)).drop q = (es.take k).drop q) := takeDrop_same (by omega)
          have hgt : ¬ base + (q : Int) < base + 1 + (k : Int) := by omega
          clear hmore hqk
          go_wp2
          go_roundw
          case rel => exact ⟨k + 1, ao', c', by omega, by go_num, by show _ = _; rw [HT.out]; exact HA.out, by show OwnEs _ _ _ _ _; rw [HT.out]; exact HO.out, HK.out, HB.out, HZ.out⟩
          case measure => simp [intOf]; omega
      · obtain ⟨pr, hpr⟩ : ∃ r, (es.take k).drop q = r := ⟨_, rfl⟩
        have HT : Hid (es.drop q = pr) := by show _ = _; rw [← hpr, List.take_of_length_le (by omega)]
        rw [hpr] at HA HO
        clear hpr
        have y0 := blk_at HA.out 0 rfl
        have y1 := blk_at HA.out 1 rfl
        have y2 := blk_at HA.out 2 rfl
        have z0 := blk_at HZ.out 0 rfl
        have z1 := blk_at HZ.out 1 rfl
        have z2 := blk_at HZ.out 2 rfl
        have f0 := blk_free HZ.out 0
        have f1 := blk_free HZ.out 1
        have f2 := blk_free HZ.out 2
        go_wp2
        refine bodyPost_ret (v := .tuple #[.agg #[.int .i64 (base + q), .int .i64 t, .slice ao' pr.length c'], .int .i64 0]) (by simp [results, Try.results74, go_sem, z0, z1, z2]) rfl ?_
        have hM := HM.out
        have hw1 : w.heap.size + 1 < w1.heap.size + 1 := by omega
        simp only [HT.out]
        exact ⟨ao', c', rfl, own_mono (ownsRow_setCell_below (ownsRow_setCell_below (ownsRow_setCell_below HO.out hw1 _) hw1 _) hw1 _) (by omega), ((HK.out.setNew (Nat.le_succ _) _).setNew (Nat.le_succ _) _).setNew (Nat.le_succ _) _⟩
  · rw [if_neg hx] at hL
    subst hL
    have hx' : (x != 0) = true := by simpa using hx
    clear hx
    go_enter Try.func74, Try.ntmps74
    go_wp2_with fail
    refine (T _ (((Kept.refl _ _).alloc _).alloc _)).mono ?_
    rintro e w1 ⟨rfl, k1⟩
    have B2 := k1.block _ _ HQ.out.2 (fun x => x.elim)
    have f0 := blk_free B2 0
    have f1 := blk_free B2 1
    have f2 := blk_free B2 2
    have z0 := blk_at B2 0 rfl
    have z1 := blk_at B2 1 rfl
    have z2 := blk_at B2 2 rfl
    have KK : Hid (Kept Nil w w1) := ((((Kept.refl _ _).alloc _).alloc _).trans k1)
    clear k1 B2 T
    go_wp2
    refine bodyPost_ret (v := .tuple #[.agg #[.int .i64 0, .int .i64 0, .slice none 0 0], .int .i64 x]) (by simp [results, Try.results74, go_sem, z0, z1, z2]) rfl ?_
    exact ⟨none, 0, rfl, World.ownsRow_nil _ _ _ _, ((KK.out.setNew (Nat.le_succ _) _).setNew (Nat.le_succ _) _).setNew (Nat.le_succ _) _⟩

end Go.Proofs.Ytcbeonhohbgnmaa
