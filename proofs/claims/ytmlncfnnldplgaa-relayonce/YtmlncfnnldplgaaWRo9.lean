/-
  RelayOnce: the law's talks.
-/
import Derived.Test.YtmlncfnnldplgaaWRo8
namespace Go.Proofs.Ytmlncfnnldplgaa
open Go.RowKit

def talkZ : Array Value := (List.replicate 34 (Value.slice none 0 0) ++ List.replicate 16 (Value.int .i64 0)).toArray
theorem talkZ_size : talkZ.size = 50 := rfl
theorem talkZ_sl (k : Nat) (h : k < 34) : talkZ[k]? = some (.slice none 0 0) := by
  unfold talkZ
  rw [List.getElem?_toArray, List.getElem?_append_left (by simpa using h), List.getElem?_replicate, if_pos h]
theorem talkZ_in (k : Nat) (h : k < 16) : talkZ[34 + k]? = some (.int .i64 0) := by
  unfold talkZ
  rw [List.getElem?_toArray, List.getElem?_append_right (by simp), List.getElem?_replicate, if_pos (by simp; omega)]
theorem Kept.newG {n0 : Nat} {w a b : World} (h : Kept Nil w a) (k : Kept (Ge n0) a b) (hn : w.heap.size ≤ n0) : Kept Nil w b := ⟨k.os.trans h.os, k.tape.trans h.tape, k.output.trans h.output, Nat.le_trans h.size k.size, fun q o ho _ => k.block q o (h.block q o ho (fun x => x)) (fun e => by have := lt_of_block ho; unfold Ge at e; omega)⟩
/-- Pointers to relays, of one's own. -/
def ptrs (l : List Nat) : List Value := l.map fun b => .pointer (some ⟨b, 0, none⟩)
def OwnRp (B : Nat) (w : World) (ao : Option Addr) (c : Nat) (l : List Nat) : Prop := w.ownsRow B 23 1 (.slice ao l.length c) l.length (ptrs l)
theorem Try.infoRp : (Try.prog.info? 23).map (fun i => (i.zero, i.size, i.bytes)) = some (some (.pointer none), 1, 8) := by kernel_rfl
theorem oneRp_src (w : World) (x : Nat) : Src Try.prog 1 53 (.slice (some ⟨w.heap.size, 0, .none⟩) 1 1) 1 [.pointer (some ⟨x, 0, none⟩)] (w.alloc (.cells #[.pointer (some ⟨x, 0, none⟩)] 23)) := by
  refine Src.ofSlice _ Try.underlying53 ⟨w.heap.size, 0, .none⟩ 1 1 _ rfl ?_ (fun u hu => by simp at hu; rcases hu with rfl; rfl)
  intro j u hj
  rw [addr_addE, blk_cell (blk_new w (.cells #[.pointer (some ⟨x, 0, none⟩)] 23)), ← hj]
  simp
set_option maxRecDepth 100000 in
set_option maxHeartbeats 4000000 in
theorem talks_any (w : World) :
    Calls Try.prog 16 #[] w fun e w' => e = .returned (.pointer (some ⟨w.heap.size, 0, none⟩)) ∧ TkAt w.heap.size w' w.heap.size tk0 ∧ Kept Nil w w' := by
  obtain ⟨i0, hi0, hz0, hz1, hz2⟩ := info_parts Try.infoRp
  obtain ⟨n0, Hn0⟩ : ∃ n, Hid (n = w.heap.size) := ⟨_, rfl⟩
  rw [← Hn0.out]
  obtain ⟨W, hW⟩ : ∃ W, W = w.alloc (.cells #[.slice none 0 0, .slice none 0 0, .slice none 0 0, .slice none 0 0, .slice none 0 0, .slice none 0 0, .slice none 0 0, .slice none 0 0, .slice none 0 0, .slice none 0 0, .slice none 0 0, .slice none 0 0, .slice none 0 0, .slice none 0 0, .slice none 0 0, .slice none 0 0, .slice none 0 0, .slice none 0 0, .slice none 0 0, .slice none 0 0, .slice none 0 0, .slice none 0 0, .slice none 0 0, .slice none 0 0, .slice none 0 0, .slice none 0 0, .slice none 0 0, .slice none 0 0, .slice none 0 0, .slice none 0 0, .slice none 0 0, .slice none 0 0, .slice none 0 0, .slice none 0 0, .int .i64 0, .int .i64 0, .int .i64 0, .int .i64 0, .int .i64 0, .int .i64 0, .int .i64 0, .int .i64 0, .int .i64 0, .int .i64 0, .int .i64 0, .int .i64 0, .int .i64 0, .int .i64 0, .int .i64 0, .int .i64 0] 58) := ⟨_, rfl⟩
  have KW : Hid (Kept Nil w W) := by rw [hW]; exact (Kept.refl _ _).alloc _
  have HBW : Hid (W.heap[n0]? = some (.cells talkZ 58 (0, 0))) := by rw [hW, Hn0.out]; exact blk_new _ _
  go_enter Try.func16, Try.ntmps16
  go_upto_region 2 with fail
  rw [← hW, ← Hn0.out]
  clear hW
  go_wp2_with fail
  go_loopw [2] (fun u wr => ∃ K : Nat, ∃ l : List Nat, ∃ ao : Option Addr, ∃ c : Nat, Hid (K = l.length + 1) ∧ K ≤ 4 ∧ u = .int .i64 (K : Int) ∧ Hid (wr.heap[n0]? = some (.cells (talkZ.setIfInBounds 0 (.slice ao l.length c)) 58 (0, 0))) ∧ Hid (OwnRp n0 wr ao c l) ∧ Hid (∀ i, (h : i < l.length) → Rl (fun _ => False) wr l[i] ((i + 1 : Nat) : Int) (fun _ => oh0) (fun _ => none) (fun _ => 0)) ∧ Hid (∀ i j, (hi : i < l.length) → (hj : j < l.length) → i ≠ j → l[i] ≠ l[j]) ∧ Hid (∀ x ∈ l, n0 ≤ x) ∧ Hid (Kept Nil w wr)) (fun u _ => 4 - (intOf u).toNat)
  case atStart => exact ⟨1, [], none, 0, rfl, by omega, rfl, (by show W.heap[n0]? = _; rw [HBW.out]; rfl), World.ownsRow_nil _ _ _ _, (fun i h => by simp at h), (fun i j hi => by simp at hi), (fun x hx => by cases hx), KW.out⟩
  case round =>
    obtain ⟨K, l, ao, c, HKe, hl, rfl, HB, HO, HRl, HNe, HGe, HK⟩ := hrel
    obtain ⟨N, HN⟩ : ∃ N : Nat, Hid (N = l.length) := ⟨_, rfl⟩
    have HKN : Hid (K = N + 1) := by rw [HN.out]; exact HKe.out
    have hk1 : 1 ≤ K := by have := HKN.out; omega
    by_cases hlt : K ≤ 3
    · have hle : (K : Int) ≤ 3 := by omega
      have NR := newR_any (K : Int) wr
      go_wp2_with fail
      go_fit NR
      rintro e w2 (⟨hx, _⟩ | ⟨_, rfl, r2, k2⟩)
      · exact absurd hx (by unfold isNd; rw [decide_eq_true (by omega), decide_eq_true (by omega)]; decide)
      rw [HKN.out] at r2
      have HR2 : Hid (Rl (fun _ => False) w2 wr.heap.size ((N + 1 : Nat) : Int) (fun _ => oh0) (fun _ => none) (fun _ => 0)) := r2
      have HK2 : Hid (Kept Nil wr w2) := k2
      have HB2 : Hid (w2.heap[n0]? = some (.cells (talkZ.setIfInBounds 0 (.slice ao N c)) 58 (0, 0))) := by have := k2.block _ _ HB.out (fun x => x); rw [← HN.out] at this; exact this
      have c0 : w2.cell? ⟨n0, 0, none⟩ = some (.slice ao N c) := by rw [blk_cell HB2.out, Array.getElem?_setIfInBounds, if_pos rfl, if_pos (by decide)]
      have HO2 : Hid (w2.ownsRow n0 23 1 (.slice ao N c) N (ptrs l)) := by have h := HO.out; unfold OwnRp at h; rw [← HN.out] at h; exact own_kept (X := Nil) h k2 (fun _ _ _ x => x)
      have SR := oneRp_src w2 wr.heap.size
      have HLL : Hid (N + 1 ≤ maxLen ∧ (N + 1) * 8 ≤ 140737488355328) := by have := HKN.out; constructor <;> (try unfold maxLen) <;> omega
      have hsz2 : n0 ≤ w2.heap.size := by have := lt_of_block HB2.out; omega
      clear NR r2 k2
      go_wp2_with (at_builtin; go_must (refine wpList_append_src _ rfl _ _ 53 53 rfl n0 23 i0 (.pointer none) 1 8 Try.underlying53 hi0 hz0 hz1 hz2 rfl (.slice ao N c) N (ptrs l) rfl (World.ownsRow.alloc HO2.out _) (.slice (some ⟨w2.heap.size, 0, none⟩) 1 1) 1 [.pointer (some ⟨wr.heap.size, 0, none⟩)] rfl SR HLL.out.1 HLL.out.2 (le_alloc hsz2 _) ?_); intro a7 c7 w7 ho7 hg7; have HO7 : Hid (w7.ownsRow n0 23 1 (.slice a7 (N + 1) c7) (N + 1) (ptrs (l ++ [wr.heap.size]))) := (by unfold ptrs; rw [List.map_append]; exact ho7); have K7 : Hid (Kept (fun q o => n0 ≤ q ∧ ∃ cs, o = .cells cs 23 (0, 0)) w2 w7) := ((Kept.refl _ _).alloc _).grownT hg7 (fun g hg o ho => by have hl := World.ownsRow.lt HO2.out g hg; have hb := HO2.out.2; rcases hb with ⟨e1, _⟩ | ⟨g', _, _, e1, _, hb2, _⟩; (rw [e1] at hg; simp [Value.ownBlock] at hg); (rw [e1] at hg; have e2 : g' = g := (by simpa [Value.ownBlock] using hg); subst e2; rw [hb2] at ho; cases ho; exact ⟨hl.1, _, rfl⟩)); have HB7 : Hid (w7.heap[n0]? = some (.cells (talkZ.setIfInBounds 0 (.slice ao N c)) 58 (0, 0))) := K7.out.block _ _ HB2.out (by rintro ⟨_, _, e⟩; simp at e); have q7 : w7.cell? ⟨n0, 0, none⟩ = some (.slice ao N c) := (by rw [blk_cell HB7.out, Array.getElem?_setIfInBounds, if_pos rfl, if_pos (by decide)]); have f7 : w7.frozen? ⟨n0, 0, none⟩ = false := blk_free HB7.out _; clear ho7 hg7)
      obtain ⟨V, hV⟩ : ∃ V, V = w7.setCell ⟨n0, 0, none⟩ (.slice a7 (N + 1) c7) := ⟨_, rfl⟩
      have hlen : (l ++ [wr.heap.size]).length = N + 1 := by rw [List.length_append, HN.out]; rfl
      have KV : Hid (Kept (fun q o => q = n0 ∧ ∃ cs, o = .cells cs 58 (0, 0)) w7 V) := by rw [hV]; exact (Kept.refl _ _).setT (fun o ho => by rw [HB7.out] at ho; cases ho; exact ⟨rfl, _, rfl⟩) _ _
      have HBV : Hid (V.heap[n0]? = some (.cells (talkZ.setIfInBounds 0 (.slice a7 (l ++ [wr.heap.size]).length c7)) 58 (0, 0))) := by
        rw [hV, hlen]
        have := blk_set HB7.out 0 (.slice a7 (N + 1) c7)
        rw [Array.setIfInBounds_setIfInBounds] at this
        exact this
      have HOV : Hid (OwnRp n0 V a7 c7 (l ++ [wr.heap.size])) := by
        show World.ownsRow _ _ _ _ _ _ _
        rw [hlen, hV]
        exact own_setTy HB7.out HO7.out (by decide)
      have hRl : ∀ {x : Nat} {id : Int}, Rl (fun _ => False) w2 x id (fun _ => oh0) (fun _ => none) (fun _ => 0) → Rl (fun _ => False) V x id (fun _ => oh0) (fun _ => none) (fun _ => 0) := fun h => (h.keptG K7.out (by rintro cs ⟨_, _, e⟩; simp at e) (fun _ _ x => x.elim)).keptG KV.out (by rintro cs ⟨_, _, e⟩; simp at e) (fun _ _ x => x.elim)
      have HRV : Hid (∀ i, (h : i < (l ++ [wr.heap.size]).length) → Rl (fun _ => False) V (l ++ [wr.heap.size])[i] ((i + 1 : Nat) : Int) (fun _ => oh0) (fun _ => none) (fun _ => 0)) := fun i h => by
        by_cases hi : i < l.length
        · rw [List.getElem_append_left hi]; exact hRl ((HRl.out i hi).kept HK2.out)
        · have e : i = N := by have := HN.out; rw [hlen] at h; omega
          subst e
          rw [List.getElem_append_right (by have := HN.out; omega)]
          simp only [HN.out, Nat.sub_self, List.getElem_cons_zero]
          rw [← HN.out]
          exact hRl HR2.out
      have hold : ∀ i (h : i < l.length), l[i] < wr.heap.size := fun i h => by obtain ⟨_, hc⟩ := (HRl.out i h).cl; exact lt_of_block hc.blk
      have HNV : Hid (∀ i j, (hi : i < (l ++ [wr.heap.size]).length) → (hj : j < (l ++ [wr.heap.size]).length) → i ≠ j → (l ++ [wr.heap.size])[i] ≠ (l ++ [wr.heap.size])[j]) := fun i j hi hj hij => by
        rw [List.length_append] at hi hj
        simp at hi hj
        by_cases h1 : i < l.length
        · rw [List.getElem_append_left h1]
          by_cases h2 : j < l.length
          · rw [List.getElem_append_left h2]; exact HNe.out i j h1 h2 hij
          · rw [List.getElem_append_right (by omega)]
            have := hold i h1
            simp
            omega
        · rw [List.getElem_append_right (by omega)]
          by_cases h2 : j < l.length
          · rw [List.getElem_append_left h2]
            have := hold j h2
            simp
            omega
          · omega
      have HGV : Hid (∀ x ∈ (l ++ [wr.heap.size]), n0 ≤ x) := fun x hx => by
        rcases List.mem_append.1 hx with hx | hx
        · exact HGe.out x hx
        · rw [List.mem_singleton] at hx; subst hx; have := lt_of_block HB.out; omega
      have HKV : Hid (Kept Nil w V) := ((HK.out.trans HK2.out).newG (K7.out.mono (fun q o h => h.1)) (by rw [Hn0.out]; exact Nat.le_refl _)).newG (KV.out.mono (fun q o h => by rw [h.1]; exact Nat.le_refl _)) (by rw [Hn0.out]; exact Nat.le_refl _)
      have HKF : Hid (K + 1 = (l ++ [wr.heap.size]).length + 1) := by rw [hlen, HKN.out]; rfl
      rw [← hV]
      clear hV hlen hRl hold
      refine ⟨⟨K + 1, l ++ [wr.heap.size], a7, c7, HKF.out, by omega, by go_num, HBV.out, HOV.out, HRV.out, HNV.out, HGV.out, HKV.out⟩, ?_⟩
      simp [intOf]
      omega
    · obtain rfl : K = 4 := by omega
      go_wp2
      go_ret
      have hl3 : l.length = 3 := by have := HKe.out; omega
      refine ⟨rfl, ?_, HK.out⟩
      rcases HO.out.2 with ⟨e1, e2⟩ | ⟨g, cap, cur, hv, hB, hh, h1, h2, h3, h4⟩
      · simp only [Value.slice.injEq] at e1; omega
      · simp only [Value.slice.injEq] at hv
        obtain ⟨rfl, _, rfl⟩ := hv
        have hz := talkZ_size
        refine ⟨⟨g, c, fun i => l.getD i 0, fun _ _ => none, fun _ _ => 0, none, 0, fun _ => none, fun _ => 0, fun _ => none, fun _ => 0, fun _ => 0⟩, ⟨_, HB.out, by simpa using hz, ?_, ?_, fun k hk => ?_, fun k hk => ?_, fun k hk => ?_⟩, ⟨cur, hh, fun i hi => ?_⟩, ⟨by show 3 ≤ c; omega, h2⟩, fun i hi => ?_, fun i j hi hj hij => ?_, World.ownsRow_nil _ _ _ _, fun k _ => World.ownsRow_nil _ _ _ _, fun k _ g hg => by simp [Value.ownBlock] at hg, fun k _ => World.ownsRow_nil _ _ _ _, fun k _ g hg => by simp [Value.ownBlock] at hg, Nat.le_refl _, fun i hi => ?_⟩
        · rw [Array.getElem?_setIfInBounds, if_pos rfl, if_pos (by omega), hl3]
        · rw [Array.getElem?_setIfInBounds, if_neg (by omega)]; exact talkZ_sl 1 (by omega)
        · rw [Array.getElem?_setIfInBounds, if_neg (by omega)]; exact talkZ_sl (2 + k) (by omega)
        · rw [Array.getElem?_setIfInBounds, if_neg (by omega)]; exact talkZ_sl (18 + k) (by omega)
        · rw [Array.getElem?_setIfInBounds, if_neg (by omega)]; exact talkZ_in k hk
        · have := congrArg (fun l => l[i]?) h4
          simp only [List.getElem?_take, Array.getElem?_toList] at this
          rw [if_pos (by omega)] at this
          rw [this]
          unfold ptrs
          rw [List.getElem?_map, List.getElem?_eq_getElem (by omega)]
          simp [List.getD_eq_getElem?_getD, List.getElem?_eq_getElem (show i < l.length by omega)]
        · have := HRl.out i (by omega)
          dsimp only
          rw [List.getD_eq_getElem?_getD, List.getElem?_eq_getElem (show i < l.length by omega)]
          exact this.up (fun _ x => x.elim)
        · have := HNe.out i j (by omega) (by omega) hij
          dsimp only
          rw [List.getD_eq_getElem?_getD, List.getD_eq_getElem?_getD, List.getElem?_eq_getElem (show i < l.length by omega), List.getElem?_eq_getElem (show j < l.length by omega)]
          exact this
        · have := HGe.out l[i] (List.getElem_mem _)
          dsimp only
          rw [List.getD_eq_getElem?_getD, List.getElem?_eq_getElem (show i < l.length by omega)]
          exact this
end Go.Proofs.Ytmlncfnnldplgaa
