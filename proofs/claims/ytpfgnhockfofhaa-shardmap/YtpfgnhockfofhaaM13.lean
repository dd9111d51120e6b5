/-
  Joined: WSh3, WSh4, WSh5, WSh6.
-/
import Derived.Test.YtpfgnhockfofhaaM12
import Derived.Test.YtpfgnhockfofhaaM02
import Derived.Test.YtpfgnhockfofhaaM08
/-
  slices.Delete of a range of items.
-/
namespace Go.Proofs.Ytpfgnhockfofhaa
open Go.RowKit

def zsIt (n : Nat) : List Value := (Builtin.zeroCells (Value.cells (.agg #[.string ⟨#[]⟩, .string ⟨#[]⟩])) n).toList
theorem zsIt_one (n : Nat) : ∀ v ∈ zsIt n, v.oneCell' = true := fun v hv => by
  unfold zsIt at hv
  obtain ⟨i, hi, rfl⟩ := List.getElem_of_mem hv
  simp [Builtin.zeroCells, Value.cells]
  have : i % 2 = 0 ∨ i % 2 = 1 := by omega
  rcases this with e | e <;> rw [e] <;> rfl
theorem zsIt_len (n : Nat) : (zsIt n).length = n * 2 := by unfold zsIt; simp [Builtin.zeroCells, Value.cells]
theorem run_clearIt (w : World) (ty : TypeId) (b o n c : Nat) (hn : 0 < n) (hc : ∀ j, j < n * 2 → (w.cell? ⟨b, o + j, none⟩).isSome = true) (hf : ∀ j, j < n * 2 → w.frozen? ⟨b, o + j, none⟩ = false) :
    (Builtin.clear_ #[102] ty #[.slice (some ⟨b, o, none⟩) n c]).run Try.prog w = .ok (.tuple #[]) (w.setCells b o (zsIt n)) := by
  have hst := run_storeCells_cells (P := Try.prog) b o (zsIt n) 0 w (by rw [zsIt_len]; simpa using hc) (by rw [zsIt_len]; simpa using hf) (zsIt_one n)
  simp only [Nat.add_zero] at hst
  obtain ⟨m, rfl⟩ : ∃ m, n = m + 1 := ⟨n - 1, by omega⟩
  unfold zsIt at hst ⊢
  simp [Builtin.clear_, run_underlying Try.underlying102, hst]
def delI (i j : Nat) (ps : List Pr) : List Pr := ps.take i ++ ps.drop j
theorem delI_len {i j : Nat} {ps : List Pr} (hi : i ≤ j) (hj : j ≤ ps.length) : (delI i j ps).length = ps.length - (j - i) := by
  unfold delI
  rw [List.length_append, List.length_take, List.length_drop]
  omega
theorem delI_cells {i j : Nat} {ps : List Pr} (hi : i ≤ j) (hj : j ≤ ps.length) (q : Nat) : (itCells (delI i j ps))[q]? = if q < i * 2 then (itCells ps)[q]? else (itCells ps)[q + (j - i) * 2]? := by
  have hl : (itCells (ps.take i)).length = i * 2 := by rw [itCells_len, List.length_take, Nat.min_eq_left (by omega)]
  unfold delI
  rw [itCells_app, List.getElem?_append, hl]
  split
  · rename_i hq
    rw [itCells_take, List.getElem?_take, if_pos hq]
  · rw [itCells_drop, List.getElem?_drop]
    congr 1
    omega
set_option maxRecDepth 100000 in
set_option maxHeartbeats 4000000 in
theorem deleteI_none (c i n : Nat) (ao : Option Addr) (w : World) (hi : i ≤ n) (hnc : n ≤ c) (hc : c ≤ 9223372036854775807) :
    Calls Try.prog 54 #[.slice ao n c, .int .i64 i, .int .i64 i] w fun e w' => e = .returned (.slice ao n c) ∧ w' = w := by
  have h1 : (i : Int) ≤ (n : Int) := by omega
  have h2 : (n : Int) ≤ (c : Int) := by omega
  have h3 : i ≤ c := by omega
  have h4 : (i : Int) ≤ (c : Int) := by omega
  by_cases hcc : c = i
  · subst hcc
    obtain rfl : n = c := by omega
    go_enter Try.func54, Try.ntmps54
    go_wp2
    go_ret
    exact ⟨rfl, rfl⟩
  · go_enter Try.func54, Try.ntmps54
    go_wp2
    all_goals (go_ret; exact ⟨rfl, rfl⟩)
set_option maxRecDepth 100000 in
set_option maxHeartbeats 4000000 in
theorem deleteI_any (B c i J : Nat) (ao : Option Addr) (ps : List Pr) (w : World) (h : OwnIt B w ao c ps) (hi : i < J) (hJ : J ≤ ps.length) (hn : ps.length < 4000000) :
    Calls Try.prog 54 #[.slice ao ps.length c, .int .i64 i, .int .i64 J] w fun e w' => e = .returned (.slice ao (ps.length - (J - i)) c) ∧ OwnIt B w' ao c (delI i J ps) ∧ w.grownBy w' (Value.slice ao ps.length c).ownBlock := by
  obtain ⟨g, rfl, -⟩ := h.cells (j := i) (by omega)
  obtain ⟨g', cs, e0, hBg, hblk, hlc, hcm, hsz, htk⟩ := h.block (by simp)
  simp only [Option.some.injEq, Addr.mk.injEq, and_true] at e0
  subst e0
  unfold maxLen at hcm
  obtain ⟨i0, hi0, hz0, hzs, hzb⟩ := info_parts Try.infoOwnIt
  have hcells : ∀ j v, (itCells ps)[j]? = some v → w.cell? ⟨g, j, none⟩ = some v := fun j v hj => by
    have hlt : j < ps.length * 2 := by have := (List.getElem?_eq_some_iff.1 hj).1; rwa [itCells_len] at this
    rw [blk_cell hblk, ← hj, ← htk, List.getElem?_take, if_pos hlt, Array.getElem?_toList]
  have hsp : ∀ j, j < c * 2 → (w.cell? ⟨g, j, none⟩).isSome = true := fun j hj => by rw [blk_cell hblk, Array.getElem?_eq_getElem (by omega)]; rfl
  have hdl : (itCells (ps.drop J)).length = (ps.length - J) * 2 := by rw [itCells_len, List.length_drop]
  obtain ⟨W1, hW1⟩ : ∃ W1, W1 = w.drew.setCells g (i * 2) (itCells (ps.drop J)) := ⟨_, rfl⟩
  obtain ⟨cs1, b1, s1, g1⟩ := blk_setCellsK (b := g) (itCells (ps.drop J)) (i * 2) w.drew cs hblk
  rw [← hW1] at b1
  obtain ⟨m, Hm⟩ : ∃ m, Hid (m = i + (ps.length - J)) := ⟨_, rfl⟩
  have hml : m < ps.length := by have := Hm.out; omega
  have HMe : Hid (ps.length - (J - i) = m) := by have := Hm.out; show _ = _; omega
  have hcl1 : ∀ ty, (Builtin.clear_ #[102] ty #[.slice (some ⟨g, m * 2, none⟩) (ps.length - m) (c - m)]).run Try.prog (w.drew.setCells g (i * 2) (itCells (ps.drop J))) = .ok (.tuple #[]) ((w.drew.setCells g (i * 2) (itCells (ps.drop J))).setCells g (m * 2) (zsIt (ps.length - m))) := fun ty => by
    rw [← hW1]
    exact run_clearIt W1 ty g (m * 2) (ps.length - m) (c - m) (by omega) (fun j hj => by rw [blk_cell b1, Array.getElem?_eq_getElem (by omega)]; rfl) (fun j hj => blk_free b1 _)
  have mixed : Try.prog.follows Departure.mixedOrders = true := by kernel_rfl
  have HB1 : Hid (W1.heap[g]? = some (.cells cs1 117 (0, 0)) ∧ cs1.size = cs.size ∧ ∀ j, cs1[j]? = if i * 2 ≤ j ∧ j < i * 2 + (itCells (ps.drop J)).length ∧ j < cs.size then (itCells (ps.drop J))[j - i * 2]? else cs[j]?) := ⟨b1, s1, g1⟩
  have HW1 : Hid (W1 = w.drew.setCells g (i * 2) (itCells (ps.drop J))) := hW1
  have HTK : Hid (cs.toList.take (ps.length * 2) = itCells ps) := htk
  have hs2 : ∀ j, j < (itCells (ps.drop J)).length → (w.cell? ⟨g, 0 + i * 2 + j, none⟩).isSome = true ∧ w.frozen? ⟨g, 0 + i * 2 + j, none⟩ = false := fun j hj => by rw [hdl] at hj; exact ⟨hsp _ (by omega), blk_free hblk _⟩
  have fin : ∀ V, V = W1.setCells g (m * 2) (zsIt (ps.length - m)) → OwnIt B V (some ⟨g, 0, none⟩) c (delI i J ps) ∧ w.grownBy V (some g) := fun V hV => by
    obtain ⟨b1, s1, g1⟩ := HB1.out
    obtain ⟨cs2, b2, s2, g2⟩ := blk_setCellsK (b := g) (zsIt (ps.length - m)) (m * 2) W1 cs1 b1
    rw [← hV] at b2
    have hme := Hm.out
    refine ⟨ownI_of_blk (c := c) (ps := delI i J ps) hBg b2 (by omega) (by unfold maxLen; omega) (by rw [delI_len (by omega) hJ]; omega) (fun j hj => ?_), ?_⟩
    · rw [delI_len (by omega) hJ] at hj
      rw [delI_cells (by omega) hJ, g2 j, g1 j]
      have hcj : ∀ q, q < ps.length * 2 → cs[q]? = (itCells ps)[q]? := fun q hq => by
        have := congrArg (fun l => l[q]?) HTK.out
        simpa only [List.getElem?_take, if_pos hq, Array.getElem?_toList] using this
      rw [if_neg (by omega)]
      by_cases h1 : j < i * 2
      · rw [if_pos h1, if_neg (by omega)]
        exact hcj j (by omega)
      · rw [if_neg h1, if_pos (by rw [hdl]; omega), itCells_drop, List.getElem?_drop]
        congr 1
        omega
    · rw [hV]
      refine grownBy_setCellsK g _ _ ?_
      rw [HW1.out]
      exact grownBy_setCellsK g _ _ (grown_drewK (grown_reflK _ _))
  have FIN : Hid (∀ V, V = W1.setCells g (m * 2) (zsIt (ps.length - m)) → OwnIt B V (some ⟨g, 0, none⟩) c (delI i J ps) ∧ w.grownBy V (some g)) := fin
  have hb0 : ¬ (i : Int) = (J : Int) := by omega
  have hb3 : (i : Int) ≤ (J : Int) := by omega
  have hb4 : (J : Int) ≤ (ps.length : Int) := by omega
  have hb5 : (ps.length : Int) ≤ (c : Int) := by omega
  have hin : i ≤ ps.length := by omega
  have hic : i ≤ c := by omega
  have hiJ : i ≤ J := by omega
  have hsum : i + (ps.length - J) = m := Hm.out.symm
  have he2 : (m : Int) ≤ (ps.length : Int) := by omega
  have he3 : ¬ (c = m) := by omega
  have he4 : m ≤ ps.length := by omega
  have he5 : m ≤ c := by omega
  have he6 : 0 + i * 2 = i * 2 := by omega
  have hci : ¬ (c = i) := by omega
  clear fin hW1 b1 s1 g1 h htk
  rw [HMe.out]
  by_cases hcJ : c = J
  · have HPS : Hid (ps.length = J) := by show _ = _; omega
    obtain rfl : m = i := by have := HPS.out; have := Hm.out; omega
    subst hcJ
    rw [HPS.out] at hcl1 ⊢
    have hs1' : ∀ j u, (itCells (ps.drop c))[j]? = some u → w.cell? ((⟨g, 0, none⟩ : Addr).add j) = some u := fun j v hj => by
      have := (List.getElem?_eq_some_iff.1 hj).1
      rw [hdl, HPS.out] at this
      omega
    have hd0 : (itCells (ps.drop c)).length = 0 * 2 := by rw [hdl, HPS.out]; omega
    have HN : Hid (ps.length < 4000000) := hn
    rw [HPS.out] at hn
    have hmi : (m : Int) ≤ (c : Int) := by omega
    clear hcells hsp hml hb4 hb5 hin he2 he4 hsum HMe hJ hlc
    go_enter Try.func54, Try.ntmps54
    go_wp2
    go_region_law_o (refine step_append_room rfl _ _ 102 rfl 117 i0 2 Try.underlying102 hi0 hzs g 0 m c (by simp [Act.eval, Act.put]) ⟨g, 0, none⟩ 0 0 (itCells (ps.drop c)) (by simp [Act.eval, Act.put]) hd0 hs1' (itCells_one _) (by omega) hs2 ?_)
    go_wp2
    go_ret
    exact ⟨rfl, FIN.out _ (by rw [HW1.out, HPS.out])⟩
  · have hs1 : ∀ j u, (itCells (ps.drop J))[j]? = some u → w.cell? ((⟨g, J * 2, none⟩ : Addr).add j) = some u := fun j v hj => by rw [itCells_drop, List.getElem?_drop] at hj; rw [Addr.add_lit]; exact hcells _ v hj
    clear hcells hsp
    go_enter Try.func54, Try.ntmps54
    go_wp2
    go_region_law_o (refine step_append_room rfl _ _ 102 rfl 117 i0 2 Try.underlying102 hi0 hzs g 0 i c (by simp [Act.eval, Act.put]) ⟨g, J * 2, none⟩ (ps.length - J) (c - J) (itCells (ps.drop J)) (by simp [Act.eval, Act.put]) hdl hs1 (itCells_one _) (by omega) hs2 ?_)
    go_wp2
    go_ret
    exact ⟨rfl, FIN.out _ (by rw [HW1.out])⟩
end Go.Proofs.Ytpfgnhockfofhaa

/-
  Shards: a host sets an item.
-/
namespace Go.Proofs.Ytpfgnhockfofhaa
open Go.RowKit

/-- An item is set, in the place of the one with its key. -/
def setI (x : Pr) (ps : List Pr) : List Pr := if isThere x.k ps = true then ps.set (lowP x.k ps) x else insI (lowP x.k ps) x ps
theorem setI_len (x : Pr) (ps : List Pr) : (setI x ps).length ≤ ps.length + 1 := by
  unfold setI
  split
  · rw [List.length_set]; omega
  · rw [insI_len (lowP_le _ _)]; exact Nat.le_refl _
theorem thereI {key : List UInt8} {ps : List Pr} (h : isThere key ps = true) : lowP key ps < ps.length := by
  unfold isThere at h
  by_cases hl : lowP key ps < ps.length
  · exact hl
  · rw [List.getElem?_eq_none (by omega)] at h; cases h
/-- What a call on a host's items touches. -/
def TI (b : Nat) (own : Option Nat) : Nat → Obj → Prop := fun q o => (q = b ∧ ∃ cs, o = .cells cs 114 (0, 0)) ∨ (own = some q ∧ ∃ cs, o = .cells cs 117 (0, 0))
theorem itCells_set : ∀ (l : List Pr) (k : Nat) (_ : k < l.length) (x : Pr), ((itCells l).set (k * 2) (.string (bs x.k))).set (k * 2 + 1) (.string (bs x.v)) = itCells (l.set k x)
  | [], k, hk, _ => by simp at hk
  | o :: t, 0, _, x => by simp [itCells_cons]
  | o :: t, k + 1, hk, x => by
    have h := itCells_set t k (by simpa using hk) x
    rw [itCells_cons, show (k + 1) * 2 = k * 2 + 1 + 1 by omega, List.set_cons_succ, List.set_cons_succ, List.set_cons_succ, List.set_cons_succ, List.set_cons_succ, itCells_cons, h]
theorem ownIt_set2 {B g c k : Nat} {w : World} {ps : List Pr} (h : OwnIt B w (some ⟨g, 0, none⟩) c ps) (hk : k < ps.length) (x : Pr) : OwnIt B ((w.setCell ⟨g, k * 2, none⟩ (.string (bs x.k))).setCell ⟨g, k * 2 + 1, none⟩ (.string (bs x.v))) (some ⟨g, 0, none⟩) c (ps.set k x) := by
  have := own_setAtK (own_setAtK h (k * 2) (.string (bs x.k))) (k * 2 + 1) (.string (bs x.v))
  rw [itCells_set ps k hk x] at this
  unfold OwnIt
  rw [List.length_set]
  exact this
/-- What a change of a host's items leaves. -/
structure SetPost (B b rb : Nat) (id : Int) (ai : Option Addr) (ni ci : Nat) (ak : Option Addr) (nk ck : Nat) (qs : List Pr) (w w' : World) : Prop where
  ex : ∃ ai' ci', HoAt w' b rb id ai' qs.length ci' ak nk ck ∧ OwnIt B w' ai' ci' qs ∧ ∀ g, (Value.slice ai' qs.length ci').ownBlock = some g → (Value.slice ai ni ci).ownBlock = some g ∨ w.heap.size ≤ g
  kw : Kept (TI b (Value.slice ai ni ci).ownBlock) w w'
theorem ownIt_ne {B c b : Nat} {w : World} {ao : Option Addr} {ps : List Pr} {cs : Array Value} {t : TypeId} (h : OwnIt B w ao c ps) (hb : w.heap[b]? = some (.cells cs t (0, 0))) (ht : t ≠ 117) : (Value.slice ao ps.length c).ownBlock ≠ some b := fun e => by
  rcases h.2 with ⟨e1, _⟩ | ⟨g, _, _, e1, _, hb2, _⟩
  · rw [e1] at e; simp [Value.ownBlock] at e
  · rw [e1] at e
    have e2 : g = b := by simpa [Value.ownBlock] using e
    rw [e2, hb] at hb2
    simp at hb2
    exact ht hb2.2
set_option maxRecDepth 100000 in
set_option maxHeartbeats 4000000 in
theorem setH_any (B b rb ci nk ck : Nat) (id : Int) (ai ak : Option Addr) (ps : List Pr) (x : Pr) (w : World) (h : OwnIt B w ai ci ps) (hs : Srt ps) (hl : ps.length < 4000000) (hb : HoAt w b rb id ai ps.length ci ak nk ck) (hB : B ≤ w.heap.size) :
    Calls Try.prog 59 #[.pointer (some ⟨b, 0, none⟩), .agg #[.string (bs x.k), .string (bs x.v)]] w fun e w' => e = .returned (.tuple #[]) ∧ SetPost B b rb id ai ps.length ci ak nk ck (setI x ps) w w' := by
  obtain ⟨W, hW⟩ : ∃ W, W = w.alloc (.cells #[.string (bs x.k), .string (bs x.v)] 117) := ⟨_, rfl⟩
  obtain ⟨A, HAe⟩ : ∃ A, Hid (A = w.heap.size) := ⟨_, rfl⟩
  have KW : Hid (Kept Nil w W) := by rw [hW]; exact (Kept.refl _ _).alloc _
  have HAW : Hid (W.heap[A]? = some (.cells #[.string (bs x.k), .string (bs x.v)] 117 (0, 0))) := by rw [hW, HAe.out]; exact blk_new _ _
  have HOW : Hid (OwnIt B W ai ci ps) := h.kept KW.out
  have HHW : Hid (HoAt W b rb id ai ps.length ci ak nk ck) := KW.out.block _ _ hb (fun x => x)
  have HBw : Hid (w.heap[b]? = some (.cells #[.pointer (some ⟨rb, 0, none⟩), .int .i64 id, .slice ai ps.length ci, .slice ak nk ck] 114 (0, 0))) := hb
  have HOw : Hid (OwnIt B w ai ci ps) := h
  have FI := findH_any B b rb ci nk ck id ai ak ps x.k W HOW.out hs (by omega) HHW.out
  obtain ⟨lo, HLo⟩ : ∃ n, Hid (n = lowP x.k ps) := ⟨_, rfl⟩
  obtain ⟨th, HTh⟩ : ∃ n, Hid (n = isThere x.k ps) := ⟨_, rfl⟩
  rw [← HLo.out, ← HTh.out] at FI
  have q0 : W.cell? ⟨A, 0, none⟩ = some (.string (bs x.k)) := blk_at HAW.out 0 rfl
  clear h hb hs
  go_enter Try.func59, Try.ntmps59
  go_upto_region 1 with fail
  rw [← hW, ← HAe.out]
  clear hW
  go_wp2_with fail
  go_fit FI
  rintro e w2 ⟨rfl, k2⟩
  have K2 : Hid (Kept Nil w w2) := KW.out.trans k2
  have HA2 : Hid (w2.heap[A]? = some (.cells #[.string (bs x.k), .string (bs x.v)] 117 (0, 0))) := k2.block _ _ HAW.out (fun x => x)
  have HO2 : Hid (OwnIt B w2 ai ci ps) := HOW.out.kept k2
  have HH2 : Hid (w2.heap[b]? = some (.cells #[.pointer (some ⟨rb, 0, none⟩), .int .i64 id, .slice ai ps.length ci, .slice ak nk ck] 114 (0, 0))) := k2.block _ _ HHW.out (fun x => x)
  clear FI k2 q0
  have p0 : w2.cell? ⟨A, 0, none⟩ = some (.string (bs x.k)) := blk_at HA2.out 0 rfl
  have p1 : w2.cell? ⟨A, 1, none⟩ = some (.string (bs x.v)) := blk_at HA2.out 1 rfl
  have r2 : w2.cell? ⟨b, 2, none⟩ = some (.slice ai ps.length ci) := blk_at HH2.out 2 rfl
  have rf2 : w2.frozen? ⟨b, 2, none⟩ = false := blk_free HH2.out _
  have hbl : b < w2.heap.size := lt_of_block HH2.out
  have hAl : A < w2.heap.size := lt_of_block HA2.out
  cases th with
  | true =>
    have HE : Hid (setI x ps = ps.set lo x) := by show _ = _; unfold setI; rw [← HTh.out, if_pos rfl, ← HLo.out]
    have hlo : lo < ps.length := by rw [HLo.out]; exact thereI HTh.out.symm
    have hloi : (lo : Int) < ps.length := by omega
    obtain ⟨g, eg, hBg, hgl, d0, d1, f0, f1⟩ := HO2.out.cells hlo
    subst eg
    have hgb : g ≠ b := fun e => ownIt_ne HO2.out HH2.out (by decide) (by rw [e]; rfl)
    have hgA : g ≠ A := fun e => by
      have h1 := (World.ownsRow.lt HOw.out g rfl).2
      have := HAe.out
      omega
    have hAg : A ≠ g := fun e => hgA e.symm
    have hbg : b ≠ g := fun e => hgb e.symm
    go_upto_region 3 with fail
    go_region
    all_goals
      go_wp2
      refine bodyPost_ret (results_none rfl _ _ _) rfl ?_
      have hT : ∀ o, w.heap[g]? = some o → TI b (Value.slice (some ⟨g, 0, none⟩) ps.length ci).ownBlock g o := fun o ho => by
        obtain ⟨g', cs', e, _, hh, _⟩ := HOw.out.block (by simp)
        cases e
        rw [hh] at ho
        cases ho
        exact .inr ⟨rfl, _, rfl⟩
      have hlen : (setI x ps).length = ps.length := by rw [HE.out, List.length_set]
      refine ⟨rfl, ⟨⟨some ⟨g, 0, none⟩, ci, ?_, ?_, fun q hq => .inl (by simpa [Value.ownBlock] using hq)⟩, (((K2.out.mono (fun _ _ x => x.elim)).setT hT _ _).setT hT _ _).drew⟩⟩
      · rw [hlen]; exact blk_other (blk_other HH2.out hbg _) hbg _
      · rw [HE.out]; exact (ownIt_set2 HO2.out hlo x).kept (Kept.refl _ _).drew
  | false =>
    have HE : Hid (setI x ps = insI lo x ps) := by show _ = _; unfold setI; rw [← HTh.out, if_neg (by decide), ← HLo.out]
    have hlo : lo ≤ ps.length := by rw [HLo.out]; exact lowP_le _ _
    have KA : Hid (Kept Nil w2 (w2.drew.alloc (.cells #[.string (bs x.k), .string (bs x.v)] 117))) := (Kept.refl _ _).drew.alloc _
    have INS := insertI_any B ci lo w2.heap.size ai ps x (w2.drew.alloc (.cells #[.string (bs x.k), .string (bs x.v)] 117)) (HO2.out.kept KA.out) hlo hl (blk_new w2.drew _) (fun a ha e => by
      have h1 := (World.ownsRow.lt HO2.out a.block (by rw [ha]; rfl)).2
      omega) (le_alloc (w := w2.drew) (Nat.le_trans hB K2.out.size) _)
    go_upto_region 4 with fail
    go_region_with (go_at_call 78; go_must (go_fit INS); rintro e w3 ⟨a3, c3, rfl, o3, g3, t3⟩; have HO3 : Hid (OwnIt B w3 a3 c3 (insI lo x ps)) := o3; have HT3 : Hid (∀ g, (Value.slice a3 (ps.length + 1) c3).ownBlock = some g → (Value.slice ai ps.length ci).ownBlock = some g ∨ w.heap.size ≤ g) := (fun g hg => by rcases t3 g hg with h | h; exact .inl h; (have h1 := K2.out.size; exact .inr (by simp at h; omega))); have HB3 : Hid (w3.heap[b]? = some (.cells #[.pointer (some ⟨rb, 0, none⟩), .int .i64 id, .slice ai ps.length ci, .slice ak nk ck] 114 (0, 0))) := (by have h1 := KA.out.block _ _ HH2.out (fun x => x); show w3.heap[b]? = _; rw [g3.block b (lt_of_block h1) (fun e => ownIt_ne HO2.out HH2.out (by decide) e.symm)]; exact h1); have K3 : Hid (Kept (TI b (Value.slice ai ps.length ci).ownBlock) w w3) := ((K2.out.trans KA.out).mono (fun _ _ x => x.elim)).grownT g3 (fun g hg o ho => by have hb := HOw.out.2; rcases hb with ⟨e1, _⟩ | ⟨g', _, _, e1, _, hb2, _⟩; (rw [e1] at hg; simp [Value.ownBlock] at hg); (rw [e1] at hg; have e2 : g' = g := (by simpa [Value.ownBlock] using hg); subst e2; rw [hb2] at ho; cases ho; exact .inr ⟨by rw [e1]; rfl, _, rfl⟩)); have r3 : w3.cell? ⟨b, 2, none⟩ = some (.slice ai ps.length ci) := blk_at HB3.out 2 rfl; have f3 : w3.frozen? ⟨b, 2, none⟩ = false := blk_free HB3.out _; clear o3 g3 t3)
    all_goals
      go_wp2
      go_end0
      have hlen : (setI x ps).length = ps.length + 1 := by rw [HE.out]; exact insI_len hlo
      refine ⟨rfl, ⟨⟨a3, c3, ?_, ?_, ?_⟩, K3.out.setT (fun o ho => by rw [HBw.out] at ho; cases ho; exact .inl ⟨rfl, _, rfl⟩) _ _⟩⟩
      · rw [hlen]; exact blk_set HB3.out 2 _
      · rw [HE.out]; exact own_setTy HB3.out HO3.out (by decide)
      · rw [hlen]; exact HT3.out
end Go.Proofs.Ytpfgnhockfofhaa

/-
  Shards: bodies of frames are taken apart: unframeAll, unpack.
-/
namespace Go.Proofs.Ytpfgnhockfofhaa
open Go.RowKit

def frames (bl : List (List UInt8)) : List UInt8 := bl.flatMap encFrame
theorem frames_cons (s : List UInt8) (bl : List (List UInt8)) : frames (s :: bl) = encFrame s ++ frames bl := by simp [frames]
theorem frames_ne (s : List UInt8) (bl : List (List UInt8)) : frames (s :: bl) ≠ [] := fun e => by
  have := congrArg List.length e
  rw [frames_cons, List.length_append, encFrame_len] at this
  simp at this
theorem frames_drop (bl : List (List UInt8)) (k : Nat) : (frames (bl.drop k)).length ≤ (frames bl).length := by
  have : frames bl = frames (bl.take k) ++ frames (bl.drop k) := by unfold frames; rw [← List.flatMap_append, List.take_append_drop]
  rw [this, List.length_append]
  omega
theorem frames_len (bl : List (List UInt8)) : bl.length ≤ (frames bl).length := by
  induction bl with
  | nil => simp
  | cons s t ih => rw [frames_cons, List.length_append, encFrame_len, List.length_cons]; omega
set_option maxRecDepth 100000 in
set_option maxHeartbeats 4000000 in
theorem unframeAll_any (bl : List (List UInt8)) (w : World) (hb : ∀ s ∈ bl, s.length ≤ 65536) (hl : (frames bl).length ≤ 4000000000) :
    Calls Try.prog 84 #[.string (bs (frames bl))] w fun e w' => ∃ a c, e = .returned (.tuple #[.slice a bl.length c, .bool true]) ∧ OwnTd w.heap.size w' a c bl ∧ Kept Nil w w' := by
  obtain ⟨j0, hj, hy0, hy1, hy2⟩ := info_parts Try.infoTd
  have HBl : Hid (bl.length ≤ (frames bl).length) := frames_len bl
  have HL : Hid ((frames bl).length ≤ 4000000000) := hl
  clear hl
  go_enter Try.func84, Try.ntmps84
  go_wp2
  go_loopw [0, 2] (fun s u wr => ∃ k c : Nat, ∃ a : Option Addr, ∃ m : Nat, k ≤ bl.length ∧ Hid (m = k) ∧ s = .string (bs (frames (bl.drop k))) ∧ u = .slice a m c ∧ Hid (OwnTd w.heap.size wr a c (bl.take k)) ∧ Hid (Kept Nil w wr)) (fun _ u _ => bl.length - (match u with | .slice _ n _ => n | _ => 0))
  case atStart => exact ⟨0, 0, none, 0, Nat.zero_le _, rfl, by rw [List.drop_zero], rfl, World.ownsRow_nil _ _ _ _, Kept.refl _ _⟩
  case round =>
    obtain ⟨k, c, a, m, hk, Hmk, rfl, rfl, HO, HK⟩ := hrel
    by_cases hlt : k < bl.length
    · have HD : Hid (bl.drop k = bl[k] :: bl.drop (k + 1)) := List.drop_eq_getElem_cons hlt
      obtain ⟨y, HY⟩ : ∃ y, Hid (y = bl[k]) := ⟨bl[k], (rfl : bl[k] = bl[k])⟩
      have hyl : y.length ≤ 65536 := by rw [HY.out]; exact hb _ (List.getElem_mem _)
      obtain ⟨L, HLe⟩ : ∃ l, Hid (l = frames (bl.drop k)) := ⟨_, rfl⟩
      have HLe2 : Hid (L = encFrame y ++ frames (bl.drop (k + 1))) := by rw [HLe.out, HD.out, frames_cons, ← HY.out]; rfl
      have hne : L.isEmpty = false := by
        cases hL : L with
        | nil => have := HLe.out; rw [HD.out, hL] at this; exact absurd this.symm (frames_ne _ _)
        | cons x t => rfl
      have tL := bs_toList L
      have UN := unframe_any L wr (by have h1 := frames_drop bl k; have h2 := HL.out; rw [← HLe.out] at h1; unfold maxLen; omega)
      rw [HLe2.out, unF_whole hyl, ← HLe2.out] at UN
      obtain ⟨R, HRe⟩ : ∃ l, Hid (l = frames (bl.drop (k + 1))) := ⟨_, rfl⟩
      dsimp only at UN
      rw [← HRe.out] at UN
      rw [← HLe.out]
      go_wp2_with fail
      go_fit UN
      rintro e w2 ⟨rfl, k2⟩
      have HK2 : Hid (Kept Nil w w2) := HK.out.trans k2
      have HO2 : Hid (w2.ownsRow w.heap.size 9 1 (.slice a m c) m (tdCells (bl.take k))) := by have h9 := HO.out.kept k2; unfold OwnTd at h9; rw [show (bl.take k).length = m by rw [List.length_take, Hmk.out]; omega] at h9; exact h9
      have SR := oneT_src w2 y
      have HLL : Hid (m + 1 ≤ maxLen ∧ (m + 1) * 16 ≤ 140737488355328) := by have := Hmk.out; have := HBl.out; have := HL.out; constructor <;> (try unfold maxLen) <;> omega
      have hBs : w.heap.size ≤ w2.heap.size := HK2.out.size
      clear UN k2
      go_wp2_with (at_builtin; go_must (refine wpList_append_src _ rfl _ _ 54 54 rfl w.heap.size 9 j0 (.string ⟨#[]⟩) 1 16 Try.underlying54 hj hy0 hy1 hy2 rfl (.slice a m c) m (tdCells (bl.take k)) rfl (World.ownsRow.alloc HO2.out _) (.slice (some ⟨w2.heap.size, 0, none⟩) 1 1) 1 [.string (bs y)] rfl SR HLL.out.1 HLL.out.2 (le_alloc hBs _) ?_); intro a6 c6 w6 ho6 hg6; have HO6 : Hid (OwnTd w.heap.size w6 a6 c6 (bl.take (k + 1))) := (by rw [List.take_succ_eq_append_getElem hlt, ← HY.out]; exact OwnTd.app (gs := [y]) (by rw [List.length_take, Hmk.out]; omega) rfl ho6); have K6 : Hid (Kept Nil w w6) := (HK2.out.alloc _).grown hg6 (fun q hq => own_row HO2.out q hq); clear ho6 hg6)
      go_roundw
      case rel => exact ⟨k + 1, c6, a6, m + 1, by omega, (by show m + 1 = k + 1; rw [Hmk.out]), by rw [HRe.out], rfl, HO6.out, K6.out⟩
      case measure => have := Hmk.out; dsimp only; omega
    · obtain rfl : k = bl.length := by omega
      rw [List.drop_length, show frames ([] : List (List UInt8)) = [] from rfl]
      have HE : Hid (m = bl.length) := Hmk.out
      have t0 : (bs ([] : List UInt8)).toList = [] := bs_toList []
      go_wp2
      go_ret2
      refine ⟨a, c, by rw [HE.out]; rfl, ?_, HK.out⟩
      have := HO.out
      rw [List.take_length] at this
      exact this
end Go.Proofs.Ytpfgnhockfofhaa

/-
  Shards: good blocks, and what is younger; a host in memory, all of it in good blocks.
-/
namespace Go.Proofs.Ytpfgnhockfofhaa
open Go.RowKit

/-- A good block, or one that is younger than w. -/
def GN (G : Nat → Prop) (w : World) : Nat → Prop := fun g => G g ∨ w.heap.size ≤ g
/-- All that lies in good blocks. -/
def TG (G : Nat → Prop) : Nat → Obj → Prop := fun q _ => G q
theorem Kept.next {G : Nat → Prop} {w a b : World} (h : Kept (TG G) w a) (k : Kept (TG (GN G w)) a b) : Kept (TG G) w b :=
  ⟨k.os.trans h.os, k.tape.trans h.tape, k.output.trans h.output, Nat.le_trans h.size k.size, fun q o ho hx => k.block q o (h.block q o ho hx) (fun e => by
    rcases e with e | e
    · exact hx e
    · have := lt_of_block ho; omega)⟩
theorem gn_gn {G : Nat → Prop} {w a : World} (h : w.heap.size ≤ a.heap.size) {g : Nat} (hg : GN (GN G w) a g) : GN G w g := by
  rcases hg with hg | hg
  · exact hg
  · exact .inr (Nat.le_trans h hg)
theorem Kept.nilG {G : Nat → Prop} {a b : World} (h : Kept Nil a b) : Kept (TG G) a b := h.mono (fun _ _ x => x.elim)
theorem Kept.upG {G H : Nat → Prop} {a b : World} (h : Kept (TG G) a b) (k : ∀ g, G g → H g) : Kept (TG H) a b := h.mono (fun q _ x => k q x)

/-- What a host is: its relay's others, its items, who has which keys. -/
structure Hd where
  os : Nat → Oh
  it : List Pr
  kb : List Bd

/-- A host in memory. -/
structure HoX (G : Nat → Prop) (w : World) (b rb : Nat) (id : Int) (ao : Nat → Option Addr) (cs : Nat → Nat) (ai : Option Addr) (ci : Nat) (gk ck : Nat) (h : Hd) : Prop where
  ho : HoAt w b rb id ai h.it.length ci (some ⟨gk, 0, none⟩) h.kb.length ck
  gb : G b
  gr : G rb
  rl : Rl G w rb id h.os ao cs
  it : OwnIt 0 w ai ci h.it
  gi : ∀ g, (Value.slice ai h.it.length ci).ownBlock = some g → G g
  kb : OwnB 0 w (some ⟨gk, 0, none⟩) ck h.kb
  gk : G gk
def HoM (G : Nat → Prop) (w : World) (b : Nat) (id : Int) (h : Hd) : Prop := ∃ rb ao cs ai ci gk ck, HoX G w b rb id ao cs ai ci gk ck h
theorem HoX.m {G : Nat → Prop} {w : World} {b rb : Nat} {id : Int} {ao : Nat → Option Addr} {cs : Nat → Nat} {ai : Option Addr} {ci gk ck : Nat} {h : Hd} (x : HoX G w b rb id ao cs ai ci gk ck h) : HoM G w b id h := ⟨_, _, _, _, _, _, _, x⟩
theorem HoX.keptX {G : Nat → Prop} {X : Nat → Obj → Prop} {w w' : World} {b rb : Nat} {id : Int} {ao : Nat → Option Addr} {cs : Nat → Nat} {ai : Option Addr} {ci gk ck : Nat} {h : Hd} (x : HoX G w b rb id ao cs ai ci gk ck h) (k : Kept X w w') (hX : ∀ q o, G q → ¬ X q o) : HoX G w' b rb id ao cs ai ci gk ck h :=
  ⟨k.block _ _ x.ho (hX _ _ x.gb), x.gb, x.gr, x.rl.keptG k (fun _ => hX _ _ x.gr) (fun q _ hq => hX q _ hq), own_keptG x.it k (fun g _ hg => hX g _ (x.gi g hg)), x.gi, own_keptG x.kb k (fun g _ hg => by
    have e : gk = g := by simpa [Value.ownBlock] using hg
    rw [← e]; exact hX _ _ x.gk), x.gk⟩
theorem HoM.keptX {G : Nat → Prop} {X : Nat → Obj → Prop} {w w' : World} {b : Nat} {id : Int} {h : Hd} (x : HoM G w b id h) (k : Kept X w w') (hX : ∀ q o, G q → ¬ X q o) : HoM G w' b id h := by
  obtain ⟨_, _, _, _, _, _, _, x⟩ := x
  exact (x.keptX k hX).m
theorem HoX.kept {G : Nat → Prop} {w w' : World} {b rb : Nat} {id : Int} {ao : Nat → Option Addr} {cs : Nat → Nat} {ai : Option Addr} {ci gk ck : Nat} {h : Hd} (x : HoX G w b rb id ao cs ai ci gk ck h) (k : Kept Nil w w') : HoX G w' b rb id ao cs ai ci gk ck h := x.keptX k (fun _ _ _ y => y)
theorem HoX.up {G H : Nat → Prop} {w : World} {b rb : Nat} {id : Int} {ao : Nat → Option Addr} {cs : Nat → Nat} {ai : Option Addr} {ci gk ck : Nat} {h : Hd} (x : HoX G w b rb id ao cs ai ci gk ck h) (k : ∀ g, G g → H g) : HoX H w b rb id ao cs ai ci gk ck h :=
  ⟨x.ho, k _ x.gb, k _ x.gr, x.rl.up k, x.it, fun g hg => k g (x.gi g hg), x.kb, k _ x.gk⟩
theorem HoM.up {G H : Nat → Prop} {w : World} {b : Nat} {id : Int} {h : Hd} (x : HoM G w b id h) (k : ∀ g, G g → H g) : HoM H w b id h := by
  obtain ⟨_, _, _, _, _, _, _, x⟩ := x
  exact (x.up k).m
theorem HoX.lt {G : Nat → Prop} {w : World} {b rb : Nat} {id : Int} {ao : Nat → Option Addr} {cs : Nat → Nat} {ai : Option Addr} {ci gk ck : Nat} {h : Hd} (x : HoX G w b rb id ao cs ai ci gk ck h) : HoX (fun g => G g ∧ g < w.heap.size) w b rb id ao cs ai ci gk ck h :=
  ⟨x.ho, ⟨x.gb, lt_of_block x.ho⟩, ⟨x.gr, by obtain ⟨_, hc⟩ := x.rl.cl; exact lt_of_block hc.blk⟩, x.rl.lt, x.it, fun g hg => ⟨x.gi g hg, (World.ownsRow.lt x.it g hg).2⟩, x.kb, ⟨x.gk, (World.ownsRow.lt x.kb gk rfl).2⟩⟩
theorem HoM.lt {G : Nat → Prop} {w : World} {b : Nat} {id : Int} {h : Hd} (x : HoM G w b id h) : HoM (fun g => G g ∧ g < w.heap.size) w b id h := by
  obtain ⟨_, _, _, _, _, _, _, x⟩ := x
  exact x.lt.m
/-- What a change of items touches lies in good blocks. -/
theorem HoX.ti {G : Nat → Prop} {w : World} {b rb : Nat} {id : Int} {ao : Nat → Option Addr} {cs : Nat → Nat} {ai : Option Addr} {ci gk ck : Nat} {h : Hd} (x : HoX G w b rb id ao cs ai ci gk ck h) {q : Nat} {o : Obj} (e : TI b (Value.slice ai h.it.length ci).ownBlock q o) : TG G q o := by
  rcases e with ⟨rfl, _⟩ | ⟨e, _⟩
  · exact x.gb
  · exact x.gi q e
/-- A host's items have changed. -/
theorem HoX.items {G : Nat → Prop} {w w' : World} {b rb : Nat} {id : Int} {ao : Nat → Option Addr} {cs : Nat → Nat} {ai : Option Addr} {ci gk ck : Nat} {h : Hd} (x : HoX G w b rb id ao cs ai ci gk ck h) {qs : List Pr} (s : SetPost 0 b rb id ai h.it.length ci (some ⟨gk, 0, none⟩) h.kb.length ck qs w w') :
    (∃ ai' ci', HoX (GN G w) w' b rb id ao cs ai' ci' gk ck { h with it := qs }) ∧ Kept (TG G) w w' := by
  refine ⟨?_, s.kw.mono (fun q o e => x.ti e)⟩
  obtain ⟨ai', ci', h1, h2, h3⟩ := s.ex
  have hno : ∀ q t cs, t ≠ 114 → t ≠ 117 → ¬ TI b (Value.slice ai h.it.length ci).ownBlock q (.cells cs t (0, 0)) := fun q t cs n1 n2 e => by
    rcases e with ⟨_, _, e⟩ | ⟨_, _, e⟩ <;> (cases e; first | exact n1 rfl | exact n2 rfl)
  refine ⟨ai', ci', h1, .inl x.gb, .inl x.gr, (x.rl.keptG s.kw (fun _ => hno _ _ _ (by decide) (by decide)) (fun q _ _ => hno _ _ _ (by decide) (by decide))).up (fun g hg => .inl hg), h2, fun g hg => ?_, own_keptG x.kb s.kw (fun g _ _ => hno _ _ _ (by decide) (by decide)), .inl x.gk⟩
  rcases h3 g hg with h4 | h4
  · exact .inl (x.gi g h4)
  · exact .inr h4

set_option maxRecDepth 100000 in
set_option maxHeartbeats 1000000 in
/-- A host sets an item. -/
theorem setM_any (G : Nat → Prop) (b rb : Nat) (id : Int) (ao : Nat → Option Addr) (cs : Nat → Nat) (ai : Option Addr) (ci gk ck : Nat) (h : Hd) (p : Pr) (w : World) (x : HoX G w b rb id ao cs ai ci gk ck h) (hs : Srt h.it) (hl : h.it.length < 4000000) :
    Calls Try.prog 59 #[.pointer (some ⟨b, 0, none⟩), .agg #[.string (bs p.k), .string (bs p.v)]] w fun e w' => e = .returned (.tuple #[]) ∧ (∃ ai' ci', HoX (GN G w) w' b rb id ao cs ai' ci' gk ck { h with it := setI p h.it }) ∧ Kept (TG G) w w' := by
  refine (setH_any 0 b rb ci h.kb.length ck id ai (some ⟨gk, 0, none⟩) h.it p w x.it hs hl x.ho (Nat.zero_le _)).mono ?_
  rintro e w' ⟨rfl, s⟩
  exact ⟨rfl, x.items s⟩
end Go.Proofs.Ytpfgnhockfofhaa
