/-
  Joined: WKv5, WKv6.
-/
import Derived.Test.YtflnjlbafchnaaaGreatDoorQ04
/-
  slices.Delete of one pair.
-/
namespace Go.Proofs.YtflnjlbafchnaaaGreatDoor
open Go.RowKit

theorem run_clearP1 (w : World) (ty : TypeId) (b o c : Nat) (hc : ∀ j, j < 3 → (w.cell? ⟨b, o + j, none⟩).isSome = true) (hf : ∀ j, j < 3 → w.frozen? ⟨b, o + j, none⟩ = false) :
    (Builtin.clear_ #[55] ty #[.slice (some ⟨b, o, none⟩) 1 c]).run Tryz.prog w = .ok (.tuple #[]) (w.setCells b o [.string ⟨#[]⟩, .string ⟨#[]⟩, .int .i64 0]) := by
  have hst := run_storeCells_cells (P := Tryz.prog) b o [.string ⟨#[]⟩, .string ⟨#[]⟩, .int .i64 0] 0 w (by simpa using hc) (by simpa using hf) (by intro v hv'; simp at hv'; rcases hv' with rfl | rfl | rfl <;> rfl)
  simp only [Nat.add_zero] at hst
  have hz : (Builtin.zeroCells (Value.agg #[.string ⟨#[]⟩, .string ⟨#[]⟩, .int .i64 0]).cells 1).toList = [.string ⟨#[]⟩, .string ⟨#[]⟩, .int .i64 0] := by
    simp [Builtin.zeroCells, Value.cells, List.range, List.range.loop]
  simp [Builtin.clear_, run_underlying Tryz.underlying55, hz, hst]
def delP (i : Nat) (ps : List Pr) : List Pr := ps.take i ++ ps.drop (i + 1)
theorem delP_len {i : Nat} {ps : List Pr} (hi : i < ps.length) : (delP i ps).length = ps.length - 1 := by
  unfold delP
  rw [List.length_append, List.length_take, List.length_drop]
  omega
theorem delP_cells {i : Nat} {ps : List Pr} (hi : i < ps.length) (j : Nat) : (kvCells (delP i ps))[j]? = if j < i * 3 then (kvCells ps)[j]? else (kvCells ps)[j + 3]? := by
  have hl : (kvCells (ps.take i)).length = i * 3 := by rw [kvCells_len, List.length_take, Nat.min_eq_left (by omega)]
  unfold delP
  rw [kvCells_app, List.getElem?_append, hl]
  split
  · rename_i hj
    rw [kvCells_take, List.getElem?_take, if_pos hj]
  · rw [kvCells_drop, List.getElem?_drop]
    congr 1
    omega

set_option maxRecDepth 100000 in
set_option maxHeartbeats 4000000 in
theorem deleteP_any (B c i : Nat) (ao : Option Addr) (ps : List Pr) (w : World) (h : OwnP B w ao c ps) (hi : i < ps.length) (hn : ps.length ≤ 32) :
    Calls Tryz.prog 150 #[.slice ao ps.length c, .int .i64 i, .int .i64 (i + 1)] w fun e w' => e = .returned (.slice ao (ps.length - 1) c) ∧ OwnP B w' ao c (delP i ps) ∧ w.grownBy w' (Value.slice ao ps.length c).ownBlock := by
  obtain ⟨g, rfl, _, _, _⟩ := h.cells (by omega)
  obtain ⟨g', cs, e0, hBg, hblk, hlc, hcm, hsz, htk⟩ := h.block (by simp)
  simp only [Option.some.injEq, Addr.mk.injEq, and_true] at e0
  subst e0
  unfold maxLen at hcm
  obtain ⟨i0, hi0, hz0, hzs, hzb⟩ := info_parts Tryz.infoPr
  have hcells : ∀ j v, (kvCells ps)[j]? = some v → w.cell? ⟨g, j, none⟩ = some v := fun j v hj => by
    have hlt : j < ps.length * 3 := by have := (List.getElem?_eq_some_iff.1 hj).1; rwa [kvCells_len] at this
    rw [blk_cell hblk, ← hj, ← htk, List.getElem?_take, if_pos hlt, Array.getElem?_toList]
  have hsp : ∀ j, j < c * 3 → (w.cell? ⟨g, j, none⟩).isSome = true := fun j hj => by rw [blk_cell hblk, Array.getElem?_eq_getElem (by omega)]; rfl
  have hdl : (kvCells (ps.drop (i + 1))).length = (ps.length - (i + 1)) * 3 := by rw [kvCells_len, List.length_drop]
  obtain ⟨W1, hW1⟩ : ∃ W1, W1 = w.drew.setCells g (i * 3) (kvCells (ps.drop (i + 1))) := ⟨_, rfl⟩
  obtain ⟨cs1, b1, s1, g1⟩ := blk_setCellsK (b := g) (kvCells (ps.drop (i + 1))) (i * 3) w.drew cs hblk
  rw [← hW1] at b1
  have hcl : ∀ (W : World), (∀ y, W.cell? y = W1.cell? y) → (∀ y, W.frozen? y = W1.frozen? y) → ∀ ty, (Builtin.clear_ #[55] ty #[.slice (some ⟨g, (ps.length - 1) * 3, none⟩) 1 (c - (ps.length - 1))]).run Tryz.prog W = .ok (.tuple #[]) (W.setCells g ((ps.length - 1) * 3) [.string ⟨#[]⟩, .string ⟨#[]⟩, .int .i64 0]) := fun W hWc hWf ty =>
    run_clearP1 W ty g ((ps.length - 1) * 3) (c - (ps.length - 1)) (fun j hj => by rw [hWc, blk_cell b1, Array.getElem?_eq_getElem (by omega)]; rfl) (fun j hj => by rw [hWf]; exact blk_free b1 _)
  have mixed : Tryz.prog.follows Departure.mixedOrders = true := by kernel_rfl
  have HB1 : Hid (W1.heap[g]? = some (.cells cs1 63 (0, 0)) ∧ cs1.size = cs.size ∧ ∀ j, cs1[j]? = if i * 3 ≤ j ∧ j < i * 3 + (kvCells (ps.drop (i + 1))).length ∧ j < cs.size then (kvCells (ps.drop (i + 1)))[j - i * 3]? else cs[j]?) := ⟨b1, s1, g1⟩
  have HW1 : Hid (W1 = w.drew.setCells g (i * 3) (kvCells (ps.drop (i + 1)))) := hW1
  have HTK : Hid (cs.toList.take (ps.length * 3) = kvCells ps) := htk
  have hs1 : ∀ j u, (kvCells (ps.drop (i + 1)))[j]? = some u → w.cell? ((⟨g, (i + 1) * 3, none⟩ : Addr).add j) = some u := fun j v hj => by rw [kvCells_drop, List.getElem?_drop] at hj; rw [Addr.add_lit]; exact hcells _ v hj
  have hs2 : ∀ j, j < (kvCells (ps.drop (i + 1))).length → (w.cell? ⟨g, 0 + i * 3 + j, none⟩).isSome = true ∧ w.frozen? ⟨g, 0 + i * 3 + j, none⟩ = false := fun j hj => by rw [hdl] at hj; exact ⟨hsp _ (by omega), blk_free hblk _⟩
  have hb0 : ¬ (i : Int) = (i : Int) + 1 := by omega
  have hb1 : (0 : Int) ≤ (i : Int) + 1 := by omega
  have hb3 : (i : Int) ≤ (i : Int) + 1 := by omega
  have hb4 : (i : Int) + 1 ≤ (ps.length : Int) := by omega
  have hb5 : (ps.length : Int) ≤ (c : Int) := by omega
  have htn : ((i : Int) + 1).toNat = i + 1 := by omega
  have hin : i ≤ ps.length := by omega
  have hic : i ≤ c := by omega
  have hsum : i + (ps.length - (i + 1)) = ps.length - 1 := by omega
  clear hW1 b1 s1 g1 h htk hsp hcells
  have he1 : ps.length - (ps.length - 1) = 1 := by omega
  have he2 : ((ps.length - 1 : Nat) : Int) ≤ (ps.length : Int) := by omega
  have he3 : ¬ (c = ps.length - 1) := by omega
  have he4 : ps.length - 1 ≤ ps.length := by omega
  have he5 : ps.length - 1 ≤ c := by omega
  have he6 : 0 + i * 3 = i * 3 := by omega
  have hcl1 : ∀ ty, (Builtin.clear_ #[55] ty #[.slice (some ⟨g, (ps.length - 1) * 3, none⟩) 1 (c - (ps.length - 1))]).run Tryz.prog (w.drew.setCells g (i * 3) (kvCells (ps.drop (i + 1)))) = .ok (.tuple #[]) ((w.drew.setCells g (i * 3) (kvCells (ps.drop (i + 1)))).setCells g ((ps.length - 1) * 3) [.string ⟨#[]⟩, .string ⟨#[]⟩, .int .i64 0]) := hcl _ (fun _ => by rw [HW1.out]) (fun _ => by rw [HW1.out])
  clear hcl
  by_cases hci : c = i + 1
  · have hps : ps.length = i + 1 := by omega
    have hs1' : ∀ j u, (kvCells (ps.drop (i + 1)))[j]? = some u → w.cell? ((⟨g, 0, none⟩ : Addr).add j) = some u := fun j v hj => by
      have := (List.getElem?_eq_some_iff.1 hj).1
      rw [hdl] at this
      omega
    have HPS : Hid (ps.length = i + 1) := hps
    clear hps
    subst hci
    rw [HPS.out, Nat.add_sub_cancel] at hcl1
    rw [HPS.out, Nat.add_sub_cancel]
    clear he1 he2 he3 he4 he5 hsum hb4 hb5 hin hic hlc
    have hj1 : i + 1 - i = 1 := by omega
    rw [hj1] at hcl1
    have hj2 : ¬ (i + 1 = i) := by omega
    have hi' : i < i + 1 := by omega
    have hd0 : (kvCells (ps.drop (i + 1))).length = 0 * 3 := by rw [hdl, HPS.out]; omega
    have HI : Hid (i < ps.length ∧ ps.length ≤ 32) := ⟨hi, hn⟩
    clear hi hn
    go_enter Tryz.func150, Tryz.ntmps150
    go_wp2
    go_region_law_o (refine step_append_room rfl _ _ 55 rfl 63 i0 3 Tryz.underlying55 hi0 hzs g 0 i (i + 1) (by simp [Act.eval, Act.put]) ⟨g, 0, none⟩ 0 0 (kvCells (ps.drop (i + 1))) (by simp [Act.eval, Act.put]) hd0 hs1' (kvCells_one _) (by omega) hs2 ?_)
    go_wp2
    go_ret
    obtain ⟨hi, hn⟩ := HI.out
    have hps := HPS.out
    obtain ⟨b1, s1, g1⟩ := HB1.out
    rw [← HW1.out]
    obtain ⟨cs2, b2, s2, g2⟩ := blk_setCellsK (b := g) [.string ⟨#[]⟩, .string ⟨#[]⟩, .int .i64 0] (i * 3) W1 cs1 b1
    refine ⟨rfl, ?_, ?_⟩
    · have hown := ownP_of_blk (c := i + 1) (ps := delP i ps) hBg b2 (by omega) (by unfold maxLen; omega) (by rw [delP_len hi]; omega) (fun j hj => by
        rw [delP_len hi] at hj
        rw [delP_cells hi, g2 j, g1 j]
        have hcj : ∀ q, q < ps.length * 3 → cs[q]? = (kvCells ps)[q]? := fun q hq => by
          have := congrArg (fun l => l[q]?) HTK.out
          simpa only [List.getElem?_take, if_pos hq, Array.getElem?_toList] using this
        simp only [List.length_cons, List.length_nil]
        rw [if_neg (by omega)]
        by_cases h1 : j < i * 3
        · rw [if_pos h1, if_neg (by omega)]
          exact hcj j (by omega)
        · rw [if_neg h1, if_pos (by rw [hdl]; omega), kvCells_drop, List.getElem?_drop]
          congr 1
          omega)
      exact hown
    · refine grownBy_setCellsK g _ _ ?_
      rw [HW1.out]
      exact grownBy_setCellsK g _ _ (grown_drewK (grown_reflK _ _))
  go_enter Tryz.func150, Tryz.ntmps150
  go_wp2
  go_region_law_o (refine step_append_room rfl _ _ 55 rfl 63 i0 3 Tryz.underlying55 hi0 hzs g 0 i c (by simp [Act.eval, Act.put]) ⟨g, (i + 1) * 3, none⟩ (ps.length - (i + 1)) (c - (i + 1)) (kvCells (ps.drop (i + 1))) (by simp [Act.eval, Act.put]) hdl hs1 (kvCells_one _) (by omega) hs2 ?_)
  go_wp2
  go_ret
  obtain ⟨b1, s1, g1⟩ := HB1.out
  rw [← HW1.out]
  obtain ⟨cs2, b2, s2, g2⟩ := blk_setCellsK (b := g) [.string ⟨#[]⟩, .string ⟨#[]⟩, .int .i64 0] ((ps.length - 1) * 3) W1 cs1 b1
  refine ⟨rfl, ?_, ?_⟩
  · have hown := ownP_of_blk (c := c) (ps := delP i ps) hBg b2 (by omega) (by unfold maxLen; omega) (by rw [delP_len hi]; omega) (fun j hj => by
      rw [delP_len hi] at hj
      rw [delP_cells hi, g2 j, g1 j]
      have hcj : ∀ q, q < ps.length * 3 → cs[q]? = (kvCells ps)[q]? := fun q hq => by
        have := congrArg (fun l => l[q]?) HTK.out
        simpa only [List.getElem?_take, if_pos hq, Array.getElem?_toList] using this
      simp only [List.length_cons, List.length_nil]
      rw [if_neg (by omega)]
      by_cases h1 : j < i * 3
      · rw [if_pos h1, if_neg (by omega)]
        exact hcj j (by omega)
      · rw [if_neg h1, if_pos (by rw [hdl]; omega), kvCells_drop, List.getElem?_drop]
        congr 1
        omega)
    exact hown
  · refine grownBy_setCellsK g _ _ ?_
    rw [HW1.out]
    exact grownBy_setCellsK g _ _ (grown_drewK (grown_reflK _ _))

end Go.Proofs.YtflnjlbafchnaaaGreatDoor

/-
  kv: a pair is put, or goes.
-/
namespace Go.Proofs.YtflnjlbafchnaaaGreatDoor
open Go.RowKit

/-- The spot's block, and that of its pairs. -/
def Two (b : Nat) (ao : Option Addr) : Nat → Obj → Prop := fun k _ => k = b ∨ ∃ a, ao = some a ∧ a.block = k
def New (w : World) (p : Nat) : Prop := w.heap.size ≤ p
/-- What a call leaves: all of an elder world, and of the caller's all but the spot and its pairs. -/
structure KK (w0 w : World) (b : Nat) (ao : Option Addr) (X : World) : Prop where
  old : Kept Nil w0 X
  two : Kept (Two b ao) w X
theorem KK.start {w0 w : World} {b : Nat} {ao : Option Addr} (h : Kept Nil w0 w) : KK w0 w b ao w := ⟨h, Kept.refl _ _⟩
theorem KK.then {w0 w X Y : World} {b : Nat} {ao : Option Addr} (h : KK w0 w b ao X) (k : Kept Nil X Y) : KK w0 w b ao Y := ⟨h.old.trans k, h.two.trans (k.mono fun _ _ x => x.elim)⟩
theorem KK.alloc {w0 w X : World} {b : Nat} {ao : Option Addr} (h : KK w0 w b ao X) (o : Obj) : KK w0 w b ao (X.alloc o) := ⟨h.old.alloc o, h.two.alloc o⟩
theorem KK.drew {w0 w X : World} {b : Nat} {ao : Option Addr} (h : KK w0 w b ao X) : KK w0 w b ao X.drew := ⟨h.old.drew, h.two.drew⟩
theorem KK.size {w0 w X : World} {b : Nat} {ao : Option Addr} (h : KK w0 w b ao X) : w0.heap.size ≤ X.heap.size := h.old.size
theorem KK.setSpot {w0 w X : World} {b i : Nat} {ao : Option Addr} (h : KK w0 w b ao X) (hb : w0.heap.size ≤ b) (u : Value) : KK w0 w b ao (X.setCell ⟨b, i, none⟩ u) := ⟨h.old.setNew hb u, h.two.setCell (p := ⟨b, i, none⟩) (fun _ => .inl rfl) u⟩
theorem KK.setRow {w0 w X : World} {b g i : Nat} (h : KK w0 w b (some ⟨g, 0, none⟩) X) (hg : w0.heap.size ≤ g) (u : Value) : KK w0 w b (some ⟨g, 0, none⟩) (X.setCell ⟨g, i, none⟩ u) := ⟨h.old.setNew hg u, h.two.setCell (p := ⟨g, i, none⟩) (fun _ => .inr ⟨_, rfl, rfl⟩) u⟩
theorem KK.setRes {w0 w X : World} {b pr i : Nat} {ao : Option Addr} (h : KK w0 w b ao X) (hp : w0.heap.size ≤ pr) (hn : New w pr) (u : Value) : KK w0 w b ao (X.setCell ⟨pr, i, none⟩ u) := ⟨h.old.setNew hp u, h.two.setNew (p := ⟨pr, i, none⟩) hn u⟩
theorem KK.grown {w0 w X Y : World} {b len c : Nat} {ao : Option Addr} (h : KK w0 w b ao X) (hg : X.grownBy Y (Value.slice ao len c).ownBlock) (hrow : ∀ k, (Value.slice ao len c).ownBlock = some k → w0.heap.size ≤ k) : KK w0 w b ao Y :=
  ⟨h.old.grown hg hrow, ⟨hg.os.trans h.two.os, hg.tape.trans h.two.tape, hg.output.trans h.two.output, Nat.le_trans h.two.size hg.size, fun k o ho hx => by
    have hk := lt_of_block ho
    rw [hg.block k (by have := h.two.size; omega) (fun e => hx (.inr (by
      cases ao with
      | none => simp [Value.ownBlock] at e
      | some a => exact ⟨a, rfl, by simpa [Value.ownBlock] using e.symm⟩)))]
    exact h.two.block k o ho hx⟩⟩
theorem OwnP.apart {B b c len c' : Nat} {w : World} {ao ao' : Option Addr} {ps : List Pr} {k v : List UInt8} {n at' : Int} (h : OwnP B w ao c ps) (hb : SpotAt w b k v n ao' len c' at') : ∀ a, ao = some a → a.block ≠ b := fun a ha e => by
  obtain ⟨g, cs, e0, _, hblk, _⟩ := h.block (by rw [ha]; simp)
  rw [ha] at e0
  cases e0
  simp only at e
  subst e
  unfold SpotAt at hb
  rw [hblk] at hb
  simp at hb
theorem OwnP.own {B c k : Nat} {w : World} {ao : Option Addr} {ps : List Pr} (h : OwnP B w ao c ps) (hk : (Value.slice ao ps.length c).ownBlock = some k) : ∃ a, ao = some a ∧ a.block = k := by
  cases ao with
  | none => simp [Value.ownBlock] at hk
  | some a => exact ⟨a, rfl, by simpa [Value.ownBlock] using hk⟩
theorem OwnP.setSpot {B b c len c' i : Nat} {w : World} {ao ao' : Option Addr} {ps : List Pr} {k v : List UInt8} {n at' : Int} (h : OwnP B w ao c ps) (hb : SpotAt w b k v n ao' len c' at') (u : Value) : OwnP B (w.setCell ⟨b, i, none⟩ u) ao c ps :=
  ownsRow_setCell_other h (fun e => by obtain ⟨a, ha, e2⟩ := h.own e; exact h.apart hb a ha e2) u

/-- What put makes of the pairs. -/
def putP (key x : List UInt8) (n : Int) (i : Nat) (ps : List Pr) : List Pr := if roomB ps.length n x = false then ps else if n = 0 then insP i ⟨key, x, n + 1⟩ ps else ps.set i ⟨key, x, n + 1⟩
def putR (x : List UInt8) (n : Int) (len : Nat) : Value := if roomB len n x = false then resV 4 [] 0 else resV 1 [] (n + 1)

/-- Four cells of a result are written. -/
def set4 (X : World) (pr : Nat) (u0 u1 u2 u3 : Value) : World := (((X.setCell ⟨pr, 0, none⟩ u0).setCell ⟨pr, 1, none⟩ u1).setCell ⟨pr, 2, none⟩ u2).setCell ⟨pr, 3, none⟩ u3
theorem spot_ne {b pr c len : Nat} {X : World} {ao : Option Addr} {k v : List UInt8} {n at' : Int} {cs : Array Value} (HN : X.heap[pr]? = some (.cells cs 50 (0, 0))) (HB : SpotAt X b k v n ao len c at') : b ≠ pr := fun e => by
  subst e
  unfold SpotAt at HB
  rw [HN] at HB
  simp at HB
theorem OwnP.neRes {B c pr : Nat} {w : World} {ao : Option Addr} {ps : List Pr} {cs : Array Value} (h : OwnP B w ao c ps) (HN : w.heap[pr]? = some (.cells cs 50 (0, 0))) : (Value.slice ao ps.length c).ownBlock ≠ some pr := fun e => by
  obtain ⟨a, ha, e2⟩ := h.own e
  obtain ⟨g, cs, e0, _, hblk, _⟩ := h.block (by rw [ha]; simp)
  rw [ha] at e0
  cases e0
  simp only at e2
  subst e2
  rw [hblk] at HN
  simp at HN
theorem grown_blk {w w' : World} {ob : Option Nat} {k : Nat} {o : Obj} (h : w.grownBy w' ob) (hk : w.heap[k]? = some o) (hne : ob ≠ some k) : w'.heap[k]? = some o := by
  rw [h.block k (lt_of_block hk) (fun e => hne e.symm)]
  exact hk
theorem OwnP.neAt {B c : Nat} {w : World} {ao : Option Addr} {ps : List Pr} (h : OwnP B w ao c ps) {k : Nat} (hne : ∀ a, ao = some a → a.block ≠ k) : (Value.slice ao ps.length c).ownBlock ≠ some k := fun e => by
  obtain ⟨a, ha, e2⟩ := h.own e
  exact hne a ha e2
theorem set4_all {B b pr c c' len : Nat} {w0 w X : World} {ao ao' ao2 : Option Addr} {ps : List Pr} {k v : List UInt8} {n at' : Int} {x0 x1 x2 x3 : Value} (HN : X.heap[pr]? = some (.cells #[x0, x1, x2, x3] 50 (0, 0))) (HB : SpotAt X b k v n ao' len c' at') (HO : OwnP B X ao c ps) (HK : KK w0 w b ao2 X) (hp : w0.heap.size ≤ pr) (hq : New w pr) (u0 u1 u2 u3 : Value) :
    (set4 X pr u0 u1 u2 u3).heap[pr]? = some (.cells #[u0, u1, u2, u3] 50 (0, 0)) ∧ SpotAt (set4 X pr u0 u1 u2 u3) b k v n ao' len c' at' ∧ OwnP B (set4 X pr u0 u1 u2 u3) ao c ps ∧ KK w0 w b ao2 (set4 X pr u0 u1 u2 u3) := by
  have hne := spot_ne HN HB
  have hno := HO.neRes HN
  refine ⟨blk_set (blk_set (blk_set (blk_set HN 0 _) 1 _) 2 _) 3 _, blk_other (blk_other (blk_other (blk_other HB hne _) hne _) hne _) hne _, ?_, (((HK.setRes hp hq _).setRes hp hq _).setRes hp hq _).setRes hp hq _⟩
  exact ownsRow_setCell_other (ownsRow_setCell_other (ownsRow_setCell_other (ownsRow_setCell_other HO hno _) hno _) hno _) hno _

set_option maxRecDepth 100000 in
set_option maxHeartbeats 2000000 in
theorem putN_any (w0 : World) (b c i : Nat) (ao : Option Addr) (ps : List Pr) (key v x : List UInt8) (n : Int) (w : World) (hb : SpotAt w b key v n ao ps.length c i) (hO : OwnP w0.heap.size w ao c ps) (hK : Kept Nil w0 w) (hl : ps.length ≤ 32) (hn0 : 0 ≤ n) (hi1 : i < ps.length) (h0 : n ≠ 0) (hr : roomB ps.length n x = true) :
    Calls Tryz.prog 115 #[.pointer (some ⟨b, 0, none⟩), .string (bs x)] w fun e w' => e = .returned (resV 1 [] (n + 1)) ∧ ∃ ao' c', SpotAt w' b key v n ao' ps.length c' i ∧ OwnP w0.heap.size w' ao' c' (ps.set i ⟨key, x, n + 1⟩) ∧ KK w0 w b ao w' := by
  obtain ⟨W, hW⟩ : ∃ W, W = w.alloc (.cells #[.int .i64 0, .string ⟨#[]⟩, .int .i64 0, .slice none 0 0] 50) := ⟨_, rfl⟩
  have KW : Hid (Kept Nil w W) := by rw [hW]; exact (Kept.refl _ _).alloc _
  have HB : Hid (SpotAt W b key v n ao ps.length c i) := KW.out.block _ _ hb (fun x => x.elim)
  have HR := hasRoom_any b ps.length c key v n i ao x W HB.out hl
  have HO : Hid (OwnP w0.heap.size W ao c ps) := hO.kept KW.out
  have HK : Hid (KK w0 w b ao W) := (KK.start hK).then KW.out
  have HNW : Hid (W.heap[w.heap.size]? = some (.cells #[.int .i64 0, .string ⟨#[]⟩, .int .i64 0, .slice none 0 0] 50 (0, 0))) := by rw [hW]; exact blk_new _ _
  have HPR : Hid (w0.heap.size ≤ w.heap.size ∧ b ≠ w.heap.size ∧ New w w.heap.size) := ⟨hK.size, Nat.ne_of_lt (lt_of_block hb), Nat.le_refl _⟩
  have q0 : W.cell? ⟨b, 0, none⟩ = some (.string (bs key)) := blk_at HB.out 0 rfl
  have q2 : W.cell? ⟨b, 2, none⟩ = some (.int .i64 n) := blk_at HB.out 2 rfl
  have q3 : W.cell? ⟨b, 3, none⟩ = some (.slice ao ps.length c) := blk_at HB.out 3 rfl
  have q4 : W.cell? ⟨b, 4, none⟩ = some (.int .i64 i) := blk_at HB.out 4 rfl
  rw [hr] at HR
  have hnm : n < 1099511627775 := by
    unfold roomB at hr
    simp at hr
    exact hr.2.2
  have hwr : IntKind.i64.wrap (n + 1) = n + 1 := by rw [IntKind.wrap_i64]; omega
  have h0i : (n == 0) = false := beq_eq_false_iff_ne.2 h0
  have hii : (i : Int) < (ps.length : Int) := by omega
  clear hr
  have r0 : W.cell? ⟨w.heap.size, 0, none⟩ = some (.int .i64 0) := blk_at HNW.out 0 rfl
  have r1 : W.cell? ⟨w.heap.size, 1, none⟩ = some (.string ⟨#[]⟩) := blk_at HNW.out 1 rfl
  have r2 : W.cell? ⟨w.heap.size, 2, none⟩ = some (.int .i64 0) := blk_at HNW.out 2 rfl
  have r3 : W.cell? ⟨w.heap.size, 3, none⟩ = some (.slice none 0 0) := blk_at HNW.out 3 rfl
  have z0 : W.frozen? ⟨w.heap.size, 0, none⟩ = false := blk_free HNW.out 0
  have z1 : W.frozen? ⟨w.heap.size, 1, none⟩ = false := blk_free HNW.out 1
  have z2 : W.frozen? ⟨w.heap.size, 2, none⟩ = false := blk_free HNW.out 2
  have z3 : W.frozen? ⟨w.heap.size, 3, none⟩ = false := blk_free HNW.out 3
  clear hb hO hK KW
  go_enter Tryz.func115, Tryz.ntmps115
  go_wp2_with fail
  rw [← hW]
  generalize w.heap.size = pr at *
  clear hW
  go_fit HR
  rintro _ w1 ⟨rfl, rfl⟩
  go_wp2_with fail
  have hlt := lt_of_block HB.out
  have n0 : (w1.alloc (.cells #[.string ⟨#[]⟩, .string ⟨#[]⟩, .int .i64 0] 63)).cell? ⟨b, 0, none⟩ = some (.string (bs key)) := blk_at (blk_past HB.out _) 0 rfl
  have n2 : (w1.alloc (.cells #[.string ⟨#[]⟩, .string ⟨#[]⟩, .int .i64 0] 63)).cell? ⟨b, 2, none⟩ = some (.int .i64 n) := blk_at (blk_past HB.out _) 2 rfl
  go_region
  clear q0 q2 q3 q4 r0 r1 r2 r3 z0 z1 z2 z3 n0 n2 HR
  obtain ⟨W2, hW2⟩ : ∃ W2, W2 = (w1.alloc (.cells #[.string (bs key), .string (bs x), .int .i64 (n + 1)] 63)).drew := ⟨_, rfl⟩
  rw [← hW2]
  have HB2 : Hid (SpotAt W2 b key v n ao ps.length c i) := by rw [hW2]; exact blk_past HB.out _
  have HN2 : Hid (W2.heap[pr]? = some (.cells #[.int .i64 0, .string ⟨#[]⟩, .int .i64 0, .slice none 0 0] 50 (0, 0))) := by rw [hW2]; exact blk_past HNW.out _
  have HQ2 : Hid (W2.heap[w1.heap.size]? = some (.cells #[.string (bs key), .string (bs x), .int .i64 (n + 1)] 63 (0, 0))) := by rw [hW2]; exact blk_new _ _
  have HO2 : Hid (OwnP w0.heap.size W2 ao c ps) := by rw [hW2]; exact HO.out.kept ((Kept.refl _ _).alloc _).drew
  have HK2 : Hid (KK w0 w b ao W2) := by rw [hW2]; exact (HK.out.alloc _).drew
  have HPP : Hid (∀ a, ao = some a → a.block ≠ w1.heap.size) := fun a ha e => by
    obtain ⟨g, cs, e0, _, hblk, _⟩ := HO.out.block (by rw [ha]; simp)
    rw [ha] at e0
    cases e0
    exact absurd (lt_of_block hblk) (by simp only at e; omega)
  generalize w1.heap.size = pp at *
  clear hW2 hlt
  obtain ⟨g, rfl, hBg, _, hcs⟩ := HO2.out.cells (by omega)
  obtain ⟨_, _, _, f0, f1, f2⟩ := hcs i hi1
  have c0 : (W2.cell? ⟨g, i * 3, none⟩) = some (.string (bs ps[i].k)) := (hcs i hi1).1
  have c1 : (W2.cell? ⟨g, i * 3 + 1, none⟩) = some (.string (bs ps[i].v)) := (hcs i hi1).2.1
  have c2 : (W2.cell? ⟨g, i * 3 + 2, none⟩) = some (.int .i64 ps[i].n) := (hcs i hi1).2.2.1
  clear hcs
  have q2 : W2.cell? ⟨b, 2, none⟩ = some (.int .i64 n) := blk_at HB2.out 2 rfl
  have q3 : W2.cell? ⟨b, 3, none⟩ = some (.slice (some ⟨g, 0, none⟩) ps.length c) := blk_at HB2.out 3 rfl
  have q4 : W2.cell? ⟨b, 4, none⟩ = some (.int .i64 i) := blk_at HB2.out 4 rfl
  have p0 : W2.cell? ⟨pp, 0, none⟩ = some (.string (bs key)) := blk_at HQ2.out 0 rfl
  have p1 : W2.cell? ⟨pp, 1, none⟩ = some (.string (bs x)) := blk_at HQ2.out 1 rfl
  have p2 : W2.cell? ⟨pp, 2, none⟩ = some (.int .i64 (n + 1)) := blk_at HQ2.out 2 rfl
  go_upto_region 7 with fail
  go_region
  obtain ⟨W5, hW5⟩ : ∃ W5, W5 = (((W2.setCell ⟨g, i * 3, none⟩ (.string (bs key))).setCell ⟨g, i * 3 + 1, none⟩ (.string (bs x))).setCell ⟨g, i * 3 + 2, none⟩ (.int .i64 (n + 1))).drew := ⟨_, rfl⟩
  rw [← hW5]
  have hgb : b ≠ g := fun e => HO2.out.apart HB2.out _ rfl e.symm
  have hgr : pr ≠ g := fun e => HO2.out.neRes HN2.out (by rw [e]; rfl)
  have hgp : pp ≠ g := fun e => HPP.out _ rfl e.symm
  have HB5 : Hid (SpotAt W5 b key v n (some ⟨g, 0, none⟩) ps.length c i) := by rw [hW5]; exact blk_other (blk_other (blk_other HB2.out (a := ⟨g, i * 3, none⟩) hgb _) (a := ⟨g, i * 3 + 1, none⟩) hgb _) (a := ⟨g, i * 3 + 2, none⟩) hgb _
  have HN5 : Hid (W5.heap[pr]? = some (.cells #[.int .i64 0, .string ⟨#[]⟩, .int .i64 0, .slice none 0 0] 50 (0, 0))) := by rw [hW5]; exact blk_other (blk_other (blk_other HN2.out (a := ⟨g, i * 3, none⟩) hgr _) (a := ⟨g, i * 3 + 1, none⟩) hgr _) (a := ⟨g, i * 3 + 2, none⟩) hgr _
  have HQ5 : Hid (W5.heap[pp]? = some (.cells #[.string (bs key), .string (bs x), .int .i64 (n + 1)] 63 (0, 0))) := by rw [hW5]; exact blk_other (blk_other (blk_other HQ2.out (a := ⟨g, i * 3, none⟩) hgp _) (a := ⟨g, i * 3 + 1, none⟩) hgp _) (a := ⟨g, i * 3 + 2, none⟩) hgp _
  have HO5 : Hid (OwnP w0.heap.size W5 (some ⟨g, 0, none⟩) c (ps.set i ⟨key, x, n + 1⟩)) := by rw [hW5]; exact (HO2.out.set3 hi1 ⟨key, x, n + 1⟩).kept (Kept.refl _ _).drew
  have HK5 : Hid (KK w0 w b (some ⟨g, 0, none⟩) W5) := by rw [hW5]; exact (((HK2.out.setRow hBg _).setRow hBg _).setRow hBg _).drew
  clear hW5 HB2 HN2 HQ2 HO2 HK2 q2 q3 q4 p0 p1 p2 c0 c1 c2 f0 f1 f2
  have p2 : W5.cell? ⟨pp, 2, none⟩ = some (.int .i64 (n + 1)) := blk_at HQ5.out 2 rfl
  have r0 : W5.cell? ⟨pr, 0, none⟩ = some (.int .i64 0) := blk_at HN5.out 0 rfl
  have r1 : W5.cell? ⟨pr, 1, none⟩ = some (.string ⟨#[]⟩) := blk_at HN5.out 1 rfl
  have r2 : W5.cell? ⟨pr, 2, none⟩ = some (.int .i64 0) := blk_at HN5.out 2 rfl
  have r3 : W5.cell? ⟨pr, 3, none⟩ = some (.slice none 0 0) := blk_at HN5.out 3 rfl
  have z0 : W5.frozen? ⟨pr, 0, none⟩ = false := blk_free HN5.out 0
  have z1 : W5.frozen? ⟨pr, 1, none⟩ = false := blk_free HN5.out 1
  have z2 : W5.frozen? ⟨pr, 2, none⟩ = false := blk_free HN5.out 2
  have z3 : W5.frozen? ⟨pr, 3, none⟩ = false := blk_free HN5.out 3
  obtain ⟨V, hV⟩ : ∃ V, V = (((W5.setCell ⟨pr, 0, none⟩ (.int .i64 1)).setCell ⟨pr, 1, none⟩ (.string ⟨#[]⟩)).setCell ⟨pr, 2, none⟩ (.int .i64 (n + 1))).setCell ⟨pr, 3, none⟩ (.slice none 0 0) := ⟨_, rfl⟩
  have HV : Hid (V.heap[pr]? = some (.cells #[.int .i64 1, .string ⟨#[]⟩, .int .i64 (n + 1), .slice none 0 0] 50 (0, 0)) ∧ SpotAt V b key v n (some ⟨g, 0, none⟩) ps.length c i ∧ OwnP w0.heap.size V (some ⟨g, 0, none⟩) c (ps.set i ⟨key, x, n + 1⟩) ∧ KK w0 w b (some ⟨g, 0, none⟩) V) := by rw [hV]; exact set4_all HN5.out HB5.out HO5.out HK5.out HPR.out.1 HPR.out.2.2 _ _ _ _
  go_wp2
  rw [← hV]
  clear hV r0 r1 r2 r3
  have j0 := blk_at HV.out.1 0 rfl
  have j1 := blk_at HV.out.1 1 rfl
  have j2 := blk_at HV.out.1 2 rfl
  have j3 := blk_at HV.out.1 3 rfl
  exact bodyPost_ret (v := resV 1 [] (n + 1)) (by simp [results, Tryz.results115, go_sem, j0, j1, j2, j3, resV, bs]) rfl ⟨rfl, some ⟨g, 0, none⟩, c, HV.out.2.1, HV.out.2.2.1, HV.out.2.2.2⟩

end Go.Proofs.YtflnjlbafchnaaaGreatDoor
