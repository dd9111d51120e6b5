/-
  Joined: WCe1, WCe2, WCe3, WCe4, WKvP, WTxG, WTxA, WTxF, WTxH.
-/
import Derived.Test.YtflnjlbafchnaaaGreatDoorR03
import Derived.Test.YtflnjlbafchnaaaGreatDoorR01
import Derived.Test.YtflnjlbafchnaaaGreatDoorR04
import Derived.Handy
import Derived.Test.YtflnjlbafchnaaaGreatDoorR00
/-
  Cells: what the package's own table holds; saysOf, numbers (the program).
-/
namespace Go.Proofs.YtflnjlbafchnaaaGreatDoor
open Go.RowKit

/-- What a world holds in the library's variables, and in the table of words. -/
structure LW (w : World) : Prop where
  l : LD w
  c0 : w.cell? ⟨1, 0, none⟩ = some (.string ⟨#[104, 101, 114, 101]⟩)
  c1 : w.cell? ⟨1, 1, none⟩ = some (.string ⟨#[109, 111, 118, 105, 110, 103]⟩)
  c2 : w.cell? ⟨1, 2, none⟩ = some (.string ⟨#[103, 111, 110, 101]⟩)
theorem LD.keptE {X : Nat → Obj → Prop} {w w' : World} (h : LD w) (k : Kept X w w') (hX : ∀ q o, q < 14 → ¬ X q o) : LD w' := by
  refine ⟨?_, ?_, ?_, ?_⟩
  · obtain ⟨m, hm⟩ := h.m
    refine ⟨m, ?_⟩
    have hlt : 0 < w.heap.size := World.block_lt_of_cell? w _ hm
    rw [World.cell?_of_block (w := w) (by rw [k.block 0 _ (Array.getElem?_eq_getElem hlt) (hX 0 _ (by omega)), Array.getElem?_eq_getElem hlt])]
    exact hm
  · obtain ⟨tp, p, hv⟩ := h.s
    exact ⟨tp, p, var_kept (show Tryz.prog.globalNamed "strconv.ErrSyntax" = some 3 by kernel_rfl) (fun o => hX 3 o (by decide)) k hv⟩
  · obtain ⟨tp, p, hv⟩ := h.r
    exact ⟨tp, p, var_kept (show Tryz.prog.globalNamed "strconv.ErrRange" = some 4 by kernel_rfl) (fun o => hX 4 o (by decide)) k hv⟩
  · exact var_kept (show Tryz.prog.globalNamed "internal/strconv.uint64pow10" = some 2 by kernel_rfl) (fun o => hX 2 o (by decide)) k h.t
theorem LW.keptX {X : Nat → Obj → Prop} {w w' : World} (h : LW w) (k : Kept X w w') (hX : ∀ q o, q < 14 → ¬ X q o) : LW w' := by
  refine ⟨h.l.keptE k hX, ?_, ?_, ?_⟩
  · exact cell_kept k (fun o => hX 1 o (by decide)) h.c0
  · exact cell_kept k (fun o => hX 1 o (by decide)) h.c1
  · exact cell_kept k (fun o => hX 1 o (by decide)) h.c2
theorem LW.kept {w w' : World} (h : LW w) (k : Kept Nil w w') : LW w' := h.keptX k (fun _ _ _ x => x.elim)
end Go.Proofs.YtflnjlbafchnaaaGreatDoor

/-
  Cells: numbers, readAll (the program).
-/
namespace Go.Proofs.YtflnjlbafchnaaaGreatDoor
open Go.RowKit

/-- One of a cell's numbers: where it lies in the cell, from where to where it may be. -/
structure Nm where
  o : Nat
  l : Nat
  m : Nat
def nmCell (A : Nat) (x : Nm) : List Value := [.pointer (some ⟨A, x.o, none⟩), .int .i64 x.l, .int .i64 x.m]
def nmCells (A : Nat) (ns : List Nm) : List Value := ns.flatMap (nmCell A)
theorem nmCells_at (A : Nat) : ∀ (ns : List Nm) (j : Nat) (hj : j < ns.length), (nmCells A ns)[j * 3]? = some (.pointer (some ⟨A, ns[j].o, none⟩)) ∧ (nmCells A ns)[j * 3 + 1]? = some (.int .i64 ns[j].l) ∧ (nmCells A ns)[j * 3 + 2]? = some (.int .i64 ns[j].m)
  | [], j, hj => by simp at hj
  | o :: t, 0, hj => by simp [nmCells, nmCell]
  | o :: t, j + 1, hj => by
    have h := nmCells_at A t j (by simpa using hj)
    have hx : ∀ i, (nmCells A (o :: t))[(j + 1) * 3 + i]? = (nmCells A t)[j * 3 + i]? := fun i => by
      rw [show nmCells A (o :: t) = .pointer (some ⟨A, o.o, none⟩) :: .int .i64 o.l :: .int .i64 o.m :: nmCells A t by simp [nmCells, nmCell], show (j + 1) * 3 + i = (j * 3 + i) + 1 + 1 + 1 by omega]
      simp only [List.getElem?_cons_succ]
    have hx0 := hx 0
    simp only [Nat.add_zero] at hx0
    rw [hx0, hx 1, hx 2]
    simpa using h
def OwnN (A B : Nat) (w : World) (ao : Option Addr) (c : Nat) (ns : List Nm) : Prop := w.ownsRow B 245 3 (.slice ao ns.length c) ns.length (nmCells A ns)
theorem OwnN.push {A B : Nat} {w' : World} {ao : Option Addr} {c : Nat} {ns : List Nm} {x : Nm} (h : w'.ownsRow B 245 3 (.slice ao (ns.length + 1) c) (ns.length + 1) (nmCells A ns ++ [.pointer (some ⟨A, x.o, none⟩), .int .i64 x.l, .int .i64 x.m])) : OwnN A B w' ao c (ns ++ [x]) := by
  unfold OwnN
  rw [show nmCells A (ns ++ [x]) = nmCells A ns ++ [.pointer (some ⟨A, x.o, none⟩), .int .i64 x.l, .int .i64 x.m] by simp [nmCells, nmCell], List.length_append]
  exact h
/-- A cell's block. -/
def CeAt (w : World) (A : Nat) (c : Ce) : Prop := w.heap[A]? = some (.cells #[.string (bs c.v), .int .i64 c.n, .int .i64 c.s, .int .i64 c.h, .int .i64 c.g] 131 (0, 0))
end Go.Proofs.YtflnjlbafchnaaaGreatDoor

/-
  Cells: readAll (the program).
-/
namespace Go.Proofs.YtflnjlbafchnaaaGreatDoor
open Go.RowKit

/-- One number of a cell is set, by where it lies. -/
def ceSet (c : Ce) (o : Nat) (x : Nat) : Ce := if o = 3 then { c with h := x } else if o = 4 then { c with g := x } else { c with n := x }
theorem CeAt.set {w : World} {A : Nat} {c : Ce} (h : CeAt w A c) {o : Nat} (ho : o = 3 ∨ o = 4 ∨ o = 1) (x : Nat) : CeAt (w.setCell ⟨A, o, none⟩ (.int .i64 x)) A (ceSet c o x) := by
  rcases ho with rfl | rfl | rfl
  · exact blk_set h 3 _
  · exact blk_set h 4 _
  · exact blk_set h 1 _
theorem CeAt.cell {w : World} {A : Nat} {c : Ce} (h : CeAt w A c) {o : Nat} (ho : o = 3 ∨ o = 4 ∨ o = 1) : ∃ x, w.cell? ⟨A, o, none⟩ = some (.int .i64 x) := by
  rcases ho with rfl | rfl | rfl
  · exact ⟨_, blk_at h 3 rfl⟩
  · exact ⟨_, blk_at h 4 rfl⟩
  · exact ⟨_, blk_at h 1 rfl⟩
/-- A row of numbers, in every later world in which only the cell is written. -/
def NRow (A : Nat) (w : World) (ao : Option Addr) (ns : List Nm) : Prop := ∀ j, (hj : j < ns.length) → ∃ a, ao = some a ∧ ∀ X, Kept (One A) w X → X.cell? (a.add (j * 3)) = some (.pointer (some ⟨A, ns[j].o, none⟩)) ∧ X.cell? ⟨(a.add (j * 3)).block, (a.add (j * 3)).off + 1, none⟩ = some (.int .i64 ns[j].l) ∧ X.cell? ⟨(a.add (j * 3)).block, (a.add (j * 3)).off + 2, none⟩ = some (.int .i64 ns[j].m)
theorem OwnN.row {A B c : Nat} {w : World} {ao : Option Addr} {ns : List Nm} (h : OwnN A B w ao c ns) (hA : A < B) : NRow A w ao ns := fun j hj => by
  rcases h.2 with ⟨h1, h2⟩ | ⟨g, cap, cur, h1, h2, h3, _⟩
  · omega
  · simp only [Value.slice.injEq] at h1
    refine ⟨⟨g, 0, none⟩, h1.1, fun X hX => ?_⟩
    have hb : X.heap[g]? = some (.cells cur 245 (0, 0)) := hX.block _ _ h3 (fun e => by have : g = A := e; omega)
    have hc := h.cells (g := g) (by rw [h1.1]; rfl)
    have hc' : ∀ j u, (nmCells A ns)[j]? = some u → X.cell? ⟨g, j, none⟩ = some u := fun j u e => by
      have e1 := hc j u e
      rw [Addr.add_lit, Nat.zero_add, blk_cell h3] at e1
      rw [blk_cell hb]
      exact e1
    obtain ⟨n0, n1, n2⟩ := nmCells_at A ns j hj
    rw [Addr.add_lit, Nat.zero_add]
    exact ⟨hc' _ _ n0, hc' _ _ n1, hc' _ _ n2⟩
end Go.Proofs.YtflnjlbafchnaaaGreatDoor

/-
  Cells: read (the program): what a text says.
-/
namespace Go.Proofs.YtflnjlbafchnaaaGreatDoor
open Go.RowKit

end Go.Proofs.YtflnjlbafchnaaaGreatDoor

/-
  KvMap, plainly: pairs, and beside them keys with their values.
-/
namespace Go.Proofs.YtflnjlbafchnaaaGreatDoor
open Go.RowKit

theorem there_no {key : List UInt8} {ps : List Pr} (h : Srt ps) (ht : isThere key ps = false) : ∀ p ∈ ps, p.k ≠ key := fun p hp e => by
  obtain ⟨j, hj, rfl⟩ := List.getElem_of_mem hp
  have := getP_hit h hj e
  unfold getP at this
  rw [ht] at this
  simp at this
theorem there_yes {key : List UInt8} {ps : List Pr} (h : Srt ps) {p : Pr} (hp : p ∈ ps) (e : p.k = key) : isThere key ps = true := by
  cases ht : isThere key ps with
  | true => rfl
  | false => exact absurd e (there_no h ht p hp)
theorem there_low {key : List UInt8} {ps : List Pr} (h : Srt ps) {j : Nat} (hj : j < ps.length) (e : ps[j].k = key) : lowP key ps = j := by
  have g := getP_hit h hj e
  have ht := there_yes h (List.getElem_mem hj) e
  unfold getP at g
  rw [ht] at g
  simp at g
  omega
theorem spot_at {key : List UInt8} {ps : List Pr} (h : Srt ps) {p : Pr} (hp : p ∈ ps) (e : p.k = key) : spotV key ps = p.v ∧ spotN key ps = p.n := by
  obtain ⟨j, hj, rfl⟩ := List.getElem_of_mem hp
  have hl := there_low h hj e
  have ht := there_yes h hp e
  unfold spotV spotN
  rw [ht, hl, List.getElem?_eq_getElem hj]
  exact ⟨rfl, rfl⟩
theorem take_less {key : List UInt8} {ps : List Pr} {a : Pr} (ha : a ∈ ps.take (lowP key ps)) : lessB a.k key = true := by
  obtain ⟨j, hj, rfl⟩ := List.getElem_of_mem ha
  rw [List.length_take] at hj
  rw [List.getElem_take]
  exact lowP_lt (by omega) (by omega)
theorem drop_not {key : List UInt8} {ps : List Pr} (h : Srt ps) {a : Pr} (ha : a ∈ ps.drop (lowP key ps)) : lessB a.k key = false := by
  obtain ⟨j, hj, rfl⟩ := List.getElem_of_mem ha
  rw [List.length_drop] at hj
  rw [List.getElem_drop]
  exact lowP_ge h (by omega) (by omega)
theorem srt_ins {key : List UInt8} {ps : List Pr} (h : Srt ps) (ht : isThere key ps = false) {x : Pr} (hx : x.k = key) : Srt (insP (lowP key ps) x ps) := by
  have hd : ∀ q ∈ ps.drop (lowP key ps), lessB key q.k = true := fun q hq => less_total (drop_not h hq) (there_no h ht q (List.mem_of_mem_drop hq))
  unfold insP Srt
  rw [List.pairwise_append, List.pairwise_cons]
  refine ⟨h.sublist (List.take_sublist _ _), ⟨fun q hq => by rw [hx]; exact hd q hq, h.sublist (List.drop_sublist _ _)⟩, fun a ha b hb => ?_⟩
  rcases List.mem_cons.1 hb with rfl | hb
  · rw [hx]; exact take_less ha
  · exact less_trans (take_less ha) (hd b hb)
theorem srt_set {ps : List Pr} (h : Srt ps) {i : Nat} (hi : i < ps.length) {x : Pr} (hx : x.k = ps[i].k) : Srt (ps.set i x) := by
  have g := List.pairwise_iff_getElem.1 h
  refine List.pairwise_iff_getElem.2 fun a b ha hb hab => ?_
  rw [List.length_set] at ha hb
  rw [List.getElem_set, List.getElem_set]
  split <;> split
  · omega
  · rename_i e _
    subst e
    rw [hx]
    exact g i b hi hb hab
  · rename_i _ e
    subst e
    rw [hx]
    exact g a i ha hi hab
  · exact g a b ha hb hab
theorem mem_ins {i : Nat} {x p : Pr} {ps : List Pr} : p ∈ insP i x ps ↔ p = x ∨ p ∈ ps := by
  unfold insP
  constructor
  · intro h
    rcases List.mem_append.1 h with h | h
    · exact .inr (List.mem_of_mem_take h)
    · rcases List.mem_cons.1 h with h | h
      · exact .inl h
      · exact .inr (List.mem_of_mem_drop h)
  · rintro (rfl | h)
    · simp
    · rw [← List.take_append_drop i ps] at h
      rcases List.mem_append.1 h with h | h
      · exact List.mem_append_left _ h
      · exact List.mem_append_right _ (List.mem_cons_of_mem _ h)
theorem mem_set_of {i : Nat} {x p : Pr} {ps : List Pr} (hi : i < ps.length) (hp : p ∈ ps) (hne : p.k ≠ ps[i].k) : p ∈ ps.set i x := by
  obtain ⟨j, hj, rfl⟩ := List.getElem_of_mem hp
  have hji : i ≠ j := fun e => by subst e; exact hne rfl
  have : (ps.set i x)[j]'(by rw [List.length_set]; exact hj) = ps[j] := by rw [List.getElem_set, if_neg hji]
  rw [← this]
  exact List.getElem_mem _
theorem mem_set_new {i : Nat} {x : Pr} {ps : List Pr} (hi : i < ps.length) : x ∈ ps.set i x := List.mem_iff_getElem.2 ⟨i, by rw [List.length_set]; exact hi, by rw [List.getElem_set, if_pos rfl]⟩
theorem nodup_inj {l : List (List UInt8)} (h : l.Nodup) {i j : Nat} (hi : i < l.length) (hj : j < l.length) (e : l[i] = l[j]) : i = j := by
  have g := List.pairwise_iff_getElem.1 h
  rcases Nat.lt_trichotomy i j with h1 | h1 | h1
  · exact absurd e (g i j hi hj h1)
  · exact h1
  · exact absurd e.symm (g j i hj hi h1)
/-- What KvMap holds of a map: pairs, and beside them keys with their values. -/
structure MI (t : Int) (ps : List Pr) (ks vs : List (List UInt8)) : Prop where
  ok : pairsOk ps = true
  lk : ks.length = ps.length
  lv : vs.length = ps.length
  nd : ks.Nodup
  has : ∀ j, (hj : j < ks.length) → (hv : j < vs.length) → ∃ p ∈ ps, p.k = ks[j] ∧ p.v = vs[j]
  all : ∀ p ∈ ps, p.k ∈ ks
  ver : ∀ p ∈ ps, p.n ≤ t
theorem MI.zero : MI 0 [] [] [] := ⟨rfl, rfl, rfl, List.nodup_nil, fun j hj _ => absurd hj (by simp), (fun p hp => by cases hp), (fun p hp => by cases hp)⟩
theorem MI.mono {t t' : Int} {ps : List Pr} {ks vs : List (List UInt8)} (h : MI t ps ks vs) (ht : t ≤ t') : MI t' ps ks vs := ⟨h.ok, h.lk, h.lv, h.nd, h.has, h.all, fun p hp => Int.le_trans (h.ver p hp) ht⟩
theorem ok_of {ps : List Pr} (h1 : ps.length ≤ 32) (h2 : Srt ps) (h3 : ∀ p ∈ ps, prOk p = true) : pairsOk ps = true := by
  unfold pairsOk
  rw [decide_eq_true h1, srt_rise h2 h3 (fun x hx => by cases hx)]
  rfl
theorem MI.look {t : Int} {ps : List Pr} {ks vs : List (List UInt8)} (h : MI t ps ks vs) {j : Nat} (hj : j < ks.length) (hv : j < vs.length) : isThere ks[j] ps = true ∧ spotV ks[j] ps = vs[j] := by
  obtain ⟨p, hp, e1, e2⟩ := h.has j hj hv
  obtain ⟨_, hs, _⟩ := pairs_ok h.ok
  exact ⟨there_yes hs hp e1, by rw [(spot_at hs hp e1).1, e2]⟩
theorem MI.absent {t : Int} {ps : List Pr} {ks vs : List (List UInt8)} (h : MI t ps ks vs) {key : List UInt8} (hk : key ∉ ks) : isThere key ps = false := by
  cases ht : isThere key ps with
  | false => rfl
  | true =>
    obtain ⟨hl, e, _⟩ := there_at ht
    exact absurd (e ▸ h.all _ (List.getElem_mem hl)) hk
theorem prOk_mk {key x : List UInt8} {n : Int} (h1 : key ≠ []) (h2 : key.length ≤ 16) (h3 : x.length ≤ 64) (h4 : 1 ≤ n) (h5 : n ≤ 1099511627775) : prOk ⟨key, x, n⟩ = true := by
  unfold prOk isCnt
  simp [h1, h2, h3, h4, h5]
theorem MI.ins {t : Int} {ps : List Pr} {ks vs : List (List UInt8)} (h : MI t ps ks vs) {key x : List UInt8} (hk : key ∉ ks) (hl : ps.length < 32) (h1 : key ≠ []) (h2 : key.length ≤ 16) (h3 : x.length ≤ 64) (ht : 0 ≤ t) : MI (t + 1) (insP (lowP key ps) ⟨key, x, 0 + 1⟩ ps) (ks ++ [key]) (vs ++ [x]) := by
  obtain ⟨_, hs, hp⟩ := pairs_ok h.ok
  have hab := h.absent hk
  have hln : (insP (lowP key ps) ⟨key, x, 0 + 1⟩ ps).length = ps.length + 1 := insP_len (lowP_le key ps)
  refine ⟨ok_of (by rw [hln]; omega) (srt_ins hs hab rfl) (fun p hpp => ?_), by rw [hln, List.length_append, h.lk]; rfl, by rw [hln, List.length_append, h.lv]; rfl, ?_, fun j hj hv => ?_, fun p hpp => ?_, fun p hpp => ?_⟩
  · rcases mem_ins.1 hpp with rfl | hpp
    · exact prOk_mk h1 h2 h3 (by omega) (by omega)
    · exact hp p hpp
  · rw [List.nodup_append]
    refine ⟨h.nd, by simp, fun a ha b hb e => ?_⟩
    have : b = key := by simpa using hb
    subst this
    subst e
    exact hk ha
  · by_cases hjk : j < ks.length
    · rw [List.getElem_append_left hjk, List.getElem_append_left (by rw [h.lv, ← h.lk]; exact hjk)]
      obtain ⟨p, hpp, e⟩ := h.has j hjk (by rw [h.lv, ← h.lk]; exact hjk)
      exact ⟨p, mem_ins.2 (.inr hpp), e⟩
    · have e1 : j = ks.length := by rw [List.length_append] at hj; simp at hj; omega
      have e2 : ks.length = vs.length := by rw [h.lk, h.lv]
      refine ⟨⟨key, x, 0 + 1⟩, mem_ins.2 (.inl rfl), ?_, ?_⟩
      · rw [List.getElem_append_right (by omega)]; simp
      · rw [List.getElem_append_right (by omega)]; simp
  · rcases mem_ins.1 hpp with rfl | hpp
    · simp
    · exact List.mem_append_left _ (h.all p hpp)
  · rcases mem_ins.1 hpp with rfl | hpp
    · show (0 : Int) + 1 ≤ t + 1; omega
    · have := h.ver p hpp; omega
theorem MI.put {t : Int} {ps : List Pr} {ks vs : List (List UInt8)} (h : MI t ps ks vs) {x : List UInt8} {j : Nat} (hj : j < ks.length) (h3 : x.length ≤ 64) (ht : t < 1099511627775) : MI (t + 1) (ps.set (lowP ks[j] ps) ⟨ks[j], x, spotN ks[j] ps + 1⟩) ks (vs.set j x) := by
  obtain ⟨h32, hs, hp⟩ := pairs_ok h.ok
  obtain ⟨p0, hp0, e1, e2⟩ := h.has j hj (by rw [h.lv, ← h.lk]; exact hj)
  obtain ⟨i, hi, rfl⟩ := List.getElem_of_mem hp0
  have hl := there_low hs hi e1
  have hn := (spot_at hs hp0 e1).2
  have hv0 := h.ver _ hp0
  obtain ⟨g1, g2, g3, g4, g5⟩ := prOk_iff (hp _ hp0)
  rw [hl, hn]
  refine ⟨ok_of (by rw [List.length_set]; exact h32) (srt_set hs hi (by exact e1.symm)) (fun p hpp => ?_), by rw [List.length_set]; exact h.lk, by rw [List.length_set, List.length_set]; exact h.lv, h.nd, fun q hq hv => ?_, fun p hpp => ?_, fun p hpp => ?_⟩
  · rcases List.mem_or_eq_of_mem_set hpp with hpp | rfl
    · exact hp p hpp
    · rw [e1] at g1 g2
      exact prOk_mk g1 g2 h3 (by omega) (by omega)
  · rw [List.length_set] at hv
    by_cases hqj : j = q
    · subst hqj
      exact ⟨_, mem_set_new hi, rfl, by rw [List.getElem_set, if_pos rfl]⟩
    · obtain ⟨p, hpp, e3, e4⟩ := h.has q hq hv
      refine ⟨p, mem_set_of hi hpp (fun e => hqj ?_), e3, by rw [List.getElem_set, if_neg hqj]; exact e4⟩
      have : ks[j] = ks[q] := by rw [← e1, ← e, e3]
      exact nodup_inj h.nd hj hq this
  · rcases List.mem_or_eq_of_mem_set hpp with hpp | rfl
    · exact h.all p hpp
    · exact List.getElem_mem hj
  · rcases List.mem_or_eq_of_mem_set hpp with hpp | rfl
    · have := h.ver p hpp; omega
    · show ps[i].n + 1 ≤ t + 1; omega
end Go.Proofs.YtflnjlbafchnaaaGreatDoor

/-
  Transactions, plainly: what a Get tells and a Swap makes of what stands under the keys.
-/
namespace Go.Proofs.YtflnjlbafchnaaaGreatDoor

end Go.Proofs.YtflnjlbafchnaaaGreatDoor

/-
  Transactions, plainly: what one is, the command that it tells, what an answer makes of it.
-/
namespace Go.Proofs.YtflnjlbafchnaaaGreatDoor

/-- A part; a transaction. -/
structure Pt where
  k : List UInt8
  a : Int
structure Tx where
  id : Nat
  ps : List Pt
  st : Nat
  old : List Int
  ph : Nat
  at' : Nat
  sn : Hd
  vr : Int
  hd : Bool
  hv : Int
def wOpen : List UInt8 := [111, 112, 101, 110]
def wDon : List UInt8 := [100, 111, 110, 101]
def wOff : List UInt8 := [111, 102, 102]
def versR (r : Rr) : Int := if r.kd = 1 then r.n else 0
structure Cd where
  kd : Int
  k : List UInt8
  v : List UInt8
  m : Int
def getC (k : List UInt8) : Cd := ⟨2, k, [], 0⟩
def swapC (k v : List UInt8) (m : Int) : Cd := ⟨4, k, v, m⟩
namespace Tx
def part (t : Tx) : Pt := (t.ps[t.at']?).getD ⟨[], 0⟩
def key (t : Tx) : List UInt8 := kKey t.part.k
def thenZ (t : Tx) : Int := t.sn.n + t.part.a
/-- What a number, held or not, writes. -/
def numT (n b : Nat) (z : Int) : List UInt8 := if b = 0 then Lib.decDigits n else Lib.decDigits n ++ 32 :: (Lib.decDigits b ++ 32 :: Lib.itoa z)
def next (t : Tx) : Cd × Bool :=
  if t.ph = 0 then (swapC (tKey t.id) wOpen 0, true)
  else if t.ph = 1 ∨ t.ph = 8 then (getC t.key, true)
  else if t.ph = 2 then (swapC t.key (numT t.sn.n t.id t.thenZ) t.vr, true)
  else if t.ph = 3 then (getC (tKey t.sn.b), true)
  else if t.ph = 4 then (swapC (tKey t.sn.b) wOff t.hv, true)
  else if t.ph = 5 then (swapC t.key (numT (t.sn.settled t.hd) 0 0) t.vr, true)
  else if t.ph = 6 then (swapC (tKey t.id) wDon 1, true)
  else if t.ph = 7 then (swapC (tKey t.id) wOff 1, true)
  else if t.ph = 9 then (swapC t.key (numT (t.sn.settled (decide (t.st = 2))) 0 0) t.vr, true)
  else (⟨0, [], [], 0⟩, false)
def further (t : Tx) (p b : Nat) : Tx := if t.at' + 1 = t.ps.length then { t with at' := 0, ph := b } else { t with at' := t.at' + 1, ph := p }
def note (t : Tx) : Tx := { t with old := t.old ++ [(t.sn.n : Int)] }.further 1 6
def see (t : Tx) (r : Rr) : Tx := { t with sn := hdOf (saidR r), vr := versR r }
def looked' (t : Tx) : Tx :=
  if t.sn.b = t.id then t.note
  else if 0 < t.sn.b then { t with ph := 3 }
  else if t.thenZ < 0 ∨ 999999999 < t.thenZ then { t with ph := 7 }
  else { t with ph := 2 }
def looked (t : Tx) (r : Rr) : Tx := (t.see r).looked'
def begun (t : Tx) (ok : Bool) : Tx := if ok = true then { t with ph := 1 } else { t with st := 3, ph := 10 }
def took (t : Tx) (ok : Bool) : Tx := if ok = true then ({ t with ph := 1 } : Tx).note else { t with ph := 1 }
def asked (t : Tx) (r : Rr) : Tx := { t with hd := decide (saidR r = wDon), hv := versR r, ph := if saidR r = wOpen then 4 else 5 }
def settle (t : Tx) (d : Bool) : Tx := { t with st := if d = true then 2 else 3, at' := 0, ph := 8 }
def cleared (t : Tx) (r : Rr) : Tx := if (t.see r).sn.b = t.id then { t.see r with ph := 9 } else (t.see r).further 8 10
def answer (t : Tx) (r : Rr) : Tx :=
  if t.ph = 0 then t.begun (decide (r.kd = 1))
  else if t.ph = 1 then t.looked r
  else if t.ph = 2 then t.took (decide (r.kd = 1))
  else if t.ph = 3 then t.asked r
  else if t.ph = 4 ∨ t.ph = 5 then { t with ph := 1 }
  else if t.ph = 6 then t.settle (decide (r.kd = 1))
  else if t.ph = 7 then t.settle false
  else if t.ph = 8 then t.cleared r
  else if t.ph = 9 then t.further 8 10
  else t
/-- What is always so of one. -/
structure Ok (t : Tx) : Prop where
  id0 : 1 ≤ t.id
  id : t.id ≤ 999
  len : 1 ≤ t.ps.length
  len4 : t.ps.length ≤ 4
  keys : ∀ p ∈ t.ps, 1 ≤ p.k.length ∧ p.k.length ≤ 15 ∧ -999999999 ≤ p.a ∧ p.a ≤ 999999999
  at' : t.at' < t.ps.length
  sn : t.sn.Ok
  old : t.old.length ≤ 4
  hold : t.ph = 2 → 0 ≤ t.thenZ ∧ t.thenZ ≤ 999999999
  ph : t.ph ≤ 10
  olds : t.ph ≤ 7 → t.ph ≠ 6 → t.old.length = t.at'
end Tx
end Go.Proofs.YtflnjlbafchnaaaGreatDoor

/-
  Transactions, plainly: what is always so of one stays so.
-/
namespace Go.Proofs.YtflnjlbafchnaaaGreatDoor
namespace Tx

theorem further_ps (t : Tx) (p b : Nat) : (t.further p b).ps = t.ps ∧ (t.further p b).id = t.id ∧ (t.further p b).sn = t.sn ∧ (t.further p b).old = t.old ∧ (t.further p b).st = t.st := by
  unfold further
  split <;> exact ⟨rfl, rfl, rfl, rfl, rfl⟩
theorem further_at (t : Tx) (p b : Nat) (h : t.at' < t.ps.length) : (t.further p b).at' < t.ps.length ∧ (((t.further p b).ph = p ∧ (t.further p b).at' = t.at' + 1) ∨ ((t.further p b).ph = b ∧ (t.further p b).at' = 0 ∧ t.at' + 1 = t.ps.length)) := by
  unfold further
  split
  · rename_i h1
    exact ⟨by show 0 < _; omega, .inr ⟨rfl, rfl, h1⟩⟩
  · rename_i h1
    exact ⟨by show t.at' + 1 < _; omega, .inl ⟨rfl, rfl⟩⟩
/-- The part of it that no step touches. -/
structure Base (t : Tx) : Prop where
  id0 : 1 ≤ t.id
  id : t.id ≤ 999
  len : 1 ≤ t.ps.length
  len4 : t.ps.length ≤ 4
  keys : ∀ p ∈ t.ps, 1 ≤ p.k.length ∧ p.k.length ≤ 15 ∧ -999999999 ≤ p.a ∧ p.a ≤ 999999999
theorem Ok.base {t : Tx} (h : t.Ok) : t.Base := ⟨h.id0, h.id, h.len, h.len4, h.keys⟩
theorem Base.of {t u : Tx} (h : t.Base) (h1 : u.id = t.id) (h2 : u.ps = t.ps) : u.Base := ⟨by rw [h1]; exact h.id0, by rw [h1]; exact h.id, by rw [h2]; exact h.len, by rw [h2]; exact h.len4, by rw [h2]; exact h.keys⟩
theorem Ok.mk' {u : Tx} (hb : u.Base) (h1 : u.at' < u.ps.length) (h2 : u.sn.Ok) (h3 : u.old.length ≤ 4) (h4 : u.ph = 2 → 0 ≤ u.thenZ ∧ u.thenZ ≤ 999999999) (h5 : u.ph ≤ 10) (h6 : u.ph ≤ 7 → u.ph ≠ 6 → u.old.length = u.at') : u.Ok :=
  ⟨hb.id0, hb.id, hb.len, hb.len4, hb.keys, h1, h2, h3, h4, h5, h6⟩
theorem note_ok {t : Tx} (hb : t.Base) (ha : t.at' < t.ps.length) (hs : t.sn.Ok) (ho : t.old.length = t.at') : t.note.Ok := by
  unfold note
  obtain ⟨e1, e2, e3, e4, _⟩ := further_ps { t with old := t.old ++ [(t.sn.n : Int)] } 1 6
  obtain ⟨f1, f2⟩ := further_at { t with old := t.old ++ [(t.sn.n : Int)] } 1 6 ha
  have hl := hb.len4
  have ha' : t.at' < t.ps.length := ha
  refine Ok.mk' (hb.of e2 e1) (by rw [e1]; exact f1) (by rw [e3]; exact hs) (by rw [e4]; simp; omega) ?_ ?_ ?_
  · intro h
    rcases f2 with ⟨g, _⟩ | ⟨g, _⟩ <;> rw [g] at h <;> cases h
  · rcases f2 with ⟨g, _⟩ | ⟨g, _⟩ <;> rw [g] <;> omega
  · intro _ h6
    rcases f2 with ⟨g, g2⟩ | ⟨g, _⟩
    · rw [e4, g2]; simp; omega
    · exact absurd g h6
theorem further_ok {t : Tx} (h : t.Ok) : (t.further 8 10).Ok := by
  obtain ⟨e1, e2, e3, e4, _⟩ := further_ps t 8 10
  obtain ⟨f1, f2⟩ := further_at t 8 10 h.at'
  refine Ok.mk' (h.base.of e2 e1) (by rw [e1]; exact f1) (by rw [e3]; exact h.sn) (by rw [e4]; exact h.old) ?_ ?_ ?_
  · intro h
    rcases f2 with ⟨g, _⟩ | ⟨g, _⟩ <;> rw [g] at h <;> cases h
  · rcases f2 with ⟨g, _⟩ | ⟨g, _⟩ <;> rw [g] <;> omega
  · intro h7 _
    rcases f2 with ⟨g, _⟩ | ⟨g, _⟩ <;> rw [g] at h7 <;> omega
theorem answer_ok {t : Tx} (h : t.Ok) (r : Rr) : (t.answer r).Ok := by
  have hat := h.at'
  have hsn : (t.see r).sn.Ok := hdOf_ok _
  unfold answer
  split
  · rename_i hp
    unfold begun
    have ho := h.olds (by omega) (by omega)
    split
    · exact Ok.mk' (h.base.of rfl rfl) hat h.sn h.old (fun e => by cases e) (by show 1 ≤ 10; omega) (fun _ _ => ho)
    · exact Ok.mk' (h.base.of rfl rfl) hat h.sn h.old (fun e => by cases e) (by show 10 ≤ 10; omega) (fun e _ => absurd e (by show ¬ 10 ≤ 7; omega))
  split
  · rename_i hp
    have ho := h.olds (by omega) (by omega)
    unfold looked looked'
    split
    · exact note_ok (h.base.of rfl rfl) hat hsn ho
    split
    · exact Ok.mk' (h.base.of rfl rfl) hat hsn h.old (fun e => by cases e) (by show 3 ≤ 10; omega) (fun _ _ => ho)
    split
    · exact Ok.mk' (h.base.of rfl rfl) hat hsn h.old (fun e => by cases e) (by show 7 ≤ 10; omega) (fun _ _ => ho)
    · rename_i hz
      exact Ok.mk' (h.base.of rfl rfl) hat hsn h.old (fun _ => ⟨by show 0 ≤ (t.see r).thenZ; omega, by show (t.see r).thenZ ≤ 999999999; omega⟩) (by show 2 ≤ 10; omega) (fun _ _ => ho)
  split
  · rename_i hp
    have ho := h.olds (by omega) (by omega)
    unfold took
    split
    · exact note_ok (h.base.of rfl rfl) hat h.sn ho
    · exact Ok.mk' (h.base.of rfl rfl) hat h.sn h.old (fun e => by cases e) (by show 1 ≤ 10; omega) (fun _ _ => ho)
  split
  · rename_i hp
    have ho := h.olds (by omega) (by omega)
    unfold asked
    refine Ok.mk' (h.base.of rfl rfl) hat h.sn h.old ?_ ?_ (fun _ _ => ho)
    · intro e
      simp only at e
      split at e <;> cases e
    · show (if saidR r = wOpen then 4 else 5) ≤ 10
      split <;> omega
  split
  · rename_i hp
    have ho := h.olds (by omega) (by omega)
    exact Ok.mk' (h.base.of rfl rfl) hat h.sn h.old (fun e => by cases e) (by show 1 ≤ 10; omega) (fun _ _ => ho)
  split
  · unfold settle
    exact Ok.mk' (h.base.of rfl rfl) (by show 0 < t.ps.length; omega) h.sn h.old (fun e => by cases e) (by show 8 ≤ 10; omega) (fun e _ => absurd e (by show ¬ 8 ≤ 7; omega))
  split
  · unfold settle
    exact Ok.mk' (h.base.of rfl rfl) (by show 0 < t.ps.length; omega) h.sn h.old (fun e => by cases e) (by show 8 ≤ 10; omega) (fun e _ => absurd e (by show ¬ 8 ≤ 7; omega))
  split
  · rename_i hp
    have hs : (t.see r).Ok := Ok.mk' (h.base.of rfl rfl) hat hsn h.old (fun e => by have e2 : t.ph = 2 := e; omega) h.ph (fun e _ => by have e2 : t.ph ≤ 7 := e; omega)
    unfold cleared
    split
    · exact Ok.mk' (h.base.of rfl rfl) hat hsn h.old (fun e => by cases e) (by show 9 ≤ 10; omega) (fun e _ => absurd e (by show ¬ 9 ≤ 7; omega))
    · exact further_ok hs
  split
  · exact further_ok h
  · exact h
end Tx
end Go.Proofs.YtflnjlbafchnaaaGreatDoor

/-
  Transactions, plainly: the map as two functions of a key, and a transaction's step over them.
-/
namespace Go.Proofs.YtflnjlbafchnaaaGreatDoor

/-- What stands under the keys: the values and the versions. -/
structure St where
  v : List UInt8 → List UInt8
  n : List UInt8 → Int
def St.of (ps : List Pr) : St := ⟨fun k => spotV k ps, fun k => spotN k ps⟩
def St.put (s : St) (k x : List UInt8) : St := ⟨fun j => if j = k then x else s.v j, fun j => if j = k then s.n k + 1 else s.n j⟩
namespace Tx
/-- An answer, by what it says, its version, and whether it is a yes. -/
def ans (t : Tx) (x : List UInt8) (m : Int) (ok : Bool) : Tx :=
  if t.ph = 0 then t.begun ok
  else if t.ph = 1 then ({ t with sn := hdOf x, vr := m } : Tx).looked'
  else if t.ph = 2 then t.took ok
  else if t.ph = 3 then { t with hd := decide (x = wDon), hv := m, ph := if x = wOpen then 4 else 5 }
  else if t.ph = 4 ∨ t.ph = 5 then { t with ph := 1 }
  else if t.ph = 6 then t.settle ok
  else if t.ph = 7 then t.settle false
  else if t.ph = 8 then (if (hdOf x).b = t.id then { t with sn := hdOf x, vr := m, ph := 9 } else ({ t with sn := hdOf x, vr := m } : Tx).further 8 10)
  else if t.ph = 9 then t.further 8 10
  else t
end Tx
end Go.Proofs.YtflnjlbafchnaaaGreatDoor
