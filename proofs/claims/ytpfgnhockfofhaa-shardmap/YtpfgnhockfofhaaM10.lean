/-
  Joined: WRmP, WRm3.
-/
import Derived.Test.YtpfgnhockfofhaaM09
import Derived.Test.YtpfgnhockfofhaaM03
/-
  Relays: rows of packets and of parcels, of one's own.
-/
namespace Go.Proofs.Ytpfgnhockfofhaa
open Go.RowKit

structure Pk where
  fr : Int
  ds : Int
  nu : Int
  ak : Bool
  bd : List UInt8
structure Pc where
  fr : Int
  bd : List UInt8
def pkCell (x : Pk) : List Value := [.int .i64 x.fr, .int .i64 x.ds, .int .i64 x.nu, .bool x.ak, .string (bs x.bd)]
def pkCells (l : List Pk) : List Value := l.flatMap pkCell
def OwnPk (B : Nat) (w : World) (ao : Option Addr) (c : Nat) (l : List Pk) : Prop := w.ownsRow B 34 5 (.slice ao l.length c) l.length (pkCells l)
theorem pkCells_cons (o : Pk) (t : List Pk) : pkCells (o :: t) = .int .i64 o.fr :: .int .i64 o.ds :: .int .i64 o.nu :: .bool o.ak :: .string (bs o.bd) :: pkCells t := by simp [pkCells, pkCell]
theorem pkCells_app (a b : List Pk) : pkCells (a ++ b) = pkCells a ++ pkCells b := by simp [pkCells]
theorem pkCells_len (l : List Pk) : (pkCells l).length = l.length * 5 := by
  induction l with
  | nil => rfl
  | cons o t ih => rw [pkCells_cons]; simp only [List.length_cons, ih]; omega
theorem pkCells_at : ∀ (l : List Pk) (j : Nat) (hj : j < l.length), (pkCells l)[j * 5]? = some (.int .i64 l[j].fr) ∧ (pkCells l)[j * 5 + 1]? = some (.int .i64 l[j].ds) ∧ (pkCells l)[j * 5 + 2]? = some (.int .i64 l[j].nu) ∧ (pkCells l)[j * 5 + 3]? = some (.bool l[j].ak) ∧ (pkCells l)[j * 5 + 4]? = some (.string (bs l[j].bd))
  | [], j, hj => by simp at hj
  | o :: t, 0, hj => by simp [pkCells_cons]
  | o :: t, j + 1, hj => by
    have h := pkCells_at t j (by simpa using hj)
    have hx : ∀ i, (pkCells (o :: t))[(j + 1) * 5 + i]? = (pkCells t)[j * 5 + i]? := fun i => by
      rw [pkCells_cons, show (j + 1) * 5 + i = (j * 5 + i) + 1 + 1 + 1 + 1 + 1 by omega]
      simp only [List.getElem?_cons_succ]
    have hx0 := hx 0
    simp only [Nat.add_zero] at hx0
    rw [hx0, hx 1, hx 2, hx 3, hx 4]
    simpa using h
theorem pkCells_one (l : List Pk) : ∀ v ∈ pkCells l, v.oneCell' = true := fun u hu => by
  obtain ⟨o, _, hu⟩ := List.mem_flatMap.1 hu
  simp [pkCell] at hu
  rcases hu with rfl | rfl | rfl | rfl | rfl <;> rfl
theorem OwnPk.kept {B c : Nat} {w w' : World} {ao : Option Addr} {l : List Pk} (h : OwnPk B w ao c l) (hk : Kept Nil w w') : OwnPk B w' ao c l := own_kept h hk (fun _ _ _ x => x.elim)
theorem OwnPk.block {B c : Nat} {w : World} {ao : Option Addr} {l : List Pk} (h : OwnPk B w ao c l) (h0 : ao ≠ none) : ∃ g cs, ao = some ⟨g, 0, none⟩ ∧ B ≤ g ∧ w.heap[g]? = some (.cells cs 34 (0, 0)) ∧ l.length ≤ c ∧ c ≤ maxLen ∧ cs.size = c * 5 ∧ cs.toList.take (l.length * 5) = pkCells l := by
  rcases h.2 with ⟨h1, h2⟩ | ⟨g, cap, cur, hv, hb, hh, h1, h2, h3, h4⟩
  · simp only [Value.slice.injEq] at h1
    exact absurd h1.1 h0
  · simp only [Value.slice.injEq] at hv
    obtain ⟨rfl, _, rfl⟩ := hv
    exact ⟨g, cur, rfl, hb, hh, h1, h2, h3, h4⟩
theorem OwnPk.cells {B c : Nat} {w : World} {ao : Option Addr} {l : List Pk} (h : OwnPk B w ao c l) {j : Nat} (hj : j < l.length) : ∃ g, ao = some ⟨g, 0, none⟩ ∧ B ≤ g ∧ g < w.heap.size ∧ w.cell? ⟨g, j * 5, none⟩ = some (.int .i64 l[j].fr) ∧ w.cell? ⟨g, j * 5 + 1, none⟩ = some (.int .i64 l[j].ds) ∧ w.cell? ⟨g, j * 5 + 2, none⟩ = some (.int .i64 l[j].nu) ∧ w.cell? ⟨g, j * 5 + 3, none⟩ = some (.bool l[j].ak) ∧ w.cell? ⟨g, j * 5 + 4, none⟩ = some (.string (bs l[j].bd)) ∧ w.frozen? ⟨g, j * 5, none⟩ = false ∧ w.frozen? ⟨g, j * 5 + 1, none⟩ = false ∧ w.frozen? ⟨g, j * 5 + 2, none⟩ = false ∧ w.frozen? ⟨g, j * 5 + 3, none⟩ = false ∧ w.frozen? ⟨g, j * 5 + 4, none⟩ = false := by
  rcases h.2 with ⟨h1, h2⟩ | ⟨g, cap, cur, hv, hb, hh, h1, h2, h3, h4⟩
  · omega
  · simp only [Value.slice.injEq] at hv
    obtain ⟨rfl, _, rfl⟩ := hv
    have hc : ∀ i, i < l.length * 5 → cur[i]? = (pkCells l)[i]? := fun i hi => by
      have := congrArg (fun l => l[i]?) h4
      simpa only [List.getElem?_take, if_pos hi, Array.getElem?_toList] using this
    obtain ⟨e0, e1, e2, e3, e4⟩ := pkCells_at l j hj
    exact ⟨g, rfl, hb, lt_of_block hh, by rw [blk_cell hh, hc _ (by omega), e0], by rw [blk_cell hh, hc _ (by omega), e1], by rw [blk_cell hh, hc _ (by omega), e2], by rw [blk_cell hh, hc _ (by omega), e3], by rw [blk_cell hh, hc _ (by omega), e4], blk_free hh _, blk_free hh _, blk_free hh _, blk_free hh _, blk_free hh _⟩
theorem OwnPk.mono {B B' c : Nat} {w : World} {ao : Option Addr} {l : List Pk} (h : OwnPk B w ao c l) (hb : B' ≤ B) : OwnPk B' w ao c l := by
  refine ⟨h.1, h.2.imp id ?_⟩
  rintro ⟨g, cap, cur, h1, h2, h3⟩
  exact ⟨g, cap, cur, h1, Nat.le_trans hb h2, h3⟩
theorem OwnPk.none {B c : Nat} {w : World} {l : List Pk} (h : OwnPk B w none c l) : l = [] ∧ c = 0 := by
  rcases h.2 with ⟨h1, _⟩ | ⟨g, cap, cur, hv, _⟩
  · simp at h1
    exact ⟨h1.1, h1.2⟩
  · simp at hv
theorem Try.infoOwnPk : (Try.prog.info? 34).map (fun i => (i.zero, i.size, i.bytes)) = some (some (.agg #[.int .i64 0, .int .i64 0, .int .i64 0, .bool false, .string ⟨#[]⟩]), 5, 48) := by kernel_rfl
theorem OwnPk.src {B c : Nat} {w : World} {ao : Option Addr} {l : List Pk} (h : OwnPk B w ao c l) : Src Try.prog 5 28 (.slice ao l.length c) l.length (pkCells l) w := by
  cases ao with
  | none =>
    obtain ⟨rfl, rfl⟩ := h.none
    exact Src.ofNil _ Try.underlying28 0
  | some a =>
    obtain ⟨g, cs, e0, _, hh, h1, _, h3, h4⟩ := h.block (by simp)
    cases e0
    refine Src.ofSlice _ Try.underlying28 ⟨g, 0, .none⟩ l.length c _ (pkCells_len l) ?_ (pkCells_one l)
    intro j u hj
    have hlt : j < l.length * 5 := by have := (List.getElem?_eq_some_iff.1 hj).1; rwa [pkCells_len] at this
    rw [addr_addE, blk_cell hh, ← hj]
    have := congrArg (fun l => l[j]?) h4
    simpa only [List.getElem?_take, if_pos hlt, Array.getElem?_toList] using this
theorem oneOwnPk_src (w : World) (x : Pk) : Src Try.prog 5 28 (.slice (some ⟨w.heap.size, 0, .none⟩) 1 1) 1 [.int .i64 x.fr, .int .i64 x.ds, .int .i64 x.nu, .bool x.ak, .string (bs x.bd)] (w.alloc (.cells #[.int .i64 x.fr, .int .i64 x.ds, .int .i64 x.nu, .bool x.ak, .string (bs x.bd)] 34)) := by
  refine Src.ofSlice _ Try.underlying28 ⟨w.heap.size, 0, .none⟩ 1 1 _ rfl ?_ (fun u hu => by simp at hu; rcases hu with rfl | rfl | rfl | rfl | rfl <;> rfl)
  intro j u hj
  rw [addr_addE, blk_cell (blk_new w (.cells #[.int .i64 x.fr, .int .i64 x.ds, .int .i64 x.nu, .bool x.ak, .string (bs x.bd)] 34)), ← hj]
  simp
theorem OwnPk.app {B c n m : Nat} {w : World} {ao : Option Addr} {fs gs : List Pk} (hn : n = fs.length) (hm : m = gs.length) (h : w.ownsRow B 34 5 (.slice ao (n + m) c) (n + m) (pkCells fs ++ pkCells gs)) : OwnPk B w ao c (fs ++ gs) := by
  subst hn
  subst hm
  show World.ownsRow _ _ _ _ _ _ _
  rw [List.length_append, pkCells_app]
  exact h
theorem OwnPk.push {B c : Nat} {w : World} {ao : Option Addr} {l : List Pk} {x : Pk} (h : w.ownsRow B 34 5 (.slice ao (l.length + 1) c) (l.length + 1) (pkCells l ++ [.int .i64 x.fr, .int .i64 x.ds, .int .i64 x.nu, .bool x.ak, .string (bs x.bd)])) : OwnPk B w ao c (l ++ [x]) := OwnPk.app (gs := [x]) rfl rfl (by rw [show pkCells [x] = [.int .i64 x.fr, .int .i64 x.ds, .int .i64 x.nu, .bool x.ak, .string (bs x.bd)] by simp [pkCells, pkCell]]; exact h)
def pcCell (x : Pc) : List Value := [.int .i64 x.fr, .string (bs x.bd)]
def pcCells (l : List Pc) : List Value := l.flatMap pcCell
def OwnPc (B : Nat) (w : World) (ao : Option Addr) (c : Nat) (l : List Pc) : Prop := w.ownsRow B 42 2 (.slice ao l.length c) l.length (pcCells l)
theorem pcCells_cons (o : Pc) (t : List Pc) : pcCells (o :: t) = .int .i64 o.fr :: .string (bs o.bd) :: pcCells t := by simp [pcCells, pcCell]
theorem pcCells_app (a b : List Pc) : pcCells (a ++ b) = pcCells a ++ pcCells b := by simp [pcCells]
theorem pcCells_len (l : List Pc) : (pcCells l).length = l.length * 2 := by
  induction l with
  | nil => rfl
  | cons o t ih => rw [pcCells_cons]; simp only [List.length_cons, ih]; omega
theorem pcCells_at : ∀ (l : List Pc) (j : Nat) (hj : j < l.length), (pcCells l)[j * 2]? = some (.int .i64 l[j].fr) ∧ (pcCells l)[j * 2 + 1]? = some (.string (bs l[j].bd))
  | [], j, hj => by simp at hj
  | o :: t, 0, hj => by simp [pcCells_cons]
  | o :: t, j + 1, hj => by
    have h := pcCells_at t j (by simpa using hj)
    have hx : ∀ i, (pcCells (o :: t))[(j + 1) * 2 + i]? = (pcCells t)[j * 2 + i]? := fun i => by
      rw [pcCells_cons, show (j + 1) * 2 + i = (j * 2 + i) + 1 + 1 by omega]
      simp only [List.getElem?_cons_succ]
    have hx0 := hx 0
    simp only [Nat.add_zero] at hx0
    rw [hx0, hx 1]
    simpa using h
theorem pcCells_one (l : List Pc) : ∀ v ∈ pcCells l, v.oneCell' = true := fun u hu => by
  obtain ⟨o, _, hu⟩ := List.mem_flatMap.1 hu
  simp [pcCell] at hu
  rcases hu with rfl | rfl <;> rfl
theorem OwnPc.kept {B c : Nat} {w w' : World} {ao : Option Addr} {l : List Pc} (h : OwnPc B w ao c l) (hk : Kept Nil w w') : OwnPc B w' ao c l := own_kept h hk (fun _ _ _ x => x.elim)
theorem OwnPc.block {B c : Nat} {w : World} {ao : Option Addr} {l : List Pc} (h : OwnPc B w ao c l) (h0 : ao ≠ none) : ∃ g cs, ao = some ⟨g, 0, none⟩ ∧ B ≤ g ∧ w.heap[g]? = some (.cells cs 42 (0, 0)) ∧ l.length ≤ c ∧ c ≤ maxLen ∧ cs.size = c * 2 ∧ cs.toList.take (l.length * 2) = pcCells l := by
  rcases h.2 with ⟨h1, h2⟩ | ⟨g, cap, cur, hv, hb, hh, h1, h2, h3, h4⟩
  · simp only [Value.slice.injEq] at h1
    exact absurd h1.1 h0
  · simp only [Value.slice.injEq] at hv
    obtain ⟨rfl, _, rfl⟩ := hv
    exact ⟨g, cur, rfl, hb, hh, h1, h2, h3, h4⟩
theorem OwnPc.cells {B c : Nat} {w : World} {ao : Option Addr} {l : List Pc} (h : OwnPc B w ao c l) {j : Nat} (hj : j < l.length) : ∃ g, ao = some ⟨g, 0, none⟩ ∧ B ≤ g ∧ g < w.heap.size ∧ w.cell? ⟨g, j * 2, none⟩ = some (.int .i64 l[j].fr) ∧ w.cell? ⟨g, j * 2 + 1, none⟩ = some (.string (bs l[j].bd)) ∧ w.frozen? ⟨g, j * 2, none⟩ = false ∧ w.frozen? ⟨g, j * 2 + 1, none⟩ = false := by
  rcases h.2 with ⟨h1, h2⟩ | ⟨g, cap, cur, hv, hb, hh, h1, h2, h3, h4⟩
  · omega
  · simp only [Value.slice.injEq] at hv
    obtain ⟨rfl, _, rfl⟩ := hv
    have hc : ∀ i, i < l.length * 2 → cur[i]? = (pcCells l)[i]? := fun i hi => by
      have := congrArg (fun l => l[i]?) h4
      simpa only [List.getElem?_take, if_pos hi, Array.getElem?_toList] using this
    obtain ⟨e0, e1⟩ := pcCells_at l j hj
    exact ⟨g, rfl, hb, lt_of_block hh, by rw [blk_cell hh, hc _ (by omega), e0], by rw [blk_cell hh, hc _ (by omega), e1], blk_free hh _, blk_free hh _⟩
theorem OwnPc.mono {B B' c : Nat} {w : World} {ao : Option Addr} {l : List Pc} (h : OwnPc B w ao c l) (hb : B' ≤ B) : OwnPc B' w ao c l := by
  refine ⟨h.1, h.2.imp id ?_⟩
  rintro ⟨g, cap, cur, h1, h2, h3⟩
  exact ⟨g, cap, cur, h1, Nat.le_trans hb h2, h3⟩
theorem OwnPc.none {B c : Nat} {w : World} {l : List Pc} (h : OwnPc B w none c l) : l = [] ∧ c = 0 := by
  rcases h.2 with ⟨h1, _⟩ | ⟨g, cap, cur, hv, _⟩
  · simp at h1
    exact ⟨h1.1, h1.2⟩
  · simp at hv
theorem Try.infoOwnPc : (Try.prog.info? 42).map (fun i => (i.zero, i.size, i.bytes)) = some (some (.agg #[.int .i64 0, .string ⟨#[]⟩]), 2, 24) := by kernel_rfl
theorem OwnPc.src {B c : Nat} {w : World} {ao : Option Addr} {l : List Pc} (h : OwnPc B w ao c l) : Src Try.prog 2 37 (.slice ao l.length c) l.length (pcCells l) w := by
  cases ao with
  | none =>
    obtain ⟨rfl, rfl⟩ := h.none
    exact Src.ofNil _ Try.underlying37 0
  | some a =>
    obtain ⟨g, cs, e0, _, hh, h1, _, h3, h4⟩ := h.block (by simp)
    cases e0
    refine Src.ofSlice _ Try.underlying37 ⟨g, 0, .none⟩ l.length c _ (pcCells_len l) ?_ (pcCells_one l)
    intro j u hj
    have hlt : j < l.length * 2 := by have := (List.getElem?_eq_some_iff.1 hj).1; rwa [pcCells_len] at this
    rw [addr_addE, blk_cell hh, ← hj]
    have := congrArg (fun l => l[j]?) h4
    simpa only [List.getElem?_take, if_pos hlt, Array.getElem?_toList] using this
theorem oneOwnPc_src (w : World) (x : Pc) : Src Try.prog 2 37 (.slice (some ⟨w.heap.size, 0, .none⟩) 1 1) 1 [.int .i64 x.fr, .string (bs x.bd)] (w.alloc (.cells #[.int .i64 x.fr, .string (bs x.bd)] 42)) := by
  refine Src.ofSlice _ Try.underlying37 ⟨w.heap.size, 0, .none⟩ 1 1 _ rfl ?_ (fun u hu => by simp at hu; rcases hu with rfl | rfl <;> rfl)
  intro j u hj
  rw [addr_addE, blk_cell (blk_new w (.cells #[.int .i64 x.fr, .string (bs x.bd)] 42)), ← hj]
  simp
theorem OwnPc.app {B c n m : Nat} {w : World} {ao : Option Addr} {fs gs : List Pc} (hn : n = fs.length) (hm : m = gs.length) (h : w.ownsRow B 42 2 (.slice ao (n + m) c) (n + m) (pcCells fs ++ pcCells gs)) : OwnPc B w ao c (fs ++ gs) := by
  subst hn
  subst hm
  show World.ownsRow _ _ _ _ _ _ _
  rw [List.length_append, pcCells_app]
  exact h
theorem OwnPc.push {B c : Nat} {w : World} {ao : Option Addr} {l : List Pc} {x : Pc} (h : w.ownsRow B 42 2 (.slice ao (l.length + 1) c) (l.length + 1) (pcCells l ++ [.int .i64 x.fr, .string (bs x.bd)])) : OwnPc B w ao c (l ++ [x]) := OwnPc.app (gs := [x]) rfl rfl (by rw [show pcCells [x] = [.int .i64 x.fr, .string (bs x.bd)] by simp [pcCells, pcCell]]; exact h)

end Go.Proofs.Ytpfgnhockfofhaa

/-
  Relays: Receive.
-/
namespace Go.Proofs.Ytpfgnhockfofhaa
open Go.RowKit

def pkV (p : Pk) : Value := .agg #[.int .i64 p.fr, .int .i64 p.ds, .int .i64 p.nu, .bool p.ak, .string (bs p.bd)]
/-- Is a packet one to look at? -/
def goodP (id : Int) (p : Pk) : Bool := decide (p.ds = id) && (isOth id p.fr && decide (1 ≤ p.nu))
def rcvO (o : Oh) (p : Pk) : Oh := if p.ak = true then ackO o p.nu else if p.nu = o.cm + 1 then { o with cm := o.cm + 1 } else o
def rcvC (o : Oh) (p : Pk) : List Pc := if p.ak = true then [] else if p.nu = o.cm + 1 then [⟨p.fr, p.bd⟩] else []
def rcvA (id : Int) (o : Oh) (p : Pk) : List Pk := if p.ak = true then [] else if 0 < (rcvO o p).cm then [⟨id, p.fr, (rcvO o p).cm, true, []⟩] else []
theorem Rl.drewN {B : Nat → Prop} {b q : Nat} {w : World} {id : Int} {os : Nat → Oh} {ao : Nat → Option Addr} {cs : Nat → Nat} (h : Rl B w b id os ao cs) : Rl B (w.drewN q) b id os ao cs := h.kept ((Kept.refl _ _).drewN _)
theorem Kept.trans2 {X : Nat → Obj → Prop} {a b c : World} (h : Kept X a b) (k : Kept X b c) : Kept X a c := h.trans k
/-- What Receive leaves. -/
structure RcvPost (B : Nat → Prop) (b : Nat) (id : Int) (os : Nat → Oh) (ao : Nat → Option Addr) (cs : Nat → Nat) (p : Pk) (w : World) (e : Ending) (w' : World) : Prop where
  res : ∃ a1 c1 a2 c2, e = .returned (.tuple #[.slice a1 (if goodP id p = true then rcvC (os p.fr.toNat) p else []).length c1, .slice a2 (if goodP id p = true then rcvA id (os p.fr.toNat) p else []).length c2]) ∧ OwnPc w.heap.size w' a1 c1 (if goodP id p = true then rcvC (os p.fr.toNat) p else []) ∧ OwnPk w.heap.size w' a2 c2 (if goodP id p = true then rcvA id (os p.fr.toNat) p else [])
  st : ∃ ao' cs', Rl B w' b id (if goodP id p = true then upd os p.fr.toNat (rcvO (os p.fr.toNat) p) else os) ao' cs'
  kw : Kept (TX B b) w w'
set_option maxRecDepth 100000 in
set_option maxHeartbeats 8000000 in
theorem receive_any (B : Nat → Prop) (b : Nat) (id : Int) (os : Nat → Oh) (ao : Nat → Option Addr) (cs : Nat → Nat) (p : Pk) (w : World) (h : Rl B w b id os ao cs) (hnu : p.nu ≤ 9223372036854775807) (hf : ∀ k, k < 10 → (os k).wt.length ≤ 16 ∧ (os k).ak ≤ 9000000000000000000 ∧ (os k).cm ≤ 9000000000000000000) :
    Calls Try.prog 11 #[.pointer (some ⟨b, 0, none⟩), pkV p] w (RcvPost B b id os ao cs p w) := by
  obtain ⟨W, hW⟩ : ∃ W, W = w.alloc (.cells #[.int .i64 p.fr, .int .i64 p.ds, .int .i64 p.nu, .bool p.ak, .string (bs p.bd)] 34) := ⟨_, rfl⟩
  obtain ⟨A, HAe⟩ : ∃ A, Hid (A = w.heap.size) := ⟨_, rfl⟩
  have KW : Hid (Kept Nil w W) := by rw [hW]; exact (Kept.refl _ _).alloc _
  have HAW : Hid (W.heap[A]? = some (.cells #[.int .i64 p.fr, .int .i64 p.ds, .int .i64 p.nu, .bool p.ak, .string (bs p.bd)] 34 (0, 0))) := by rw [hW, HAe.out]; exact blk_new _ _
  have HRW : Hid (Rl B W b id os ao cs) := h.kept KW.out
  obtain ⟨cells, hc⟩ := HRW.out.cl
  have HC : Hid (RlC W b id os ao cs cells) := hc
  have p0 : W.cell? ⟨A, 0, none⟩ = some (.int .i64 p.fr) := blk_at HAW.out 0 rfl
  have p1 : W.cell? ⟨A, 1, none⟩ = some (.int .i64 p.ds) := blk_at HAW.out 1 rfl
  have p2 : W.cell? ⟨A, 2, none⟩ = some (.int .i64 p.nu) := blk_at HAW.out 2 rfl
  have p3 : W.cell? ⟨A, 3, none⟩ = some (.bool p.ak) := blk_at HAW.out 3 rfl
  have p4 : W.cell? ⟨A, 4, none⟩ = some (.string (bs p.bd)) := blk_at HAW.out 4 rfl
  have b0 : W.cell? ⟨b, 0, none⟩ = some (.int .i64 id) := by rw [blk_cell hc.blk]; exact hc.c0
  have IO := fun m => isOther_any B b id p.fr os ao cs (W.drewN m) HRW.out.drewN
  obtain ⟨gd, HGd⟩ : ∃ gd, Hid (gd = goodP id p) := ⟨_, rfl⟩
  unfold pkV
  clear h hc
  go_enter Try.func11, Try.ntmps11
  go_upto_region 1 with fail
  rw [← hW, ← HAe.out]
  clear hW
  go_cut [25] (fun x wc => x = .bool (!gd) ∧ Hid (Kept Nil W wc))
  case first =>
    by_cases h1 : p.ds = id
    · have h1b : (p.ds == id) = true := by simp [h1]
      have h1c : (p.ds != id) = false := by simp [h1]
      have h1d : decide (p.ds = id) = true := by simp [h1]
      cases h2 : isOth id p.fr with
      | false =>
        simp only [h2] at IO
        have HF : Hid (gd = false) := by show _ = _; rw [HGd.out]; unfold goodP; rw [h2, Bool.false_and, Bool.and_false]
        clear h2 h1
        go_quiet (first | (go_at_call 31; exact Calls.quiet_of_same (IO _)))
        go_wp2
        go_meet
        exact ⟨by rw [HF.out]; rfl, (Kept.refl _ _).drewN _⟩
      | true =>
        simp only [h2] at IO
        have HF : Hid (gd = decide (1 ≤ p.nu)) := by show _ = _; rw [HGd.out]; unfold goodP; rw [h2, decide_eq_true h1]; rfl
        clear h2 h1
        by_cases h3 : p.nu < 1
        · have h3b : decide (p.nu < 1) = true := decide_eq_true h3
          have HF2 : Hid (gd = false) := by show _ = _; rw [HF.out]; exact decide_eq_false (by omega)
          go_quiet (first | (go_at_call 31; exact Calls.quiet_of_same (IO _)))
          go_wp2
          go_meet
          exact ⟨by rw [HF2.out]; rfl, (Kept.refl _ _).drewN _⟩
        · have h3b : decide (p.nu < 1) = false := decide_eq_false h3
          have HF2 : Hid (gd = true) := by show _ = _; rw [HF.out]; exact decide_eq_true (by omega)
          go_quiet (first | (go_at_call 31; exact Calls.quiet_of_same (IO _)))
          go_wp2
          go_meet
          exact ⟨by rw [HF2.out]; rfl, (Kept.refl _ _).drewN _⟩
    · have h1b : (p.ds == id) = false := beq_eq_false_iff_ne.2 h1
      have HF : Hid (gd = false) := by show _ = _; rw [HGd.out]; unfold goodP; rw [decide_eq_false h1]; rfl
      go_quiet (fail)
      go_wp2
      go_meet
      exact ⟨by rw [HF.out]; rfl, (Kept.refl _ _).drewN _⟩
  case rest =>
    obtain ⟨rfl, KC⟩ := hcut
    rename World => w1
    have K1 : Hid (Kept Nil w w1) := KW.out.trans KC.out
    cases gd with
    | false =>
      have HG : Hid (goodP id p = false) := HGd.out.symm
      go_wp2
      go_ret2
      exact ⟨⟨none, 0, none, 0, by rw [HG.out]; rfl, by rw [HG.out]; exact World.ownsRow_nil _ _ _ _, by rw [HG.out]; exact World.ownsRow_nil _ _ _ _⟩, ⟨ao, cs, by rw [HG.out]; exact HRW.out.kept KC.out⟩, K1.out.mono (fun _ _ x => x.elim)⟩
    | true =>
      have HG : Hid (goodP id p = true) := HGd.out.symm
      have hg := HG.out
      unfold goodP isOth isNd at hg
      simp only [Bool.and_eq_true, decide_eq_true_eq] at hg
      obtain ⟨k, HKe⟩ : ∃ k : Nat, Hid (p.fr = (k : Int)) := ⟨p.fr.toNat, (by omega : p.fr = _)⟩
      have hk9 : k < 10 := by have := HKe.out; omega
      have hnu1 : 1 ≤ p.nu := hg.2.2
      clear hg
      have HKn : Hid (p.fr.toNat = k) := by have := HKe.out; show _ = _; omega
      have HR1 : Hid (Rl B w1 b id os ao cs) := HRW.out.kept KC.out
      have HA1 : Hid (w1.heap[A]? = some (.cells #[.int .i64 p.fr, .int .i64 p.ds, .int .i64 p.nu, .bool p.ak, .string (bs p.bd)] 34 (0, 0))) := KC.out.block _ _ HAW.out (fun x => x)
      have q0 : w1.cell? ⟨A, 0, none⟩ = some (.int .i64 k) := by rw [← HKe.out]; exact blk_at HA1.out 0 rfl
      have hki : (k : Int) < 10 := by omega
      clear p0 p1 p2 p3 p4 b0
      go_upto_region 3 with fail
      go_cut [6] (fun x wc => x = .pointer (some ⟨b, 1 + k * 3, none⟩) ∧ Hid (Kept Nil w1 wc))
      case first =>
        go_quiet (fail)
        go_wp2
        go_meet
        exact ⟨rfl, (Kept.refl _ _).drewN _⟩
      case rest =>
        obtain ⟨rfl, KC2⟩ := hcut
        rename World => w2
        have K2 : Hid (Kept Nil w w2) := K1.out.trans KC2.out
        have HR2 : Hid (Rl B w2 b id os ao cs) := HR1.out.kept KC2.out
        have HA2 : Hid (w2.heap[A]? = some (.cells #[.int .i64 p.fr, .int .i64 p.ds, .int .i64 p.nu, .bool p.ak, .string (bs p.bd)] 34 (0, 0))) := KC2.out.block _ _ HA1.out (fun x => x)
        have q2 : w2.cell? ⟨A, 2, none⟩ = some (.int .i64 p.nu) := blk_at HA2.out 2 rfl
        have q3 : w2.cell? ⟨A, 3, none⟩ = some (.bool p.ak) := blk_at HA2.out 3 rfl
        clear q0
        have q0 : w2.cell? ⟨A, 0, none⟩ = some (.int .i64 p.fr) := blk_at HA2.out 0 rfl
        obtain ⟨hf1, hf2, hf3⟩ := hf k hk9
        obtain ⟨o, HOe⟩ : ∃ o, Hid (o = os k) := ⟨_, rfl⟩
        cases hak : p.ak with
        | true =>
          rw [hak] at q3
          have AC := ack_any B b k id p.nu os ao cs w2 HR2.out hk9 hnu1 hnu hf1 hf2
          have HO1 : Hid (rcvO (os k) p = ackO (os k) p.nu ∧ rcvC (os k) p = [] ∧ rcvA id (os k) p = []) := ⟨by unfold rcvO; rw [hak, if_pos rfl], by unfold rcvC; rw [hak, if_pos rfl], by unfold rcvA; rw [hak, if_pos rfl]⟩
          clear hak
          go_wp2_with fail
          go_fit AC
          rintro e w3 ⟨rfl, st3, k3⟩
          have ST3 : Hid (∃ a c, Rl B w3 b id (upd os k (ackO (os k) p.nu)) (upd ao k a) (upd cs k c)) := st3
          have K3 : Hid (Kept (TX B b) w w3) := (K2.out.mono (fun _ _ x => x.elim)).trans2 k3
          clear st3 k3 AC
          go_wp2
          go_ret2
          exact ⟨⟨none, 0, none, 0, by rw [HG.out, HKn.out, if_pos rfl, if_pos rfl, HO1.out.2.1, HO1.out.2.2]; rfl, by rw [HG.out, HKn.out, if_pos rfl, HO1.out.2.1]; exact World.ownsRow_nil _ _ _ _, by rw [HG.out, HKn.out, if_pos rfl, HO1.out.2.2]; exact World.ownsRow_nil _ _ _ _⟩, (by rw [HG.out, HKn.out, if_pos rfl, HO1.out.1]; obtain ⟨a, c, hr⟩ := ST3.out; exact ⟨_, _, hr⟩), K3.out⟩
        | false =>
          rw [hak] at q3
          obtain ⟨cells2, hc2⟩ := HR2.out.cl
          have HC2 : Hid (RlC w2 b id os ao cs cells2) := hc2
          have r2 : w2.cell? ⟨b, 1 + k * 3 + 2, none⟩ = some (.int .i64 o.cm) := by rw [blk_cell hc2.blk, HOe.out]; exact hc2.cc k hk9
          have hocm : (o.cm : Int) ≤ 9000000000000000000 := by rw [HOe.out]; omega
          have hwr : IntKind.i64.wrap ((o.cm : Int) + 1) = (o.cm : Int) + 1 := IntWalk.i64_in _ (by omega)
          obtain ⟨t, HTt⟩ : ∃ t : Bool, Hid (t = decide (p.nu = (o.cm : Int) + 1)) := ⟨_, rfl⟩
          have HO1 : Hid (rcvO o p = (if t = true then { o with cm := o.cm + 1 } else o) ∧ rcvC o p = (if t = true then [⟨p.fr, p.bd⟩] else [])) := by
            have e := HTt.out
            refine ⟨?_, ?_⟩
            · unfold rcvO
              rw [hak, if_neg (by decide)]
              by_cases h : p.nu = (o.cm : Int) + 1
              · rw [e, decide_eq_true h, if_pos h, if_pos rfl]
              · rw [e, decide_eq_false h, if_neg h, if_neg (by decide)]
            · unfold rcvC
              rw [hak, if_neg (by decide)]
              by_cases h : p.nu = (o.cm : Int) + 1
              · rw [e, decide_eq_true h, if_pos h, if_pos rfl]
              · rw [e, decide_eq_false h, if_neg h, if_neg (by decide)]
          have HA0 : Hid (rcvA id o p = if 0 < (rcvO o p).cm then [⟨id, p.fr, (rcvO o p).cm, true, []⟩] else []) := by show _ = _; unfold rcvA; rw [hak, if_neg (by decide)]
          have hAb : A ≠ b := fun e => by
            have h1 := HA2.out
            rw [e, hc2.blk] at h1
            simp at h1
          have hbA : b ≠ A := fun e => hAb e.symm
          have HAs : Hid (A = w.heap.size) := HAe.out
          clear hak hc2
          go_upto_region 7 with fail
          go_cut [45] (fun x wc => x = .bool t ∧ Hid (Kept Nil w2 wc))
          case first =>
            by_cases h : p.nu = (o.cm : Int) + 1
            · have HT1 : Hid (t = true) := by show _ = _; rw [HTt.out]; exact decide_eq_true h
              have hb1 : (p.nu == (o.cm : Int) + 1) = true := by simp [h]
              have hb2 : decide (p.nu = (o.cm : Int) + 1) = true := decide_eq_true h
              clear h
              go_quiet (fail)
              go_wp2
              go_meet
              exact ⟨by rw [HT1.out], (Kept.refl _ _).drewN _⟩
            · have HT1 : Hid (t = false) := by show _ = _; rw [HTt.out]; exact decide_eq_false h
              have hb1 : (p.nu == (o.cm : Int) + 1) = false := beq_eq_false_iff_ne.2 h
              go_quiet (fail)
              go_wp2
              go_meet
              exact ⟨by rw [HT1.out], (Kept.refl _ _).drewN _⟩
          case rest =>
            obtain ⟨rfl, KC3⟩ := hcut
            rename World => w3
            have K3 : Hid (Kept Nil w w3) := K2.out.trans KC3.out
            have HR3 : Hid (Rl B w3 b id os ao cs) := HR2.out.kept KC3.out
            have HA3 : Hid (w3.heap[A]? = some (.cells #[.int .i64 p.fr, .int .i64 p.ds, .int .i64 p.nu, .bool p.ak, .string (bs p.bd)] 34 (0, 0))) := KC3.out.block _ _ HA2.out (fun x => x)
            have HC3 : Hid (RlC w3 b id os ao cs cells2) := ⟨KC3.out.block _ _ HC2.out.blk (fun x => x), HC2.out.sz, HC2.out.c0, HC2.out.ca, HC2.out.cw, HC2.out.cc⟩
            clear r2 q0 q2 q3
            obtain ⟨i1, hi1, hz0, hz1, hz2⟩ := info_parts Try.infoOwnPc
            go_upto_if 45 with fail
            go_cut [4] (fun s wc => ∃ a1 c1, s = .slice a1 (rcvC o p).length c1 ∧ Hid (OwnPc w.heap.size wc a1 c1 (rcvC o p)) ∧ Hid (Rl B wc b id (upd os k (rcvO o p)) ao cs) ∧ Hid (wc.heap[A]? = some (.cells #[.int .i64 p.fr, .int .i64 p.ds, .int .i64 p.nu, .bool p.ak, .string (bs p.bd)] 34 (0, 0))) ∧ Hid (Kept (TX B b) w wc))
            case first =>
              cases t with
              | false =>
                have HE1 : Hid (rcvO o p = o ∧ rcvC o p = []) := HO1.out
                go_wp2
                go_meet
                exact ⟨none, 0, by rw [HE1.out.2]; rfl, by rw [HE1.out.2]; exact World.ownsRow_nil _ _ _ _, by rw [HE1.out.1, HOe.out, upd_id]; exact HR3.out, HA3.out, K3.out.mono (fun _ _ x => x.elim)⟩
              | true =>
                have HE1 : Hid (rcvO o p = { o with cm := o.cm + 1 } ∧ rcvC o p = [⟨p.fr, p.bd⟩]) := HO1.out
                have r3 : w3.cell? ⟨b, 1 + k * 3 + 2, none⟩ = some (.int .i64 o.cm) := by rw [blk_cell HC3.out.blk, HOe.out]; exact HC3.out.cc k hk9
                have f3 : w3.frozen? ⟨b, 1 + k * 3 + 2, none⟩ = false := blk_free HC3.out.blk _
                obtain ⟨W4, hW4⟩ : ∃ W, W = w3.setCell ⟨b, 1 + k * 3 + 2, none⟩ (.int .i64 ((o.cm : Int) + 1)) := ⟨_, rfl⟩
                have e4 : ((o.cm + 1 : Nat) : Int) = (o.cm : Int) + 1 := by omega
                have HR4 : Hid (Rl B W4 b id (upd os k { o with cm := o.cm + 1 }) ao cs) := by
                  have h := HR3.out.setI (k := k) (r := 2) hk9 (.inr rfl) (o.cm + 1)
                  rw [e4, ← hW4, if_neg (by decide), ← HOe.out] at h
                  exact h
                have HA4 : Hid (W4.heap[A]? = some (.cells #[.int .i64 p.fr, .int .i64 p.ds, .int .i64 p.nu, .bool p.ak, .string (bs p.bd)] 34 (0, 0))) := by rw [hW4]; exact blk_other HA3.out hAb _
                have K4 : Hid (Kept (TX B b) w W4) := by rw [hW4]; exact (K3.out.mono (fun _ _ x => x.elim)).setT (fun o ho => by have h1 := K3.out.block _ _ ho (fun x => x); rw [HC3.out.blk] at h1; cases h1; exact .inl ⟨rfl, _, rfl⟩) _ _
                have s0 : W4.cell? ⟨A, 0, none⟩ = some (.int .i64 p.fr) := blk_at HA4.out 0 rfl
                have s4 : W4.cell? ⟨A, 4, none⟩ = some (.string (bs p.bd)) := blk_at HA4.out 4 rfl
                have SR := oneOwnPc_src W4 ⟨p.fr, p.bd⟩
                have hB4 : w.heap.size ≤ W4.heap.size := K4.out.size
                go_upto_region 9 with fail
                rw [← hW4]
                clear hW4 r3 f3
                go_wp2_with (at_builtin; go_must (refine wpList_append_src _ rfl _ _ 37 37 rfl w.heap.size 42 i1 (.agg #[.int .i64 0, .string ⟨#[]⟩]) 2 24 Try.underlying37 hi1 hz0 hz1 hz2 rfl (.slice none 0 0) 0 [] rfl (World.ownsRow_nil _ _ _ _) (.slice (some ⟨W4.heap.size, 0, none⟩) 1 1) 1 [.int .i64 p.fr, .string (bs p.bd)] rfl SR (by decide) (by decide) (le_alloc hB4 _) ?_); intro a5 c5 w5 ho5 hg5; have HP5 : Hid (OwnPc w.heap.size w5 a5 c5 ([] ++ [⟨p.fr, p.bd⟩])) := OwnPc.push (l := []) ho5; have K45 : Hid (Kept Nil W4 w5) := ((Kept.refl _ _).alloc _).grown hg5 (fun k hk => by simp [Value.ownBlock] at hk); clear ho5 hg5)
                go_meet
                exact ⟨a5, c5, by rw [HE1.out.2]; rfl, by rw [HE1.out.2]; exact HP5.out, by rw [HE1.out.1]; exact HR4.out.kept K45.out, K45.out.block _ _ HA4.out (fun x => x), K4.out.trans (K45.out.mono (fun _ _ x => x.elim))⟩
            case rest =>
              obtain ⟨a1, c1, rfl, HP5, HR5, HA5, K5⟩ := hcut
              rename World => w5
              obtain ⟨cells5, hc5⟩ := HR5.out.cl
              obtain ⟨cm, HCm⟩ : ∃ n, Hid (n = (rcvO o p).cm) := ⟨_, rfl⟩
              have HC5 : Hid (RlC w5 b id (upd os k (rcvO o p)) ao cs cells5) := hc5
              have r5 : w5.cell? ⟨b, 1 + k * 3 + 2, none⟩ = some (.int .i64 cm) := by rw [blk_cell hc5.blk, hc5.cc k hk9, upd_self, HCm.out]
              have r0 : w5.cell? ⟨b, 0, none⟩ = some (.int .i64 id) := by rw [blk_cell hc5.blk, hc5.c0]
              have s5 : w5.cell? ⟨A, 0, none⟩ = some (.int .i64 p.fr) := blk_at HA5.out 0 rfl
              clear hc5
              rw [← HCm.out] at HA0
              go_upto_region 10 with fail
              go_cut [65] (fun x wc => x = .bool (decide (0 < cm)) ∧ Hid (wc = w5))
              case first =>
                go_wp2
                go_meet
                exact ⟨by first | rfl | simp, rfl⟩
              case rest =>
                obtain ⟨rfl, hwc⟩ := hcut
                rw [hwc.out]
                clear hwc
                go_upto_if 65 with fail
                go_cut [5] (fun s wc => ∃ a2 c2, s = .slice a2 (rcvA id o p).length c2 ∧ Hid (OwnPk w.heap.size wc a2 c2 (rcvA id o p)) ∧ Hid (Kept Nil w5 wc))
                case first =>
                  by_cases hcm : 0 < cm
                  · have hd : decide (0 < cm) = true := decide_eq_true hcm
                    rw [hd]
                    have HE2 : Hid (rcvA id o p = [⟨id, p.fr, cm, true, []⟩]) := by show _ = _; rw [HA0.out, if_pos hcm]
                    obtain ⟨i2, hi2, hy0, hy1, hy2⟩ := info_parts Try.infoOwnPk
                    have SR := oneOwnPk_src w5.drew ⟨id, p.fr, cm, true, []⟩
                    have hB5 : w.heap.size ≤ w5.heap.size := K5.out.size
                    clear hcm hd
                    go_upto_region 11 with fail
                    go_region_held3 (fun w' => w'.cell? ⟨b, 0, none⟩ = some (.int .i64 id) ∧ w'.cell? ⟨A, 0, none⟩ = some (.int .i64 p.fr) ∧ w'.cell? ⟨b, 1 + k * 3 + 2, none⟩ = some (.int .i64 cm)) (first | assumption | go_keep) (first | (refine step_append_src (w5.drew.alloc (.cells #[.int .i64 id, .int .i64 p.fr, .int .i64 cm, .bool true, .string (bs [])] 34)) (by rfl) (.tmp 66) (.tmp 78) 28 28 (by rfl) w.heap.size 34 i2 (.agg #[.int .i64 0, .int .i64 0, .int .i64 0, .bool false, .string ⟨#[]⟩]) 5 48 Try.underlying28 hi2 hy0 hy1 hy2 rfl (.slice none 0 0) 0 [] (by simp [Act.eval]) (World.ownsRow_nil _ _ _ _) (.slice (some ⟨w5.heap.size, 0, none⟩) 1 1) 1 [.int .i64 id, .int .i64 p.fr, .int .i64 cm, .bool true, .string (bs [])] (by simp [Act.eval]) SR (by decide) (by decide) (le_alloc hB5 _) ?_; intro a6 c6 w6 ho6 hg6; have HP6 : Hid (OwnPk w.heap.size w6 a6 c6 ([] ++ [⟨id, p.fr, cm, true, []⟩])) := OwnPk.push (l := []) ho6; have K6 : Hid (Kept Nil w5 w6) := ((Kept.refl _ _).drew.alloc _).grown hg6 (fun k hk => by simp [Value.ownBlock] at hk); have v0 := cell_kept K6.out (fun _ x => x) r0; have v1 := cell_kept K6.out (fun _ x => x) s5; have v2 := cell_kept K6.out (fun _ x => x) r5; clear ho6 hg6))
                    go_wp2
                    go_meet
                    exact ⟨a6, c6, by rw [HE2.out]; rfl, by rw [HE2.out]; exact HP6.out, K6.out⟩
                  · have hd : decide (0 < cm) = false := decide_eq_false hcm
                    rw [hd]
                    have HE2 : Hid (rcvA id o p = []) := by show _ = _; rw [HA0.out, if_neg hcm]
                    clear hcm hd
                    go_wp2
                    go_meet
                    exact ⟨none, 0, by rw [HE2.out]; rfl, by rw [HE2.out]; exact World.ownsRow_nil _ _ _ _, Kept.refl _ _⟩
                case rest =>
                  obtain ⟨a2, c2, rfl, HP6, K6⟩ := hcut
                  rename World => w6
                  have HOk : Hid (os k = o) := HOe.out.symm
                  go_wp2
                  go_ret2
                  exact ⟨⟨a1, c1, a2, c2, by rw [HG.out, HKn.out, if_pos rfl, if_pos rfl, HOk.out]; rfl, by rw [HG.out, HKn.out, if_pos rfl, HOk.out]; exact HP5.out.kept K6.out, by rw [HG.out, HKn.out, if_pos rfl, HOk.out]; exact HP6.out⟩, ⟨ao, cs, by rw [HG.out, HKn.out, if_pos rfl, HOk.out]; exact HR5.out.kept K6.out⟩, K5.out.trans (K6.out.mono (fun _ _ x => x.elim))⟩
end Go.Proofs.Ytpfgnhockfofhaa
