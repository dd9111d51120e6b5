/-
  RelayExact: the script's rows; what is kept between the two relays' calls.
-/
import Derived.Test.YtmlncfnnldplgaaWRx3
namespace Go.Proofs.Ytmlncfnnldplgaa
open Go.RowKit

/-- A step of a relay's script. -/
structure Rs where
  kd : Int
  dst : Int
  bd : List UInt8
  p : Pk
def RsRow (B : Nat) (w : World) (ao : Option Addr) (ss : List Rs) : Prop := ∀ j, (hj : j < ss.length) → ∃ a, ao = some a ∧ a.block < B ∧ w.cell? (a.add (j * 8)) = some (.int .i64 ss[j].kd) ∧ w.cell? ⟨(a.add (j * 8)).block, (a.add (j * 8)).off + 1, none⟩ = some (.int .i64 ss[j].dst) ∧ w.cell? ⟨(a.add (j * 8)).block, (a.add (j * 8)).off + 2, none⟩ = some (.string (bs ss[j].bd)) ∧ w.cell? ⟨(a.add (j * 8)).block, (a.add (j * 8)).off + 3, none⟩ = some (.int .i64 ss[j].p.fr) ∧ w.cell? ⟨(a.add (j * 8)).block, (a.add (j * 8)).off + 4, none⟩ = some (.int .i64 ss[j].p.ds) ∧ w.cell? ⟨(a.add (j * 8)).block, (a.add (j * 8)).off + 5, none⟩ = some (.int .i64 ss[j].p.nu) ∧ w.cell? ⟨(a.add (j * 8)).block, (a.add (j * 8)).off + 6, none⟩ = some (.bool ss[j].p.ak) ∧ w.cell? ⟨(a.add (j * 8)).block, (a.add (j * 8)).off + 7, none⟩ = some (.string (bs ss[j].p.bd)) ∧ ss[j].p.nu ≤ 9223372036854775807
theorem RsRow.nil {B : Nat} {w w' : World} {ao : Option Addr} {ss : List Rs} (h : RsRow B w ao ss) (hk : Kept Nil w w') : RsRow B w' ao ss := by
  intro j hj
  obtain ⟨a, ha, hb, c0, c1, c2, c3, c4, c5, c6, c7, l⟩ := h j hj
  exact ⟨a, ha, hb, cell_kept hk (fun _ x => x) c0, cell_kept hk (fun _ x => x) c1, cell_kept hk (fun _ x => x) c2, cell_kept hk (fun _ x => x) c3, cell_kept hk (fun _ x => x) c4, cell_kept hk (fun _ x => x) c5, cell_kept hk (fun _ x => x) c6, cell_kept hk (fun _ x => x) c7, l⟩
theorem RsRow.up {B B' : Nat} {w : World} {ao : Option Addr} {ss : List Rs} (h : RsRow B w ao ss) (hb : B ≤ B') : RsRow B' w ao ss := fun j hj => by
  obtain ⟨a, e, hb', r⟩ := h j hj
  exact ⟨a, e, by omega, r⟩

/-- What is younger than a world may be touched. -/
theorem Kept.newX {X : Nat → Obj → Prop} {w a b : World} (h : Kept Nil w a) (k : Kept X a b) (hX : ∀ q o, X q o → w.heap.size ≤ q) : Kept Nil w b := ⟨k.os.trans h.os, k.tape.trans h.tape, k.output.trans h.output, Nat.le_trans h.size k.size, fun q o ho _ => k.block q o (h.block q o ho (fun x => x)) (fun e => by have := lt_of_block ho; have := hX _ _ e; omega)⟩
theorem tx_new {B b n : Nat} (hB : n ≤ B) (hb : n ≤ b) : ∀ q o, TX B b q o → n ≤ q := by
  rintro q o (⟨rfl, _⟩ | ⟨h, _⟩) <;> omega
theorem ty_new {b n : Nat} (hb : n ≤ b) : ∀ q o, TY b q o → n ≤ q := by
  rintro q o ⟨rfl, _⟩; omega
theorem tp_new {Q : Nat → Prop} {n : Nat} (hb : ∀ q, Q q → n ≤ q) : ∀ q o, TP Q q o → n ≤ q := fun q _ h => hb q h.1
/-- Parcels' blocks of a kind. -/
def TC (Q : Nat → Prop) : Nat → Obj → Prop := fun q o => Q q ∧ ∃ cs, o = .cells cs 42 (0, 0)
theorem tc_new {Q : Nat → Prop} {n : Nat} (hb : ∀ q, Q q → n ≤ q) : ∀ q o, TC Q q o → n ≤ q := fun q _ h => hb q h.1
theorem Rl.keptC {B b : Nat} {Q : Nat → Prop} {w w' : World} {id : Int} {os : Nat → Oh} {ao : Nat → Option Addr} {cs : Nat → Nat} (h : Rl B w b id os ao cs) (k : Kept (TC Q) w w') : Rl B w' b id os ao cs :=
  h.keptX k (fun _ ⟨_, _, e⟩ => by simp at e) (fun _ _ ⟨_, _, e⟩ => by simp at e)
theorem Ry.keptC {G Q : Nat → Prop} {b : Nat} {w w' : World} {id : Int} {os : Nat → Oh} {ay : Nat → Option Addr} {cy : Nat → Nat} (h : Ry G w b id os ay cy) (k : Kept (TC Q) w w') : Ry G w' b id os ay cy :=
  h.keptX k (fun _ ⟨_, _, e⟩ => by simp at e) (fun _ _ _ ⟨_, _, e⟩ => by simp at e)
theorem OwnPk.keptC {B c : Nat} {Q : Nat → Prop} {w w' : World} {ao : Option Addr} {l : List Pk} (h : OwnPk B w ao c l) (k : Kept (TC Q) w w') : OwnPk B w' ao c l := own_kept h k (fun _ _ _ ⟨_, _, e⟩ => by simp at e)
theorem OwnPk.keptY {B c d : Nat} {w w' : World} {ao : Option Addr} {l : List Pk} (h : OwnPk B w ao c l) (k : Kept (TY d) w w') : OwnPk B w' ao c l := own_kept h k (fun _ _ _ ⟨_, _, e⟩ => by simp at e)
theorem OwnPc.keptY {B c d : Nat} {w w' : World} {ao : Option Addr} {l : List Pc} (h : OwnPc B w ao c l) (k : Kept (TY d) w w') : OwnPc B w' ao c l := own_kept h k (fun _ _ _ ⟨_, _, e⟩ => by simp at e)
/-- overPackets touches a row that was there in an elder world already. -/
theorem OwnPk.over {B c : Nat} {w1 w w' : World} {ao : Option Addr} {l : List Pk} (h1 : OwnPk B w1 ao c l) (h : OwnPk B w ao c l) (k : Kept (fun q _ => (Value.slice ao l.length c).ownBlock = some q) w w') : Kept (TP fun q => B ≤ q ∧ q < w1.heap.size) w w' := by
  refine k.typ fun q o ho hq => ?_
  have hl := World.ownsRow.lt h1 q hq
  obtain ⟨_, h | ⟨g, cap, cur, hv, hB, hb, _⟩⟩ := h
  · rw [h.1] at hq; simp [Value.ownBlock] at hq
  · rw [hv] at hq
    have e : g = q := by simpa [Value.ownBlock] using hq
    subst e
    rw [hb] at ho
    cases ho
    exact ⟨hl, _, rfl⟩
theorem pcCells_set : ∀ (l : List Pc) (k : Nat) (_ : k < l.length) (x : Pc), ((pcCells l).set (k * 2) (.int .i64 x.fr)).set (k * 2 + 1) (.string (bs x.bd)) = pcCells (l.set k x)
  | [], k, hk, _ => by simp at hk
  | o :: t, 0, _, x => by simp [pcCells_cons]
  | o :: t, k + 1, hk, x => by
    have h := pcCells_set t k (by simpa using hk) x
    rw [pcCells_cons, show (k + 1) * 2 = k * 2 + 1 + 1 by omega, List.set_cons_succ, List.set_cons_succ, List.set_cons_succ, List.set_cons_succ, List.set_cons_succ, pcCells_cons, h]
theorem ownPc_set2 {B g c k : Nat} {w : World} {ps : List Pc} (h : OwnPc B w (some ⟨g, 0, none⟩) c ps) (hk : k < ps.length) (x : Pc) : OwnPc B ((w.setCell ⟨g, k * 2, none⟩ (.int .i64 x.fr)).setCell ⟨g, k * 2 + 1, none⟩ (.string (bs x.bd))) (some ⟨g, 0, none⟩) c (ps.set k x) := by
  have := own_setAtK (own_setAtK h (k * 2) (.int .i64 x.fr)) (k * 2 + 1) (.string (bs x.bd))
  rw [pcCells_set ps k hk x] at this
  unfold OwnPc
  rw [List.length_set]
  exact this
theorem rcvC_len (o : Oh) (p : Pk) (gd : Bool) : (if gd = true then rcvC o p else []).length ≤ 1 := by
  cases gd
  · simp
  · rw [if_pos rfl]; unfold rcvC; split
    · simp
    · split <;> simp
theorem rcvA_len (id : Int) (o : Oh) (p : Pk) (gd : Bool) : (if gd = true then rcvA id o p else []).length ≤ 1 := by
  cases gd
  · simp
  · rw [if_pos rfl]; unfold rcvA; split
    · simp
    · split <;> simp
theorem first_len : (pksTo 1 (sndS 1 (fun _ => oh0) 2 [97]) 10).length = 1 := by decide
theorem first_send : sndK 1 (fun _ => oh0) 2 = 0 := by decide
end Go.Proofs.Ytmlncfnnldplgaa
