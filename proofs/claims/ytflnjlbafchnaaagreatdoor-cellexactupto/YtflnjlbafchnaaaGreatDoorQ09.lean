/-
  Joined: WKv12, WKvC, WKvIn.
-/
import Derived.Test.YtflnjlbafchnaaaGreatDoorQ07
import Derived.Test.YtflnjlbafchnaaaGreatDoorQ08
import Derived.Test.YtflnjlbafchnaaaGreatDoorRows
import Derived.ProofKit
import Derived.OpenShut
import Derived.ShutString
import Derived.ChangeOld
import Derived.SizedLaws
import Derived.ChangeSlices
import Derived.Lib.SmallJoins
import Derived.Deep.Strs
import Derived.Deep.Slices
/-
  kv: Apply.
-/
namespace Go.Proofs.YtflnjlbafchnaaaGreatDoor
open Go.RowKit

/-- What a command makes of pairs, whatever they are. -/
def apP (kd : Int) (ck val : List UInt8) (m : Int) (ps : List Pr) : List Pr := if (pairsOk ps && isCmd kd ck val m) = true then doP kd ck val m (spotV ck ps) (spotN ck ps) (lowP ck ps) ps else ps
def apR (kd : Int) (ck val : List UInt8) (m : Int) (ps : List Pr) : Rr := if (pairsOk ps && isCmd kd ck val m) = true then doR kd ck val m (spotV ck ps) (spotN ck ps) (lowP ck ps) ps else ⟨5, [], 0, []⟩
theorem pairs_ok {ps : List Pr} (h : pairsOk ps = true) : ps.length ≤ 32 ∧ Srt ps ∧ ∀ p ∈ ps, prOk p = true := by
  unfold pairsOk at h
  simp only [Bool.and_eq_true, decide_eq_true_eq] at h
  exact ⟨h.1, (rise_srt h.2).1, (rise_srt h.2).2.1⟩
theorem prOk_iff {p : Pr} (h : prOk p = true) : p.k ≠ [] ∧ p.k.length ≤ 16 ∧ p.v.length ≤ 64 ∧ 1 ≤ p.n ∧ p.n ≤ 1099511627775 := by
  unfold prOk isCnt at h
  simp at h
  exact ⟨h.1.1.1, h.1.1.2, h.1.2, by omega, by omega⟩
theorem spot_ok {ps : List Pr} (h : pairsOk ps = true) (key : List UInt8) : 0 ≤ spotN key ps ∧ (spotN key ps ≠ 0 ↔ isThere key ps = true) ∧ (spotN key ps ≠ 0 → lowP key ps < ps.length) ∧ (spotV key ps).length ≤ 64 := by
  obtain ⟨_, _, h3⟩ := pairs_ok h
  cases ht : isThere key ps with
  | true =>
    obtain ⟨hl, _, e2, e3⟩ := there_at ht
    obtain ⟨_, _, g1, g2, _⟩ := prOk_iff (h3 _ (List.getElem_mem hl))
    rw [e2, e3]
    exact ⟨by omega, ⟨fun _ => rfl, fun _ => by omega⟩, fun _ => hl, g1⟩
  | false =>
    have e1 : spotV key ps = [] := by unfold spotV; rw [ht]; simp
    have e2 : spotN key ps = 0 := by unfold spotN; rw [ht]; simp
    rw [e1, e2]
    exact ⟨by omega, ⟨fun x => absurd rfl x, fun x => by cases x⟩, fun x => absurd rfl x, by simp⟩
theorem isCmd_val {kd m : Int} {ck val : List UInt8} (h : isCmd kd ck val m = true) : val.length ≤ 64 ∧ 0 ≤ m := by
  unfold isCmd isNum at h
  simp at h
  exact ⟨h.1.1.2, by omega⟩
theorem kvValid_any (B cap : Nat) (ao : Option Addr) (ps : List Pr) (w : World) (h : PairRow B w ao ps) (hl : (ps.length : Int) ≤ 9223372036854775807) :
    Calls Tryz.prog 68 #[.slice ao ps.length cap] w fun e w' => e = .returned (.bool (pairsOk ps)) ∧ Kept Nil w w' := by
  have V := isPairs_any B cap ao ps w h hl
  go_enter Tryz.func68, Tryz.ntmps68
  go_wp2_with fail
  go_fit V
  rintro _ w1 ⟨rfl, k1⟩
  have K1 : Hid (Kept Nil w w1) := k1
  clear k1
  go_wp2
  go_ret
  exact ⟨rfl, K1.out⟩

def ApPost (w : World) (ps : List Pr) (r : Rr) (e : Ending) (w' : World) : Prop := ∃ ao' c' ko kc, e = .returned (.tuple #[.slice ao' ps.length c', rrV r ko kc]) ∧ OwnP w.heap.size w' ao' c' ps ∧ OwnK w.heap.size w' ko kc r.ks ∧ Kept Nil w w'
theorem Kept.under {a w w' : World} {b : Nat} (h : Kept Nil a w) (k : Kept (One b) w w') (hb : a.heap.size ≤ b) : Kept Nil a w' :=
  ⟨k.os.trans h.os, k.tape.trans h.tape, k.output.trans h.output, Nat.le_trans h.size k.size, fun q o ho hx => k.block q o (h.block q o ho hx) (fun e => by
    have h1 := lt_of_block ho
    have h2 : q = b := e
    omega)⟩
theorem OwnP.keptB {B b c : Nat} {w w' : World} {ao : Option Addr} {ps : List Pr} (h : OwnP B w ao c ps) (hk : Kept (One b) w w') (hne : ∀ a, ao = some a → a.block ≠ b) : OwnP B w' ao c ps := by
  refine ⟨h.1, h.2.imp id ?_⟩
  rintro ⟨g, cap, cur, h1, h2, h3, h4⟩
  refine ⟨g, cap, cur, h1, h2, hk.block _ _ h3 (fun e => ?_), h4⟩
  simp only [Value.slice.injEq] at h1
  exact hne _ h1.1 e
theorem ApPost.drew {w w' : World} {ps : List Pr} {r : Rr} {e : Ending} (h : ApPost w ps r e w') : ApPost w ps r e w'.drew := by
  obtain ⟨a, b, c, d, h1, h2, h3, h4⟩ := h
  exact ⟨a, b, c, d, h1, h2.kept (Kept.refl _ _).drew, h3.kept (Kept.refl _ _).drew, h4.drew⟩
end Go.Proofs.YtflnjlbafchnaaaGreatDoor

/-
  kv: rows of commands; what a command leaves is small; rows that others leave alone.
-/
namespace Go.Proofs.YtflnjlbafchnaaaGreatDoor
open Go.RowKit

/-- A command. -/
structure Cm where
  kd : Int
  k : List UInt8
  v : List UInt8
  m : Int
/-- A row of commands that lies below block B. -/
def CmRow (B : Nat) (w : World) (ao : Option Addr) (cs : List Cm) : Prop := ∀ j, (hj : j < cs.length) → ∃ a, ao = some a ∧ a.block < B ∧ w.cell? (a.add (j * 4)) = some (.int .i64 cs[j].kd) ∧ w.cell? ⟨(a.add (j * 4)).block, (a.add (j * 4)).off + 1, none⟩ = some (.string (bs cs[j].k)) ∧ w.cell? ⟨(a.add (j * 4)).block, (a.add (j * 4)).off + 2, none⟩ = some (.string (bs cs[j].v)) ∧ w.cell? ⟨(a.add (j * 4)).block, (a.add (j * 4)).off + 3, none⟩ = some (.int .i64 cs[j].m) ∧ cs[j].k.length ≤ maxLen ∧ cs[j].v.length ≤ maxLen
theorem CmRow.nil {B : Nat} {w w' : World} {ao : Option Addr} {cs : List Cm} (h : CmRow B w ao cs) (hk : Kept Nil w w') : CmRow B w' ao cs := fun j hj => by
  obtain ⟨a, ha, hb, c0, c1, c2, c3, l1, l2⟩ := h j hj
  exact ⟨a, ha, hb, cell_kept hk (fun _ x => x) c0, cell_kept hk (fun _ x => x) c1, cell_kept hk (fun _ x => x) c2, cell_kept hk (fun _ x => x) c3, l1, l2⟩
theorem OwnK.row {B c : Nat} {w : World} {ao : Option Addr} {ks : List (List UInt8)} (h : OwnK B w ao c ks) (hs : ∀ x ∈ ks, x.length ≤ maxLen) : StrRow w.heap.size w ao ks := fun j hj => by
  rcases h.2 with ⟨h1, _⟩ | ⟨g, cap, cur, hv, hb, hh, h1, h2, h3, h4⟩
  · simp at h1
    rw [h1.2.1] at hj
    simp at hj
  · simp only [Value.slice.injEq] at hv
    obtain ⟨rfl, _, _⟩ := hv
    refine ⟨_, rfl, lt_of_block hh, ?_, hs _ (List.getElem_mem hj)⟩
    rw [addr_addE, blk_cell hh]
    have := congrArg (fun l => l[j]?) h4
    simp only [List.getElem?_take, if_pos (show j < ks.length * 1 by omega), Array.getElem?_toList] at this
    rw [this]
    simp [kyCells, hj]
theorem PairRow.wide {B B' : Nat} {w : World} {ao : Option Addr} {ps : List Pr} (h : PairRow B w ao ps) (hb : B ≤ B') : PairRow B' w ao ps := fun j hj => by
  obtain ⟨a, h1, h2, h3⟩ := h j hj
  exact ⟨a, h1, Nat.lt_of_lt_of_le h2 hb, h3⟩
theorem CmRow.wide {B B' : Nat} {w : World} {ao : Option Addr} {ps : List Cm} (h : CmRow B w ao ps) (hb : B ≤ B') : CmRow B' w ao ps := fun j hj => by
  obtain ⟨a, h1, h2, h3⟩ := h j hj
  exact ⟨a, h1, Nat.lt_of_lt_of_le h2 hb, h3⟩
theorem OwnK.neRes {B c pr : Nat} {w : World} {ko : Option Addr} {ks : List (List UInt8)} {cs : Array Value} (h : OwnK B w ko c ks) (HN : w.heap[pr]? = some (.cells cs 50 (0, 0))) : (Value.slice ko ks.length c).ownBlock ≠ some pr := fun e => by
  rcases h.2 with ⟨hv, _⟩ | ⟨g, cap, cur, hv, hb, hh, _⟩
  · rw [hv] at e; simp [Value.ownBlock] at e
  · rw [hv] at e
    simp [Value.ownBlock] at e
    subst e
    rw [hh] at HN
    simp at HN
end Go.Proofs.YtflnjlbafchnaaaGreatDoor

/-
  Pairs and commands that are handed in: what the form says of them.
-/
namespace Go.Proofs.YtflnjlbafchnaaaGreatDoor
open Go.ChangeShapes Go.WideShapes Go.ChangeAt Go.RowKit
open Go.ChangeMaps (open_string shut_string)

theorem Tryz.ownE : ownKnob Tryz.prog.godebug = none := by kernel_rfl
theorem Tryz.laidOutE : laidOutB Tryz.prog = true := by kernel_rfl
theorem Tryz.cellsIntE : Tryz.prog.cellsOf 3 = 1 := by kernel_rfl
theorem Tryz.cellsStrE : Tryz.prog.cellsOf 9 = 1 := by kernel_rfl
theorem Tryz.cellsCmE : Tryz.prog.cellsOf 31 = 4 := by kernel_rfl
theorem list4 {α : Type} {cs : List α} (h : cs.length = 4) : ∃ a b c d, cs = [a, b, c, d] := by
  match cs, h with
  | [a, b, c, d], _ => exact ⟨a, b, c, d, rfl⟩
theorem add_pos (a : Addr) {i : Nat} (h : 0 < i) : a.add i = ⟨a.block, a.off + i, none⟩ := by unfold Addr.add; rw [if_neg (by omega)]
theorem add_zero (a : Addr) : a.add 0 = a := rfl
instance : Inhabited Pr := ⟨⟨[], [], 0⟩⟩
instance : Inhabited Cm := ⟨⟨0, [], [], 0⟩⟩

section
variable {H : Type} {enc : TypeId × Value → H} {W : World} {fuel : Nat} {v : Value} {y : DataW H × List MemPlace}

end
end Go.Proofs.YtflnjlbafchnaaaGreatDoor
