/-
  Joined: WSe2, WSe3, WSe4, WSe5, WSe6, WSe7, WKv7, WKv8, WKv11, WKv12, WSe9, WSeA, WKvC, WSeB, WSe8, WSe8g, WSe8z, WSeC, WSeD, WSeE, WReq1, WReq2, WSeF, WSx1.
-/
import Derived.Test.YtbfleeilpccmcaaWOld
import Derived.Deep.DeepCutAuto
import Derived.BigQuiet
import Derived.Shelf.Spec.SlicesInsertGrow
import Derived.Deep.RegionLaw
import Derived.Deep.QuietTactic
import Derived.RegionCalls
import Derived.Deep.RegionWith
/-
  Sessions: own.Table: a table in memory of its own.
-/
namespace Go.Proofs.Ytbfleeilpccmcaa
open Go.RowKit

/-- Keys of one's own, of each session. -/
def OwnKs (B : Nat) (w : World) (es : List Se) : Prop := ∀ e ∈ es, OwnK B w e.ao e.c e.s.ks
theorem OwnKs.kept {B : Nat} {w w' : World} {es : List Se} (h : OwnKs B w es) (hk : Kept Nil w w') : OwnKs B w' es := fun e he => (h e he).kept hk
/-- Between the rounds: the first k have keys of their own, the others are as they were. -/
structure Half (B : Nat) (w : World) (k : Nat) (es xs : List Se) : Prop where
  len : xs.length = es.length
  same : xs.map Se.s = es.map Se.s
  own : ∀ j, (hj : j < xs.length) → j < k → OwnK B w xs[j].ao xs[j].c xs[j].s.ks
  rest : xs.drop k = es.drop k
theorem Half.zero {B : Nat} {w : World} {es : List Se} : Half B w 0 es es := ⟨rfl, rfl, fun _ _ h => absurd h (Nat.not_lt_zero _), rfl⟩
theorem Half.kept {B k : Nat} {w w' : World} {es xs : List Se} (h : Half B w k es xs) (hk : Kept Nil w w') : Half B w' k es xs := ⟨h.len, h.same, fun j hj hjk => (h.own j hj hjk).kept hk, h.rest⟩
theorem Half.at {B k : Nat} {w : World} {es xs : List Se} (h : Half B w k es xs) (hk : k < es.length) : xs[k]'(by rw [h.len]; exact hk) = es[k] := by
  have h1 := h.rest
  rw [List.drop_eq_getElem_cons (by rw [h.len]; exact hk), List.drop_eq_getElem_cons hk] at h1
  exact (List.cons.inj h1).1
theorem Half.next {B k : Nat} {w w' : World} {es xs : List Se} (h : Half B w k es xs) (hk : k < es.length) {ao : Option Addr} {c : Nat} (ho : OwnK B w' ao c es[k].s.ks) (hw : ∀ (a : Option Addr) (d : Nat) (l : List (List UInt8)), OwnK B w a d l → OwnK B w' a d l) : Half B w' (k + 1) es (xs.set k ⟨es[k].s, ao, c⟩) := by
  have hkx : k < xs.length := by rw [h.len]; exact hk
  refine ⟨by rw [List.length_set, h.len], ?_, fun j hj hjk => ?_, ?_⟩
  · rw [List.map_set]
    apply List.ext_getElem?
    intro j
    rw [List.getElem?_set]
    split
    · rename_i e
      subst e
      rw [if_pos (by rw [List.length_map]; exact hkx), List.getElem?_map, List.getElem?_eq_getElem hk]
      rfl
    · rw [h.same]
  · by_cases e : k = j
    · subst e
      rw [List.getElem_set_self]
      exact ho
    · rw [List.getElem_set_ne e]
      exact hw _ _ _ (h.own j (by rw [List.length_set] at hj; exact hj) (by omega))
  · rw [List.drop_set_of_lt (by omega)]
    have h1 := h.rest
    rw [List.drop_eq_getElem_cons hkx, List.drop_eq_getElem_cons hk] at h1
    exact (List.cons.inj h1).2
theorem Half.all {B : Nat} {w : World} {es xs : List Se} (h : Half B w es.length es xs) : OwnKs B w xs := fun e he => by
  obtain ⟨j, hj, rfl⟩ := List.getElem_of_mem he
  exact h.own j hj (by rw [← h.len]; exact hj)

theorem own_neTyS {B size n b : Nat} {e t : TypeId} {w : World} {v : Value} {xs : List Value} {cs : Array Value} (h : w.ownsRow B e size v n xs) (hb : w.heap[b]? = some (.cells cs t (0, 0))) (hne : e ≠ t) : v.ownBlock ≠ some b := fun ee => by
  rcases h.2 with ⟨hv, _⟩ | ⟨g, cap, cur, hv, _, hh, _⟩
  · rw [hv] at ee; simp [Value.ownBlock] at ee
  · rw [hv] at ee
    simp [Value.ownBlock] at ee
    subst ee
    rw [hh] at hb
    simp at hb
    exact hne hb.2
end Go.Proofs.Ytbfleeilpccmcaa

/-
  Sessions: slices.IndexFunc and slices.DeleteFunc, over any closure with one captured value.
-/
namespace Go.Proofs.Ytbfleeilpccmcaa
open Go.RowKit

/-- A session as a value. -/
def seV (e : Se) : Value := .agg #[.int .i64 e.s.cl, .int .i64 e.s.ls, .int .i64 e.s.kd, .string (bs e.s.val), .int .i64 e.s.ver, .slice e.ao e.s.ks.length e.c, .int .i64 e.s.sn]
def plcE (p : Se → Bool) (fs : List Se) : Int := if fs.findIdx p < fs.length then (fs.findIdx p : Int) else -1
theorem plcE_hit {p : Se → Bool} {fs : List Se} {k : Nat} (hk : k < fs.length) (hp : p fs[k] = true) (hn : ∀ j, (hj : j < fs.length) → j < k → p fs[j] = false) : plcE p fs = k := by
  have : fs.findIdx p = k := (List.findIdx_eq hk).2 ⟨hp, fun j hj => hn j (by omega) hj⟩
  unfold plcE
  rw [this, if_pos hk]
theorem plcE_miss {p : Se → Bool} {fs : List Se} (hn : ∀ j, (hj : j < fs.length) → p fs[j] = false) : plcE p fs = -1 := by
  have : fs.findIdx p = fs.length := List.findIdx_eq_length.2 (fun x hx => by
    obtain ⟨j, hj, rfl⟩ := List.getElem_of_mem hx
    exact hn j hj)
  unfold plcE
  rw [this, if_neg (by omega)]
theorem plcE_cases (p : Se → Bool) (fs : List Se) : (plcE p fs = -1 ∧ ∀ f ∈ fs, p f = false) ∨ ∃ k, ∃ hk : k < fs.length, plcE p fs = (k : Int) ∧ p fs[k] = true ∧ ∀ j, (hj : j < fs.length) → j < k → p fs[j] = false := by
  by_cases h : fs.findIdx p < fs.length
  · refine .inr ⟨fs.findIdx p, h, by unfold plcE; rw [if_pos h], List.findIdx_getElem (w := h), fun j hj hlt => ?_⟩
    have := List.not_of_lt_findIdx hlt
    simpa using this
  · refine .inl ⟨by unfold plcE; rw [if_neg h], fun f hf => ?_⟩
    have e : fs.findIdx p = fs.length := by have := List.findIdx_le_length (p := p) (xs := fs); omega
    have := List.findIdx_eq_length.1 e f hf
    simpa using this
/-- The block that a row begins in. -/
def BlkE (ao : Option Addr) (k : Nat) (_ : Obj) : Prop := ∃ a, ao = some a ∧ a.block = k
theorem kept_blkE {g i : Nat} {w X : World} (h : Kept (BlkE (some ⟨g, 0, none⟩)) w X) (u : Value) : Kept (BlkE (some ⟨g, 0, none⟩)) w (X.setCell ⟨g, i, none⟩ u) := h.setCell (p := ⟨g, i, none⟩) (fun _ => ⟨⟨g, 0, none⟩, rfl, rfl⟩) u
theorem kept_blksE {g o : Nat} {w X : World} (h : Kept (BlkE (some ⟨g, 0, none⟩)) w X) (vs : List Value) : Kept (BlkE (some ⟨g, 0, none⟩)) w (X.setCells g o vs) := by
  have hg : X.grownBy (X.setCells g o vs) (some g) := grownBy_setCellsK g _ _ (grown_reflK _ _)
  refine h.trans ⟨hg.os, hg.tape, hg.output, hg.size, fun k ob ho hx => ?_⟩
  rw [hg.block k (lt_of_block ho) (fun e => hx ⟨⟨g, 0, none⟩, rfl, by cases e; rfl⟩)]
  exact ho
theorem filter_startE {p : Se → Bool} {fs : List Se} {k : Nat} (hk : k < fs.length) (ht : p fs[k] = true) (hn : ∀ j, (hj : j < fs.length) → j < k → p fs[j] = false) : fs.take k = (fs.take (k + 1)).filter fun f => !p f := by
  have e1 : [fs[k]].filter (fun f => !p f) = [] := by simp [ht]
  have e2 : (fs.take k).filter (fun f => !p f) = fs.take k := List.filter_eq_self.2 fun f hf => by
    obtain ⟨j, hj, rfl⟩ := List.getElem_of_mem hf
    rw [List.length_take] at hj
    rw [List.getElem_take, hn j (by omega) (by omega)]
    rfl
  rw [List.take_succ_eq_append_getElem hk, List.filter_append, e1, e2, List.append_nil]
theorem zeroSe_one (n : Nat) : ∀ v ∈ (Builtin.zeroCells (Value.cells (.agg #[.int .i64 0, .int .i64 0, .int .i64 0, .string ⟨#[]⟩, .int .i64 0, .slice none 0 0, .int .i64 0])) n).toList, v.oneCell' = true := fun v hv => by
  obtain ⟨i, hi, rfl⟩ := List.getElem_of_mem hv
  simp [Builtin.zeroCells, Value.cells]
  have : i % 7 = 0 ∨ i % 7 = 1 ∨ i % 7 = 2 ∨ i % 7 = 3 ∨ i % 7 = 4 ∨ i % 7 = 5 ∨ i % 7 = 6 := by omega
  rcases this with e | e | e | e | e | e | e <;> rw [e] <;> rfl
theorem zeroSe_len (n : Nat) : (Builtin.zeroCells (Value.cells (.agg #[.int .i64 0, .int .i64 0, .int .i64 0, .string ⟨#[]⟩, .int .i64 0, .slice none 0 0, .int .i64 0])) n).toList.length = n * 7 := by simp [Builtin.zeroCells, Value.cells]
def zsE (n : Nat) : List Value := (Builtin.zeroCells (Value.cells (.agg #[.int .i64 0, .int .i64 0, .int .i64 0, .string ⟨#[]⟩, .int .i64 0, .slice none 0 0, .int .i64 0])) n).toList
theorem SeRow.at7 {B j : Nat} {w : World} {ao : Option Addr} {es : List Se} (h : SeRow B w ao es) (hj : j < es.length) : ∃ a, ao = some a ∧ w.cell? (a.add (j * 7)) = some (.int .i64 es[j].s.cl) ∧ w.cell? ⟨(a.add (j * 7)).block, (a.add (j * 7)).off + 1, none⟩ = some (.int .i64 es[j].s.ls) ∧ w.cell? ⟨(a.add (j * 7)).block, (a.add (j * 7)).off + 2, none⟩ = some (.int .i64 es[j].s.kd) ∧ w.cell? ⟨(a.add (j * 7)).block, (a.add (j * 7)).off + 3, none⟩ = some (.string (bs es[j].s.val)) ∧ w.cell? ⟨(a.add (j * 7)).block, (a.add (j * 7)).off + 4, none⟩ = some (.int .i64 es[j].s.ver) ∧ w.cell? ⟨(a.add (j * 7)).block, (a.add (j * 7)).off + 5, none⟩ = some (.slice es[j].ao es[j].s.ks.length es[j].c) ∧ w.cell? ⟨(a.add (j * 7)).block, (a.add (j * 7)).off + 6, none⟩ = some (.int .i64 es[j].s.sn) := by
  obtain ⟨a, ha, _, hc, _⟩ := h j hj
  have e : ∀ r, 0 < r → a.add (j * 7 + r) = ⟨(a.add (j * 7)).block, (a.add (j * 7)).off + r, none⟩ := fun r hr => by
    rw [← addr_add2]
    exact add_posE _ hr
  refine ⟨a, ha, hc 0 _ rfl, ?_, ?_, ?_, ?_, ?_, ?_⟩
  · rw [← e 1 (by omega)]; exact hc 1 _ rfl
  · rw [← e 2 (by omega)]; exact hc 2 _ rfl
  · rw [← e 3 (by omega)]; exact hc 3 _ rfl
  · rw [← e 4 (by omega)]; exact hc 4 _ rfl
  · rw [← e 5 (by omega)]; exact hc 5 _ rfl
  · rw [← e 6 (by omega)]; exact hc 6 _ rfl

end Go.Proofs.Ytbfleeilpccmcaa

/-
  Sessions: a client's place; who was seen least lately; the closures.
-/
namespace Go.Proofs.Ytbfleeilpccmcaa
open Go.RowKit

def cmpI (x y : Int) : Int := if x < y then -1 else if y < x then 1 else 0
theorem cmpI_lt (x y : Int) : cmpI x y < 0 ↔ x < y := by
  unfold cmpI
  split
  · omega
  · split <;> omega
theorem cmpI_eq (x y : Int) : cmpI x y = 0 ↔ x = y := by
  unfold cmpI
  split
  · omega
  · split <;> omega
/-- Was it seen too long ago? -/
def lateP (tm : Int) (e : Se) : Bool := decide (wrap64 (e.s.sn + 400) < tm)
/-! ### a client's place -/
def SrtE (es : List Se) : Prop := es.Pairwise fun a b => a.s.cl < b.s.cl
def lowE (cl : Int) (es : List Se) : Nat := es.findIdx fun e => decide (cl ≤ e.s.cl)
def isE (cl : Int) (es : List Se) : Bool := match es[lowE cl es]? with | none => false | some e => decide (e.s.cl = cl)
theorem lowE_eq {cl : Int} {es : List Se} {i : Nat} (hi : i ≤ es.length) (h1 : ∀ j, (hj : j < es.length) → j < i → es[j].s.cl < cl) (h2 : ∀ j, (hj : j < es.length) → i ≤ j → cl ≤ es[j].s.cl) : lowE cl es = i := by
  unfold lowE
  by_cases h : i < es.length
  · exact (List.findIdx_eq h).2 ⟨decide_eq_true (h2 i h (Nat.le_refl _)), fun j hj => decide_eq_false (by have := h1 j (by omega) hj; omega)⟩
  · have e : i = es.length := by omega
    subst e
    exact List.findIdx_eq_length.2 (fun x hx => by
      obtain ⟨j, hj, rfl⟩ := List.getElem_of_mem hx
      have := h1 j hj hj
      exact decide_eq_false (by omega))
end Go.Proofs.Ytbfleeilpccmcaa

/-
  Sessions: a ledger in memory; time goes on.
-/
namespace Go.Proofs.Ytbfleeilpccmcaa
open Go.RowKit

theorem own_keptT {X : Nat → Obj → Prop} {B size n : Nat} {e : TypeId} {w w' : World} {v : Value} {xs : List Value} (h : w.ownsRow B e size v n xs) (hk : Kept X w w') (hX : ∀ k cs, B ≤ k → w.heap[k]? = some (.cells cs e (0, 0)) → ¬ X k (.cells cs e (0, 0))) : w'.ownsRow B e size v n xs := by
  refine ⟨h.1, h.2.imp id ?_⟩
  rintro ⟨g, cap, cur, h1, h2, h3, h4⟩
  exact ⟨g, cap, cur, h1, h2, hk.block _ _ h3 (hX _ _ h2 h3), h4⟩
def lateTm (tm t2 : Int) : Int := max tm t2
end Go.Proofs.Ytbfleeilpccmcaa

/-
  Sessions: where a client stands; the one seen least lately; room for one more.
-/
namespace Go.Proofs.Ytbfleeilpccmcaa
open Go.RowKit

def minFrom (m : Se) : List Se → Se
  | [] => m
  | e :: t => minFrom (if e.s.sn < m.s.sn then e else m) t
def oldE : List Se → Int
  | [] => 0
  | e :: t => (minFrom e t).s.cl
end Go.Proofs.Ytbfleeilpccmcaa

/-
  Sessions: room for one more.
-/
namespace Go.Proofs.Ytbfleeilpccmcaa
open Go.RowKit

def roomE (es : List Se) : List Se := if es.length < 8 then es else es.filter fun f => !decide (f.s.cl = oldE es)
theorem oldE_is {es : List Se} (h0 : 0 < es.length) : oldE es = (minFrom es[0] (es.drop 1)).s.cl := by
  cases es with
  | nil => simp at h0
  | cons e t => rfl

end Go.Proofs.Ytbfleeilpccmcaa

/-
  kv: put.
-/
namespace Go.Proofs.Ytbfleeilpccmcaa
open Go.RowKit

end Go.Proofs.Ytbfleeilpccmcaa

/-
  kv: a pair goes.
-/
namespace Go.Proofs.Ytbfleeilpccmcaa
open Go.RowKit

def dropP (n : Int) (i : Nat) (ps : List Pr) : List Pr := if n = 0 then ps else delP i ps
def dropR (n : Int) : Value := if n = 0 then resV 2 [] 0 else resV 1 [] n
end Go.Proofs.Ytbfleeilpccmcaa

/-
  kv: swap and do.
-/
namespace Go.Proofs.Ytbfleeilpccmcaa
open Go.RowKit

/-- A result. -/
structure Rr where
  kd : Int
  v : List UInt8
  n : Int
  ks : List (List UInt8)
def rrV (r : Rr) (ko : Option Addr) (kc : Nat) : Value := .agg #[.int .i64 r.kd, .string (bs r.v), .int .i64 r.n, .slice ko r.ks.length kc]
def putRr (x : List UInt8) (n : Int) (len : Nat) : Rr := if roomB len n x = false then ⟨4, [], 0, []⟩ else ⟨1, [], n + 1, []⟩
def tellRr (kd : Int) (v : List UInt8) (n : Int) : Rr := if n = 0 then ⟨2, [], 0, []⟩ else ⟨kd, v, n, []⟩
def dropRr (n : Int) : Rr := if n = 0 then ⟨2, [], 0, []⟩ else ⟨1, [], n, []⟩
def swapP (key val : List UInt8) (m n : Int) (i : Nat) (ps : List Pr) : List Pr := if n = m then putP key val n i ps else ps
def swapRr (val v : List UInt8) (m n : Int) (len : Nat) : Rr := if n = m then putRr val n len else tellRr 3 v n
theorem putR_is (x : List UInt8) (n : Int) (len : Nat) : putR x n len = rrV (putRr x n len) none 0 ∧ (putRr x n len).ks = [] := by unfold putR putRr; split <;> exact ⟨rfl, rfl⟩
theorem tellR_is (kd : Int) (v : List UInt8) (n : Int) : (if n = 0 then resV 2 [] 0 else resV kd v n) = rrV (tellRr kd v n) none 0 ∧ (tellRr kd v n).ks = [] := by unfold tellRr; split <;> exact ⟨rfl, rfl⟩
theorem dropR_is (n : Int) : dropR n = rrV (dropRr n) none 0 ∧ (dropRr n).ks = [] := by unfold dropR dropRr; split <;> exact ⟨rfl, rfl⟩
theorem OwnK.nil (B : Nat) (w : World) : OwnK B w none 0 [] := World.ownsRow_nil _ _ _ _
theorem ownK_of_nil {B : Nat} {w : World} {ks : List (List UInt8)} (h : ks = []) : OwnK B w none 0 ks := by rw [h]; exact OwnK.nil B w
/-- What a command makes of the pairs. -/
def doP (kd : Int) (key val : List UInt8) (m : Int) (v : List UInt8) (n : Int) (i : Nat) (ps : List Pr) : List Pr := if kd = 1 then putP key val n i ps else if kd = 2 then ps else if kd = 3 then dropP n i ps else if kd = 4 then swapP key val m n i ps else if kd = 5 then putP key (v ++ val) n i ps else ps
def doR (kd : Int) (key val : List UInt8) (m : Int) (v : List UInt8) (n : Int) (i : Nat) (ps : List Pr) : Rr := if kd = 1 then putRr val n ps.length else if kd = 2 then tellRr 1 v n else if kd = 3 then dropRr n else if kd = 4 then swapRr val v m n ps.length else if kd = 5 then putRr (v ++ val) n ps.length else ⟨1, [], 0, (listP key m (ps.drop i)).map Pr.k⟩
end Go.Proofs.Ytbfleeilpccmcaa

/-
  kv: Apply.
-/
namespace Go.Proofs.Ytbfleeilpccmcaa
open Go.RowKit

/-- What a command makes of pairs, whatever they are. -/
def apP (kd : Int) (ck val : List UInt8) (m : Int) (ps : List Pr) : List Pr := if (pairsOk ps && isCmd kd ck val m) = true then doP kd ck val m (spotV ck ps) (spotN ck ps) (lowP ck ps) ps else ps
def apR (kd : Int) (ck val : List UInt8) (m : Int) (ps : List Pr) : Rr := if (pairsOk ps && isCmd kd ck val m) = true then doR kd ck val m (spotV ck ps) (spotN ck ps) (lowP ck ps) ps else ⟨5, [], 0, []⟩
theorem pairs_ok {ps : List Pr} (h : pairsOk ps = true) : ps.length ≤ 32 ∧ Srt ps ∧ ∀ p ∈ ps, prOk p = true := by
  unfold pairsOk at h
  simp only [Bool.and_eq_true, decide_eq_true_eq] at h
  exact ⟨h.1, (rise_srt h.2).1, (rise_srt h.2).2.1⟩
theorem prOk_iff {p : Pr} (h : prOk p = true) : p.k ≠ [] ∧ p.k.length ≤ 16 ∧ p.v.length ≤ 64 ∧ 1 ≤ p.n ∧ p.n ≤ 1099511627775 := by
  unfold prOk isCnt at h
  simp at h
  exact ⟨h.1.1.1, h.1.1.2, h.1.2, by omega, by omega⟩
theorem spot_ok {ps : List Pr} (h : pairsOk ps = true) (key : List UInt8) : 0 ≤ spotN key ps ∧ (spotN key ps ≠ 0 ↔ isThere key ps = true) ∧ (spotN key ps ≠ 0 → lowP key ps < ps.length) ∧ (spotV key ps).length ≤ 64 := by
  obtain ⟨_, _, h3⟩ := pairs_ok h
  cases ht : isThere key ps with
  | true =>
    obtain ⟨hl, _, e2, e3⟩ := there_at ht
    obtain ⟨_, _, g1, g2, _⟩ := prOk_iff (h3 _ (List.getElem_mem hl))
    rw [e2, e3]
    exact ⟨by omega, ⟨fun _ => rfl, fun _ => by omega⟩, fun _ => hl, g1⟩
  | false =>
    have e1 : spotV key ps = [] := by unfold spotV; rw [ht]; simp
    have e2 : spotN key ps = 0 := by unfold spotN; rw [ht]; simp
    rw [e1, e2]
    exact ⟨by omega, ⟨fun x => absurd rfl x, fun x => by cases x⟩, fun x => absurd rfl x, by simp⟩
theorem isCmd_val {kd m : Int} {ck val : List UInt8} (h : isCmd kd ck val m = true) : val.length ≤ 64 ∧ 0 ≤ m := by
  unfold isCmd isNum at h
  simp at h
  exact ⟨h.1.1.2, by omega⟩
theorem Kept.under {a w w' : World} {b : Nat} (h : Kept Nil a w) (k : Kept (One b) w w') (hb : a.heap.size ≤ b) : Kept Nil a w' :=
  ⟨k.os.trans h.os, k.tape.trans h.tape, k.output.trans h.output, Nat.le_trans h.size k.size, fun q o ho hx => k.block q o (h.block q o ho hx) (fun e => by
    have h1 := lt_of_block ho
    have h2 : q = b := e
    omega)⟩
end Go.Proofs.Ytbfleeilpccmcaa

/-
  Sessions: one session of a ledger put.
-/
namespace Go.Proofs.Ytbfleeilpccmcaa
open Go.RowKit

theorem seCells_put (es : List Se) (k r : Nat) (hk : k < es.length) (hr : r < 7) (x : Se) (u : Value) (hu : (seCell x)[r]? = some u) (hs : ∀ r', r' ≠ r → (seCell x)[r']? = (seCell es[k])[r']?) : (seCells es).set (k * 7 + r) u = seCells (es.set k x) := by
  apply List.ext_getElem?
  intro j
  have hkx : k < (es.set k x).length := by rw [List.length_set]; exact hk
  by_cases hj : j < es.length * 7
  · have hd : j = j / 7 * 7 + j % 7 := by omega
    have hq : j / 7 < es.length := by omega
    have hq2 : j / 7 < (es.set k x).length := by rw [List.length_set]; exact hq
    rw [List.getElem?_set, hd, seCells_at (es.set k x) (j / 7) (j % 7) hq2 (by omega)]
    by_cases hqk : k = j / 7
    · have e1 : (es.set k x)[j / 7] = x := by
        rw [List.getElem_set, if_pos hqk]
      rw [e1]
      by_cases hrr : r = j % 7
      · rw [if_pos (by omega), if_pos (by rw [seCells_len]; omega), ← hrr, hu]
      · rw [if_neg (by omega), seCells_at es (j / 7) (j % 7) hq (by omega), hs (j % 7) (fun e => hrr e.symm)]
        subst hqk
        rfl
    · have e1 : (es.set k x)[j / 7] = es[j / 7] := by rw [List.getElem_set, if_neg hqk]
      rw [e1, if_neg (by omega), seCells_at es (j / 7) (j % 7) hq (by omega)]
  · rw [List.getElem?_eq_none (by rw [List.length_set, seCells_len]; omega), List.getElem?_eq_none (by rw [seCells_len, List.length_set]; omega)]
end Go.Proofs.Ytbfleeilpccmcaa

/-
  Sessions: a client is served: what comes of it.
-/
namespace Go.Proofs.Ytbfleeilpccmcaa
open Go.RowKit

def lowS (cl : Int) (ss : List Ss) : Nat := ss.findIdx fun e => decide (cl ≤ e.cl)
def isS (cl : Int) (ss : List Ss) : Bool := match ss[lowS cl ss]? with | none => false | some e => decide (e.cl = cl)
theorem lowE_map (cl : Int) (es : List Se) : lowE cl es = lowS cl (es.map Se.s) := by
  unfold lowE lowS
  rw [List.findIdx_map]
  rfl
theorem isE_map (cl : Int) (es : List Se) : isE cl es = isS cl (es.map Se.s) := by
  unfold isE isS
  rw [lowE_map, List.getElem?_map]
  cases es[lowS cl (es.map Se.s)]? <;> rfl
theorem isE_at {cl : Int} {es : List Se} (h : isE cl es = true) : ∃ hl : lowE cl es < es.length, es[lowE cl es].s.cl = cl := by
  unfold isE at h
  by_cases hl : lowE cl es < es.length
  · rw [List.getElem?_eq_getElem hl] at h
    exact ⟨hl, by simpa using h⟩
  · rw [List.getElem?_eq_none (by omega)] at h
    cases h
/-- What is said without keys. -/
def rr0 (k : Int) : Rr := ⟨k, [], 0, []⟩
/-- A request is served: the pairs, the sessions, the answer. -/
def servT (ps : List Pr) (ss : List Ss) (tm cl nu kd : Int) (key val : List UInt8) (m : Int) : List Pr × List Ss × Rr :=
  if isS cl ss = false then (ps, ss, rr0 8) else
  match ss[lowS cl ss]? with
  | none => (ps, ss, rr0 8)
  | some s =>
    if nu < s.ls ∨ nu < 1 then (ps, ss.set (lowS cl ss) { s with sn := tm }, rr0 6)
    else if s.ls + 1 < nu then (ps, ss.set (lowS cl ss) { s with sn := tm }, rr0 7)
    else if s.ls < nu then (apP kd key val m ps, ss.set (lowS cl ss) { s with sn := tm, ls := nu, kd := (apR kd key val m ps).kd, val := (apR kd key val m ps).v, ver := (apR kd key val m ps).n, ks := (apR kd key val m ps).ks }, apR kd key val m ps)
    else (ps, ss.set (lowS cl ss) { s with sn := tm }, ⟨s.kd, s.val, s.ver, s.ks⟩)

end Go.Proofs.Ytbfleeilpccmcaa

/-
  kv: rows of commands; what a command leaves is small; rows that others leave alone.
-/
namespace Go.Proofs.Ytbfleeilpccmcaa
open Go.RowKit

/-- A command. -/
structure Cm where
  kd : Int
  k : List UInt8
  v : List UInt8
  m : Int
/-- A row of commands that lies below block B. -/
def CmRow (B : Nat) (w : World) (ao : Option Addr) (cs : List Cm) : Prop := ∀ j, (hj : j < cs.length) → ∃ a, ao = some a ∧ a.block < B ∧ w.cell? (a.add (j * 4)) = some (.int .i64 cs[j].kd) ∧ w.cell? ⟨(a.add (j * 4)).block, (a.add (j * 4)).off + 1, none⟩ = some (.string (bs cs[j].k)) ∧ w.cell? ⟨(a.add (j * 4)).block, (a.add (j * 4)).off + 2, none⟩ = some (.string (bs cs[j].v)) ∧ w.cell? ⟨(a.add (j * 4)).block, (a.add (j * 4)).off + 3, none⟩ = some (.int .i64 cs[j].m) ∧ cs[j].k.length ≤ maxLen ∧ cs[j].v.length ≤ maxLen
theorem CmRow.nil {B : Nat} {w w' : World} {ao : Option Addr} {cs : List Cm} (h : CmRow B w ao cs) (hk : Kept Nil w w') : CmRow B w' ao cs := fun j hj => by
  obtain ⟨a, ha, hb, c0, c1, c2, c3, l1, l2⟩ := h j hj
  exact ⟨a, ha, hb, cell_kept hk (fun _ x => x) c0, cell_kept hk (fun _ x => x) c1, cell_kept hk (fun _ x => x) c2, cell_kept hk (fun _ x => x) c3, l1, l2⟩
theorem putP_len {key x : List UInt8} {n : Int} {i : Nat} {ps : List Pr} (h : ps.length ≤ 32) (hi : i ≤ ps.length) : (putP key x n i ps).length ≤ 33 := by
  unfold putP
  split
  · omega
  · split
    · rw [insP_len hi]; omega
    · rw [List.length_set]; omega
theorem doP_len {kd m n : Int} {key val v : List UInt8} {i : Nat} {ps : List Pr} (h : ps.length ≤ 32) (hi : i ≤ ps.length) : (doP kd key val m v n i ps).length ≤ 33 := by
  unfold doP
  repeat' split
  · exact putP_len h hi
  · omega
  · unfold dropP delP
    split
    · omega
    · rw [List.length_append, List.length_take, List.length_drop]; omega
  · unfold swapP
    split
    · exact putP_len h hi
    · omega
  · exact putP_len h hi
  · omega
theorem apP_len {kd m : Int} {ck val : List UInt8} {ps : List Pr} {N : Nat} (hN : 33 ≤ N) (h : ps.length ≤ N) : (apP kd ck val m ps).length ≤ N := by
  unfold apP
  split
  · rename_i hb
    simp only [Bool.and_eq_true] at hb
    exact Nat.le_trans (doP_len (pairs_ok hb.1).1 (lowP_le ck ps)) hN
  · exact h
theorem putP_fit {key x : List UInt8} {n : Int} {i : Nat} {ps : List Pr} (h : Fit ps) (hk : key.length ≤ maxLen) : Fit (putP key x n i ps) := by
  unfold putP
  split
  · exact h
  · rename_i hr
    have hx : x.length ≤ maxLen := by
      have : roomB ps.length n x = true := by simpa using hr
      unfold roomB at this
      simp at this
      unfold maxLen
      omega
    split
    · intro p hp
      unfold insP at hp
      rcases List.mem_append.1 hp with hp | hp
      · exact h p (List.mem_of_mem_take hp)
      · rcases List.mem_cons.1 hp with rfl | hp
        · exact ⟨hk, hx⟩
        · exact h p (List.mem_of_mem_drop hp)
    · intro p hp
      rcases List.mem_or_eq_of_mem_set hp with hp | rfl
      · exact h p hp
      · exact ⟨hk, hx⟩
theorem doP_fit {kd m n : Int} {key val v : List UInt8} {i : Nat} {ps : List Pr} (h : Fit ps) (hk : key.length ≤ maxLen) : Fit (doP kd key val m v n i ps) := by
  unfold doP
  repeat' split
  · exact putP_fit h hk
  · exact h
  · unfold dropP delP
    split
    · exact h
    · intro p hp
      rcases List.mem_append.1 hp with hp | hp
      · exact h p (List.mem_of_mem_take hp)
      · exact h p (List.mem_of_mem_drop hp)
  · unfold swapP
    split
    · exact putP_fit h hk
    · exact h
  · exact putP_fit h hk
  · exact h
theorem apP_fit {kd m : Int} {ck val : List UInt8} {ps : List Pr} (h : Fit ps) (hk : ck.length ≤ maxLen) : Fit (apP kd ck val m ps) := by
  unfold apP
  split
  · exact doP_fit h hk
  · exact h
theorem apR_ks {kd m : Int} {ck val : List UInt8} {ps : List Pr} (h : Fit ps) : ((apR kd ck val m ps).ks.length ≤ 32) ∧ ∀ x ∈ (apR kd ck val m ps).ks, x.length ≤ maxLen := by
  have hput : ∀ (x : List UInt8) (n : Int), (putRr x n ps.length).ks = [] := fun x n => (putR_is x n ps.length).2
  have htell : ∀ (k : Int) (v : List UInt8) (n : Int), (tellRr k v n).ks = [] := fun k v n => (tellR_is k v n).2
  unfold apR
  split
  · rename_i hb
    simp only [Bool.and_eq_true] at hb
    have h32 := (pairs_ok hb.1).1
    unfold doR
    repeat' split
    · rw [hput]; simp
    · rw [htell]; simp
    · rw [(dropR_is _).2]; simp
    · unfold swapRr
      split
      · rw [hput]; simp
      · rw [htell]; simp
    · rw [hput]; simp
    · have hsub : ∀ p ∈ listP ck m (ps.drop (lowP ck ps)), p ∈ ps := fun p hp => by
        unfold listP at hp
        split at hp
        · exact List.mem_of_mem_drop (List.mem_of_mem_take (List.mem_of_mem_take hp))
        · exact List.mem_of_mem_drop (List.mem_of_mem_take hp)
      have hlen : (listP ck m (ps.drop (lowP ck ps))).length ≤ 32 := by
        unfold listP
        split
        · rw [List.length_take, List.length_take, List.length_drop]; omega
        · rw [List.length_take, List.length_drop]; omega
      refine ⟨by simpa using hlen, fun x hx => ?_⟩
      obtain ⟨p, hp, rfl⟩ := List.mem_map.1 hx
      exact (h p (hsub p hp)).1
  · simp
theorem OwnK.row {B c : Nat} {w : World} {ao : Option Addr} {ks : List (List UInt8)} (h : OwnK B w ao c ks) (hs : ∀ x ∈ ks, x.length ≤ maxLen) : StrRow w.heap.size w ao ks := fun j hj => by
  rcases h.2 with ⟨h1, _⟩ | ⟨g, cap, cur, hv, hb, hh, h1, h2, h3, h4⟩
  · simp at h1
    rw [h1.2.1] at hj
    simp at hj
  · simp only [Value.slice.injEq] at hv
    obtain ⟨rfl, _, _⟩ := hv
    refine ⟨_, rfl, lt_of_block hh, ?_, hs _ (List.getElem_mem hj)⟩
    rw [addr_addE, blk_cell hh]
    have := congrArg (fun l => l[j]?) h4
    simp only [List.getElem?_take, if_pos (show j < ks.length * 1 by omega), Array.getElem?_toList] at this
    rw [this]
    simp [kyCells, hj]
theorem first_ap : apP 1 [107] [118] 0 [] = [⟨[107], [118], 1⟩] ∧ apR 1 [107] [118] 0 [] = ⟨1, [], 1, []⟩ := ⟨by rfl, by rfl⟩
theorem PairRow.wide {B B' : Nat} {w : World} {ao : Option Addr} {ps : List Pr} (h : PairRow B w ao ps) (hb : B ≤ B') : PairRow B' w ao ps := fun j hj => by
  obtain ⟨a, h1, h2, h3⟩ := h j hj
  exact ⟨a, h1, Nat.lt_of_lt_of_le h2 hb, h3⟩
theorem CmRow.wide {B B' : Nat} {w : World} {ao : Option Addr} {ps : List Cm} (h : CmRow B w ao ps) (hb : B ≤ B') : CmRow B' w ao ps := fun j hj => by
  obtain ⟨a, h1, h2, h3⟩ := h j hj
  exact ⟨a, h1, Nat.lt_of_lt_of_le h2 hb, h3⟩
theorem OwnK.neRes {B c pr : Nat} {w : World} {ko : Option Addr} {ks : List (List UInt8)} {cs : Array Value} (h : OwnK B w ko c ks) (HN : w.heap[pr]? = some (.cells cs 45 (0, 0))) : (Value.slice ko ks.length c).ownBlock ≠ some pr := fun e => by
  rcases h.2 with ⟨hv, _⟩ | ⟨g, cap, cur, hv, hb, hh, _⟩
  · rw [hv] at e; simp [Value.ownBlock] at e
  · rw [hv] at e
    simp [Value.ownBlock] at e
    subst e
    rw [hh] at HN
    simp at HN
end Go.Proofs.Ytbfleeilpccmcaa

/-
  Sessions: a client is served.
-/
namespace Go.Proofs.Ytbfleeilpccmcaa
open Go.RowKit

theorem ownK_nilS {B c : Nat} {w : World} {ks : List (List UInt8)} (h : OwnK B w none c ks) : ks = [] ∧ c = 0 := by
  rcases h.2 with ⟨h1, h2⟩ | ⟨g', cap', cur, hv, _⟩
  · simp only [Value.slice.injEq] at h1
    exact ⟨List.eq_nil_of_length_eq_zero h2, h1.2.2⟩
  · simp at hv
/-- Keys that share no memory with those of the sessions. -/
def Apart (es : List Se) (ko : Option Addr) (n kc : Nat) : Prop := ∀ e ∈ es, ∀ g, (Value.slice e.ao e.s.ks.length e.c).ownBlock = some g → (Value.slice ko n kc).ownBlock ≠ some g
theorem apart_none (es : List Se) : Apart es none 0 0 := fun _ _ _ _ h => by simp [Value.ownBlock] at h
theorem apart_new {B kc : Nat} {w w' : World} {es : List Se} {ko : Option Addr} {ks : List (List UInt8)} (h : OwnKs B w es) (ho : OwnK w.heap.size w' ko kc ks) : Apart es ko ks.length kc := fun e he g hg hk => by
  have h1 := (World.ownsRow.lt (h e he) g hg).2
  have h2 := own_row ho g hk
  omega
/-
  slices.Insert of one session.
-/
namespace Go.Proofs.Ytbfleeilpccmcaa
open Go.RowKit

def insE (i : Nat) (x : Se) (ps : List Se) : List Se := ps.take i ++ x :: ps.drop i
theorem insE_len {i : Nat} {x : Se} {ps : List Se} (hi : i ≤ ps.length) : (insE i x ps).length = ps.length + 1 := by
  unfold insE
  rw [List.length_append, List.length_cons, List.length_take, List.length_drop]
  omega
theorem insE_cells {i : Nat} {x : Se} {ps : List Se} (hi : i ≤ ps.length) (j : Nat) : (seCells (insE i x ps))[j]? = if j < i * 7 then (seCells ps)[j]? else if j < i * 7 + 7 then ([.int .i64 x.s.cl, .int .i64 x.s.ls, .int .i64 x.s.kd, .string (bs x.s.val), .int .i64 x.s.ver, .slice x.ao x.s.ks.length x.c, .int .i64 x.s.sn] : List Value)[j - i * 7]? else (seCells ps)[j - 7]? := by
  have hl : (seCells (ps.take i)).length = i * 7 := by rw [seCells_len, List.length_take, Nat.min_eq_left hi]
  unfold insE
  rw [seCells_app, show seCells (x :: ps.drop i) = [.int .i64 x.s.cl, .int .i64 x.s.ls, .int .i64 x.s.kd, .string (bs x.s.val), .int .i64 x.s.ver, .slice x.ao x.s.ks.length x.c, .int .i64 x.s.sn] ++ seCells (ps.drop i) from seCells_cons x _, List.getElem?_append, hl]
  split
  · rename_i hj
    rw [seCells_take, List.getElem?_take, if_pos hj]
  · rw [List.getElem?_append]
    simp only [List.length_cons, List.length_nil]
    split
    · rename_i hj
      rw [if_pos (by omega)]
    · rename_i hj
      rw [if_neg (by omega), seCells_drop, List.getElem?_drop]
      exact congrArg (fun q => (seCells ps)[q]?) (by omega)

end Go.Proofs.Ytbfleeilpccmcaa

/-
  slices.Insert of one session, where there is no room.
-/
namespace Go.Proofs.Ytbfleeilpccmcaa
open Go.RowKit

theorem cell_drewset (w : World) (o : Obj) (b off : Nat) (vs : List Value) (y : Addr) : (((w.alloc o).drew.setCells b off vs).drew).cell? y = ((w.drew.alloc o).setCells b off vs).cell? y := by
  have h : (w.alloc o).drew = w.drew.alloc o := rfl
  rw [h]
  rfl
theorem froz_drewset (w : World) (o : Obj) (b off : Nat) (vs : List Value) (y : Addr) : (((w.alloc o).drew.setCells b off vs).drew).frozen? y = ((w.drew.alloc o).setCells b off vs).frozen? y := by
  have h : (w.alloc o).drew = w.drew.alloc o := rfl
  rw [h]
  rfl

end Go.Proofs.Ytbfleeilpccmcaa

/-
  slices.Insert of one session.
-/
namespace Go.Proofs.Ytbfleeilpccmcaa
open Go.RowKit

end Go.Proofs.Ytbfleeilpccmcaa

/-
  Sessions: a session is opened.
-/
namespace Go.Proofs.Ytbfleeilpccmcaa
open Go.RowKit

def minFromS (m : Ss) : List Ss → Ss
  | [] => m
  | e :: t => minFromS (if e.sn < m.sn then e else m) t
def oldS : List Ss → Int
  | [] => 0
  | e :: t => (minFromS e t).cl
theorem minFrom_map : ∀ (t : List Se) (m : Se), (minFrom m t).s = minFromS m.s (t.map Se.s)
  | [], m => rfl
  | e :: t, m => by
    show (minFrom (if e.s.sn < m.s.sn then e else m) t).s = minFromS (if e.s.sn < m.s.sn then e.s else m.s) (t.map Se.s)
    rw [minFrom_map t]
    congr 1
    split <;> rfl
theorem oldE_map (es : List Se) : oldE es = oldS (es.map Se.s) := by
  cases es with
  | nil => rfl
  | cons e t =>
    show (minFrom e t).s.cl = (minFromS e.s (t.map Se.s)).cl
    rw [minFrom_map]
def roomS (ss : List Ss) : List Ss := if ss.length < 8 then ss else ss.filter fun f => !decide (f.cl = oldS ss)
def newS (cl tm : Int) : Ss := ⟨cl, 0, 0, [], 0, [], tm⟩
def insS (i : Nat) (x : Ss) (ss : List Ss) : List Ss := ss.take i ++ x :: ss.drop i
theorem roomE_map (es : List Se) : (roomE es).map Se.s = roomS (es.map Se.s) := by
  unfold roomE roomS
  rw [List.length_map]
  split
  · rfl
  · rw [oldE_map, List.filter_map]
    rfl
theorem insE_map (i : Nat) (x : Se) (es : List Se) : (insE i x es).map Se.s = insS i x.s (es.map Se.s) := by
  unfold insE insS
  rw [List.map_append, List.map_cons, List.map_take, List.map_drop]
/-- A session is opened. -/
def openT (ps : List Pr) (ss : List Ss) (tm cl : Int) : List Pr × List Ss × Rr :=
  if isS cl ss = true ∨ isCnt cl = false then (ps, ss, rr0 5) else
  (ps, insS (lowS cl (roomS ss)) (newS cl tm) (roomS ss), ⟨1, [], cl, []⟩)

end Go.Proofs.Ytbfleeilpccmcaa

/-
  Sessions: a session is opened: the walk.
-/
namespace Go.Proofs.Ytbfleeilpccmcaa
open Go.RowKit

theorem room_srt {es : List Se} (h : SrtE es) : SrtE (roomE es) := by
  unfold roomE
  split
  · exact h
  · exact List.Pairwise.filter _ h
theorem room_len {es : List Se} (h : es.length ≤ 8) : (roomE es).length ≤ 8 := by
  unfold roomE
  split
  · exact h
  · exact Nat.le_trans (List.length_filter_le _ _) h
theorem grown_blkE {w w' : World} {sa : Option Addr} {n c : Nat} (h : w.grownBy w' (Value.slice sa n c).ownBlock) : Kept (BlkE sa) w w' :=
  ⟨h.os, h.tape, h.output, h.size, fun k o ho hx => by
    rw [h.block k (lt_of_block ho) (fun e => hx (by
      cases sa with
      | none => simp [Value.ownBlock] at e
      | some a => exact ⟨a, rfl, by simpa [Value.ownBlock] using e.symm⟩))]
    exact ho⟩
theorem ins_mem {i : Nat} {x e : Se} {es : List Se} (h : e ∈ insE i x es) : e ∈ es ∨ e = x := by
  unfold insE at h
  rcases List.mem_append.1 h with h | h
  · exact .inl (List.mem_of_mem_take h)
  · rcases List.mem_cons.1 h with h | h
    · exact .inr h
    · exact .inl (List.mem_of_mem_drop h)
theorem ints1o (w : World) (x : Int) : IntsAt (w.alloc (.cells #[.int .i64 x] 3)) w.heap.size [x] := by
  intro j hj
  have hj0 : j = 0 := by simp at hj; omega
  subst hj0
  exact blk_at (blk_new w (.cells #[.int .i64 x] 3)) 0 rfl

end Go.Proofs.Ytbfleeilpccmcaa

/-
  Sessions: a request is run on a ledger.
-/
namespace Go.Proofs.Ytbfleeilpccmcaa
open Go.RowKit

/-- A request is run. -/
def runT (ps : List Pr) (ss : List Ss) (tm cl nu kd : Int) (key val : List UInt8) (m ix : Int) : List Pr × List Ss × Rr := if cl = 0 then openT ps ss tm ix else servT ps ss tm cl nu kd key val m

end Go.Proofs.Ytbfleeilpccmcaa

/-
  Which requests may be, and a request written: the program's isRequest, its writer's command and request, PutRequest.
-/
namespace Go.Proofs.Ytbfleeilpccmcaa
open Go.RowKit

/-- A request, plainly. -/
structure Rq where
  cl : Int
  nm : Int
  kd : Int
  key : List UInt8
  val : List UInt8
  ifv : Int
  tm : Int
def Rq.cells (q : Rq) : Array Value := #[.int .i64 q.cl, .int .i64 q.nm, .int .i64 q.kd, .string (bs q.key), .string (bs q.val), .int .i64 q.ifv, .int .i64 q.tm]
def Rq.none (q : Rq) : Bool := decide (q.kd = 0) && q.key.isEmpty && q.val.isEmpty && decide (q.ifv = 0)
def Rq.ok (q : Rq) : Bool := isNum q.cl && isNum q.nm && isNum q.tm && (if q.cl = 0 then q.none else isCmd q.kd q.key q.val q.ifv)

def encCmd (kd : Nat) (key val : List UInt8) (ifv : Nat) : List UInt8 := enc kd ++ encText key ++ encText val ++ enc ifv
end Go.Proofs.Ytbfleeilpccmcaa

/-
  A request written: the writer's request, write, PutRequest.
-/
namespace Go.Proofs.Ytbfleeilpccmcaa
open Go.RowKit


/-- A request's bytes. -/
def encReq (cl nm kd : Nat) (key val : List UInt8) (ifv tm : Nat) : List UInt8 := encAll [cl, nm, tm] ++ (if cl = 0 then [] else encCmd kd key val ifv)

/-- What PutRequest answers. -/
def putReq (q : Rq) : List UInt8 × Int := if q.ok then (encReq q.cl.toNat q.nm.toNat q.kd.toNat q.key q.val q.ifv.toNat q.tm.toNat, 0) else ([], 5)

theorem isCmd_facts {k i : Int} {key val : List UInt8} (h : isCmd k key val i = true) : isNum k = true ∧ isNum i = true ∧ key.length ≤ 16 ∧ val.length ≤ 64 := by
  unfold isCmd at h
  simp only [Bool.and_eq_true, decide_eq_true_eq] at h
  obtain ⟨⟨⟨h1, h2⟩, h3⟩, h4⟩ := h
  refine ⟨?_, h3, h1, h2⟩
  have : k = 6 ∨ k = 2 ∨ k = 3 ∨ k = 1 ∨ k = 5 ∨ k = 4 := by
    rcases Decidable.em (k = 6 ∨ k = 2 ∨ k = 3 ∨ k = 1 ∨ k = 5 ∨ k = 4) with g | g
    · exact g
    · have n6 : k ≠ 6 := by omega
      have n2 : k ≠ 2 := by omega
      have n3 : k ≠ 3 := by omega
      have n1 : k ≠ 1 := by omega
      have n5 : k ≠ 5 := by omega
      have n4 : k ≠ 4 := by omega
      simp [n6, n2, n3, n1, n5, n4] at h4
  simp only [isNum, Bool.and_eq_true, decide_eq_true_eq]
  omega
theorem ok_facts {q : Rq} (h : q.ok = true) : isNum q.cl = true ∧ isNum q.nm = true ∧ isNum q.tm = true ∧ isNum q.kd = true ∧ isNum q.ifv = true ∧ q.key.length ≤ 16 ∧ q.val.length ≤ 64 := by
  unfold Rq.ok at h
  simp only [Bool.and_eq_true] at h
  obtain ⟨⟨⟨h1, h2⟩, h3⟩, h4⟩ := h
  split at h4
  · unfold Rq.none at h4
    simp only [Bool.and_eq_true, decide_eq_true_eq, List.isEmpty_iff] at h4
    obtain ⟨⟨⟨a, b⟩, c⟩, d⟩ := h4
    rw [a, b, c, d]
    exact ⟨h1, h2, h3, by decide, by decide, by simp, by simp⟩
  · obtain ⟨a, b, c, d⟩ := isCmd_facts h4
    exact ⟨h1, h2, h3, a, b, c, d⟩

end Go.Proofs.Ytbfleeilpccmcaa

/-
  Sessions: session.Run.
-/
namespace Go.Proofs.Ytbfleeilpccmcaa
open Go.RowKit

theorem SeRow.sess {B : Nat} {w : World} {ao : Option Addr} {es : List Se} (h : SeRow B w ao es) : SessRow B w ao (es.map Se.s) := fun j hj => by
  rw [List.length_map] at hj
  obtain ⟨a, ha, hb, _, hs, hn, l1, l2⟩ := h j hj
  obtain ⟨a', ha', c0, c1, c2, c3, c4, c5, c6⟩ := h.at7 hj
  rw [ha] at ha'
  cases ha'
  simp only [List.getElem_map]
  exact ⟨a, es[j].ao, es[j].c, ha, hb, c0, c1, c2, c3, c4, c5, c6, hs, by omega, l2⟩
theorem kRise_len : ∀ (ks : List (List UInt8)) (p : Option (List UInt8)), kRise p ks = true → ∀ k ∈ ks, k.length ≤ 16
  | [], _, _ => fun k hk => by simp at hk
  | x :: t, p, h => fun k hk => by
    unfold kRise at h
    simp only [Bool.and_eq_true, decide_eq_true_eq] at h
    rcases List.mem_cons.1 hk with rfl | hk
    · exact h.1.1
    · exact kRise_len t _ h.2 k hk
theorem sRise_ok {tm : Int} : ∀ (ss : List Ss) (p : Option Int), sRise tm p ss = true → (∀ s ∈ ss, ssOk tm s = true) ∧ (ss.Pairwise fun a b => a.cl < b.cl) ∧ ∀ q, p = some q → ∀ s ∈ ss, q < s.cl
  | [], _, _ => ⟨fun s hs => by simp at hs, List.Pairwise.nil, fun q _ s hs => by simp at hs⟩
  | x :: t, p, h => by
    unfold sRise at h
    simp only [Bool.and_eq_true] at h
    obtain ⟨h1, h2, h3⟩ := sRise_ok t (some x.cl) h.2
    have hq : ∀ q, p = some q → q < x.cl := fun q hp => by
      have h4 := h.1.2
      rw [hp] at h4
      simpa using h4
    refine ⟨fun s hs => ?_, List.pairwise_cons.2 ⟨fun s hs => h3 _ rfl s hs, h2⟩, fun q hp s hs => ?_⟩
    · rcases List.mem_cons.1 hs with rfl | hs
      · exact h.1.1
      · exact h1 s hs
    · rcases List.mem_cons.1 hs with rfl | hs
      · exact hq q hp
      · exact Int.lt_trans (hq q hp) (h3 _ rfl s hs)
theorem tab_facts {tm : Int} {ps : List Pr} {ss : List Ss} (h : tabOk tm ps ss = true) : (0 ≤ tm ∧ tm ≤ 1099511627775) ∧ pairsOk ps = true ∧ ss.length ≤ 8 ∧ (ss.Pairwise fun a b => a.cl < b.cl) ∧ ∀ s ∈ ss, (0 ≤ s.ls ∧ s.ls ≤ 1099511627775) ∧ (0 ≤ s.sn ∧ s.sn ≤ 1099511627775) ∧ s.ks.length ≤ 32 ∧ ∀ k ∈ s.ks, k.length ≤ maxLen := by
  unfold tabOk at h
  simp only [Bool.and_eq_true, decide_eq_true_eq] at h
  obtain ⟨⟨⟨h1, h2⟩, h3⟩, h4⟩ := h
  obtain ⟨g1, g2, _⟩ := sRise_ok ss none h4
  refine ⟨by simpa [isNum] using h1, h2, h3, g2, fun s hs => ?_⟩
  have h5 := g1 s hs
  unfold ssOk ssRs rsOk keysOk at h5
  simp only [Bool.and_eq_true, decide_eq_true_eq] at h5
  obtain ⟨⟨⟨_, h6, h7⟩, _⟩, _, h8, h9⟩ := h5
  exact ⟨by simpa [isNum] using h6, by simpa [isNum] using h7, h8, fun k hk => by have := kRise_len _ _ h9 k hk; unfold maxLen; omega⟩
theorem late_map {t : Int} {xs : List Se} (h : ∀ s ∈ xs.map Se.s, 0 ≤ s.sn ∧ s.sn ≤ 1099511627775) : (xs.filter fun f => !lateP t f).map Se.s = (xs.map Se.s).filter fun s => !decide (s.sn + 400 < t) := by
  rw [List.filter_map]
  congr 1
  refine List.filter_congr (fun e he => ?_)
  have h1 := h e.s (List.mem_map.2 ⟨e, he, rfl⟩)
  unfold lateP
  have h2 : wrap64 (e.s.sn + 400) = e.s.sn + 400 := by unfold wrap64; omega
  rw [h2]
  rfl
/-- What comes of a request: the pairs, the sessions, the time, the answer. -/
def sesT (ps : List Pr) (ss : List Ss) (tm cl nu kd : Int) (key val : List UInt8) (m tq ix : Int) : List Pr × List Ss × Int × Rr :=
  if (Rq.ok ⟨cl, nu, kd, key, val, m, tq⟩ && tabOk tm ps ss) = true then
    let R := runT ps (ss.filter fun s => !decide (s.sn + 400 < max tm tq)) (max tm tq) cl nu kd key val m ix
    (R.1, R.2.1, max tm tq, R.2.2)
  else (ps, ss, tm, rr0 5)
end Go.Proofs.Ytbfleeilpccmcaa

/-
  SessionExact: what the document's Run does, and that it is the same (plain).
-/
namespace Go.Proofs.Ytbfleeilpccmcaa
open Go.RowKit

def SrtS (ss : List Ss) : Prop := ss.Pairwise fun a b => a.cl < b.cl
/-- The document's way to put a session among others, of which some stay. -/
def goIn (cl : Int) (x : Ss) : Bool → List (Ss × Bool) → List Ss
  | done, [] => if done = true then [] else [x]
  | done, (s, k) :: t => (if done = false ∧ cl < s.cl then [x] else []) ++ (if k = true then [s] else []) ++ goIn cl x (done || decide (cl < s.cl)) t
def kept (L : List (Ss × Bool)) : List Ss := (L.filter fun p => p.2).map Prod.fst
theorem kept_cons (s : Ss) (k : Bool) (t : List (Ss × Bool)) : kept ((s, k) :: t) = (if k = true then [s] else []) ++ kept t := by
  unfold kept
  cases k <;> rfl
theorem goIn_done (cl : Int) (x : Ss) : ∀ L : List (Ss × Bool), goIn cl x true L = kept L
  | [] => rfl
  | (s, k) :: t => by
    rw [kept_cons]
    unfold goIn
    rw [if_neg (by simp), Bool.true_or, goIn_done cl x t, List.nil_append]
theorem kept_mem {L : List (Ss × Bool)} {s : Ss} (h : s ∈ kept L) : s ∈ L.map Prod.fst := by
  unfold kept at h
  obtain ⟨p, hp, rfl⟩ := List.mem_map.1 h
  exact List.mem_map.2 ⟨p, (List.mem_filter.1 hp).1, rfl⟩
theorem low_cons_lt {cl : Int} {s : Ss} {t : List Ss} (h : s.cl < cl) : lowS cl (s :: t) = lowS cl t + 1 := by
  unfold lowS
  rw [List.findIdx_cons, decide_eq_false (by omega)]
  rfl
theorem low_zero {cl : Int} {ss : List Ss} (h : ∀ s ∈ ss, cl ≤ s.cl) : lowS cl ss = 0 := by
  cases ss with
  | nil => rfl
  | cons s t =>
    unfold lowS
    rw [List.findIdx_cons, decide_eq_true (h s (List.mem_cons_self ..))]
    rfl
theorem goIn_is (cl : Int) (x : Ss) : ∀ L : List (Ss × Bool), SrtS (L.map Prod.fst) → (∀ s ∈ L.map Prod.fst, s.cl ≠ cl) → goIn cl x false L = insS (lowS cl (kept L)) x (kept L)
  | [], _, _ => rfl
  | (s, k) :: t, hs, hn => by
    have hs2 := List.pairwise_cons.1 hs
    have hsn := hn s (List.mem_cons_self ..)
    by_cases hc : cl < s.cl
    · have h0 : ∀ y ∈ kept ((s, k) :: t), cl ≤ y.cl := fun y hy => by
        have h1 := kept_mem hy
        rcases List.mem_cons.1 h1 with rfl | h1
        · exact Int.le_of_lt hc
        · have := hs2.1 y h1
          have h3 : s.cl < y.cl := this
          omega
      rw [low_zero h0]
      unfold goIn
      rw [if_pos ⟨rfl, hc⟩, decide_eq_true hc, Bool.or_true, goIn_done, kept_cons]
      rfl
    · have hlt : s.cl < cl := by omega
      have ih := goIn_is cl x t hs2.2 (fun y hy => hn y (List.mem_cons_of_mem _ hy))
      unfold goIn
      rw [if_neg (fun h => hc h.2), decide_eq_false hc, Bool.or_false, ih, kept_cons]
      cases k with
      | false => rfl
      | true =>
        rw [if_pos rfl]
        show s :: insS (lowS cl (kept t)) x (kept t) = insS (lowS cl (s :: kept t)) x (s :: kept t)
        rw [low_cons_lt hlt]
        rfl
/-- Flags that leave out one place. -/
def flagAt (full : Bool) (old : Nat) : Nat → List Ss → List (Ss × Bool)
  | _, [] => []
  | i, s :: t => (s, !full || decide (i ≠ old)) :: flagAt full old (i + 1) t
theorem flag_fst (full : Bool) (old : Nat) : ∀ (ss : List Ss) (i : Nat), (flagAt full old i ss).map Prod.fst = ss
  | [], _ => rfl
  | s :: t, i => by
    show s :: (flagAt full old (i + 1) t).map Prod.fst = _
    rw [flag_fst full old t (i + 1)]
theorem flag_all (old : Nat) : ∀ (ss : List Ss) (i : Nat), kept (flagAt false old i ss) = ss
  | [], _ => rfl
  | s :: t, i => by
    show kept ((s, true) :: flagAt false old (i + 1) t) = _
    rw [kept_cons, flag_all old t (i + 1)]
    rfl
theorem flag_past (old : Nat) : ∀ (ss : List Ss) (i : Nat), old < i → kept (flagAt true old i ss) = ss
  | [], _, _ => rfl
  | s :: t, i, h => by
    show kept ((s, !true || decide (i ≠ old)) :: flagAt true old (i + 1) t) = _
    rw [kept_cons, flag_past old t (i + 1) (by omega), decide_eq_true (by omega)]
    rfl
theorem flag_one (old : Nat) : ∀ (ss : List Ss) (i : Nat), SrtS ss → i ≤ old → (h : old - i < ss.length) → kept (flagAt true old i ss) = ss.filter fun f => !decide (f.cl = (ss[old - i]'h).cl)
  | [], _, _, _, h => by simp at h
  | s :: t, i, hs, hi, h => by
    have hs2 := List.pairwise_cons.1 hs
    show kept ((s, !true || decide (i ≠ old)) :: flagAt true old (i + 1) t) = _
    rw [kept_cons]
    by_cases e : i = old
    · subst e
      rw [flag_past i t (i + 1) (by omega)]
      have e0 : (s :: t)[i - i]'h = s := by simp
      rw [e0, List.filter_cons, if_neg (by simp), List.filter_eq_self.2 (fun f hf => by
        have h1 : s.cl < f.cl := hs2.1 f hf
        have h2 : f.cl ≠ s.cl := by omega
        simp [h2])]
      simp
    · have hl : old - (i + 1) < t.length := by simp at h; omega
      have ih := flag_one old t (i + 1) hs2.2 (by omega) hl
      have e1 : (s :: t)[old - i]'h = t[old - (i + 1)] := by
        have e2 : old - i = (old - (i + 1)) + 1 := by omega
        simp only [e2, List.getElem_cons_succ]
      rw [ih, e1, List.filter_cons, decide_eq_true e]
      have h1 : s.cl < (t[old - (i + 1)]).cl := hs2.1 _ (List.getElem_mem hl)
      have h2 : s.cl ≠ (t[old - (i + 1)]).cl := by omega
      rw [if_pos (show (!true || true) = true from rfl), if_pos (by rw [decide_eq_false h2]; rfl)]
      rfl

/-- Where the least Seen stands first, so far. -/
def oldAt (ss : List Ss) : Nat → Nat → List Ss → Nat
  | old, _, [] => old
  | old, i, s :: t => oldAt ss (if s.sn < ((ss[old]?).map Ss.sn).getD 0 then i else old) (i + 1) t
theorem oldAt_is (ss : List Ss) : ∀ (t : List Ss) (i old : Nat) (m : Ss), ss.drop i = t → ss[old]? = some m → ∃ h : oldAt ss old i t < ss.length, ss[oldAt ss old i t] = minFromS m t
  | [], _, old, m, _, hm => by
    have h1 := List.getElem?_eq_some_iff.1 hm
    exact ⟨h1.1, h1.2⟩
  | s :: t, i, old, m, hd, hm => by
    have hi : i < ss.length := by
      rcases Nat.lt_or_ge i ss.length with h | h
      · exact h
      · rw [List.drop_eq_nil_of_le h] at hd
        cases hd
    have hd2 := hd
    rw [List.drop_eq_getElem_cons hi] at hd2
    obtain ⟨e1, e2⟩ := List.cons.inj hd2
    have hg : ((ss[old]?).map Ss.sn).getD 0 = m.sn := by rw [hm]; rfl
    show ∃ h : oldAt ss (if s.sn < ((ss[old]?).map Ss.sn).getD 0 then i else old) (i + 1) t < ss.length, ss[oldAt ss (if s.sn < ((ss[old]?).map Ss.sn).getD 0 then i else old) (i + 1) t] = minFromS (if s.sn < m.sn then s else m) t
    rw [hg]
    by_cases hc : s.sn < m.sn
    · simp only [if_pos hc]
      exact oldAt_is ss t (i + 1) i s e2 (by rw [List.getElem?_eq_getElem hi, e1])
    · simp only [if_neg hc]
      exact oldAt_is ss t (i + 1) old m e2 hm
/-- The document's list behind a session that is opened. -/
def refIn (ss : List Ss) (tm cl : Int) : List Ss := goIn cl (newS cl tm) false (flagAt (decide (ss.length = 8)) (oldAt ss 0 0 ss) 0 ss)
theorem refIn_is {ss : List Ss} {tm cl : Int} (hs : SrtS ss) (hl : ss.length ≤ 8) (hn : ∀ s ∈ ss, s.cl ≠ cl) : refIn ss tm cl = insS (lowS cl (roomS ss)) (newS cl tm) (roomS ss) := by
  unfold refIn
  rw [goIn_is cl (newS cl tm) _ (by rw [flag_fst]; exact hs) (by rw [flag_fst]; exact hn)]
  have hk : kept (flagAt (decide (ss.length = 8)) (oldAt ss 0 0 ss) 0 ss) = roomS ss := by
    unfold roomS
    by_cases h8 : ss.length < 8
    · rw [if_pos h8, decide_eq_false (by omega), flag_all]
    · rw [if_neg h8, decide_eq_true (by omega)]
      cases ss with
      | nil => simp at h8
      | cons s t =>
        obtain ⟨h1, h2⟩ := oldAt_is (s :: t) (s :: t) 0 0 s rfl rfl
        have h3 : minFromS s (s :: t) = minFromS s t := by
          show minFromS (if s.sn < s.sn then s else s) t = _
          rw [if_neg (by omega)]
        rw [h3] at h2
        have h4 := flag_one (oldAt (s :: t) 0 0 (s :: t)) (s :: t) 0 hs (Nat.zero_le _) (by simpa using h1)
        rw [h4]
        simp only [Nat.sub_zero, h2]
        rfl
  rw [hk]
/-- Where a client stands, as the document looks for it. -/
theorem find_low {ss : List Ss} {cl : Int} (hs : SrtS ss) {i : Nat} (hi : i < ss.length) (he : ss[i].cl = cl) : isS cl ss = true ∧ lowS cl ss = i := by
  have hlow : lowS cl ss = i := by
    unfold lowS
    refine (List.findIdx_eq hi).2 ⟨decide_eq_true (by omega), fun j hj => decide_eq_false (by
      have := List.pairwise_iff_getElem.1 hs j i (by omega) hi hj
      omega)⟩
  refine ⟨?_, hlow⟩
  unfold isS
  rw [hlow, List.getElem?_eq_getElem hi]
  exact decide_eq_true he
theorem find_none {ss : List Ss} {cl : Int} (hn : ∀ s ∈ ss, s.cl ≠ cl) : isS cl ss = false := by
  unfold isS
  cases h : ss[lowS cl ss]? with
  | none => rfl
  | some e =>
    obtain ⟨h1, h2⟩ := List.getElem?_eq_some_iff.1 h
    exact decide_eq_false (hn e (by rw [← h2]; exact List.getElem_mem h1))

end Go.Proofs.Ytbfleeilpccmcaa
