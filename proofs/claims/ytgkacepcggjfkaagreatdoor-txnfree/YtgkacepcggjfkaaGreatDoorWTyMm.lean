/-
  Joined: WTy4, WTy5, WTy6.
-/
import Derived.Test.YtgkacepcggjfkaaGreatDoorWTy3
import Derived.Test.YtgkacepcggjfkaaGreatDoorWTxE
import Derived.Test.YtgkacepcggjfkaaGreatDoorWTx8
import Derived.Test.YtgkacepcggjfkaaGreatDoorWOld
/-
  Some transactions in memory.
-/
namespace Go.Proofs.YtgkacepcggjfkaaGreatDoor
open Go.RowKit

/-- Where each of them lies: its block, its parts, what it noted. -/
structure TD where
  b : Nat → Nat
  ap : Nat → Option Addr
  cp : Nat → Nat
  oo : Nat → Option Addr
  oc : Nat → Nat
structure TM (B N : Nat) (w : World) (In : Nat → Prop) (T : Nat → Tx) (D : TD) : Prop where
  tx : ∀ i, In i → TxAt w (D.b i) (T i) (D.ap i) (D.oo i) (D.cp i) (D.oc i)
  ps : ∀ i, In i → OwnT B w (D.ap i) (D.cp i) (T i).ps
  old : ∀ i, In i → OwnI B w (D.oo i) (D.oc i) (T i).old
  id : ∀ i, In i → (T i).id = i
  ge : ∀ i, In i → B ≤ D.b i
  oon : ∀ i a, In i → D.oo i = some a → N ≤ a.block
  ne : ∀ i j a c, In i → In j → i ≠ j → D.oo i = some a → D.oo j = some c → a.block ≠ c.block
  sz : N ≤ w.heap.size
/-- What they may touch. -/
def XT (N sb : Nat) (In : Nat → Prop) (b : Nat → Nat) : Nat → Obj → Prop := fun g _ => N ≤ g ∨ g = sb ∨ ∃ i, In i ∧ b i = g
theorem TxAt.type {w : World} {b : Nat} {t : Tx} {ap oo : Option Addr} {cp oc : Nat} (h : TxAt w b t ap oo cp oc) : ∃ cs fr, w.heap[b]? = some (.cells cs 106 fr) := ⟨_, _, h⟩
theorem TM.kept {B N : Nat} {w w' : World} {In : Nat → Prop} {T : Nat → Tx} {D : TD} (h : TM B N w In T D) (k : Kept Nil w w') : TM B N w' In T D :=
  ⟨fun i hi => (h.tx i hi).kept k, fun i hi => (h.ps i hi).keptX k (fun _ _ _ x => x), fun i hi => (h.old i hi).kept k, h.id, h.ge, h.oon, h.ne, Nat.le_trans h.sz k.size⟩
theorem TM.bne {B N : Nat} {w : World} {In : Nat → Prop} {T : Nat → Tx} {D : TD} (h : TM B N w In T D) {i j : Nat} (hi : In i) (hj : In j) (e : i ≠ j) : D.b i ≠ D.b j := fun eb => by
  have h1 := h.tx i hi
  have h2 := h.tx j hj
  unfold TxAt at h1 h2
  rw [eb, h2] at h1
  simp only [Option.some.injEq, Obj.cells.injEq, Array.mk.injEq, List.cons.injEq, Value.int.injEq] at h1
  have := h.id i hi
  have := h.id j hj
  omega
/-- A write to another block that is not theirs. -/
theorem TM.other {B N : Nat} {w w' : World} {In : Nat → Prop} {T : Nat → Tx} {D : TD} {sb : Nat} (h : TM B N w In T D) (k : Kept (One sb) w w') (hs : sb < N) (hb : ∃ cs fr, w.heap[sb]? = some (.cells cs 3 fr)) : TM B N w' In T D := by
  obtain ⟨cs, fr, hb⟩ := hb
  refine ⟨fun i hi => (h.tx i hi).keptX k (fun o x => ?_), fun i hi => (h.ps i hi).keptX k (fun a ha o x => ?_), fun i hi => (h.old i hi).keptX k (fun a ha o x => ?_), h.id, h.ge, h.oon, h.ne, Nat.le_trans h.sz k.size⟩
  · have e : D.b i = sb := x
    obtain ⟨c2, f2, h2⟩ := (h.tx i hi).type
    rw [e, hb] at h2
    simp at h2
  · have e : a.block = sb := x
    obtain ⟨_, c2, f2, h2⟩ := (h.ps i hi).lt a ha
    rw [e, hb] at h2
    simp at h2
  · have e : a.block = sb := x
    have := h.oon i a hi ha
    omega
/-- An answer to one of them. -/
theorem TM.step {B N : Nat} {w w' : World} {In : Nat → Prop} {T : Nat → Tx} {D : TD} {i : Nat} {t : Tx} {e : Ending} (h : TM B N w In T D) (hi : In i) (ht : t.ps = (T i).ps) (hid : t.id = i) (hp : TxPost B w (D.b i) t (D.ap i) (D.oo i) (D.cp i) e w') :
    e = .returned (.tuple #[]) ∧ (∃ D', D'.b = D.b ∧ TM B N w' In (upd T i t) D') ∧ ∀ sb, Kept (XT N sb In D.b) w w' := by
  obtain ⟨he, oo', oc', h1, h2, h3, h4⟩ := hp
  refine ⟨he, ⟨⟨D.b, D.ap, D.cp, fun j => if j = i then oo' else D.oo j, fun j => if j = i then oc' else D.oc j⟩, rfl, ?_⟩, fun sb => h3.mono (fun q o x => ?_)⟩
  · have hOi := h.old i hi
    have hTi := h.tx i hi
    have far : ∀ j a, In j → j ≠ i → D.oo j = some a → ∀ o, ¬ TxX (D.b i) (D.oo i) a.block o := fun j a hj hn ha o x => by
      rcases x with x | ⟨c, hc, x⟩
      · obtain ⟨_, c2, f2, h2⟩ := (h.old j hj).lt a ha
        obtain ⟨c3, f3, h3⟩ := hTi.type
        rw [x, h3] at h2
        simp at h2
      · exact h.ne j i a c hj hi hn ha hc x.symm
    refine ⟨fun j hj => ?_, fun j hj => ?_, fun j hj => ?_, fun j hj => ?_, h.ge, fun j a hj ha => ?_, fun j k a c hj hk hn ha hc => ?_, Nat.le_trans h.sz h3.size⟩
    · by_cases ej : j = i
      · subst ej
        rw [upd_same]
        show TxAt w' (D.b j) t (D.ap j) (if j = j then oo' else D.oo j) (D.cp j) (if j = j then oc' else D.oc j)
        rw [if_pos rfl, if_pos rfl]
        exact h1
      · rw [upd_ne T t ej]
        show TxAt w' (D.b j) (T j) (D.ap j) (if j = i then oo' else D.oo j) (D.cp j) (if j = i then oc' else D.oc j)
        rw [if_neg ej, if_neg ej]
        refine (h.tx j hj).keptX h3 (fun o x => ?_)
        rcases x with x | ⟨c, hc, x⟩
        · exact h.bne hj hi ej x
        · obtain ⟨_, c2, f2, h2⟩ := hOi.lt c hc
          obtain ⟨c3, f3, h3⟩ := (h.tx j hj).type
          rw [x, h3] at h2
          simp at h2
    · have hh := (h.ps j hj).tx hTi hOi h3
      by_cases ej : j = i
      · subst ej
        rw [upd_same, ht]
        exact hh
      · rw [upd_ne T t ej]
        exact hh
    · by_cases ej : j = i
      · subst ej
        rw [upd_same]
        show OwnI B w' (if j = j then oo' else D.oo j) (if j = j then oc' else D.oc j) t.old
        rw [if_pos rfl, if_pos rfl]
        exact h2
      · rw [upd_ne T t ej]
        show OwnI B w' (if j = i then oo' else D.oo j) (if j = i then oc' else D.oc j) (T j).old
        rw [if_neg ej, if_neg ej]
        exact (h.old j hj).keptX h3 (fun a ha o => far j a hj ej ha o)
    · by_cases ej : j = i
      · subst ej
        rw [upd_same]
        exact hid
      · rw [upd_ne T t ej]
        exact h.id j hj
    · have ha' : (if j = i then oo' else D.oo j) = some a := ha
      by_cases ej : j = i
      · rw [if_pos ej] at ha'
        rcases h4 a ha' with ⟨x, hx, e2⟩ | h5
        · rw [← e2]; exact h.oon i x hi hx
        · exact Nat.le_trans h.sz h5
      · rw [if_neg ej] at ha'
        exact h.oon j a hj ha'
    · have ha' : (if j = i then oo' else D.oo j) = some a := ha
      have hc' : (if k = i then oo' else D.oo k) = some c := hc
      have one : ∀ m a c, In m → m ≠ i → oo' = some a → D.oo m = some c → a.block ≠ c.block := fun m a c hm hmi ha hc => by
        rcases h4 a ha with ⟨x, hx, e2⟩ | h5
        · rw [← e2]; exact h.ne i m x c hi hm (fun e => hmi e.symm) hx hc
        · obtain ⟨_, c2, f2, h2⟩ := (h.old m hm).lt c hc
          have := lt_of_block h2
          omega
      by_cases ej : j = i
      · rw [if_pos ej] at ha'
        rw [if_neg (fun e2 => hn (ej.trans e2.symm))] at hc'
        exact one k a c hk (fun e2 => hn (ej.trans e2.symm)) ha' hc'
      · rw [if_neg ej] at ha'
        by_cases ek : k = i
        · rw [if_pos ek] at hc'
          exact (one j c a hj ej hc' ha').symm
        · rw [if_neg ek] at hc'
          exact h.ne j k a c hj hk hn ha' hc'
  · rcases x with x | ⟨a, ha, x⟩
    · exact .inr (.inr ⟨i, hi, x.symm⟩)
    · exact .inl (by rw [← x]; exact h.oon i a hi ha)
end Go.Proofs.YtgkacepcggjfkaaGreatDoor

/-
  The laws of transactions: those that were begun, in memory.
-/
namespace Go.Proofs.YtgkacepcggjfkaaGreatDoor
open Go.RowKit

theorem RiseT.tail {x : Pt} {xs : List Pt} (h : RiseT (x :: xs)) : RiseT xs := fun i j hi hj => by
  have := h (i + 1) (j + 1) (by omega) (by simp; omega)
  simpa using this
theorem RiseT.head {x : Pt} {xs : List Pt} (h : RiseT (x :: xs)) : ∀ y ∈ xs, lessB x.k y.k = true := fun y hy => by
  obtain ⟨j, hj, rfl⟩ := List.getElem_of_mem hy
  have := h 0 (j + 1) (by omega) (by simp; omega)
  simpa using this
theorem rise_perm : ∀ {xs ys : List Pt}, RiseT xs → RiseT ys → xs.Perm ys → xs = ys
  | [], ys, _, _, h => (List.nil_perm.1 h).symm
  | x :: xs, [], _, _, h => absurd h.length_eq (by simp)
  | x :: xs, y :: ys, hx, hy, h => by
    have e : x = y := by
      have h1 : x ∈ y :: ys := h.mem_iff.1 (List.mem_cons_self ..)
      have h2 : y ∈ x :: xs := h.mem_iff.2 (List.mem_cons_self ..)
      rcases List.mem_cons.1 h1 with h1 | h1
      · exact h1
      rcases List.mem_cons.1 h2 with h2 | h2
      · exact h2.symm
      have := less_trans (hx.head y h2) (hy.head x h1)
      rw [less_irrefl] at this
      cases this
    subst e
    rw [rise_perm hx.tail hy.tail (List.Perm.cons_inv h)]
/-- One that was begun: its number, its block, where its parts and the law's own copy of them lie. -/
structure Eb where
  id : Nat
  b : Nat
  ap : Option Addr
  cp : Nat
  qa : Option Addr
  qc : Nat
  ps : List Pt
def enP (e : Eb) : Value := .pointer (some ⟨e.b, 0, none⟩)
def enS (e : Eb) : Value := .slice e.qa e.ps.length e.qc
def LRow (n0 : Nat) (w : World) (lo : Option Addr) (lc : Nat) (es : List Eb) : Prop := w.ownsRow n0 24 1 (.slice lo es.length lc) es.length (es.map enP)
def PRow (n0 : Nat) (w : World) (lo : Option Addr) (lc : Nat) (es : List Eb) : Prop := w.ownsRow n0 22 1 (.slice lo es.length lc) es.length (es.map enS)
/-- A row of one's own is touched by no append to one of another type, nor by what is kept. -/
def TyG (n0 : Nat) (t : TypeId) : Nat → Obj → Prop := fun g o => n0 ≤ g ∧ ∃ cs fr, o = .cells cs t fr
theorem kept_grown {n0 : Nat} {t : TypeId} {w w' : World} {v : Value} {size n : Nat} {xs : List Value} (h : w.ownsRow n0 t size v n xs) (hg : w.grownBy w' v.ownBlock) : Kept (TyG n0 t) w w' :=
  ⟨hg.os, hg.tape, hg.output, hg.size, fun k o ho hx => grown_blk hg ho (fun e => hx (by
    rcases h.2 with ⟨e1, _⟩ | ⟨g, cap, cur, e1, h2, h3, _⟩
    · rw [e1] at e; simp [Value.ownBlock] at e
    · rw [e1] at e
      have e2 : g = k := by simpa [Value.ownBlock] using e
      subst e2
      rw [h3] at ho
      cases ho
      exact ⟨h2, _, _, rfl⟩))⟩
theorem own_ty {n0 B : Nat} {t e : TypeId} {w w' : World} {v : Value} {size n : Nat} {xs : List Value} (h : w.ownsRow B e size v n xs) (hk : Kept (TyG n0 t) w w') (hne : e ≠ t) : w'.ownsRow B e size v n xs :=
  own_kept h hk (fun k cs _ x => by obtain ⟨_, _, _, x⟩ := x; simp at x; exact hne x.2.1)
theorem TxAt.ty {n0 : Nat} {t : TypeId} {w w' : World} {b : Nat} {x : Tx} {ap oo : Option Addr} {cp oc : Nat} (h : TxAt w b x ap oo cp oc) (hk : Kept (TyG n0 t) w w') (hne : 106 ≠ t) : TxAt w' b x ap oo cp oc :=
  hk.block _ _ h (fun x => by obtain ⟨_, _, _, x⟩ := x; simp at x; exact hne x.2.1)
/-- What holds of each that was begun. -/
structure EbOk (n0 : Nat) (w : World) (e : Eb) : Prop where
  tx : TxAt w e.b (newTx e.id e.ps) e.ap none e.cp 0
  own : OwnT n0 w e.ap e.cp e.ps
  cpy : OwnT n0 w e.qa e.qc e.ps
  ge : n0 ≤ e.b
  ok : (newTx e.id e.ps).Ok
  rise : RiseT e.ps
theorem EbOk.kept {n0 : Nat} {w w' : World} {e : Eb} (h : EbOk n0 w e) (k : Kept Nil w w') : EbOk n0 w' e :=
  ⟨h.tx.kept k, h.own.keptX k (fun _ _ _ x => x), h.cpy.keptX k (fun _ _ _ x => x), h.ge, h.ok, h.rise⟩
theorem EbOk.ty {n0 : Nat} {t : TypeId} {w w' : World} {e : Eb} (h : EbOk n0 w e) (k : Kept (TyG n0 t) w w') (h1 : 106 ≠ t) (h2 : 29 ≠ t) : EbOk n0 w' e :=
  ⟨h.tx.ty k h1, own_ty h.own k h2, own_ty h.cpy k h2, h.ge, h.ok, h.rise⟩
/-- The one of a number. -/
def enAt (es : List Eb) (i : Nat) : Eb := (es.find? fun e => e.id == i).getD ⟨0, 0, none, 0, none, 0, []⟩
def InE (es : List Eb) (i : Nat) : Prop := ∃ e ∈ es, e.id = i
theorem enAt_mem {es : List Eb} {i : Nat} (h : InE es i) : enAt es i ∈ es ∧ (enAt es i).id = i := by
  obtain ⟨e, he, hi⟩ := h
  unfold enAt
  cases hf : es.find? fun e => e.id == i with
  | none =>
    have := List.find?_eq_none.1 hf e he
    simp [hi] at this
  | some x =>
    refine ⟨List.mem_of_find?_eq_some hf, ?_⟩
    have := List.find?_some hf
    simpa using this
theorem enAt_self {es : List Eb} (hd : (es.map Eb.id).Nodup) {k : Nat} (hk : k < es.length) : enAt es es[k].id = es[k] := by
  obtain ⟨h1, h2⟩ := enAt_mem (es := es) (i := es[k].id) ⟨es[k], List.getElem_mem hk, rfl⟩
  obtain ⟨j, hj, e⟩ := List.getElem_of_mem h1
  have hp : ∀ i j : Nat, (hi : i < es.length) → (hj : j < es.length) → i < j → es[i].id ≠ es[j].id := fun i j hi hj hlt e => by
    rw [List.nodup_iff_pairwise_ne, List.pairwise_iff_getElem] at hd
    exact hd i j (by simpa using hi) (by simpa using hj) hlt (by simpa using e)
  rw [← e] at h2 ⊢
  rcases Nat.lt_trichotomy j k with hl | hl | hl
  · exact absurd h2 (hp j k hj hk hl)
  · subst hl; rfl
  · exact absurd h2.symm (hp k j hk hj hl)
def tOf (es : List Eb) (i : Nat) : Tx := newTx i (enAt es i).ps
def dOf (es : List Eb) : TD := ⟨fun i => (enAt es i).b, fun i => (enAt es i).ap, fun i => (enAt es i).cp, fun _ => none, fun _ => 0⟩
theorem TM.first {n0 : Nat} {w : World} {es : List Eb} (h : ∀ e ∈ es, EbOk n0 w e) : TM n0 w.heap.size w (InE es) (tOf es) (dOf es) := by
  refine ⟨fun i hi => ?_, fun i hi => ?_, fun i hi => ?_, fun i hi => rfl, fun i hi => (h _ (enAt_mem hi).1).ge, fun i a _ ha => (by cases ha), fun i j a c _ _ _ ha => (by cases ha), Nat.le_refl _⟩
  · have := (h _ (enAt_mem hi).1).tx
    rw [(enAt_mem hi).2] at this
    exact this
  · exact (h _ (enAt_mem hi).1).own
  · exact World.ownsRow_nil w n0 3 1
/-- The keys that there are. -/
def allK (es : List Eb) : List (List UInt8) := es.map (fun e => tKey e.id) ++ keys4.map kKey
theorem Run.first {n0 : Nat} {w : World} {es : List Eb} (h : ∀ e ∈ es, EbOk n0 w e) (hk : ∀ e ∈ es, ∀ p ∈ e.ps, p.k ∈ keys4) : Run (InE es) (allK es) [] (tOf es) 0 := by
  refine ⟨Inv.first (fun b hb => ?_), ⟨rfl, fun p hp => (by cases hp), fun k => ⟨Int.le_refl 0, Int.le_refl 0⟩⟩, fun b _ => ⟨Int.le_refl 0, Int.le_refl 0⟩, fun b hb => ?_, fun b hb p hp => ?_⟩
  · have he := h _ (enAt_mem hb).1
    refine ⟨(enAt es b).ps, rfl, ?_, he.rise⟩
    have := he.ok
    rw [(enAt_mem hb).2] at this
    exact this
  · obtain ⟨e, he, rfl⟩ := hb
    exact List.mem_append_left _ (List.mem_map.2 ⟨e, he, rfl⟩)
  · exact List.mem_append_right _ (List.mem_map.2 ⟨p.k, hk _ (enAt_mem hb).1 p hp, rfl⟩)
theorem allK_len (es : List Eb) : (allK es).length = es.length + 4 := by simp [allK, keys4]
end Go.Proofs.YtgkacepcggjfkaaGreatDoor

/-
  TxnSerial: what is so at each round, in memory and plainly.
-/
namespace Go.Proofs.YtgkacepcggjfkaaGreatDoor
open Go.RowKit

/-- What is so between the entry's world w, the world w1 in which all were begun, and the round's. -/
structure MS (w w1 : World) (n0 sb : Nat) (es : List Eb) (X : World) (T : Nat → Tx) (ps : List Pr) (pa : Option Addr) (pc c : Nat) (ser : List Int) : Prop where
  tm : ∃ D, D.b = (dOf es).b ∧ TM n0 w1.heap.size X (InE es) T D
  run : Run (InE es) (allK es) ps T c
  pr : OwnP w1.heap.size X pa pc ps
  ser : X.heap[sb]? = some (.cells (intC ser).toArray 3 (0, 0))
  kept : Kept (XT w1.heap.size sb (InE es) (dOf es).b) w1 X
  kw : Kept Nil w X
  parts : ∀ i, (T i).ps = (enAt es i).ps
  sbl : sb < w1.heap.size
  sbw : w.heap.size ≤ sb
  bw : ∀ i, InE es i → w.heap.size ≤ (dOf es).b i
  w1w : w.heap.size ≤ w1.heap.size
  n0le : n0 ≤ X.heap.size
theorem MS.next {w w1 X X' : World} {n0 sb pc c : Nat} {es : List Eb} {T : Nat → Tx} {ps : List Pr} {pa : Option Addr} {ser : List Int} (h : MS w w1 n0 sb es X T ps pa pc c ser) (k : Kept Nil X X') : MS w w1 n0 sb es X' T ps pa pc c ser := by
  obtain ⟨D, e, hD⟩ := h.tm
  exact ⟨⟨D, e, hD.kept k⟩, h.run, h.pr.kept k, k.block _ _ h.ser (fun x => x), h.kept.trans (k.mono (fun _ _ x => x.elim)), h.kw.trans k, h.parts, h.sbl, h.sbw, h.bw, h.w1w, Nat.le_trans h.n0le k.size⟩
theorem intC_set (zs : List Int) (a : Nat) (z : Int) : (intC (zs.set a z)).toArray = (intC zs).toArray.setIfInBounds a (.int .i64 z) := by
  unfold intC
  rw [List.map_set]
  simp
theorem MS.set {w w1 X : World} {n0 sb pc c a : Nat} {es : List Eb} {T : Nat → Tx} {ps : List Pr} {pa : Option Addr} {ser : List Int} (h : MS w w1 n0 sb es X T ps pa pc c ser) (z : Int) : MS w w1 n0 sb es (X.setCell ⟨sb, a, none⟩ (.int .i64 z)) T ps pa pc c (ser.set a z) := by
  obtain ⟨D, e, hD⟩ := h.tm
  have hk : Kept (One sb) X (X.setCell ⟨sb, a, none⟩ (.int .i64 z)) := (Kept.refl _ _).setCell (p := ⟨sb, a, none⟩) (fun _ => rfl) _
  refine ⟨⟨D, e, hD.other hk h.sbl ⟨_, _, h.ser⟩⟩, h.run, h.pr.keptB hk (fun x hx ex => ?_), ?_, h.kept.trans (hk.mono (fun q o x => .inr (.inl x))), h.kw.under hk h.sbw, h.parts, h.sbl, h.sbw, h.bw, h.w1w, Nat.le_trans h.n0le hk.size⟩
  · obtain ⟨g, cs, e1, e2, _⟩ := h.pr.block (by rw [hx]; simp)
    rw [hx] at e1
    simp only [Option.some.injEq] at e1
    have h3 := h.sbl
    rw [e1] at ex
    have : g = sb := ex
    omega
  · rw [intC_set]
    exact blk_set h.ser a _
theorem TxX.pair {b : Nat} {w : World} {oo : Option Addr} {t : Tx} {ap : Option Addr} {cp oc B' : Nat} (hT : TxAt w b t ap oo cp oc) (hI : OwnI B' w oo oc t.old) : ∀ k cs, w.heap[k]? = some (.cells cs 63 (0, 0)) → ¬ TxX b oo k (.cells cs 63 (0, 0)) := fun k cs hk x => by
  rcases x with x | ⟨a, ha, x⟩
  · subst x
    obtain ⟨c2, f2, h2⟩ := hT.type
    rw [hk] at h2
    simp at h2
  · obtain ⟨_, c2, f2, h2⟩ := hI.lt a ha
    rw [x, hk] at h2
    simp at h2
/-- What one step makes of the round's state: the numbers and the law's own one. -/
structure Made (ps ps' : List Pr) (T T' : Nat → Tx) (i : Nat) : Prop where
  makes : Makes (St.of ps) (St.of ps') (T i) (T' i)
  j : J7 (St.of ps') (T' 7)
  mu : i = 7 → mu7 (T' 7).ph ≤ mu7 (T 7).ph - 1
  mu' : i ≠ 7 → T' 7 = T 7
theorem Made.none {ps : List Pr} {T : Nat → Tx} {i : Nat} (hj : J7 (St.of ps) (T 7)) (h : 10 ≤ (T i).ph) : Made ps ps T T i :=
  ⟨.inl ⟨fun _ => rfl, Iff.rfl⟩, hj, fun e => by
    subst e
    have : mu7 (T 7).ph = 0 := by
      unfold mu7
      rw [if_neg (by omega), if_neg (by omega), if_neg (by omega), if_neg (by omega)]
    omega, fun _ => rfl⟩
theorem Made.some {es : List Eb} {ps : List Pr} {T : Nat → Tx} {c i : Nat} (h : Run (InE es) (allK es) ps T c) (hl : es.length < 28) (hc : c < 1099511627775) (hi : InE es i) (h7 : InE es 7) (h9 : (T i).ph ≤ 9) (hj : J7 (St.of ps) (T 7)) (ha : Alone T (InE es) 7) :
    Made ps ((T i).psOf ps) T (upd T i ((T i).answer ((T i).rOf ps))) i := by
  obtain ⟨r1, r2, r3, r4⟩ := h.step (by rw [allK_len]; omega) hc hi h9
  refine ⟨by rw [upd_same]; exact r2, ?_, fun e => ?_, fun e => upd_ne T _ (fun e2 => e e2.symm)⟩
  · by_cases e : i = 7
    · subst e
      rw [upd_same, r3, r4]
      exact (J7.own h.inv h7 h9 hj).1
    · rw [upd_ne T _ (fun e2 => e e2.symm), r3]
      exact J7.other h.inv hi h7 h9 e hj ha
  · subst e
    rw [upd_same, r4]
    exact (J7.own h.inv h7 h9 hj).2
theorem MS.answered {w w1 X X' : World} {n0 sb pc pc' c i : Nat} {es : List Eb} {T : Nat → Tx} {ps : List Pr} {pa pa' : Option Addr} {ser : List Int} {e : Ending} {D : TD} (h : MS w w1 n0 sb es X T ps pa pc c ser) (hl : es.length < 28) (hc : c < 1099511627775) (hi : InE es i) (h9 : (T i).ph ≤ 9)
    (hD : D.b = (dOf es).b) (hM : TM n0 w1.heap.size X (InE es) T D) (hp : OwnP w1.heap.size X pa' pc' ((T i).psOf ps))
    (ha : TxPost n0 X (D.b i) ((T i).answer ((T i).rOf ps)) (D.ap i) (D.oo i) (D.cp i) e X') : e = .returned (.tuple #[]) ∧ MS w w1 n0 sb es X' (upd T i ((T i).answer ((T i).rOf ps))) ((T i).psOf ps) pa' pc' (c + 1) ser := by
  obtain ⟨r1, r2, r3, r4⟩ := h.run.step (by rw [allK_len]; omega) hc hi h9
  have hps : ((T i).answer ((T i).rOf ps)).ps = (T i).ps := by rw [r4]; exact (go_ps _ _).1
  have hid : ((T i).answer ((T i).rOf ps)).id = i := by rw [r4, (go_ps _ _).2]; exact hM.id i hi
  obtain ⟨he, ⟨D', e', hM'⟩, hk⟩ := hM.step hi hps hid ha
  have hk2 := ha.2
  obtain ⟨_, _, _, _, hkx, _⟩ := hk2
  have hkk := hk sb
  rw [hD] at hkk
  refine ⟨he, ⟨⟨D', e'.trans hD, hM'⟩, r1, ?_, ?_, h.kept.trans hkk, ?_, fun j => ?_, h.sbl, h.sbw, h.bw, h.w1w, Nat.le_trans h.n0le hkk.size⟩⟩
  · refine ⟨hp.1, hp.2.imp id ?_⟩
    rintro ⟨g, cap, cur, h1, h2, h3, h4⟩
    exact ⟨g, cap, cur, h1, h2, hkx.block _ _ h3 (TxX.pair (hM.tx i hi) (hM.old i hi) g cur h3), h4⟩
  · refine hkx.block _ _ h.ser (fun x => ?_)
    rcases x with x | ⟨a, hA, x⟩
    · obtain ⟨c2, f2, h2⟩ := (hM.tx i hi).type
      have h3 := h.ser
      rw [x, h2] at h3
      simp at h3
    · have h3 := hM.oon i a hi hA
      have h4 := h.sbl
      omega
  · refine ⟨hkk.os.trans h.kw.os, hkk.tape.trans h.kw.tape, hkk.output.trans h.kw.output, Nat.le_trans h.kw.size hkk.size, fun q o hq _ => hkk.block q o (h.kw.block q o hq (fun x => x)) (fun x => ?_)⟩
    have hlt := lt_of_block hq
    rcases x with x | x | ⟨j, hj, x⟩
    · have := h.w1w; omega
    · have := h.sbw; omega
    · have := h.bw j hj; omega
  · by_cases ej : j = i
    · subst ej
      rw [upd_same, hps]
      exact h.parts j
    · rw [upd_ne T _ ej]
      exact h.parts j
/-- The rows of those that were begun, in every later world. -/
def LR (w1 : World) (sb : Nat) (es : List Eb) (la pa : Addr) : Prop := ∀ X, Kept (XT w1.heap.size sb (InE es) (dOf es).b) w1 X → ∀ k, (hk : k < es.length) → X.cell? (la.add k) = some (.pointer (some ⟨es[k].b, 0, none⟩)) ∧ X.cell? (pa.add k) = some (.slice es[k].qa es[k].ps.length es[k].qc) ∧ PtRow X.heap.size X es[k].qa es[k].ps
end Go.Proofs.YtgkacepcggjfkaaGreatDoor
