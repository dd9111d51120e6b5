/-
  RelayOnce: what the law's three hosts, and what it notes, are in memory. Each row of texts has a label of its own.
-/
import Derived.Test.YtmlncfnnldplgaaWRo2
namespace Go.Proofs.Ytmlncfnnldplgaa
open Go.RowKit

theorem Kept.typ {X Y : Nat → Obj → Prop} {w w' : World} (h : Kept X w w') (hy : ∀ q o, w.heap[q]? = some o → X q o → Y q o) : Kept Y w w' := ⟨h.os, h.tape, h.output, h.size, fun k o ho hx => h.block k o ho (fun x => hx (hy k o ho x))⟩
theorem own_keptG {X : Nat → Obj → Prop} {w w' : World} {B : Nat} {e : TypeId} {size : Nat} {v : Value} {n : Nat} {xs : List Value} (h : w.ownsRow B e size v n xs) (hk : Kept X w w')
    (hX : ∀ g cs, v.ownBlock = some g → ¬ X g (.cells cs e (0, 0))) : w'.ownsRow B e size v n xs := by
  refine ⟨h.1, h.2.imp id ?_⟩
  rintro ⟨g, cap, cur, h1, h2, h3, h4⟩
  exact ⟨g, cap, cur, h1, h2, hk.block _ _ h3 (hX _ _ (by rw [h1]; rfl)), h4⟩
theorem Rl.keptG {X : Nat → Obj → Prop} {B : Nat → Prop} {b : Nat} {w w' : World} {id : Int} {os : Nat → Oh} {ao : Nat → Option Addr} {cs : Nat → Nat} (h : Rl B w b id os ao cs) (k : Kept X w w') (hX : ∀ cs, ¬ X b (.cells cs 90 (0, 0))) (hs : ∀ q cs, B q → ¬ X q (.cells cs 9 (0, 0))) : Rl B w' b id os ao cs := by
  obtain ⟨cells, hc⟩ := h.cl
  exact ⟨⟨cells, k.block _ _ hc.blk (hX _), hc.sz, hc.c0, hc.ca, hc.cw, hc.cc⟩, fun j hj => own_keptG (h.rows j hj) k (fun g cs hg => hs g cs (h.good j hj g hg)), h.far, h.good⟩
theorem Rl.lt {B : Nat → Prop} {b : Nat} {w : World} {id : Int} {os : Nat → Oh} {ao : Nat → Option Addr} {cs : Nat → Nat} (h : Rl B w b id os ao cs) : Rl (fun g => B g ∧ g < w.heap.size) w b id os ao cs :=
  ⟨h.cl, h.rows, h.far, fun k hk g hg => ⟨h.good k hk g hg, (World.ownsRow.lt (h.rows k hk) g hg).2⟩⟩
/-- Where all of it lies. -/
structure Mm where
  hb : Nat
  hc : Nat
  rb : Nat → Nat
  ax : Nat → Nat → Option Addr
  cx : Nat → Nat → Nat
  wa : Option Addr
  wc : Nat
  sa : Nat → Option Addr
  sc : Nat → Nat
  ca : Nat → Option Addr
  cc : Nat → Nat
  lab : Nat → Nat
structure TkC (w : World) (b : Nat) (T : Tk) (M : Mm) (cells : Array Value) : Prop where
  blk : w.heap[b]? = some (.cells cells 58 (0, 0))
  sz : cells.size = 50
  c0 : cells[0]? = some (.slice (some ⟨M.hb, 0, none⟩) 3 M.hc)
  c1 : cells[1]? = some (.slice M.wa T.way.length M.wc)
  cs : ∀ k, k < 16 → cells[2 + k]? = some (.slice (M.sa k) (T.sn k).length (M.sc k))
  cc : ∀ k, k < 16 → cells[18 + k]? = some (.slice (M.ca k) (T.cm k).length (M.cc k))
  ck : ∀ k, k < 16 → cells[34 + k]? = some (.int .i64 (T.kn k))
structure TkM (n0 : Nat) (w : World) (b : Nat) (T : Tk) (M : Mm) : Prop where
  cl : ∃ cells, TkC w b T M cells
  ho : ∃ hs, w.heap[M.hb]? = some (.cells hs 23 (0, 0)) ∧ ∀ i, i < 3 → hs[i]? = some (.pointer (some ⟨M.rb i, 0, none⟩))
  hl : 3 ≤ M.hc ∧ M.hc ≤ maxLen
  rl : ∀ i, i < 3 → Rl (fun g => M.lab g = i ∧ n0 ≤ g) w (M.rb i) ((i + 1 : Nat) : Int) (T.os i) (M.ax i) (M.cx i)
  rd : ∀ i j, i < 3 → j < 3 → i ≠ j → M.rb i ≠ M.rb j
  wy : OwnPk n0 w M.wa M.wc T.way
  sr : ∀ k, k < 16 → OwnTd n0 w (M.sa k) (M.sc k) (T.sn k)
  sl : ∀ k, k < 16 → ∀ g, (Value.slice (M.sa k) (T.sn k).length (M.sc k)).ownBlock = some g → M.lab g = 3 + k
  cr : ∀ k, k < 16 → OwnTd n0 w (M.ca k) (M.cc k) (T.cm k)
  ll : ∀ k, k < 16 → ∀ g, (Value.slice (M.ca k) (T.cm k).length (M.cc k)).ownBlock = some g → M.lab g = 19 + k
  nb : n0 ≤ b
  nr : ∀ i, i < 3 → n0 ≤ M.rb i
/-- What is in memory. -/
def TkAt (n0 : Nat) (w : World) (b : Nat) (T : Tk) : Prop := ∃ M, TkM n0 w b T M
/-- What is younger than n0. -/
def Ge (n0 : Nat) : Nat → Obj → Prop := fun q _ => n0 ≤ q
/-- With new labels for what comes. -/
def nlab (lab : Nat → Nat) (n l : Nat) : Nat → Nat := fun g => if g < n then lab g else l
theorem nlab_lt {lab : Nat → Nat} {n l g : Nat} (h : g < n) : nlab lab n l g = lab g := if_pos h
theorem nlab_ge {lab : Nat → Nat} {n l g : Nat} (h : n ≤ g) : nlab lab n l g = l := if_neg (by omega)
section
variable {n0 b : Nat} {w w' : World} {T : Tk} {M : Mm}
theorem TkM.size (h : TkM n0 w b T M) : n0 ≤ w.heap.size := by
  obtain ⟨_, hc⟩ := h.cl
  have := lt_of_block hc.blk
  have := h.nb
  omega
theorem TkM.kept (h : TkM n0 w b T M) (k : Kept Nil w w') : TkM n0 w' b T M := by
  obtain ⟨cells, hc⟩ := h.cl
  obtain ⟨hs, h1, h2⟩ := h.ho
  exact ⟨⟨cells, k.block _ _ hc.blk (fun x => x), hc.sz, hc.c0, hc.c1, hc.cs, hc.cc, hc.ck⟩, ⟨hs, k.block _ _ h1 (fun x => x), h2⟩, h.hl, fun i hi => (h.rl i hi).kept k, h.rd, h.wy.kept k, fun i hi => (h.sr i hi).kept k, h.sl, fun i hi => (h.cr i hi).kept k, h.ll, h.nb, h.nr⟩
/-- The labels of what is there may be read off a world. -/
theorem TkM.relab (h : TkM n0 w b T M) (l : Nat) : TkM n0 w b T { M with lab := nlab M.lab w.heap.size l } :=
  ⟨by obtain ⟨cells, hc⟩ := h.cl; exact ⟨cells, hc.blk, hc.sz, hc.c0, hc.c1, hc.cs, hc.cc, hc.ck⟩, h.ho, h.hl, fun i hi => (h.rl i hi).lt.up (fun g hg => ⟨(nlab_lt hg.2).trans hg.1.1, hg.1.2⟩), h.rd, h.wy, h.sr,
    fun k hk g hg => (nlab_lt (World.ownsRow.lt (h.sr k hk) g hg).2).trans (h.sl k hk g hg), h.cr,
    fun k hk g hg => (nlab_lt (World.ownsRow.lt (h.cr k hk) g hg).2).trans (h.ll k hk g hg), h.nb, h.nr⟩
theorem tx_ge {i : Nat} (h : TkM n0 w b T M) (hi : i < 3) : ∀ q o, TX (fun g => M.lab g = i ∧ n0 ≤ g) (M.rb i) q o → Ge n0 q o := by
  rintro q o (⟨rfl, _⟩ | ⟨h1, _⟩)
  · exact h.nr i hi
  · exact h1.2
/-- A host's relay has been called. -/
theorem TkM.relay (h0 : TkM n0 w b T M) {i : Nat} (hi : i < 3) (k : Kept (TX (fun g => M.lab g = i ∧ n0 ≤ g) (M.rb i)) w w') {os' : Nat → Oh} {ax' : Nat → Option Addr} {cx' : Nat → Nat} (hr : Rl (fun g => (M.lab g = i ∧ n0 ≤ g) ∨ w.heap.size ≤ g) w' (M.rb i) ((i + 1 : Nat) : Int) os' ax' cx') :
    TkM n0 w' b { T with os := upd T.os i os' } { M with ax := upd M.ax i ax', cx := upd M.cx i cx', lab := nlab M.lab w.heap.size i } := by
  have h := h0.relab i
  have hn := h0.size
  have kk : Kept (TX (fun g => (nlab M.lab w.heap.size i) g = i ∧ n0 ≤ g) (M.rb i)) w w' := k.typ fun q o ho hx => by
    rcases hx with hx | ⟨⟨h1, h2⟩, h3⟩
    · exact .inl hx
    · exact .inr ⟨⟨by rw [nlab_lt (lt_of_block ho)]; exact h1, h2⟩, h3⟩
  obtain ⟨cells, hc⟩ := h.cl
  obtain ⟨hs, h1, h2⟩ := h.ho
  have ns : ∀ l, l ≠ i → ∀ g cs, (nlab M.lab w.heap.size i) g = l → ¬ TX (fun g => (nlab M.lab w.heap.size i) g = i ∧ n0 ≤ g) (M.rb i) g (.cells cs 9 (0, 0)) := by
    rintro l hl g cs hg (⟨_, _, e⟩ | ⟨⟨h1, _⟩, _⟩)
    · simp at e
    · omega
  refine ⟨⟨cells, kk.block _ _ hc.blk (by rintro (⟨_, _, e⟩ | ⟨_, _, e⟩) <;> simp at e), hc.sz, hc.c0, hc.c1, hc.cs, hc.cc, hc.ck⟩, ⟨hs, kk.block _ _ h1 (by rintro (⟨_, _, e⟩ | ⟨_, _, e⟩) <;> simp at e), h2⟩, h.hl, fun j hj => ?_, h.rd, own_kept h.wy kk (by rintro q cs _ (⟨_, _, e⟩ | ⟨_, _, e⟩) <;> simp at e), fun j hj => own_keptG (h.sr j hj) kk (fun g cs hg => ns _ (by omega) g cs (h.sl j hj g hg)), h.sl, fun j hj => own_keptG (h.cr j hj) kk (fun g cs hg => ns _ (by omega) g cs (h.ll j hj g hg)), h.ll, h.nb, h.nr⟩
  by_cases e : j = i
  · subst e
    dsimp only
    rw [upd_self, upd_self, upd_self]
    refine hr.up fun g hg => ?_
    rcases Nat.lt_or_ge g w.heap.size with hl | hl
    · rcases hg with hg | hg
      · exact ⟨by rw [nlab_lt hl]; exact hg.1, hg.2⟩
      · omega
    · exact ⟨nlab_ge hl, by omega⟩
  · dsimp only
    rw [upd_ne _ _ e, upd_ne _ _ e, upd_ne _ _ e]
    refine (h.rl j hj).keptG kk ?_ (fun q cs hq => ns j e q cs hq.1)
    rintro cs (⟨e2, _⟩ | ⟨_, _, e2⟩)
    · exact h.rd j i hj hi e e2
    · simp at e2
/-- What an append to a row of texts of a label touches. -/
def TS (lab : Nat → Nat) (n0 l : Nat) : Nat → Obj → Prop := fun q o => (lab q = l ∧ n0 ≤ q) ∧ ∃ cs, o = .cells cs 9 (0, 0)
theorem ts_ge {lab : Nat → Nat} {l : Nat} : ∀ q o, TS lab n0 l q o → Ge n0 q o := fun _ _ h => h.1.2
/-- A row of texts of a label has grown, its slice is noted in the block's cell c. -/
theorem TkM.texts (h0 : TkM n0 w b T M) {l : Nat} (hl3 : 3 ≤ l) (k : Kept (TS M.lab n0 l) w w') {c : Nat} {v : Value} (hc2 : 2 ≤ c ∧ c < 34) {a : Option Addr} {m : Nat} {xs : List (List UInt8)} (row : OwnTd n0 w' a m xs) (hat : ∀ g, (Value.slice a xs.length m).ownBlock = some g → M.lab g = l ∨ w.heap.size ≤ g) (hv : v = .slice a xs.length m)
    (T' : Tk) (M' : Mm) (hcase : (∃ j, j < 16 ∧ c = 2 + j ∧ l = 3 + j ∧ T' = { T with sn := upd T.sn j xs } ∧ M' = { M with sa := upd M.sa j a, sc := upd M.sc j m, lab := nlab M.lab w.heap.size l }) ∨ (∃ j, j < 16 ∧ c = 18 + j ∧ l = 19 + j ∧ T' = { T with cm := upd T.cm j xs } ∧ M' = { M with ca := upd M.ca j a, cc := upd M.cc j m, lab := nlab M.lab w.heap.size l })) :
    TkM n0 (w'.setCell ⟨b, c, none⟩ v) b T' M' := by
  subst hv
  have h := h0.relab l
  have hn := h0.size
  have kk : Kept (TS (nlab M.lab w.heap.size l) n0 l) w w' := k.typ fun q o ho hx => ⟨⟨by rw [nlab_lt (lt_of_block ho)]; exact hx.1.1, hx.1.2⟩, hx.2⟩
  obtain ⟨cells, hc⟩ := h.cl
  obtain ⟨hs, h1, h2⟩ := h.ho
  have hb' : w'.heap[b]? = some (.cells cells 58 (0, 0)) := kk.block _ _ hc.blk (by rintro ⟨_, _, e⟩; simp at e)
  have hh' : w'.heap[M.hb]? = some (.cells hs 23 (0, 0)) := kk.block _ _ h1 (by rintro ⟨_, _, e⟩; simp at e)
  have hbne : M.hb ≠ b := fun e => by rw [e, hb'] at hh'; simp at hh'
  have hh'' : (w'.setCell ⟨b, c, none⟩ (.slice a xs.length m)).heap[M.hb]? = some (.cells hs 23 (0, 0)) := blk_other hh' hbne _
  have kb : Kept (One b) w' (w'.setCell ⟨b, c, none⟩ (.slice a xs.length m)) := (Kept.refl _ _).setT (fun _ _ => rfl) _ _
  have ns : ∀ l', l' ≠ l → ∀ g cs, (nlab M.lab w.heap.size l) g = l' → ¬ TS (nlab M.lab w.heap.size l) n0 l g (.cells cs 9 (0, 0)) := fun l' hl g cs hg hx => hl (by rw [← hg]; exact hx.1.1)
  have nb : ∀ {e : TypeId} {size : Nat} {v : Value} {n : Nat} {ys : List Value} {B : Nat}, w'.ownsRow B e size v n ys → e ≠ 58 → (w'.setCell ⟨b, c, none⟩ (.slice a xs.length m)).ownsRow B e size v n ys := fun ho he => own_setB ho (fun eb => by
    rcases ho.2 with ⟨e1, _⟩ | ⟨g, _, _, e1, _, hb2, _⟩
    · rw [e1] at eb; simp [Value.ownBlock] at eb
    · rw [e1] at eb
      have e2 : g = b := by simpa [Value.ownBlock] using eb
      rw [e2, hb'] at hb2
      simp at hb2
      exact he hb2.2.symm) _ _
  have hrl : ∀ i, i < 3 → Rl (fun g => (nlab M.lab w.heap.size l) g = i ∧ n0 ≤ g) (w'.setCell ⟨b, c, none⟩ (.slice a xs.length m)) (M.rb i) ((i + 1 : Nat) : Int) (T.os i) (M.ax i) (M.cx i) := fun i hi => by
    have r := (h.rl i hi).keptG kk (by rintro cs ⟨_, _, e⟩; simp at e) (fun q cs hq => ns i (by omega) q cs hq.1)
    obtain ⟨c3, hc3⟩ := r.cl
    have hne : M.rb i ≠ b := fun e => by have := hc3.blk; rw [e, hb'] at this; simp at this
    exact ⟨⟨c3, blk_other hc3.blk hne _, hc3.sz, hc3.c0, hc3.ca, hc3.cw, hc3.cc⟩, fun j hj => nb (r.rows j hj) (by decide), r.far, r.good⟩
  have hwy : OwnPk n0 (w'.setCell ⟨b, c, none⟩ (.slice a xs.length m)) M.wa M.wc T.way := nb (own_kept h.wy kk (by rintro q cs _ ⟨_, _, e⟩; simp at e)) (by decide)
  have hsr : ∀ j, j < 16 → 3 + j ≠ l → OwnTd n0 (w'.setCell ⟨b, c, none⟩ (.slice a xs.length m)) (M.sa j) (M.sc j) (T.sn j) := fun j hj hl => nb (own_keptG (h.sr j hj) kk (fun g cs hg => ns _ hl g cs (h.sl j hj g hg))) (by decide)
  have hcr : ∀ j, j < 16 → 19 + j ≠ l → OwnTd n0 (w'.setCell ⟨b, c, none⟩ (.slice a xs.length m)) (M.ca j) (M.cc j) (T.cm j) := fun j hj hl => nb (own_keptG (h.cr j hj) kk (fun g cs hg => ns _ hl g cs (h.ll j hj g hg))) (by decide)
  have hnew : OwnTd n0 (w'.setCell ⟨b, c, none⟩ (.slice a xs.length m)) a m xs := nb row (by decide)
  have hlab : ∀ g, (Value.slice a xs.length m).ownBlock = some g → (nlab M.lab w.heap.size l) g = l := fun g hg => by
    rcases Nat.lt_or_ge g w.heap.size with hl | hl
    · rcases hat g hg with h | h
      · rw [nlab_lt hl]; exact h
      · omega
    · exact nlab_ge hl
  have hsz := hc.sz
  rcases hcase with ⟨j, hj, rfl, rfl, rfl, rfl⟩ | ⟨j, hj, rfl, rfl, rfl, rfl⟩
  · refine ⟨⟨_, blk_set hb' _ _, by simpa using hsz, ?_, ?_, fun q hq => ?_, fun q hq => ?_, fun q hq => ?_⟩, ⟨hs, hh'', h2⟩, h.hl, hrl, h.rd, hwy, fun q hq => ?_, fun q hq => ?_, fun q hq => hcr q hq (by omega), h.ll, h.nb, h.nr⟩
    · rw [Array.getElem?_setIfInBounds, if_neg (by omega)]; exact hc.c0
    · rw [Array.getElem?_setIfInBounds, if_neg (by omega)]; exact hc.c1
    · dsimp only
      rw [Array.getElem?_setIfInBounds]
      by_cases e : q = j
      · subst e; rw [if_pos rfl, if_pos (by omega), upd_self, upd_self, upd_self]
      · rw [if_neg (by omega), upd_ne _ _ e, upd_ne _ _ e, upd_ne _ _ e]; exact hc.cs q hq
    · rw [Array.getElem?_setIfInBounds, if_neg (by omega)]; exact hc.cc q hq
    · rw [Array.getElem?_setIfInBounds, if_neg (by omega)]; exact hc.ck q hq
    · dsimp only
      by_cases e : q = j
      · subst e; rw [upd_self, upd_self, upd_self]; exact hnew
      · rw [upd_ne _ _ e, upd_ne _ _ e, upd_ne _ _ e]; exact hsr q hq (by omega)
    · dsimp only
      by_cases e : q = j
      · subst e; rw [upd_self, upd_self, upd_self]; exact hlab
      · rw [upd_ne _ _ e, upd_ne _ _ e, upd_ne _ _ e]; exact h.sl q hq
  · refine ⟨⟨_, blk_set hb' _ _, by simpa using hsz, ?_, ?_, fun q hq => ?_, fun q hq => ?_, fun q hq => ?_⟩, ⟨hs, hh'', h2⟩, h.hl, hrl, h.rd, hwy, fun q hq => hsr q hq (by omega), h.sl, fun q hq => ?_, fun q hq => ?_, h.nb, h.nr⟩
    · rw [Array.getElem?_setIfInBounds, if_neg (by omega)]; exact hc.c0
    · rw [Array.getElem?_setIfInBounds, if_neg (by omega)]; exact hc.c1
    · rw [Array.getElem?_setIfInBounds, if_neg (by omega)]; exact hc.cs q hq
    · dsimp only
      rw [Array.getElem?_setIfInBounds]
      by_cases e : q = j
      · subst e; rw [if_pos rfl, if_pos (by omega), upd_self, upd_self, upd_self]
      · rw [if_neg (by omega), upd_ne _ _ e, upd_ne _ _ e, upd_ne _ _ e]; exact hc.cc q hq
    · rw [Array.getElem?_setIfInBounds, if_neg (by omega)]; exact hc.ck q hq
    · dsimp only
      by_cases e : q = j
      · subst e; rw [upd_self, upd_self, upd_self]; exact hnew
      · rw [upd_ne _ _ e, upd_ne _ _ e, upd_ne _ _ e]; exact hcr q hq (by omega)
    · dsimp only
      by_cases e : q = j
      · subst e; rw [upd_self, upd_self, upd_self]; exact hlab
      · rw [upd_ne _ _ e, upd_ne _ _ e, upd_ne _ _ e]; exact h.ll q hq
/-- Packets' blocks from n0 on. -/
def TW (n0 : Nat) : Nat → Obj → Prop := fun q o => n0 ≤ q ∧ ∃ cs, o = .cells cs 34 (0, 0)
theorem tw_ge : ∀ q o, TW n0 q o → Ge n0 q o := fun _ _ h => h.1
/-- A cell of the block is written: way or a number. -/
theorem TkM.cell (h : TkM n0 w b T M) (kk : Kept (TW n0) w w') {c : Nat} {v : Value} (T' : Tk) (M' : Mm) (hcase : (∃ a m l, c = 1 ∧ v = .slice a l.length m ∧ OwnPk n0 w' a m l ∧ T' = { T with way := l } ∧ M' = { M with wa := a, wc := m }) ∨ (∃ j n, j < 16 ∧ c = 34 + j ∧ v = .int .i64 (n : Nat) ∧ OwnPk n0 w' M.wa M.wc T.way ∧ T' = { T with kn := upd T.kn j n } ∧ M' = M)) :
    TkM n0 (w'.setCell ⟨b, c, none⟩ v) b T' M' := by
  obtain ⟨cells, hc⟩ := h.cl
  obtain ⟨hs, h1, h2⟩ := h.ho
  have hb' : w'.heap[b]? = some (.cells cells 58 (0, 0)) := kk.block _ _ hc.blk (by rintro ⟨_, _, e⟩; simp at e)
  have hh' : w'.heap[M.hb]? = some (.cells hs 23 (0, 0)) := kk.block _ _ h1 (by rintro ⟨_, _, e⟩; simp at e)
  have hbne : M.hb ≠ b := fun e => by rw [e, hb'] at hh'; simp at hh'
  have hh'' : (w'.setCell ⟨b, c, none⟩ v).heap[M.hb]? = some (.cells hs 23 (0, 0)) := blk_other hh' hbne _
  have nb : ∀ {e : TypeId} {size : Nat} {v' : Value} {n : Nat} {ys : List Value} {B : Nat}, w'.ownsRow B e size v' n ys → e ≠ 58 → (w'.setCell ⟨b, c, none⟩ v).ownsRow B e size v' n ys := fun ho he => own_setB ho (fun eb => by
    rcases ho.2 with ⟨e1, _⟩ | ⟨g, _, _, e1, _, hb2, _⟩
    · rw [e1] at eb; simp [Value.ownBlock] at eb
    · rw [e1] at eb
      have e2 : g = b := by simpa [Value.ownBlock] using eb
      rw [e2, hb'] at hb2
      simp at hb2
      exact he hb2.2.symm) _ _
  have hrl : ∀ i, i < 3 → Rl (fun g => M.lab g = i ∧ n0 ≤ g) (w'.setCell ⟨b, c, none⟩ v) (M.rb i) ((i + 1 : Nat) : Int) (T.os i) (M.ax i) (M.cx i) := fun i hi => by
    have r := (h.rl i hi).keptG kk (by rintro cs ⟨_, _, e⟩; simp at e) (by rintro q cs _ ⟨_, _, e⟩; simp at e)
    obtain ⟨c3, hc3⟩ := r.cl
    have hne : M.rb i ≠ b := fun e => by have := hc3.blk; rw [e, hb'] at this; simp at this
    exact ⟨⟨c3, blk_other hc3.blk hne _, hc3.sz, hc3.c0, hc3.ca, hc3.cw, hc3.cc⟩, fun j hj => nb (r.rows j hj) (by decide), r.far, r.good⟩
  have hsr : ∀ j, j < 16 → OwnTd n0 (w'.setCell ⟨b, c, none⟩ v) (M.sa j) (M.sc j) (T.sn j) := fun j hj => nb (own_kept (h.sr j hj) kk (by rintro q cs _ ⟨_, _, e⟩; simp at e)) (by decide)
  have hcr : ∀ j, j < 16 → OwnTd n0 (w'.setCell ⟨b, c, none⟩ v) (M.ca j) (M.cc j) (T.cm j) := fun j hj => nb (own_kept (h.cr j hj) kk (by rintro q cs _ ⟨_, _, e⟩; simp at e)) (by decide)
  have hsz := hc.sz
  rcases hcase with ⟨a, m, l, rfl, rfl, row, rfl, rfl⟩ | ⟨j, n, hj, rfl, rfl, row, rfl, rfl⟩
  · refine ⟨⟨_, blk_set hb' _ _, by simpa using hsz, ?_, ?_, fun q hq => ?_, fun q hq => ?_, fun q hq => ?_⟩, ⟨hs, hh'', h2⟩, h.hl, hrl, h.rd, nb row (by decide), hsr, h.sl, hcr, h.ll, h.nb, h.nr⟩
    · rw [Array.getElem?_setIfInBounds, if_neg (by omega)]; exact hc.c0
    · rw [Array.getElem?_setIfInBounds, if_pos rfl, if_pos (by omega)]
    · rw [Array.getElem?_setIfInBounds, if_neg (by omega)]; exact hc.cs q hq
    · rw [Array.getElem?_setIfInBounds, if_neg (by omega)]; exact hc.cc q hq
    · rw [Array.getElem?_setIfInBounds, if_neg (by omega)]; exact hc.ck q hq
  · refine ⟨⟨_, blk_set hb' _ _, by simpa using hsz, ?_, ?_, fun q hq => ?_, fun q hq => ?_, fun q hq => ?_⟩, ⟨hs, hh'', h2⟩, h.hl, hrl, h.rd, nb row (by decide), hsr, h.sl, hcr, h.ll, h.nb, h.nr⟩
    · rw [Array.getElem?_setIfInBounds, if_neg (by omega)]; exact hc.c0
    · rw [Array.getElem?_setIfInBounds, if_neg (by omega)]; exact hc.c1
    · rw [Array.getElem?_setIfInBounds, if_neg (by omega)]; exact hc.cs q hq
    · rw [Array.getElem?_setIfInBounds, if_neg (by omega)]; exact hc.cc q hq
    · dsimp only
      rw [Array.getElem?_setIfInBounds]
      by_cases e : q = j
      · subst e; rw [if_pos rfl, if_pos (by omega), upd_self]
      · rw [if_neg (by omega), upd_ne _ _ e]; exact hc.ck q hq
theorem TkM.ges {v : Value} {c : Nat} (h : TkM n0 w b T M) (k : Kept (Ge n0) w w') : Kept (Ge n0) w (w'.setCell ⟨b, c, none⟩ v) := k.setT (fun _ _ => h.nb) _ _
/-- What is read of it. -/
theorem TkM.reads (h : TkM n0 w b T M) : w.cell? ⟨b, 0, none⟩ = some (.slice (some ⟨M.hb, 0, none⟩) 3 M.hc) ∧ w.cell? ⟨b, 1, none⟩ = some (.slice M.wa T.way.length M.wc) ∧ (∀ k, k < 16 → w.cell? ⟨b, 2 + k, none⟩ = some (.slice (M.sa k) (T.sn k).length (M.sc k))) ∧ (∀ k, k < 16 → w.cell? ⟨b, 18 + k, none⟩ = some (.slice (M.ca k) (T.cm k).length (M.cc k))) ∧ (∀ k, k < 16 → w.cell? ⟨b, 34 + k, none⟩ = some (.int .i64 (T.kn k))) ∧ (∀ c, w.frozen? ⟨b, c, none⟩ = false) ∧ (∀ i, i < 3 → w.cell? ⟨M.hb, i, none⟩ = some (.pointer (some ⟨M.rb i, 0, none⟩))) := by
  obtain ⟨cells, hc⟩ := h.cl
  obtain ⟨hs, h1, h2⟩ := h.ho
  exact ⟨by rw [blk_cell hc.blk]; exact hc.c0, by rw [blk_cell hc.blk]; exact hc.c1, fun k hk => by rw [blk_cell hc.blk]; exact hc.cs k hk, fun k hk => by rw [blk_cell hc.blk]; exact hc.cc k hk, fun k hk => by rw [blk_cell hc.blk]; exact hc.ck k hk, fun c => blk_free hc.blk _, fun i hi => by rw [blk_cell h1]; exact h2 i hi⟩
end
theorem step_append_at {P : Program} {w : World} {ops : Array Oper} {o : Oper} {a : Act} {K : Act → World → Prop} {Q : Exit → Act → World → Prop} {E : Prop} (hgd : o.guard = none) (s xo : Operand) (t tx : TypeId)
    (ho : o.op = .call { callee := .builtin .append, args := #[s, xo], argTypes := #[t, tx] })
    (base : Nat) (e : TypeId) (i : TypeInfo) (z : Value) (size bytes : Nat) (ht : P.underlying t = some (.slice e)) (hi : P.info? e = some i) (hz : i.zero = some z)
    (hsize : i.size = size) (hby : i.bytes = bytes) (hzs : z.cells.size = size)
    (v : Value) (n : Nat) (xs : List Value) (hv : a.eval s = v) (hown : w.ownsRow base e size v n xs) (x : Value) (m : Nat) (news : List Value) (hx : a.eval xo = x) (hs : Src P size tx x m news w)
    (h63 : n + m ≤ maxLen) (hbytes : (n + m) * bytes ≤ 140737488355328) (hbase : base ≤ w.heap.size)
    (h : ∀ ao c w', w'.ownsRow base e size (.slice ao (n + m) c) (n + m) (xs ++ news) → w.grownBy w' v.ownBlock → (∀ g, (Value.slice ao (n + m) c).ownBlock = some g → v.ownBlock = some g ∨ w.heap.size ≤ g) → K (a.put o.dst (.slice ao (n + m) c)) w') :
    if Region.wanted o (yielded ops a.tmps) = true then Oper.wp P o a w K Q else E := by
  rw [if_pos (by simp [Region.wanted, hgd])]
  exact wp_append_at w s xo t tx ho base e i z size bytes ht hi hz hsize hby hzs v n xs hv hown x m news hx hs h63 hbytes hbase fun v' w' h2 h3 h4 => by
    obtain ⟨ao, c, rfl⟩ := own_shape h2
    exact h ao c w' h2 h3 h4
end Go.Proofs.Ytmlncfnnldplgaa
