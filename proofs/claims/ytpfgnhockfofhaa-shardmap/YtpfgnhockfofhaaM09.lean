/-
  Joined: WRm1, WShR, WRm2.
-/
import Derived.Test.YtpfgnhockfofhaaM08
import Derived.Deep.DeepCutAuto
import Derived.Ground.Names2Prog
import Derived.Shelf.Slices.Delete
import Derived.Shelf.Slices.Cells
import Derived.Shelf.Slices.Empties
import Derived.Test.YtpfgnhockfofhaaProg
/-
  Relays: what one holds; New, isOther, Send.
-/
namespace Go.Proofs.Ytpfgnhockfofhaa
open Go.RowKit

theorem own_setB {B size n g : Nat} {e : TypeId} {w : World} {v : Value} {xs : List Value} (h : w.ownsRow B e size v n xs) (hne : v.ownBlock ≠ some g) (i : Nat) (u : Value) : (w.setCell ⟨g, i, none⟩ u).ownsRow B e size v n xs := by
  refine ⟨h.1, h.2.imp id ?_⟩
  rintro ⟨g', cap, cur, hv, hb, hh, h3⟩
  exact ⟨g', cap, cur, hv, hb, blk_other hh (fun e => hne (by rw [hv]; simp [Value.ownBlock]; exact e)) _, h3⟩
/-- What is known of another host. -/
structure Oh where
  ak : Nat
  wt : List (List UInt8)
  cm : Nat
/-- A relay's cells. -/
structure RlC (w : World) (b : Nat) (id : Int) (os : Nat → Oh) (ao : Nat → Option Addr) (cs : Nat → Nat) (cells : Array Value) : Prop where
  blk : w.heap[b]? = some (.cells cells 90 (0, 0))
  sz : cells.size = 31
  c0 : cells[0]? = some (.int .i64 id)
  ca : ∀ k, k < 10 → cells[1 + k * 3]? = some (.int .i64 (os k).ak)
  cw : ∀ k, k < 10 → cells[1 + k * 3 + 1]? = some (.slice (ao k) (os k).wt.length (cs k))
  cc : ∀ k, k < 10 → cells[1 + k * 3 + 2]? = some (.int .i64 (os k).cm)
/-- A relay in memory: its rows lie in good blocks, each for itself. -/
structure Rl (B : Nat → Prop) (w : World) (b : Nat) (id : Int) (os : Nat → Oh) (ao : Nat → Option Addr) (cs : Nat → Nat) : Prop where
  cl : ∃ cells, RlC w b id os ao cs cells
  rows : ∀ k, k < 10 → OwnTd 0 w (ao k) (cs k) (os k).wt
  far : ∀ j k, j < 10 → k < 10 → j ≠ k → ∀ g, (Value.slice (ao j) (os j).wt.length (cs j)).ownBlock = some g → (Value.slice (ao k) (os k).wt.length (cs k)).ownBlock ≠ some g
  good : ∀ k, k < 10 → ∀ g, (Value.slice (ao k) (os k).wt.length (cs k)).ownBlock = some g → B g
theorem Rl.kept {B : Nat → Prop} {b : Nat} {w w' : World} {id : Int} {os : Nat → Oh} {ao : Nat → Option Addr} {cs : Nat → Nat} (h : Rl B w b id os ao cs) (k : Kept Nil w w') : Rl B w' b id os ao cs := by
  obtain ⟨cells, hc⟩ := h.cl
  exact ⟨⟨cells, k.block _ _ hc.blk (fun x => x), hc.sz, hc.c0, hc.ca, hc.cw, hc.cc⟩, fun j hj => (h.rows j hj).kept k, h.far, h.good⟩
theorem Rl.up {B B' : Nat → Prop} {b : Nat} {w : World} {id : Int} {os : Nat → Oh} {ao : Nat → Option Addr} {cs : Nat → Nat} (h : Rl B w b id os ao cs) (hB : ∀ g, B g → B' g) : Rl B' w b id os ao cs := ⟨h.cl, h.rows, h.far, fun k hk g hg => hB g (h.good k hk g hg)⟩
def isOth (id ho : Int) : Bool := isNd ho && !decide (ho = id)
set_option maxRecDepth 100000 in
set_option maxHeartbeats 1000000 in
theorem isOther_any (B : Nat → Prop) (b : Nat) (id ho : Int) (os : Nat → Oh) (ao : Nat → Option Addr) (cs : Nat → Nat) (w : World) (h : Rl B w b id os ao cs) :
    Calls Try.prog 31 #[.pointer (some ⟨b, 0, none⟩), .int .i64 ho] w fun e w' => e = .returned (.bool (isOth id ho)) ∧ w' = w := by
  obtain ⟨cells, hc⟩ := h.cl
  have c0 : w.cell? ⟨b, 0, none⟩ = some (.int .i64 id) := by rw [blk_cell hc.blk]; exact hc.c0
  obtain ⟨z, HZ⟩ : ∃ z, Hid (z = isOth id ho) := ⟨_, rfl⟩
  rw [← HZ.out]
  have IN := isNode_any ho w
  clear h hc
  cases hn : isNd ho with
  | false =>
    rw [hn] at IN
    have HF : Hid (z = false) := by show _ = _; rw [HZ.out]; unfold isOth; rw [hn]; rfl
    clear hn
    go_enter Try.func31, Try.ntmps31
    go_wp2_with fail
    go_fit IN
    rintro e _ ⟨rfl, hw9⟩
    rw [hw9]
    clear hw9 IN
    go_wp2
    go_ret
    exact ⟨by rw [HF.out]; rfl, rfl⟩
  | true =>
    rw [hn] at IN
    have HF : Hid (z = !decide (ho = id)) := by show _ = _; rw [HZ.out]; unfold isOth; rw [hn]; rfl
    clear hn
    go_enter Try.func31, Try.ntmps31
    go_wp2_with fail
    go_fit IN
    rintro e _ ⟨rfl, hw9⟩
    rw [hw9]
    clear hw9 IN
    go_wp2
    go_ret
    exact ⟨by rw [HF.out]; first | rfl | (simp; rfl), rfl⟩
def oh0 : Oh := ⟨0, [], 0⟩
set_option maxRecDepth 100000 in
set_option maxHeartbeats 1000000 in
theorem newR_any (id : Int) (w : World) :
    Calls Try.prog 6 #[.int .i64 id] w fun e w' => (isNd id = false ∧ e = .returned (.tuple #[.pointer none, .int .i64 13]) ∧ w' = w) ∨ (isNd id = true ∧ e = .returned (.tuple #[.pointer (some ⟨w.heap.size, 0, none⟩), .int .i64 0]) ∧ Rl (fun _ => False) w' w.heap.size id (fun _ => oh0) (fun _ => none) (fun _ => 0) ∧ Kept Nil w w') := by
  have IN := isNode_any id w
  cases hn : isNd id with
  | false =>
    rw [hn] at IN
    clear hn
    go_enter Try.func6, Try.ntmps6
    go_wp2_with fail
    go_fit IN
    rintro e _ ⟨rfl, hw9⟩
    rw [hw9]
    clear hw9 IN
    go_wp2
    go_ret2
    exact .inl ⟨trivial, rfl, rfl⟩
  | true =>
    rw [hn] at IN
    clear hn
    go_enter Try.func6, Try.ntmps6
    go_wp2_with fail
    go_fit IN
    rintro e _ ⟨rfl, hw9⟩
    rw [hw9]
    clear hw9 IN
    go_wp2
    go_ret2
    refine .inr ⟨trivial, rfl, ⟨⟨_, blk_new _ _, rfl, rfl, fun k hk => ?_, fun k hk => ?_, fun k hk => ?_⟩, fun k _ => World.ownsRow_nil _ _ _ _, fun j k _ _ _ g hg => by simp [Value.ownBlock] at hg, fun k _ g hg => by simp [Value.ownBlock] at hg⟩, (Kept.refl _ _).alloc _⟩
    all_goals (
      have : k = 0 ∨ k = 1 ∨ k = 2 ∨ k = 3 ∨ k = 4 ∨ k = 5 ∨ k = 6 ∨ k = 7 ∨ k = 8 ∨ k = 9 := by omega
      rcases this with rfl | rfl | rfl | rfl | rfl | rfl | rfl | rfl | rfl | rfl <;> rfl)

/-- With another host's changed. -/
def upd {α : Type} (f : Nat → α) (k : Nat) (x : α) : Nat → α := fun j => if j = k then x else f j
theorem upd_self {α : Type} (f : Nat → α) (k : Nat) (x : α) : upd f k x k = x := if_pos rfl
theorem upd_ne {α : Type} (f : Nat → α) {j k : Nat} (x : α) (h : j ≠ k) : upd f k x j = f j := if_neg h
theorem upd_id {α : Type} (f : Nat → α) (k : Nat) : upd f k (f k) = f := funext fun j => by unfold upd; split <;> simp_all
/-- What a call on a relay may touch: its block, and rows of texts. -/
def TX (B : Nat → Prop) (b : Nat) : Nat → Obj → Prop := fun q o => (q = b ∧ ∃ cs, o = .cells cs 90 (0, 0)) ∨ (B q ∧ ∃ cs, o = .cells cs 9 (0, 0))
theorem Kept.setT {X : Nat → Obj → Prop} {a w : World} (h : Kept X a w) {b : Nat} (hb : ∀ o, a.heap[b]? = some o → X b o) (i : Nat) (u : Value) : Kept X a (w.setCell ⟨b, i, none⟩ u) :=
  ⟨h.os, h.tape, h.output, by simpa [World.setCell] using h.size, fun k o ho hx => by
    rw [Below.heap_setCell _ _ _ _ (fun e => hx (by have e : k = b := e; subst e; exact hb o ho))]; exact h.block k o ho hx⟩
theorem Kept.grownT {X : Nat → Obj → Prop} {a w w' : World} {row : Option Nat} (h : Kept X a w) (hg : w.grownBy w' row) (hrow : ∀ k, row = some k → ∀ o, a.heap[k]? = some o → X k o) : Kept X a w' :=
  ⟨hg.os.trans h.os, hg.tape.trans h.tape, hg.output.trans h.output, Nat.le_trans h.size hg.size, fun k o ho hx => by
    have hk := lt_of_block ho
    rw [hg.block k (by have := h.size; omega) (fun e => hx (hrow k e.symm o ho))]
    exact h.block k o ho hx⟩
theorem ownTd_ne {B c b : Nat} {w : World} {ao : Option Addr} {ks : List (List UInt8)} {cs : Array Value} {t : TypeId} (h : OwnTd B w ao c ks) (hb : w.heap[b]? = some (.cells cs t (0, 0))) (ht : t ≠ 9) : (Value.slice ao ks.length c).ownBlock ≠ some b := fun e => by
  cases ao with
  | none => simp [Value.ownBlock] at e
  | some a =>
    obtain ⟨g, cs', eg, _, hh, _⟩ := h.block (by simp)
    cases eg
    simp [Value.ownBlock] at e
    subst e
    rw [hh] at hb
    simp at hb
    exact ht hb.2.symm
theorem Rl.setW {B B' : Nat → Prop} {b k : Nat} {w w2 : World} {id : Int} {os : Nat → Oh} {ao : Nat → Option Addr} {cs : Nat → Nat} {cells : Array Value} (h : Rl B w b id os ao cs) (hc : RlC w b id os ao cs cells) (hk : k < 10) (hb2 : w2.heap[b]? = some (.cells cells 90 (0, 0)))
    (rows : ∀ j, j < 10 → j ≠ k → OwnTd 0 w2 (ao j) (cs j) (os j).wt) {a' : Option Addr} {c' : Nat} {wt' : List (List UInt8)} (row : OwnTd 0 w2 a' c' wt') (hB : ∀ g, B g → B' g) (hrow : ∀ g, (Value.slice a' wt'.length c').ownBlock = some g → B' g)
    (far : ∀ j, j < 10 → j ≠ k → ∀ g, (Value.slice (ao j) (os j).wt.length (cs j)).ownBlock = some g → (Value.slice a' wt'.length c').ownBlock ≠ some g) :
    Rl B' (w2.setCell ⟨b, 1 + k * 3 + 1, none⟩ (.slice a' wt'.length c')) b id (upd os k { os k with wt := wt' }) (upd ao k a') (upd cs k c') := by
  have hsz := hc.sz
  refine ⟨⟨_, blk_set hb2 _ _, by simpa using hsz, ?_, fun j hj => ?_, fun j hj => ?_, fun j hj => ?_⟩, fun j hj => ?_, fun i j hi hj hij g hg => ?_, fun j hj g hg => ?_⟩
  · rw [Array.getElem?_setIfInBounds, if_neg (by omega)]; exact hc.c0
  · rw [Array.getElem?_setIfInBounds, if_neg (by omega), hc.ca j hj]
    by_cases e : j = k
    · subst e; rw [upd_self]
    · rw [upd_ne _ _ e]
  · rw [Array.getElem?_setIfInBounds]
    by_cases e : j = k
    · subst e; rw [if_pos rfl, if_pos (by omega), upd_self, upd_self, upd_self]
    · rw [if_neg (by omega), hc.cw j hj, upd_ne _ _ e, upd_ne _ _ e, upd_ne _ _ e]
  · rw [Array.getElem?_setIfInBounds, if_neg (by omega), hc.cc j hj]
    by_cases e : j = k
    · subst e; rw [upd_self]
    · rw [upd_ne _ _ e]
  · by_cases e : j = k
    · subst e; rw [upd_self, upd_self, upd_self]; exact own_setB row (ownTd_ne row hb2 (by decide)) _ _
    · rw [upd_ne _ _ e, upd_ne _ _ e, upd_ne _ _ e]; exact own_setB (rows j hj e) (ownTd_ne (rows j hj e) hb2 (by decide)) _ _
  · by_cases e : i = k
    · subst e
      have e2 : j ≠ i := fun x => hij x.symm
      rw [upd_self, upd_self, upd_self] at hg
      rw [upd_ne _ _ e2, upd_ne _ _ e2, upd_ne _ _ e2]
      exact fun x => far j hj e2 g x hg
    · rw [upd_ne _ _ e, upd_ne _ _ e, upd_ne _ _ e] at hg
      by_cases e2 : j = k
      · subst e2; rw [upd_self, upd_self, upd_self]; exact far i hi e g hg
      · rw [upd_ne _ _ e2, upd_ne _ _ e2, upd_ne _ _ e2]; exact h.far i j hi hj hij g hg
  · by_cases e : j = k
    · subst e; rw [upd_self, upd_self, upd_self] at hg; exact hrow g hg
    · rw [upd_ne _ _ e, upd_ne _ _ e, upd_ne _ _ e] at hg; exact hB g (h.good j hj g hg)
theorem Rl.setI {B : Nat → Prop} {b k r : Nat} {w : World} {id : Int} {os : Nat → Oh} {ao : Nat → Option Addr} {cs : Nat → Nat} (h : Rl B w b id os ao cs) (hk : k < 10) (hr : r = 0 ∨ r = 2) (n : Nat) :
    Rl B (w.setCell ⟨b, 1 + k * 3 + r, none⟩ (.int .i64 n)) b id (upd os k (if r = 0 then { os k with ak := n } else { os k with cm := n })) ao cs := by
  obtain ⟨cells, hc⟩ := h.cl
  have hsz := hc.sz
  have hwt : ∀ j, (upd os k (if r = 0 then { os k with ak := n } else { os k with cm := n }) j).wt = (os j).wt := fun j => by
    by_cases e : j = k
    · subst e; rw [upd_self]; split <;> rfl
    · rw [upd_ne _ _ e]
  refine ⟨⟨_, blk_set hc.blk _ _, by simpa using hsz, ?_, fun j hj => ?_, fun j hj => ?_, fun j hj => ?_⟩, fun j hj => ?_, fun i j hi hj hij g hg => ?_, fun j hj g hg => ?_⟩
  · rw [Array.getElem?_setIfInBounds, if_neg (by omega)]; exact hc.c0
  · rw [Array.getElem?_setIfInBounds]
    by_cases e : j = k
    · subst e
      rw [upd_self]
      rcases hr with rfl | rfl
      · rw [if_pos (by omega), if_pos (by omega)]; rfl
      · rw [if_neg (by omega), hc.ca j hj]; rfl
    · rw [if_neg (by rcases hr with rfl | rfl <;> omega), hc.ca j hj, upd_ne _ _ e]
  · rw [Array.getElem?_setIfInBounds, if_neg (by rcases hr with rfl | rfl <;> omega), hc.cw j hj, hwt]
  · rw [Array.getElem?_setIfInBounds]
    by_cases e : j = k
    · subst e
      rw [upd_self]
      rcases hr with rfl | rfl
      · rw [if_neg (by omega), hc.cc j hj]; rfl
      · rw [if_pos (by omega), if_pos (by omega)]; rfl
    · rw [if_neg (by rcases hr with rfl | rfl <;> omega), hc.cc j hj, upd_ne _ _ e]
  · rw [hwt]; exact own_setB (h.rows j hj) (ownTd_ne (h.rows j hj) hc.blk (by decide)) _ _
  · rw [hwt] at hg ⊢; exact h.far i j hi hj hij g hg
  · rw [hwt] at hg; exact h.good j hj g hg
def sendO (o : Oh) (body : List UInt8) : Oh := { o with wt := o.wt ++ [body] }
set_option maxRecDepth 100000 in
set_option maxHeartbeats 2000000 in
theorem send_full (B : Nat → Prop) (b k : Nat) (id : Int) (body : List UInt8) (os : Nat → Oh) (ao : Nat → Option Addr) (cs : Nat → Nat) (w : World) (h : Rl B w b id os ao cs) (hk : k < 10) (hn : isOth id k = true) (hf : (os k).wt.length = 16) :
    Calls Try.prog 7 #[.pointer (some ⟨b, 0, none⟩), .int .i64 k, .string (bs body)] w fun e w' => e = .returned (.int .i64 4) ∧ w' = w := by
  have IO := isOther_any B b id k os ao cs w h
  obtain ⟨cells, hc⟩ := h.cl
  rw [hn] at IO
  have hki : (k : Int) < 10 := by omega
  have c1 : w.cell? ⟨b, 1 + k * 3 + 1, none⟩ = some (.slice (ao k) (os k).wt.length (cs k)) := by rw [blk_cell hc.blk]; exact hc.cw k hk
  clear hn hc
  go_enter Try.func7, Try.ntmps7
  go_wp2_with fail
  go_fit IO
  rintro e _ ⟨rfl, hw9⟩
  rw [hw9]
  clear hw9 IO
  go_wp2
  go_ret
  exact ⟨rfl, rfl⟩
set_option maxRecDepth 100000 in
set_option maxHeartbeats 4000000 in
theorem send_yes (B : Nat → Prop) (b k : Nat) (id : Int) (body : List UInt8) (os : Nat → Oh) (ao : Nat → Option Addr) (cs : Nat → Nat) (w : World) (h : Rl B w b id os ao cs) (hk : k < 10) (hn : isOth id k = true) (hf : (os k).wt.length < 16) :
    Calls Try.prog 7 #[.pointer (some ⟨b, 0, none⟩), .int .i64 k, .string (bs body)] w fun e w' => e = .returned (.int .i64 0) ∧ (∃ a c, Rl (fun g => B g ∨ w.heap.size ≤ g) w' b id (upd os k (sendO (os k) body)) (upd ao k a) (upd cs k c)) ∧ Kept (TX B b) w w' := by
  have IO := isOther_any B b id k os ao cs w h
  obtain ⟨cells, hc⟩ := h.cl
  obtain ⟨j0, hj, hy0, hy1, hy2⟩ := info_parts Try.infoTd
  rw [hn] at IO
  have hki : (k : Int) < 10 := by omega
  have c1 : w.cell? ⟨b, 1 + k * 3 + 1, none⟩ = some (.slice (ao k) (os k).wt.length (cs k)) := by rw [blk_cell hc.blk]; exact hc.cw k hk
  have HH : Hid (Rl B w b id os ao cs) := h
  have HC : Hid (RlC w b id os ao cs cells) := hc
  obtain ⟨a0, Ha0⟩ : ∃ a, Hid (a = ao k) := ⟨_, rfl⟩
  obtain ⟨c0, Hc0⟩ : ∃ a, Hid (a = cs k) := ⟨_, rfl⟩
  obtain ⟨wt, Hwt⟩ : ∃ a, Hid (a = (os k).wt) := ⟨_, rfl⟩
  rw [← Ha0.out, ← Hc0.out, ← Hwt.out] at c1
  rw [← Hwt.out] at hf
  have HO : Hid (w.ownsRow 0 9 1 (.slice a0 wt.length c0) wt.length (tdCells wt)) := by rw [Ha0.out, Hc0.out, Hwt.out]; exact h.rows k hk
  have HLL : Hid (wt.length + 1 ≤ maxLen ∧ (wt.length + 1) * 16 ≤ 140737488355328) := by constructor <;> (try unfold maxLen) <;> omega
  have hne16 : ¬ (wt.length : Int) = 16 := by omega
  have hne16b : ((wt.length : Int) == 16) = false := beq_eq_false_iff_ne.2 hne16
  have hbl := lt_of_block hc.blk
  have hab : (Value.slice a0 wt.length c0).ownBlock ≠ some b := ownTd_ne (ks := wt) HO.out hc.blk (by decide)
  clear hn hc h
  go_enter Try.func7, Try.ntmps7
  go_wp2_with fail
  go_fit IO
  rintro e _ ⟨rfl, hw9⟩
  rw [hw9]
  clear hw9 IO
  go_wp2_with (at_builtin; go_must (refine wpList_append_at _ rfl _ _ 54 54 rfl 0 9 j0 (.string ⟨#[]⟩) 1 16 Try.underlying54 hj hy0 hy1 hy2 rfl (.slice a0 wt.length c0) wt.length (tdCells wt) rfl (World.ownsRow.alloc HO.out _) (.slice (some ⟨w.heap.size, 0, none⟩) 1 1) 1 [.string (bs body)] rfl (oneT_src w body) HLL.out.1 HLL.out.2 (Nat.zero_le _) ?_); intro a2 c2 w2 ho2 hg2 hat2; have HO2 : Hid (OwnTd 0 w2 a2 c2 (wt ++ [body])) := OwnTd.app (gs := [body]) rfl rfl ho2; have HG2 : Hid ((w.alloc (.cells #[.string (bs body)] 9)).grownBy w2 (Value.slice a0 wt.length c0).ownBlock) := hg2; have HA2 : Hid (∀ g, (Value.slice a2 (wt.length + 1) c2).ownBlock = some g → (Value.slice a0 wt.length c0).ownBlock = some g ∨ w.heap.size + 1 ≤ g) := (fun g hg => by rcases hat2 g hg with h | h; exact .inl h; exact .inr (by simpa using h)); have hb2 : w2.heap[b]? = some (.cells cells 90 (0, 0)) := (by rw [hg2.block b (by simp; omega) (fun e => hab e.symm)]; exact blk_past HC.out.blk _); have d1 : w2.cell? ⟨b, 1 + k * 3 + 1, none⟩ = some (.slice a0 wt.length c0) := (by rw [blk_cell hb2, Ha0.out, Hc0.out, Hwt.out]; exact HC.out.cw k hk); have f1 : w2.frozen? ⟨b, 1 + k * 3 + 1, none⟩ = false := blk_free hb2 _; clear ho2 hg2 hat2)
  go_ret
  have hlen : (wt ++ [body]).length = wt.length + 1 := by rw [List.length_append]; rfl
  have key := HH.out.setW HC.out hk hb2 (a' := a2) (c' := c2) (wt' := wt ++ [body]) (fun j hj hjk => own_farD (own_kept (X := Nil) (HH.out.rows j hj) ((Kept.refl _ _).alloc _) (fun _ _ _ x => x.elim)) HG2.out (fun g hg => by rw [Ha0.out, Hc0.out, Hwt.out]; exact HH.out.far j k hj hk hjk g hg)) HO2.out (B' := fun g => B g ∨ w.heap.size ≤ g) (fun _ h => .inl h) (fun g hg => by rw [hlen] at hg; rcases HA2.out g hg with h1 | h1; exact .inl (by rw [Ha0.out, Hc0.out, Hwt.out] at h1; exact HH.out.good k hk g h1); exact .inr (by omega)) (fun j hj hjk g hg => fun e => by
    rw [hlen] at e
    rcases HA2.out g e with h1 | h1
    · rw [Ha0.out, Hc0.out, Hwt.out] at h1; exact HH.out.far j k hj hk hjk g hg h1
    · have := (HH.out.rows j hj).lt g hg; omega)
  rw [hlen] at key
  have e1 : ({ os k with wt := wt ++ [body] } : Oh) = sendO (os k) body := by unfold sendO; rw [Hwt.out]
  rw [e1] at key
  refine ⟨rfl, ⟨a2, c2, key⟩, ?_⟩
  have K0 : Kept (TX B b) w (w.alloc (.cells #[.string (bs body)] 9)) := (Kept.refl _ _).alloc _
  have K1 := K0.grownT HG2.out (fun g hg o ho => by
    cases a0 with
    | none => simp [Value.ownBlock] at hg
    | some a =>
      obtain ⟨g', cs', eg, hbg, hh, _⟩ := OwnTd.block (ks := wt) HO.out (by simp)
      cases eg
      simp [Value.ownBlock] at hg
      subst hg
      rw [hh] at ho
      cases ho
      exact .inr ⟨HH.out.good k hk g' (by rw [← Ha0.out]; rfl), _, rfl⟩)
  exact K1.setT (fun o ho => by rw [HC.out.blk] at ho; cases ho; exact .inl ⟨rfl, _, rfl⟩) _ _
end Go.Proofs.Ytpfgnhockfofhaa

/-
  The library's own contracts, laid at this program.
-/
namespace Go.Proofs.Ytpfgnhockfofhaa
open Go.Shelf
def Try.laysNm224_ren : Go.Shelf.Ren := ⟨fun | 24 => 42 | n => n, fun | 24 => 54 | 9 => 9 | 3 => 3 | 4 => 4 | 0 => 0 | n => n, fun | n => n⟩
theorem Try.laysNm224 : Go.Proofs.Lays2.n24 Try.prog Try.laysNm224_ren := {
  mixed := by kernel_rfl
  f24 := Try.func42.trans (congrArg some (by kernel_rfl))
  t0 := Try.underlying0
  a0 := Try.isAgg0
  z0 := Try.sizeOf0
  v0 := Try.zeroValue0
  t3 := Try.underlying3
  a3 := Try.isAgg3
  z3 := Try.sizeOf3
  v3 := Try.zeroValue3
  t4 := Try.underlying4
  a4 := Try.isAgg4
  z4 := Try.sizeOf4
  v4 := Try.zeroValue4
  t9 := Try.underlying9
  a9 := Try.isAgg9
  z9 := Try.sizeOf9
  v9 := Try.zeroValue9
  t24 := Try.underlying54
  a24 := Try.isAgg54
  z24 := Try.sizeOf54
  v24 := Try.zeroValue54
  i9 := by kernel_rfl }
open Go.RowKit Go.Lib Go.Sort in
theorem Try.slices_Delete_string_cells (b off n c i j : Nat) (Sx : Nat → ByteArray) (w : World) (hcap : n ≤ c) (hm : c ≤ 9223372036854775807) (hij : i ≤ j) (hj : j ≤ n) (hc : ∀ i, i < n → w.cell? ⟨b, off + i, none⟩ = some (.string (Sx i))) (hf : ∀ j, j < n → w.frozen? ⟨b, off + j, none⟩ = false) :
    Calls Try.prog 42 #[.slice (some ⟨b, off, none⟩) n c, .int .i64 i, .int .i64 j] w fun e w' => e = .returned (.slice (some ⟨b, off, none⟩) (n - (j - i)) c) ∧ ∃ q, w' = (w.drewN q).setCells b off (((Lib.strsOf Sx n).take i ++ (Lib.strsOf Sx n).drop j ++ List.replicate (j - i) []).map encStr) := Any.slices_Delete_string_cells Try.laysNm224 b off n c i j Sx w hcap hm hij hj hc hf

end Go.Proofs.Ytpfgnhockfofhaa

/-
  Relays: slices.Delete of texts, acknowledge, Receive.
-/
namespace Go.Proofs.Ytpfgnhockfofhaa
open Go.RowKit Go.Sort

theorem getD_bs (wt : List (List UInt8)) : Lib.strsOf (fun i => bs (wt.getD i [])) wt.length = wt := by
  unfold Lib.strsOf
  apply List.ext_getElem
  · simp
  · intro i h1 h2
    simp [bs_data, h2]
set_option maxRecDepth 100000 in
theorem deleteT_any (B c n g : Nat) (wt : List (List UInt8)) (w : World) (h : OwnTd B w (some ⟨g, 0, none⟩) c wt) (hn : n ≤ wt.length) :
    Calls Try.prog 42 #[.slice (some ⟨g, 0, none⟩) wt.length c, .int .i64 0, .int .i64 n] w fun e w' => e = .returned (.slice (some ⟨g, 0, none⟩) (wt.length - n) c) ∧ OwnTd B w' (some ⟨g, 0, none⟩) c (wt.drop n) ∧ w.grownBy w' (some g) := by
  obtain ⟨g', cs, e, hB, hh, hl, hm, hs, ht⟩ := h.block (by simp)
  cases e
  have D := Try.slices_Delete_string_cells g 0 wt.length c 0 n (fun i => bs (wt.getD i [])) w hl hm (Nat.zero_le _) hn (fun i hi => by rw [Nat.zero_add, h.cellT hi]; simp [hi]) (fun j _ => blk_free hh _)
  rw [getD_bs, List.take_zero, List.nil_append, Nat.sub_zero] at D
  refine D.mono ?_
  rintro e w' ⟨rfl, q, rfl⟩
  refine ⟨rfl, ?_, ?_⟩
  · obtain ⟨cs', b1, s1, g1⟩ := blk_setCellsK (b := g) ((wt.drop n ++ List.replicate n []).map encStr) 0 (w.drewN q) cs hh
    refine ⟨tdCells_len _, .inr ⟨g, c, cs', rfl, hB, b1, by rw [List.length_drop]; omega, hm, by omega, ?_⟩⟩
    apply List.ext_getElem?
    intro i
    rw [Nat.mul_one, List.getElem?_take]
    split
    · rename_i hi
      rw [List.length_drop] at hi
      rw [Array.getElem?_toList, g1 i, if_pos (by simp; omega), Nat.sub_zero, List.map_append, List.getElem?_append_left (by simp; omega)]
      rfl
    · rename_i hi
      exact (List.getElem?_eq_none (by rw [tdCells_len]; omega)).symm
  · exact grownBy_setCellsK g _ _ ⟨rfl, rfl, rfl, Nat.le_refl _, fun _ _ _ => rfl⟩
/-- What an Ack does. -/
def ackO (o : Oh) (m : Int) : Oh := if m - o.ak < 1 ∨ m - o.ak > o.wt.length then o else ⟨m.toNat, o.wt.drop (m.toNat - o.ak), o.cm⟩
set_option maxRecDepth 100000 in
set_option maxHeartbeats 4000000 in
theorem ack_any (B : Nat → Prop) (b k : Nat) (id m : Int) (os : Nat → Oh) (ao : Nat → Option Addr) (cs : Nat → Nat) (w : World) (h : Rl B w b id os ao cs) (hk : k < 10) (hm : 1 ≤ m) (hm2 : m ≤ 9223372036854775807) (hf : (os k).wt.length ≤ 16) (ha : (os k).ak ≤ 9000000000000000000) :
    Calls Try.prog 32 #[.pointer (some ⟨b, 1 + k * 3, none⟩), .int .i64 m] w fun e w' => e = .returned (.tuple #[]) ∧ (∃ a c, Rl B w' b id (upd os k (ackO (os k) m)) (upd ao k a) (upd cs k c)) ∧ Kept (TX B b) w w' := by
  obtain ⟨cells, hc⟩ := h.cl
  have HH : Hid (Rl B w b id os ao cs) := h
  have HC : Hid (RlC w b id os ao cs cells) := hc
  have c0 : w.cell? ⟨b, 1 + k * 3, none⟩ = some (.int .i64 (os k).ak) := by rw [blk_cell hc.blk]; exact hc.ca k hk
  have c1 : w.cell? ⟨b, 1 + k * 3 + 1, none⟩ = some (.slice (ao k) (os k).wt.length (cs k)) := by rw [blk_cell hc.blk]; exact hc.cw k hk
  obtain ⟨a0, Ha0⟩ : ∃ a, Hid (a = ao k) := ⟨_, rfl⟩
  obtain ⟨n0, Hn0⟩ : ∃ a, Hid (a = cs k) := ⟨_, rfl⟩
  obtain ⟨wt, Hwt⟩ : ∃ a, Hid (a = (os k).wt) := ⟨_, rfl⟩
  obtain ⟨ak, Hak⟩ : ∃ a, Hid (a = (os k).ak) := ⟨_, rfl⟩
  rw [← Hak.out] at c0
  rw [← Ha0.out, ← Hn0.out, ← Hwt.out] at c1
  rw [← Hwt.out] at hf
  rw [← Hak.out] at ha
  have hai : (ak : Int) ≤ 9000000000000000000 := by omega
  have f0 : w.frozen? ⟨b, 1 + k * 3, none⟩ = false := blk_free hc.blk _
  clear hc h
  by_cases hx : m - ak < 1 ∨ m - ak > wt.length
  · have HE : Hid (ackO (os k) m = os k) := by show _ = _; unfold ackO; rw [← Hak.out, ← Hwt.out, if_pos hx]
    have fin : (∃ a c, Rl B w b id (upd os k (ackO (os k) m)) (upd ao k a) (upd cs k c)) ∧ Kept (TX B b) w w := ⟨⟨ao k, cs k, by rw [HE.out, upd_id, upd_id, upd_id]; exact HH.out⟩, Kept.refl _ _⟩
    have HFin : Hid ((∃ a c, Rl B w b id (upd os k (ackO (os k) m)) (upd ao k a) (upd cs k c)) ∧ Kept (TX B b) w w) := fin
    clear fin
    by_cases h1 : m - ak < 1
    · clear hx
      go_enter Try.func32, Try.ntmps32
      go_wp2
      refine bodyPost_ret (results_none rfl _ _ _) rfl ?_
      exact ⟨rfl, HFin.out⟩
    · have h2 : m - ak > wt.length := by rcases hx with h | h; exact absurd h h1; exact h
      clear hx
      go_enter Try.func32, Try.ntmps32
      go_wp2
      refine bodyPost_ret (results_none rfl _ _ _) rfl ?_
      exact ⟨rfl, HFin.out⟩
  · have h1 : ¬ m - ak < 1 := fun h => hx (.inl h)
    have h2 : ¬ m - ak > wt.length := fun h => hx (.inr h)
    have HE : Hid (ackO (os k) m = ⟨m.toNat, wt.drop (m.toNat - ak), (os k).cm⟩) := by show _ = _; unfold ackO; rw [← Hak.out, ← Hwt.out, if_neg hx]
    clear hx
    obtain ⟨M, rfl⟩ : ∃ M : Nat, m = (M : Int) := ⟨m.toNat, by omega⟩
    obtain ⟨n, HN⟩ : ∃ n : Nat, Hid (n = M - ak) := ⟨_, rfl⟩
    have hMn : (M : Int) - ak = (n : Int) := by have := HN.out; omega
    have hnw : n ≤ wt.length := by omega
    obtain ⟨W1, hW1⟩ : ∃ W, W = w.setCell ⟨b, 1 + k * 3, none⟩ (.int .i64 M) := ⟨_, rfl⟩
    have R1 : Hid (Rl B W1 b id (upd os k { os k with ak := M }) ao cs) := by rw [hW1]; exact HH.out.setI (r := 0) hk (.inl rfl) M
    have K1 : Hid (Kept (TX B b) w W1) := by rw [hW1]; exact (Kept.refl _ _).setT (fun o ho => by rw [HC.out.blk] at ho; cases ho; exact .inl ⟨rfl, _, rfl⟩) _ _
    obtain ⟨cells1, hc1⟩ := R1.out.cl
    have HC1 : Hid (RlC W1 b id (upd os k { os k with ak := M }) ao cs cells1) := hc1
    have d1 : W1.cell? ⟨b, 1 + k * 3 + 1, none⟩ = some (.slice a0 wt.length n0) := by
      rw [blk_cell hc1.blk, hc1.cw k hk, upd_self, Ha0.out, Hn0.out, Hwt.out]
    have hane : a0 ≠ none := fun e => by
      have hr := HH.out.rows k hk
      rw [← Ha0.out, e, ← Hwt.out, ← Hn0.out] at hr
      have e9 := hr.none.1
      rw [e9] at hnw
      simp at hnw
      omega
    have HO1 : Hid (OwnTd 0 W1 a0 n0 wt) := by have hr := R1.out.rows k hk; rw [upd_self] at hr; rw [Ha0.out, Hn0.out, Hwt.out]; exact hr
    obtain ⟨g, csg, eg, hBg, hhg, _⟩ := HO1.out.block hane
    subst eg
    have HBg : Hid (0 ≤ g ∧ W1.heap[g]? = some (.cells csg 9 (0, 0))) := ⟨hBg, hhg⟩
    have hgb : (Value.slice (some ⟨g, 0, none⟩) wt.length n0).ownBlock ≠ some b := ownTd_ne HO1.out hc1.blk (by decide)
    have DE := deleteT_any 0 n0 n g wt W1 HO1.out hnw
    clear hane hhg hBg hc1
    go_enter Try.func32, Try.ntmps32
    go_upto_region 3 with fail
    rw [← hW1]
    clear hW1 c0 c1 f0
    go_wp2_with fail
    go_fit DE
    rintro e w2 ⟨rfl, o2, hg2⟩
    have HO2 : Hid (OwnTd 0 w2 (some ⟨g, 0, none⟩) n0 (wt.drop n)) := o2
    have HG2 : Hid (W1.grownBy w2 (some g)) := hg2
    have hb2 : w2.heap[b]? = some (.cells cells1 90 (0, 0)) := by rw [hg2.block b (lt_of_block HC1.out.blk) (fun e => hgb (by cases e; rfl))]; exact HC1.out.blk
    have d2 : w2.cell? ⟨b, 1 + k * 3 + 1, none⟩ = some (.slice (some ⟨g, 0, none⟩) wt.length n0) := by rw [blk_cell hb2, ← blk_cell HC1.out.blk]; exact d1
    have f2 : w2.frozen? ⟨b, 1 + k * 3 + 1, none⟩ = false := blk_free hb2 _
    clear o2 hg2 DE d1
    go_wp2
    go_end0
    have hwt : ∀ j, (upd os k { os k with ak := M } j).wt = (os j).wt := fun j => by
      by_cases e : j = k
      · subst e; rw [upd_self]
      · rw [upd_ne _ _ e]
    have hak' : ao k = some ⟨g, 0, none⟩ := Ha0.out.symm
    have key := R1.out.setW HC1.out hk hb2 (a' := some ⟨g, 0, none⟩) (c' := n0) (wt' := wt.drop n) (fun j hj hjk => own_farD (R1.out.rows j hj) HG2.out (fun q hq e => R1.out.far j k hj hk hjk q hq (by rw [hwt, hak']; cases e; rfl))) HO2.out (B' := B) (fun _ h => h) (fun q hq => HH.out.good k hk q (by rw [hak']; simpa [Value.ownBlock] using hq)) (fun j hj hjk q hq e => R1.out.far j k hj hk hjk q hq (by rw [hwt, hak']; simp [Value.ownBlock] at e; subst e; rfl))
    have e1 : (upd (upd os k { os k with ak := M }) k { (upd os k { os k with ak := M } k) with wt := wt.drop n }) = upd os k (ackO (os k) (M : Int)) := by
      funext j
      by_cases e : j = k
      · subst e
        rw [upd_self, upd_self, upd_self, HE.out, HN.out, Int.toNat_natCast]
      · rw [upd_ne _ _ e, upd_ne _ _ e, upd_ne _ _ e]
    rw [e1, List.length_drop] at key
    refine ⟨rfl, ⟨_, _, key⟩, ?_⟩
    have K2 := K1.out.grownT HG2.out (fun q hq o ho => by
      cases hq
      rcases Nat.lt_or_ge g w.heap.size with hgs | hgs
      · have hr := HH.out.rows k hk
        rw [hak'] at hr
        obtain ⟨g', cs', e', hB', hh', _⟩ := hr.block (by simp)
        cases e'
        rw [hh'] at ho
        cases ho
        exact .inr ⟨HH.out.good k hk g (by rw [hak']; rfl), _, rfl⟩
      · rw [Array.getElem?_eq_none hgs] at ho; cases ho)
    exact K2.setT (fun o ho => by rw [HC.out.blk] at ho; cases ho; exact .inl ⟨rfl, _, rfl⟩) _ _
end Go.Proofs.Ytpfgnhockfofhaa
