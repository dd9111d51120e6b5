/-
  Relays: what one holds; New, isOther, Send.
-/
import Derived.Test.YtmlncfnnldplgaaWDx2
import Derived.Deep.DeepCutAuto
namespace Go.Proofs.Ytmlncfnnldplgaa
open Go.RowKit

theorem own_setB {B size n g : Nat} {e : TypeId} {w : World} {v : Value} {xs : List Value} (h : w.ownsRow B e size v n xs) (hne : v.ownBlock ≠ some g) (i : Nat) (u : Value) : (w.setCell ⟨g, i, none⟩ u).ownsRow B e size v n xs := by
  refine ⟨h.1, h.2.imp id ?_⟩
  rintro ⟨g', cap, cur, hv, hb, hh, h3⟩
  exact ⟨g', cap, cur, hv, hb, blk_other hh (fun e => hne (by rw [hv]; simp [Value.ownBlock]; exact e)) _, h3⟩
/-- What is known of another host. -/
structure Oh where
  ak : Nat
  wt : List (List UInt8)
  cm : Nat
/-- A relay's cells. -/
structure RlC (w : World) (b : Nat) (id : Int) (os : Nat → Oh) (ao : Nat → Option Addr) (cs : Nat → Nat) (cells : Array Value) : Prop where
  blk : w.heap[b]? = some (.cells cells 90 (0, 0))
  sz : cells.size = 31
  c0 : cells[0]? = some (.int .i64 id)
  ca : ∀ k, k < 10 → cells[1 + k * 3]? = some (.int .i64 (os k).ak)
  cw : ∀ k, k < 10 → cells[1 + k * 3 + 1]? = some (.slice (ao k) (os k).wt.length (cs k))
  cc : ∀ k, k < 10 → cells[1 + k * 3 + 2]? = some (.int .i64 (os k).cm)
/-- A relay in memory: its rows lie in good blocks, each for itself. -/
structure Rl (B : Nat → Prop) (w : World) (b : Nat) (id : Int) (os : Nat → Oh) (ao : Nat → Option Addr) (cs : Nat → Nat) : Prop where
  cl : ∃ cells, RlC w b id os ao cs cells
  rows : ∀ k, k < 10 → OwnTd 0 w (ao k) (cs k) (os k).wt
  far : ∀ j k, j < 10 → k < 10 → j ≠ k → ∀ g, (Value.slice (ao j) (os j).wt.length (cs j)).ownBlock = some g → (Value.slice (ao k) (os k).wt.length (cs k)).ownBlock ≠ some g
  good : ∀ k, k < 10 → ∀ g, (Value.slice (ao k) (os k).wt.length (cs k)).ownBlock = some g → B g
theorem Rl.kept {B : Nat → Prop} {b : Nat} {w w' : World} {id : Int} {os : Nat → Oh} {ao : Nat → Option Addr} {cs : Nat → Nat} (h : Rl B w b id os ao cs) (k : Kept Nil w w') : Rl B w' b id os ao cs := by
  obtain ⟨cells, hc⟩ := h.cl
  exact ⟨⟨cells, k.block _ _ hc.blk (fun x => x), hc.sz, hc.c0, hc.ca, hc.cw, hc.cc⟩, fun j hj => (h.rows j hj).kept k, h.far, h.good⟩
theorem Rl.up {B B' : Nat → Prop} {b : Nat} {w : World} {id : Int} {os : Nat → Oh} {ao : Nat → Option Addr} {cs : Nat → Nat} (h : Rl B w b id os ao cs) (hB : ∀ g, B g → B' g) : Rl B' w b id os ao cs := ⟨h.cl, h.rows, h.far, fun k hk g hg => hB g (h.good k hk g hg)⟩
def isOth (id ho : Int) : Bool := isNd ho && !decide (ho = id)
set_option maxRecDepth 100000 in
set_option maxHeartbeats 1000000 in
theorem isOther_any (B : Nat → Prop) (b : Nat) (id ho : Int) (os : Nat → Oh) (ao : Nat → Option Addr) (cs : Nat → Nat) (w : World) (h : Rl B w b id os ao cs) :
    Calls Try.prog 31 #[.pointer (some ⟨b, 0, none⟩), .int .i64 ho] w fun e w' => e = .returned (.bool (isOth id ho)) ∧ w' = w := by
  obtain ⟨cells, hc⟩ := h.cl
  have c0 : w.cell? ⟨b, 0, none⟩ = some (.int .i64 id) := by rw [blk_cell hc.blk]; exact hc.c0
  obtain ⟨z, HZ⟩ : ∃ z, Hid (z = isOth id ho) := ⟨_, rfl⟩
  rw [← HZ.out]
  have IN := isNode_any ho w
  clear h hc
  cases hn : isNd ho with
  | false =>
    rw [hn] at IN
    have HF : Hid (z = false) := by show _ = _; rw [HZ.out]; unfold isOth; rw [hn]; rfl
    clear hn
    go_enter Try.func31, Try.ntmps31
    go_wp2_with fail
    go_fit IN
    rintro e _ ⟨rfl, hw9⟩
    rw [hw9]
    clear hw9 IN
    go_wp2
    go_ret
    exact ⟨by rw [HF.out]; rfl, rfl⟩
  | true =>
    rw [hn] at IN
    have HF : Hid (z = !decide (ho = id)) := by show _ = _; rw [HZ.out]; unfold isOth; rw [hn]; rfl
    clear hn
    go_enter Try.func31, Try.ntmps31
    go_wp2_with fail
    go_fit IN
    rintro e _ ⟨rfl, hw9⟩
    rw [hw9]
    clear hw9 IN
    go_wp2
    go_ret
    exact ⟨by rw [HF.out]; first | rfl | (simp; rfl), rfl⟩
def oh0 : Oh := ⟨0, [], 0⟩
set_option maxRecDepth 100000 in
set_option maxHeartbeats 1000000 in
theorem newR_any (id : Int) (w : World) :
    Calls Try.prog 6 #[.int .i64 id] w fun e w' => (isNd id = false ∧ e = .returned (.tuple #[.pointer none, .int .i64 13]) ∧ w' = w) ∨ (isNd id = true ∧ e = .returned (.tuple #[.pointer (some ⟨w.heap.size, 0, none⟩), .int .i64 0]) ∧ Rl (fun _ => False) w' w.heap.size id (fun _ => oh0) (fun _ => none) (fun _ => 0) ∧ Kept Nil w w') := by
  have IN := isNode_any id w
  cases hn : isNd id with
  | false =>
    rw [hn] at IN
    clear hn
    go_enter Try.func6, Try.ntmps6
    go_wp2_with fail
    go_fit IN
    rintro e _ ⟨rfl, hw9⟩
    rw [hw9]
    clear hw9 IN
    go_wp2
    go_ret2
    exact .inl ⟨trivial, rfl, rfl⟩
  | true =>
    rw [hn] at IN
    clear hn
    go_enter Try.func6, Try.ntmps6
    go_wp2_with fail
    go_fit IN
    rintro e _ ⟨rfl, hw9⟩
    rw [hw9]
    clear hw9 IN
    go_wp2
    go_ret2
    refine .inr ⟨trivial, rfl, ⟨⟨_, blk_new _ _, rfl, rfl, fun k hk => ?_, fun k hk => ?_, fun k hk => ?_⟩, fun k _ => World.ownsRow_nil _ _ _ _, fun j k _ _ _ g hg => by simp [Value.ownBlock] at hg, fun k _ g hg => by simp [Value.ownBlock] at hg⟩, (Kept.refl _ _).alloc _⟩
    all_goals (
      have : k = 0 ∨ k = 1 ∨ k = 2 ∨ k = 3 ∨ k = 4 ∨ k = 5 ∨ k = 6 ∨ k = 7 ∨ k = 8 ∨ k = 9 := by omega
      rcases this with rfl | rfl | rfl | rfl | rfl | rfl | rfl | rfl | rfl | rfl <;> rfl)

/-- With another host's changed. -/
def upd {α : Type} (f : Nat → α) (k : Nat) (x : α) : Nat → α := fun j => if j = k then x else f j
theorem upd_self {α : Type} (f : Nat → α) (k : Nat) (x : α) : upd f k x k = x := if_pos rfl
theorem upd_ne {α : Type} (f : Nat → α) {j k : Nat} (x : α) (h : j ≠ k) : upd f k x j = f j := if_neg h
theorem upd_id {α : Type} (f : Nat → α) (k : Nat) : upd f k (f k) = f := funext fun j => by unfold upd; split <;> simp_all
/-- What a call on a relay may touch: its block, and rows of texts. -/
def TX (B : Nat → Prop) (b : Nat) : Nat → Obj → Prop := fun q o => (q = b ∧ ∃ cs, o = .cells cs 90 (0, 0)) ∨ (B q ∧ ∃ cs, o = .cells cs 9 (0, 0))
theorem Kept.setT {X : Nat → Obj → Prop} {a w : World} (h : Kept X a w) {b : Nat} (hb : ∀ o, a.heap[b]? = some o → X b o) (i : Nat) (u : Value) : Kept X a (w.setCell ⟨b, i, none⟩ u) :=
  ⟨h.os, h.tape, h.output, by simpa [World.setCell] using h.size, fun k o ho hx => by
    rw [Below.heap_setCell _ _ _ _ (fun e => hx (by have e : k = b := e; subst e; exact hb o ho))]; exact h.block k o ho hx⟩
theorem Kept.grownT {X : Nat → Obj → Prop} {a w w' : World} {row : Option Nat} (h : Kept X a w) (hg : w.grownBy w' row) (hrow : ∀ k, row = some k → ∀ o, a.heap[k]? = some o → X k o) : Kept X a w' :=
  ⟨hg.os.trans h.os, hg.tape.trans h.tape, hg.output.trans h.output, Nat.le_trans h.size hg.size, fun k o ho hx => by
    have hk := lt_of_block ho
    rw [hg.block k (by have := h.size; omega) (fun e => hx (hrow k e.symm o ho))]
    exact h.block k o ho hx⟩
theorem ownTd_ne {B c b : Nat} {w : World} {ao : Option Addr} {ks : List (List UInt8)} {cs : Array Value} {t : TypeId} (h : OwnTd B w ao c ks) (hb : w.heap[b]? = some (.cells cs t (0, 0))) (ht : t ≠ 9) : (Value.slice ao ks.length c).ownBlock ≠ some b := fun e => by
  cases ao with
  | none => simp [Value.ownBlock] at e
  | some a =>
    obtain ⟨g, cs', eg, _, hh, _⟩ := h.block (by simp)
    cases eg
    simp [Value.ownBlock] at e
    subst e
    rw [hh] at hb
    simp at hb
    exact ht hb.2.symm
theorem Rl.setW {B B' : Nat → Prop} {b k : Nat} {w w2 : World} {id : Int} {os : Nat → Oh} {ao : Nat → Option Addr} {cs : Nat → Nat} {cells : Array Value} (h : Rl B w b id os ao cs) (hc : RlC w b id os ao cs cells) (hk : k < 10) (hb2 : w2.heap[b]? = some (.cells cells 90 (0, 0)))
    (rows : ∀ j, j < 10 → j ≠ k → OwnTd 0 w2 (ao j) (cs j) (os j).wt) {a' : Option Addr} {c' : Nat} {wt' : List (List UInt8)} (row : OwnTd 0 w2 a' c' wt') (hB : ∀ g, B g → B' g) (hrow : ∀ g, (Value.slice a' wt'.length c').ownBlock = some g → B' g)
    (far : ∀ j, j < 10 → j ≠ k → ∀ g, (Value.slice (ao j) (os j).wt.length (cs j)).ownBlock = some g → (Value.slice a' wt'.length c').ownBlock ≠ some g) :
    Rl B' (w2.setCell ⟨b, 1 + k * 3 + 1, none⟩ (.slice a' wt'.length c')) b id (upd os k { os k with wt := wt' }) (upd ao k a') (upd cs k c') := by
  have hsz := hc.sz
  refine ⟨⟨_, blk_set hb2 _ _, by simpa using hsz, ?_, fun j hj => ?_, fun j hj => ?_, fun j hj => ?_⟩, fun j hj => ?_, fun i j hi hj hij g hg => ?_, fun j hj g hg => ?_⟩
  · rw [Array.getElem?_setIfInBounds, if_neg (by omega)]; exact hc.c0
  · rw [Array.getElem?_setIfInBounds, if_neg (by omega), hc.ca j hj]
    by_cases e : j = k
    · subst e; rw [upd_self]
    · rw [upd_ne _ _ e]
  · rw [Array.getElem?_setIfInBounds]
    by_cases e : j = k
    · subst e; rw [if_pos rfl, if_pos (by omega), upd_self, upd_self, upd_self]
    · rw [if_neg (by omega), hc.cw j hj, upd_ne _ _ e, upd_ne _ _ e, upd_ne _ _ e]
  · rw [Array.getElem?_setIfInBounds, if_neg (by omega), hc.cc j hj]
    by_cases e : j = k
    · subst e; rw [upd_self]
    · rw [upd_ne _ _ e]
  · by_cases e : j = k
    · subst e; rw [upd_self, upd_self, upd_self]; exact own_setB row (ownTd_ne row hb2 (by decide)) _ _
    · rw [upd_ne _ _ e, upd_ne _ _ e, upd_ne _ _ e]; exact own_setB (rows j hj e) (ownTd_ne (rows j hj e) hb2 (by decide)) _ _
  · by_cases e : i = k
    · subst e
      have e2 : j ≠ i := fun x => hij x.symm
      rw [upd_self, upd_self, upd_self] at hg
      rw [upd_ne _ _ e2, upd_ne _ _ e2, upd_ne _ _ e2]
      exact fun x => far j hj e2 g x hg
    · rw [upd_ne _ _ e, upd_ne _ _ e, upd_ne _ _ e] at hg
      by_cases e2 : j = k
      · subst e2; rw [upd_self, upd_self, upd_self]; exact far i hi e g hg
      · rw [upd_ne _ _ e2, upd_ne _ _ e2, upd_ne _ _ e2]; exact h.far i j hi hj hij g hg
  · by_cases e : j = k
    · subst e; rw [upd_self, upd_self, upd_self] at hg; exact hrow g hg
    · rw [upd_ne _ _ e, upd_ne _ _ e, upd_ne _ _ e] at hg; exact hB g (h.good j hj g hg)
theorem Rl.setI {B : Nat → Prop} {b k r : Nat} {w : World} {id : Int} {os : Nat → Oh} {ao : Nat → Option Addr} {cs : Nat → Nat} (h : Rl B w b id os ao cs) (hk : k < 10) (hr : r = 0 ∨ r = 2) (n : Nat) :
    Rl B (w.setCell ⟨b, 1 + k * 3 + r, none⟩ (.int .i64 n)) b id (upd os k (if r = 0 then { os k with ak := n } else { os k with cm := n })) ao cs := by
  obtain ⟨cells, hc⟩ := h.cl
  have hsz := hc.sz
  have hwt : ∀ j, (upd os k (if r = 0 then { os k with ak := n } else { os k with cm := n }) j).wt = (os j).wt := fun j => by
    by_cases e : j = k
    · subst e; rw [upd_self]; split <;> rfl
    · rw [upd_ne _ _ e]
  refine ⟨⟨_, blk_set hc.blk _ _, by simpa using hsz, ?_, fun j hj => ?_, fun j hj => ?_, fun j hj => ?_⟩, fun j hj => ?_, fun i j hi hj hij g hg => ?_, fun j hj g hg => ?_⟩
  · rw [Array.getElem?_setIfInBounds, if_neg (by omega)]; exact hc.c0
  · rw [Array.getElem?_setIfInBounds]
    by_cases e : j = k
    · subst e
      rw [upd_self]
      rcases hr with rfl | rfl
      · rw [if_pos (by omega), if_pos (by omega)]; rfl
      · rw [if_neg (by omega), hc.ca j hj]; rfl
    · rw [if_neg (by rcases hr with rfl | rfl <;> omega), hc.ca j hj, upd_ne _ _ e]
  · rw [Array.getElem?_setIfInBounds, if_neg (by rcases hr with rfl | rfl <;> omega), hc.cw j hj, hwt]
  · rw [Array.getElem?_setIfInBounds]
    by_cases e : j = k
    · subst e
      rw [upd_self]
      rcases hr with rfl | rfl
      · rw [if_neg (by omega), hc.cc j hj]; rfl
      · rw [if_pos (by omega), if_pos (by omega)]; rfl
    · rw [if_neg (by rcases hr with rfl | rfl <;> omega), hc.cc j hj, upd_ne _ _ e]
  · rw [hwt]; exact own_setB (h.rows j hj) (ownTd_ne (h.rows j hj) hc.blk (by decide)) _ _
  · rw [hwt] at hg ⊢; exact h.far i j hi hj hij g hg
  · rw [hwt] at hg; exact h.good j hj g hg
def sendO (o : Oh) (body : List UInt8) : Oh := { o with wt := o.wt ++ [body] }
set_option maxRecDepth 100000 in
set_option maxHeartbeats 2000000 in
theorem send_no (B : Nat → Prop) (b : Nat) (id dst : Int) (body : List UInt8) (os : Nat → Oh) (ao : Nat → Option Addr) (cs : Nat → Nat) (w : World) (h : Rl B w b id os ao cs) (hn : isOth id dst = false) :
    Calls Try.prog 7 #[.pointer (some ⟨b, 0, none⟩), .int .i64 dst, .string (bs body)] w fun e w' => e = .returned (.int .i64 13) ∧ w' = w := by
  have IO := isOther_any B b id dst os ao cs w h
  rw [hn] at IO
  clear hn
  go_enter Try.func7, Try.ntmps7
  go_wp2_with fail
  go_fit IO
  rintro e _ ⟨rfl, hw9⟩
  rw [hw9]
  clear hw9 IO
  go_wp2
  go_ret
  exact ⟨rfl, rfl⟩
set_option maxRecDepth 100000 in
set_option maxHeartbeats 2000000 in
theorem send_full (B : Nat → Prop) (b k : Nat) (id : Int) (body : List UInt8) (os : Nat → Oh) (ao : Nat → Option Addr) (cs : Nat → Nat) (w : World) (h : Rl B w b id os ao cs) (hk : k < 10) (hn : isOth id k = true) (hf : (os k).wt.length = 16) :
    Calls Try.prog 7 #[.pointer (some ⟨b, 0, none⟩), .int .i64 k, .string (bs body)] w fun e w' => e = .returned (.int .i64 4) ∧ w' = w := by
  have IO := isOther_any B b id k os ao cs w h
  obtain ⟨cells, hc⟩ := h.cl
  rw [hn] at IO
  have hki : (k : Int) < 10 := by omega
  have c1 : w.cell? ⟨b, 1 + k * 3 + 1, none⟩ = some (.slice (ao k) (os k).wt.length (cs k)) := by rw [blk_cell hc.blk]; exact hc.cw k hk
  clear hn hc
  go_enter Try.func7, Try.ntmps7
  go_wp2_with fail
  go_fit IO
  rintro e _ ⟨rfl, hw9⟩
  rw [hw9]
  clear hw9 IO
  go_wp2
  go_ret
  exact ⟨rfl, rfl⟩
set_option maxRecDepth 100000 in
set_option maxHeartbeats 4000000 in
theorem send_yes (B : Nat → Prop) (b k : Nat) (id : Int) (body : List UInt8) (os : Nat → Oh) (ao : Nat → Option Addr) (cs : Nat → Nat) (w : World) (h : Rl B w b id os ao cs) (hk : k < 10) (hn : isOth id k = true) (hf : (os k).wt.length < 16) :
    Calls Try.prog 7 #[.pointer (some ⟨b, 0, none⟩), .int .i64 k, .string (bs body)] w fun e w' => e = .returned (.int .i64 0) ∧ (∃ a c, Rl (fun g => B g ∨ w.heap.size ≤ g) w' b id (upd os k (sendO (os k) body)) (upd ao k a) (upd cs k c)) ∧ Kept (TX B b) w w' := by
  have IO := isOther_any B b id k os ao cs w h
  obtain ⟨cells, hc⟩ := h.cl
  obtain ⟨j0, hj, hy0, hy1, hy2⟩ := info_parts Try.infoTd
  rw [hn] at IO
  have hki : (k : Int) < 10 := by omega
  have c1 : w.cell? ⟨b, 1 + k * 3 + 1, none⟩ = some (.slice (ao k) (os k).wt.length (cs k)) := by rw [blk_cell hc.blk]; exact hc.cw k hk
  have HH : Hid (Rl B w b id os ao cs) := h
  have HC : Hid (RlC w b id os ao cs cells) := hc
  obtain ⟨a0, Ha0⟩ : ∃ a, Hid (a = ao k) := ⟨_, rfl⟩
  obtain ⟨c0, Hc0⟩ : ∃ a, Hid (a = cs k) := ⟨_, rfl⟩
  obtain ⟨wt, Hwt⟩ : ∃ a, Hid (a = (os k).wt) := ⟨_, rfl⟩
  rw [← Ha0.out, ← Hc0.out, ← Hwt.out] at c1
  rw [← Hwt.out] at hf
  have HO : Hid (w.ownsRow 0 9 1 (.slice a0 wt.length c0) wt.length (tdCells wt)) := by rw [Ha0.out, Hc0.out, Hwt.out]; exact h.rows k hk
  have HLL : Hid (wt.length + 1 ≤ maxLen ∧ (wt.length + 1) * 16 ≤ 140737488355328) := by constructor <;> (try unfold maxLen) <;> omega
  have hne16 : ¬ (wt.length : Int) = 16 := by omega
  have hne16b : ((wt.length : Int) == 16) = false := beq_eq_false_iff_ne.2 hne16
  have hbl := lt_of_block hc.blk
  have hab : (Value.slice a0 wt.length c0).ownBlock ≠ some b := ownTd_ne (ks := wt) HO.out hc.blk (by decide)
  clear hn hc h
  go_enter Try.func7, Try.ntmps7
  go_wp2_with fail
  go_fit IO
  rintro e _ ⟨rfl, hw9⟩
  rw [hw9]
  clear hw9 IO
  go_wp2_with (at_builtin; go_must (refine wpList_append_at _ rfl _ _ 54 54 rfl 0 9 j0 (.string ⟨#[]⟩) 1 16 Try.underlying54 hj hy0 hy1 hy2 rfl (.slice a0 wt.length c0) wt.length (tdCells wt) rfl (World.ownsRow.alloc HO.out _) (.slice (some ⟨w.heap.size, 0, none⟩) 1 1) 1 [.string (bs body)] rfl (oneT_src w body) HLL.out.1 HLL.out.2 (Nat.zero_le _) ?_); intro a2 c2 w2 ho2 hg2 hat2; have HO2 : Hid (OwnTd 0 w2 a2 c2 (wt ++ [body])) := OwnTd.app (gs := [body]) rfl rfl ho2; have HG2 : Hid ((w.alloc (.cells #[.string (bs body)] 9)).grownBy w2 (Value.slice a0 wt.length c0).ownBlock) := hg2; have HA2 : Hid (∀ g, (Value.slice a2 (wt.length + 1) c2).ownBlock = some g → (Value.slice a0 wt.length c0).ownBlock = some g ∨ w.heap.size + 1 ≤ g) := (fun g hg => by rcases hat2 g hg with h | h; exact .inl h; exact .inr (by simpa using h)); have hb2 : w2.heap[b]? = some (.cells cells 90 (0, 0)) := (by rw [hg2.block b (by simp; omega) (fun e => hab e.symm)]; exact blk_past HC.out.blk _); have d1 : w2.cell? ⟨b, 1 + k * 3 + 1, none⟩ = some (.slice a0 wt.length c0) := (by rw [blk_cell hb2, Ha0.out, Hc0.out, Hwt.out]; exact HC.out.cw k hk); have f1 : w2.frozen? ⟨b, 1 + k * 3 + 1, none⟩ = false := blk_free hb2 _; clear ho2 hg2 hat2)
  go_ret
  have hlen : (wt ++ [body]).length = wt.length + 1 := by rw [List.length_append]; rfl
  have key := HH.out.setW HC.out hk hb2 (a' := a2) (c' := c2) (wt' := wt ++ [body]) (fun j hj hjk => own_farD (own_kept (X := Nil) (HH.out.rows j hj) ((Kept.refl _ _).alloc _) (fun _ _ _ x => x.elim)) HG2.out (fun g hg => by rw [Ha0.out, Hc0.out, Hwt.out]; exact HH.out.far j k hj hk hjk g hg)) HO2.out (B' := fun g => B g ∨ w.heap.size ≤ g) (fun _ h => .inl h) (fun g hg => by rw [hlen] at hg; rcases HA2.out g hg with h1 | h1; exact .inl (by rw [Ha0.out, Hc0.out, Hwt.out] at h1; exact HH.out.good k hk g h1); exact .inr (by omega)) (fun j hj hjk g hg => fun e => by
    rw [hlen] at e
    rcases HA2.out g e with h1 | h1
    · rw [Ha0.out, Hc0.out, Hwt.out] at h1; exact HH.out.far j k hj hk hjk g hg h1
    · have := (HH.out.rows j hj).lt g hg; omega)
  rw [hlen] at key
  have e1 : ({ os k with wt := wt ++ [body] } : Oh) = sendO (os k) body := by unfold sendO; rw [Hwt.out]
  rw [e1] at key
  refine ⟨rfl, ⟨a2, c2, key⟩, ?_⟩
  have K0 : Kept (TX B b) w (w.alloc (.cells #[.string (bs body)] 9)) := (Kept.refl _ _).alloc _
  have K1 := K0.grownT HG2.out (fun g hg o ho => by
    cases a0 with
    | none => simp [Value.ownBlock] at hg
    | some a =>
      obtain ⟨g', cs', eg, hbg, hh, _⟩ := OwnTd.block (ks := wt) HO.out (by simp)
      cases eg
      simp [Value.ownBlock] at hg
      subst hg
      rw [hh] at ho
      cases ho
      exact .inr ⟨HH.out.good k hk g' (by rw [← Ha0.out]; rfl), _, rfl⟩)
  exact K1.setT (fun o ho => by rw [HC.out.blk] at ho; cases ho; exact .inl ⟨rfl, _, rfl⟩) _ _
end Go.Proofs.Ytmlncfnnldplgaa
