/-
  Joined: WRm4, WMs0, WShB, WSh1.
-/
import Derived.Test.YtpfgnhockfofhaaM10
import Derived.Test.YtpfgnhockfofhaaM03
import Derived.Test.YtpfgnhockfofhaaM02
import Derived.Deep.MidRow
import Derived.Deep.DeepCutAuto
import Derived.Test.YtpfgnhockfofhaaM07
/-
  Relays: Packets.
-/
namespace Go.Proofs.Ytpfgnhockfofhaa
open Go.RowKit

/-- The packet of the i-th body that waits. -/
def pkO (id : Int) (k : Nat) (o : Oh) (i : Nat) (b : List UInt8) : Pk := ⟨id, k, (o.ak : Int) + 1 + i, false, b⟩
def pksO (id : Int) (k : Nat) (o : Oh) : List Pk := o.wt.mapIdx (pkO id k o)
/-- All that waits. -/
def pksTo (id : Int) (os : Nat → Oh) (n : Nat) : List Pk := (List.range n).flatMap fun k => pksO id k (os k)
theorem pksTo_next (id : Int) (os : Nat → Oh) (n : Nat) : pksTo id os (n + 1) = pksTo id os n ++ pksO id n (os n) := by
  unfold pksTo
  rw [List.range_succ, List.flatMap_append]
  simp
theorem pksO_len (id : Int) (k : Nat) (o : Oh) : (pksO id k o).length = o.wt.length := by simp [pksO]
theorem pksO_next {id : Int} {k : Nat} {o : Oh} {i : Nat} (hi : i < o.wt.length) : (pksO id k o).take (i + 1) = (pksO id k o).take i ++ [pkO id k o i o.wt[i]] := by
  rw [List.take_succ_eq_append_getElem (by rw [pksO_len]; exact hi)]
  simp [pksO]
theorem pksTo_len (id : Int) (os : Nat → Oh) (hf : ∀ k, k < 10 → (os k).wt.length ≤ 16) : ∀ n, n ≤ 10 → (pksTo id os n).length ≤ 16 * n
  | 0, _ => by simp [pksTo]
  | n + 1, h => by
    rw [pksTo_next, List.length_append, pksO_len]
    have h1 := pksTo_len id os hf n (by omega)
    have h2 := hf n (by omega)
    omega
set_option maxRecDepth 100000 in
set_option maxHeartbeats 8000000 in
theorem packets_any (B : Nat → Prop) (b : Nat) (id : Int) (os : Nat → Oh) (ao : Nat → Option Addr) (cs : Nat → Nat) (w : World) (h : Rl B w b id os ao cs) (hf : ∀ k, k < 10 → (os k).wt.length ≤ 16 ∧ (os k).ak ≤ 9000000000000000000 ∧ (os k).cm ≤ 9000000000000000000) :
    Calls Try.prog 8 #[.pointer (some ⟨b, 0, none⟩)] w fun e w' => ∃ a c, e = .returned (.slice a (pksTo id os 10).length c) ∧ OwnPk w.heap.size w' a c (pksTo id os 10) ∧ Kept Nil w w' := by
  have HH : Hid (Rl B w b id os ao cs) := h
  obtain ⟨cells, hc⟩ := h.cl
  have HB : Hid (RlC w b id os ao cs cells) := hc
  obtain ⟨i2, hi2, hy0, hy1, hy2⟩ := info_parts Try.infoOwnPk
  have HPL := fun n hn => pksTo_len id os (fun k hk => (hf k hk).1) n hn
  have CB : ∀ X, Kept Nil w X → X.heap[b]? = some (.cells cells 90 (0, 0)) := fun X kX => kX.block _ _ HB.out.blk (fun x => x)
  clear h hc
  go_enter Try.func8, Try.ntmps8
  go_wp2
  go_loopw [3, 8] (fun s u wr => ∃ k c : Nat, ∃ a : Option Addr, k ≤ 10 ∧ u = .int .i64 k ∧ s = .slice a (pksTo id os k).length c ∧ Hid (OwnPk w.heap.size wr a c (pksTo id os k)) ∧ Hid (Kept Nil w wr)) (fun _ u _ => 10 - (intOf u).toNat)
  case atStart => exact ⟨0, 0, none, by omega, rfl, rfl, World.ownsRow_nil _ _ _ _, Kept.refl _ _⟩
  case round =>
    obtain ⟨k, c, a, hk, rfl, rfl, HP, HK⟩ := hrel
    by_cases hlt : k < 10
    · have hki : (k : Int) < 10 := by omega
      obtain ⟨wo, hwo⟩ : ∃ x : World, x = wr := ⟨_, rfl⟩
      rw [← hwo] at HP HK ⊢
      clear hwo
      obtain ⟨o, HOe⟩ : ∃ o, Hid (o = os k) := ⟨_, rfl⟩
      have hb0 := CB wo HK.out
      have c1 : wo.cell? ⟨b, 1 + k * 3 + 1, none⟩ = some (.slice (ao k) o.wt.length (cs k)) := by rw [blk_cell hb0, HOe.out]; exact HB.out.cw k hlt
      have CA : ∀ X, Kept Nil w X → X.cell? ⟨b, 1 + k * 3, none⟩ = some (.int .i64 o.ak) ∧ X.cell? ⟨b, 0, none⟩ = some (.int .i64 id) := fun X kX => ⟨by rw [blk_cell (CB X kX), HOe.out]; exact HB.out.ca k hlt, by rw [blk_cell (CB X kX)]; exact HB.out.c0⟩
      have hfo : o.wt.length ≤ 16 ∧ o.ak ≤ 9000000000000000000 := by rw [HOe.out]; exact ⟨(hf k hlt).1, (hf k hlt).2.1⟩
      obtain ⟨a0, Ha0⟩ : ∃ x, Hid (x = ao k) := ⟨_, rfl⟩
      obtain ⟨n0, Hn0⟩ : ∃ x, Hid (x = cs k) := ⟨_, rfl⟩
      rw [← Ha0.out, ← Hn0.out] at c1
      have HRow : Hid (∀ X, Kept Nil w X → OwnTd 0 X a0 n0 o.wt) := fun X kX => by rw [Ha0.out, Hn0.out, HOe.out]; exact (HH.out.rows k hlt).kept kX
      have hl1 := HPL k hk
      clear hb0
      obtain ⟨pre, HPre⟩ : ∃ pre, Hid (pre = pksTo id os k) := ⟨_, rfl⟩
      rw [← HPre.out] at HP hl1 ⊢
      have HNx : Hid (pksTo id os (k + 1) = pre ++ pksO id k o) := by show _ = _; rw [pksTo_next, ← HPre.out, ← HOe.out]
      have HKle : Hid (k < 10) := hlt
      go_wp2
      go_loopw [3, 21] (fun s u wr => ∃ i c : Nat, ∃ a : Option Addr, i ≤ o.wt.length ∧ u = .int .i64 i ∧ s = .slice a (pre.length + i) c ∧ Hid (OwnPk w.heap.size wr a c (pre ++ (pksO id k o).take i)) ∧ Hid (Kept Nil w wr)) (fun _ u _ => o.wt.length - (intOf u).toNat)
      case atStart => exact ⟨0, c, a, Nat.zero_le _, rfl, rfl, by rw [List.take_zero, List.append_nil]; exact HP.out, HK.out⟩
      case round =>
        obtain ⟨i, c, a, hi, rfl, rfl, HPi, HKi⟩ := hrel
        have hlen : Hid ((pre ++ (pksO id k o).take i).length = pre.length + i) := by show _ = _; rw [List.length_append, List.length_take, pksO_len]; omega
        by_cases hil : i < o.wt.length
        · have hii : (i : Int) < o.wt.length := by omega
          obtain ⟨g, eg, _, d0⟩ := (HRow.out wr HKi.out).cell hil
          subst eg
          obtain ⟨y, HY⟩ : ∃ y : List UInt8, Hid (y = o.wt[i]) := ⟨o.wt[i], (rfl : o.wt[i] = o.wt[i])⟩
          rw [← HY.out] at d0
          obtain ⟨e1, e2⟩ := CA wr HKi.out
          have hs9 : wr.cell? ⟨b, 0, none⟩ = some (.int .i64 id) ∧ wr.cell? ⟨b, 1 + k * 3, none⟩ = some (.int .i64 o.ak) := ⟨e2, e1⟩
          have hw1 : IntKind.i64.wrap ((o.ak : Int) + 1) = (o.ak : Int) + 1 := IntWalk.i64_in _ (by omega)
          have hw2 : IntKind.i64.wrap ((o.ak : Int) + 1 + (i : Int)) = (o.ak : Int) + 1 + (i : Int) := IntWalk.i64_in _ (by omega)
          have HPo : Hid (wr.ownsRow w.heap.size 34 5 (.slice a (pre.length + i) c) (pre.length + i) (pkCells (pre ++ (pksO id k o).take i))) := by have h := HPi.out; unfold OwnPk at h; rw [hlen.out] at h; exact h
          have HPV : Hid ((wr.drew.alloc (.cells #[.int .i64 id, .int .i64 k, .int .i64 ((o.ak : Int) + 1 + (i : Int)), .bool false, .string (bs y)] 34)).ownsRow w.heap.size 34 5 (.slice a (pre.length + i) c) (pre.length + i) (pkCells (pre ++ (pksO id k o).take i))) := own_kept (X := Nil) HPo.out ((Kept.refl _ _).drew.alloc _) (fun _ _ _ x => x.elim)
          have HNi : Hid (pre ++ (pksO id k o).take (i + 1) = (pre ++ (pksO id k o).take i) ++ [pkO id k o i y]) := by show _ = _; rw [pksO_next hil, ← HY.out, List.append_assoc]
          have SR : Hid (Src Try.prog 5 28 (.slice (some ⟨wr.heap.size, 0, none⟩) 1 1) 1 [.int .i64 id, .int .i64 k, .int .i64 ((o.ak : Int) + 1 + (i : Int)), .bool false, .string (bs y)] (wr.drew.alloc (.cells #[.int .i64 id, .int .i64 k, .int .i64 ((o.ak : Int) + 1 + (i : Int)), .bool false, .string (bs y)] 34))) := oneOwnPk_src wr.drew (pkO id k o i y)
          have HLL : Hid (pre.length + i + 1 ≤ maxLen ∧ (pre.length + i + 1) * 48 ≤ 140737488355328) := by constructor <;> (try unfold maxLen) <;> omega
          have hBs : w.heap.size ≤ wr.heap.size := HKi.out.size
          go_upto_region 9 with fail
          go_region_held3 (fun w' => w'.cell? ⟨b, 0, none⟩ = some (.int .i64 id) ∧ w'.cell? ⟨b, 1 + k * 3, none⟩ = some (.int .i64 o.ak)) (first | assumption | go_keep) (first | (refine step_append_src (wr.drew.alloc (.cells #[.int .i64 id, .int .i64 k, .int .i64 ((o.ak : Int) + 1 + (i : Int)), .bool false, .string (bs y)] 34)) (by rfl) (.tmp 26) (.tmp 41) 28 28 (by rfl) w.heap.size 34 i2 (.agg #[.int .i64 0, .int .i64 0, .int .i64 0, .bool false, .string ⟨#[]⟩]) 5 48 Try.underlying28 hi2 hy0 hy1 hy2 rfl (.slice a (pre.length + i) c) (pre.length + i) (pkCells (pre ++ (pksO id k o).take i)) (by simp [Act.eval]) HPV.out (.slice (some ⟨wr.heap.size, 0, none⟩) 1 1) 1 [.int .i64 id, .int .i64 k, .int .i64 ((o.ak : Int) + 1 + (i : Int)), .bool false, .string (bs y)] (by simp [Act.eval]) SR.out HLL.out.1 HLL.out.2 (le_alloc hBs _) ?_; intro a6 c6 w6 ho6 hg6; have HP6 : Hid (OwnPk w.heap.size w6 a6 c6 (pre ++ (pksO id k o).take (i + 1))) := (by rw [HNi.out]; exact OwnPk.app (gs := [pkO id k o i y]) hlen.out.symm rfl ho6); have K6 : Hid (Kept Nil w w6) := (HKi.out.drew.alloc _).grown hg6 (fun k hk => own_row HPV.out k hk); have s6 : w6.cell? ⟨b, 0, none⟩ = some (.int .i64 id) ∧ w6.cell? ⟨b, 1 + k * 3, none⟩ = some (.int .i64 o.ak) := ⟨(CA w6 K6.out).2, (CA w6 K6.out).1⟩; clear ho6 hg6))
          go_wp2
          go_roundw
          case rel => exact ⟨i + 1, c6, a6, by omega, by go_num, by first | rfl | (congr 1; omega), HP6.out, K6.out⟩
          case measure => simp [intOf]; omega
        · obtain rfl : i = o.wt.length := by omega
          have hirr : ¬ (o.wt.length : Int) < o.wt.length := by omega
          have HEq : Hid (pre ++ (pksO id k o).take o.wt.length = pksTo id os (k + 1)) := by show _ = _; rw [HNx.out, List.take_of_length_le (by rw [pksO_len]; omega)]
          have HPf : Hid (OwnPk w.heap.size wr a c (pksTo id os (k + 1))) := by have h := HPi.out; rw [HEq.out] at h; exact h
          have HLf : Hid (pre.length + o.wt.length = (pksTo id os (k + 1)).length) := by show _ = _; rw [← HEq.out]; exact hlen.out.symm
          go_wp2
          go_roundw
          case rel => exact ⟨k + 1, c, a, (by have := HKle.out; omega), by go_num, by rw [← HLf.out], HPf.out, HKi.out⟩
          case measure => have := HKle.out; simp [intOf]; omega
    · obtain rfl : k = 10 := by omega
      go_wp2
      go_ret
      exact ⟨a, c, rfl, HP.out, HK.out⟩
end Go.Proofs.Ytpfgnhockfofhaa

/-
  Whole structs out of and into a block, as laws of the walk: the world behind a store is any world with the block's new cells.
-/
namespace Go.Proofs.Ytpfgnhockfofhaa
open Go.RowKit

theorem rng_blk {w : World} {b : Nat} {cs : Array Value} {t : TypeId} (h : w.heap[b]? = some (.cells cs t (0, 0))) : w.rangeAt b 0 cs.toList := by
  intro j v hj
  rw [Nat.zero_add, blk_cell h j, ← hj]
  simp
theorem there_blk {w : World} {b n : Nat} {cs : Array Value} {t : TypeId} (h : w.heap[b]? = some (.cells cs t (0, 0))) (hn : n = cs.size) : w.there b 0 n := by
  intro j hj
  rw [Nat.zero_add]
  refine ⟨?_, blk_free h j⟩
  rw [blk_cell h j]
  simp; omega
theorem blk_setCellsW {b : Nat} {t : TypeId} : ∀ (vs : List Value) (o : Nat) (w : World) (cs : Array Value), w.heap[b]? = some (.cells cs t (0, 0)) → ∃ cs', (w.setCells b o vs).heap[b]? = some (.cells cs' t (0, 0)) ∧ cs'.size = cs.size ∧ ∀ i, cs'[i]? = if o ≤ i ∧ i < o + vs.length ∧ i < cs.size then vs[i - o]? else cs[i]?
  | [], o, w, cs, h => ⟨cs, h, rfl, fun i => by rw [if_neg (by simp; omega)]⟩
  | v :: r, o, w, cs, h => by
    obtain ⟨cs', h1, h2, h3⟩ := blk_setCellsW r (o + 1) _ _ (blk_set h o v)
    refine ⟨cs', h1, by simpa using h2, fun i => ?_⟩
    rw [h3 i]
    simp only [Array.size_setIfInBounds, List.length_cons]
    by_cases hi : i = o
    · subst hi
      rw [if_neg (by omega)]
      by_cases hs : i < cs.size
      · rw [if_pos (by omega)]
        simp [hs]
      · rw [if_neg (by omega)]
        simp [hs]
    · by_cases hc : o + 1 ≤ i ∧ i < o + 1 + r.length ∧ i < cs.size
      · rw [if_pos hc, if_pos (by omega), show i - o = (i - (o + 1)) + 1 by omega, List.getElem?_cons_succ]
      · rw [if_neg hc, if_neg (by omega)]
        simp [Ne.symm hi]
theorem blk_setAll {w : World} {b : Nat} {t : TypeId} {cs news : Array Value} (h : w.heap[b]? = some (.cells cs t (0, 0))) (hs : cs.size = news.size) : (w.setCells b 0 news.toList).heap[b]? = some (.cells news t (0, 0)) := by
  obtain ⟨cs', h1, h2, h3⟩ := blk_setCellsW news.toList 0 w cs h
  rw [h1]
  have e : cs' = news := by
    apply Array.ext_getElem?
    intro i
    rw [h3 i]
    by_cases hi : i < cs.size
    · rw [if_pos ⟨Nat.zero_le _, by simp; omega, hi⟩]
      simp
    · rw [if_neg (by omega)]
      rw [Array.getElem?_eq_none (by omega), Array.getElem?_eq_none (by omega)]
  rw [e]
theorem kept_setCells {X : Nat → Obj → Prop} {b : Nat} : ∀ (vs : List Value) (o : Nat) {a w : World}, Kept X a w → (∀ o', X b o') → Kept X a (w.setCells b o vs)
  | [], _, _, _, h, _ => h
  | v :: r, o, _, _, h, hX => kept_setCells r (o + 1) (h.setCell (fun _ => hX _) v) hX
theorem size_setCellsW {b : Nat} : ∀ (vs : List Value) (o : Nat) (w : World), (w.setCells b o vs).heap.size = w.heap.size
  | [], _, _ => rfl
  | v :: r, o, w => by rw [World.setCells, size_setCellsW r]; simp

/-- The next operation is a load of a whole variable of this type. -/
theorem atLoad (ty : TypeId) {P : Program} {ops : Array Oper} {rest : List Oper} {a : Act} {w : World} {Q : Exit → Act → World → Prop} {dst : Option Tmp} {x : Operand} {tp : TypeId} {pos : String} {af : Array Edge}
    (h : wpList P ops Q (⟨dst, .load ty x, tp, pos, af, none⟩ :: rest) a w) : wpList P ops Q (⟨dst, .load ty x, tp, pos, af, none⟩ :: rest) a w := h
theorem atStore (ty : TypeId) {P : Program} {ops : Array Oper} {rest : List Oper} {a : Act} {w : World} {Q : Exit → Act → World → Prop} {dst : Option Tmp} {x y : Operand} {tp : TypeId} {pos : String} {af : Array Edge}
    (h : wpList P ops Q (⟨dst, .store ty x y, tp, pos, af, none⟩ :: rest) a w) : wpList P ops Q (⟨dst, .store ty x y, tp, pos, af, none⟩ :: rest) a w := h
theorem wpList_loadW {P : Program} {ops : Array Oper} {rest : List Oper} {op : Oper} {a : Act} {w : World} {Q : Exit → Act → World → Prop} (hgd : op.guard = none) (ty : TypeId) (x : Operand) (ho : op.op = .load ty x)
    (b : Nat) (hx : a.eval x = .pointer (some ⟨b, 0, none⟩)) (cs : Array Value) (t : TypeId) (d : TypeDesc) (hb : w.heap[b]? = some (.cells cs t (0, 0)))
    (hu : P.underlying ty = some d) (hd : d.isRow = true) {n : Nat} (hi : (P.info? ty).map (·.size) = some n) (hn : cs.size = n)
    (h : wpList P ops Q rest (a.put op.dst (.agg cs)) w) : wpList P ops Q (op :: rest) a w :=
  wpList_load_mid hgd ty x ho b 0 hx cs.toList d (rng_blk hb) hu hd (by rw [hi, ← hn]; simp) (by simpa using h)
theorem wpList_storeW {P : Program} {ops : Array Oper} {rest : List Oper} {op : Oper} {a : Act} {w : World} {Q : Exit → Act → World → Prop} (hgd : op.guard = none) (ty : TypeId) (x y : Operand) (ho : op.op = .store ty x y)
    (b : Nat) (cells olds : Array Value) (t : TypeId) (hx : a.eval x = .pointer (some ⟨b, 0, none⟩)) (hy : a.eval y = .agg cells) (hb : w.heap[b]? = some (.cells olds t (0, 0))) (hs : olds.size = cells.size)
    {n : Nat} (hi : (P.info? ty).map (·.size) = some n) (hn : cells.size = n) (h1 : cells.all (·.oneCell') = true)
    (h : ∀ w', w'.heap[b]? = some (.cells cells t (0, 0)) → Kept (One b) w w' → w'.heap.size = w.heap.size → wpList P ops Q rest (a.put op.dst undef) w') : wpList P ops Q (op :: rest) a w :=
  wpList_store_mid hgd ty x y ho b 0 cells hx hy (there_blk hb hs.symm) (by rw [hi, hn]) h1 (h _ (blk_setAll hb hs) (kept_setCells _ _ (Kept.refl _ _) (fun _ => rfl)) (size_setCellsW _ _ _))
theorem results_cellW {fn : Func} {p : Tmp} {ty : TypeId} {P : Program} {w : World} {tmps : Array Value} {b : Nat} {cs : Array Value} {t : TypeId} {d : TypeDesc} (h : fn.results = #[.cell p ty]) (hp : tmps.getD p undef = .pointer (some ⟨b, 0, none⟩))
    (hb : w.heap[b]? = some (.cells cs t (0, 0))) (hu : P.underlying ty = some d) (hd : d.isRow = true) {n : Nat} (hi : (P.info? ty).map (·.size) = some n) (hn : cs.size = n) : (results fn tmps).run P w = .ok (.agg cs) w := by
  have hl := run_loadVar_mid (P := P) w b 0 ty cs.toList d (rng_blk hb) hu hd (by rw [hi, ← hn]; simp)
  simp only [Array.toArray_toList] at hl
  have hp' : tmps[p]?.getD undef = .pointer (some ⟨b, 0, none⟩) := by simpa using hp
  simp [results, h, hp', asAddr, hl]
theorem blk_new1 (w : World) (o1 o2 : Obj) : ((w.alloc o1).alloc o2).heap[w.heap.size + 1]? = some o2 := by
  have h := blk_new (w.alloc o1) o2
  rwa [show (w.alloc o1).heap.size = w.heap.size + 1 by simp] at h
end Go.Proofs.Ytpfgnhockfofhaa

/-
  Shards: rows, blocks and relays: what stays what it is.
-/
namespace Go.Proofs.Ytpfgnhockfofhaa
open Go.RowKit

theorem own_keptG {X : Nat → Obj → Prop} {w w' : World} {B : Nat} {e : TypeId} {size : Nat} {v : Value} {n : Nat} {xs : List Value} (h : w.ownsRow B e size v n xs) (hk : Kept X w w')
    (hX : ∀ g cs, v.ownBlock = some g → ¬ X g (.cells cs e (0, 0))) : w'.ownsRow B e size v n xs := by
  refine ⟨h.1, h.2.imp id ?_⟩
  rintro ⟨g, cap, cur, h1, h2, h3, h4⟩
  exact ⟨g, cap, cur, h1, h2, hk.block _ _ h3 (hX _ _ (by rw [h1]; rfl)), h4⟩
theorem Rl.keptG {X : Nat → Obj → Prop} {B : Nat → Prop} {b : Nat} {w w' : World} {id : Int} {os : Nat → Oh} {ao : Nat → Option Addr} {cs : Nat → Nat} (h : Rl B w b id os ao cs) (k : Kept X w w') (hX : ∀ cs, ¬ X b (.cells cs 90 (0, 0))) (hs : ∀ q cs, B q → ¬ X q (.cells cs 9 (0, 0))) : Rl B w' b id os ao cs := by
  obtain ⟨cells, hc⟩ := h.cl
  exact ⟨⟨cells, k.block _ _ hc.blk (hX _), hc.sz, hc.c0, hc.ca, hc.cw, hc.cc⟩, fun j hj => own_keptG (h.rows j hj) k (fun g cs hg => hs g cs (h.good j hj g hg)), h.far, h.good⟩
theorem Rl.lt {B : Nat → Prop} {b : Nat} {w : World} {id : Int} {os : Nat → Oh} {ao : Nat → Option Addr} {cs : Nat → Nat} (h : Rl B w b id os ao cs) : Rl (fun g => B g ∧ g < w.heap.size) w b id os ao cs :=
  ⟨h.cl, h.rows, h.far, fun k hk g hg => ⟨h.good k hk g hg, (World.ownsRow.lt (h.rows k hk) g hg).2⟩⟩
/-- What is younger than n0. -/
def Ge (n0 : Nat) : Nat → Obj → Prop := fun q _ => n0 ≤ q
theorem step_append_at {P : Program} {w : World} {ops : Array Oper} {o : Oper} {a : Act} {K : Act → World → Prop} {Q : Exit → Act → World → Prop} {E : Prop} (hgd : o.guard = none) (s xo : Operand) (t tx : TypeId)
    (ho : o.op = .call { callee := .builtin .append, args := #[s, xo], argTypes := #[t, tx] })
    (base : Nat) (e : TypeId) (i : TypeInfo) (z : Value) (size bytes : Nat) (ht : P.underlying t = some (.slice e)) (hi : P.info? e = some i) (hz : i.zero = some z)
    (hsize : i.size = size) (hby : i.bytes = bytes) (hzs : z.cells.size = size)
    (v : Value) (n : Nat) (xs : List Value) (hv : a.eval s = v) (hown : w.ownsRow base e size v n xs) (x : Value) (m : Nat) (news : List Value) (hx : a.eval xo = x) (hs : Src P size tx x m news w)
    (h63 : n + m ≤ maxLen) (hbytes : (n + m) * bytes ≤ 140737488355328) (hbase : base ≤ w.heap.size)
    (h : ∀ ao c w', w'.ownsRow base e size (.slice ao (n + m) c) (n + m) (xs ++ news) → w.grownBy w' v.ownBlock → (∀ g, (Value.slice ao (n + m) c).ownBlock = some g → v.ownBlock = some g ∨ w.heap.size ≤ g) → K (a.put o.dst (.slice ao (n + m) c)) w') :
    if Region.wanted o (yielded ops a.tmps) = true then Oper.wp P o a w K Q else E := by
  rw [if_pos (by simp [Region.wanted, hgd])]
  exact wp_append_at w s xo t tx ho base e i z size bytes ht hi hz hsize hby hzs v n xs hv hown x m news hx hs h63 hbytes hbase fun v' w' h2 h3 h4 => by
    obtain ⟨ao, c, rfl⟩ := own_shape h2
    exact h ao c w' h2 h3 h4
theorem Try.sizePk : (Try.prog.info? 34).map (·.size) = some 5 := by kernel_rfl
/-- A block of one type is written: rows of another stay. -/
theorem own_setTy {B size n b i : Nat} {e t : TypeId} {w : World} {v u : Value} {xs : List Value} {cells : Array Value} (hb : w.heap[b]? = some (.cells cells t (0, 0))) (ho : w.ownsRow B e size v n xs) (he : e ≠ t) : (w.setCell ⟨b, i, none⟩ u).ownsRow B e size v n xs := own_setB ho (fun eb => by
  rcases ho.2 with ⟨e1, _⟩ | ⟨g, _, _, e1, _, hb2, _⟩
  · rw [e1] at eb; simp [Value.ownBlock] at eb
  · rw [e1] at eb
    have e2 : g = b := by simpa [Value.ownBlock] using eb
    rw [e2, hb] at hb2
    simp at hb2
    exact he hb2.2.symm) _ _
theorem Kept.newG {n0 : Nat} {w a b : World} (h : Kept Nil w a) (k : Kept (Ge n0) a b) (hn : w.heap.size ≤ n0) : Kept Nil w b := ⟨k.os.trans h.os, k.tape.trans h.tape, k.output.trans h.output, Nat.le_trans h.size k.size, fun q o ho _ => k.block q o (h.block q o ho (fun x => x)) (fun e => by have := lt_of_block ho; unfold Ge at e; omega)⟩
end Go.Proofs.Ytpfgnhockfofhaa

/-
  Shards: rows of items, the search among them; a host in memory, its find.
-/
namespace Go.Proofs.Ytpfgnhockfofhaa
open Go.RowKit

def itCell (x : Pr) : List Value := [.string (bs x.k), .string (bs x.v)]
def itCells (l : List Pr) : List Value := l.flatMap itCell
def OwnIt (B : Nat) (w : World) (ao : Option Addr) (c : Nat) (l : List Pr) : Prop := w.ownsRow B 117 2 (.slice ao l.length c) l.length (itCells l)
theorem itCells_cons (o : Pr) (t : List Pr) : itCells (o :: t) = .string (bs o.k) :: .string (bs o.v) :: itCells t := by simp [itCells, itCell]
theorem itCells_app (a b : List Pr) : itCells (a ++ b) = itCells a ++ itCells b := by simp [itCells]
theorem itCells_len (l : List Pr) : (itCells l).length = l.length * 2 := by
  induction l with
  | nil => rfl
  | cons o t ih => rw [itCells_cons]; simp only [List.length_cons, ih]; omega
theorem itCells_at : ∀ (l : List Pr) (j : Nat) (hj : j < l.length), (itCells l)[j * 2]? = some (.string (bs l[j].k)) ∧ (itCells l)[j * 2 + 1]? = some (.string (bs l[j].v))
  | [], j, hj => by simp at hj
  | o :: t, 0, hj => by simp [itCells_cons]
  | o :: t, j + 1, hj => by
    have h := itCells_at t j (by simpa using hj)
    have hx : ∀ i, (itCells (o :: t))[(j + 1) * 2 + i]? = (itCells t)[j * 2 + i]? := fun i => by
      rw [itCells_cons, show (j + 1) * 2 + i = (j * 2 + i) + 1 + 1 by omega]
      simp only [List.getElem?_cons_succ]
    have hx0 := hx 0
    simp only [Nat.add_zero] at hx0
    rw [hx0, hx 1]
    simpa using h
theorem itCells_one (l : List Pr) : ∀ v ∈ itCells l, v.oneCell' = true := fun u hu => by
  obtain ⟨o, _, hu⟩ := List.mem_flatMap.1 hu
  simp [itCell] at hu
  rcases hu with rfl | rfl <;> rfl
theorem OwnIt.kept {B c : Nat} {w w' : World} {ao : Option Addr} {l : List Pr} (h : OwnIt B w ao c l) (hk : Kept Nil w w') : OwnIt B w' ao c l := own_kept h hk (fun _ _ _ x => x.elim)
theorem OwnIt.block {B c : Nat} {w : World} {ao : Option Addr} {l : List Pr} (h : OwnIt B w ao c l) (h0 : ao ≠ none) : ∃ g cs, ao = some ⟨g, 0, none⟩ ∧ B ≤ g ∧ w.heap[g]? = some (.cells cs 117 (0, 0)) ∧ l.length ≤ c ∧ c ≤ maxLen ∧ cs.size = c * 2 ∧ cs.toList.take (l.length * 2) = itCells l := by
  rcases h.2 with ⟨h1, h2⟩ | ⟨g, cap, cur, hv, hb, hh, h1, h2, h3, h4⟩
  · simp only [Value.slice.injEq] at h1
    exact absurd h1.1 h0
  · simp only [Value.slice.injEq] at hv
    obtain ⟨rfl, _, rfl⟩ := hv
    exact ⟨g, cur, rfl, hb, hh, h1, h2, h3, h4⟩
theorem OwnIt.cells {B c : Nat} {w : World} {ao : Option Addr} {l : List Pr} (h : OwnIt B w ao c l) {j : Nat} (hj : j < l.length) : ∃ g, ao = some ⟨g, 0, none⟩ ∧ B ≤ g ∧ g < w.heap.size ∧ w.cell? ⟨g, j * 2, none⟩ = some (.string (bs l[j].k)) ∧ w.cell? ⟨g, j * 2 + 1, none⟩ = some (.string (bs l[j].v)) ∧ w.frozen? ⟨g, j * 2, none⟩ = false ∧ w.frozen? ⟨g, j * 2 + 1, none⟩ = false := by
  rcases h.2 with ⟨h1, h2⟩ | ⟨g, cap, cur, hv, hb, hh, h1, h2, h3, h4⟩
  · omega
  · simp only [Value.slice.injEq] at hv
    obtain ⟨rfl, _, rfl⟩ := hv
    have hc : ∀ i, i < l.length * 2 → cur[i]? = (itCells l)[i]? := fun i hi => by
      have := congrArg (fun l => l[i]?) h4
      simpa only [List.getElem?_take, if_pos hi, Array.getElem?_toList] using this
    obtain ⟨e0, e1⟩ := itCells_at l j hj
    exact ⟨g, rfl, hb, lt_of_block hh, by rw [blk_cell hh, hc _ (by omega), e0], by rw [blk_cell hh, hc _ (by omega), e1], blk_free hh _, blk_free hh _⟩
theorem OwnIt.mono {B B' c : Nat} {w : World} {ao : Option Addr} {l : List Pr} (h : OwnIt B w ao c l) (hb : B' ≤ B) : OwnIt B' w ao c l := by
  refine ⟨h.1, h.2.imp id ?_⟩
  rintro ⟨g, cap, cur, h1, h2, h3⟩
  exact ⟨g, cap, cur, h1, Nat.le_trans hb h2, h3⟩
theorem OwnIt.none {B c : Nat} {w : World} {l : List Pr} (h : OwnIt B w none c l) : l = [] ∧ c = 0 := by
  rcases h.2 with ⟨h1, _⟩ | ⟨g, cap, cur, hv, _⟩
  · simp at h1
    exact ⟨h1.1, h1.2⟩
  · simp at hv
theorem Try.infoOwnIt : (Try.prog.info? 117).map (fun i => (i.zero, i.size, i.bytes)) = some (some (.agg #[.string ⟨#[]⟩, .string ⟨#[]⟩]), 2, 32) := by kernel_rfl
theorem OwnIt.src {B c : Nat} {w : World} {ao : Option Addr} {l : List Pr} (h : OwnIt B w ao c l) : Src Try.prog 2 102 (.slice ao l.length c) l.length (itCells l) w := by
  cases ao with
  | none =>
    obtain ⟨rfl, rfl⟩ := h.none
    exact Src.ofNil _ Try.underlying102 0
  | some a =>
    obtain ⟨g, cs, e0, _, hh, h1, _, h3, h4⟩ := h.block (by simp)
    cases e0
    refine Src.ofSlice _ Try.underlying102 ⟨g, 0, .none⟩ l.length c _ (itCells_len l) ?_ (itCells_one l)
    intro j u hj
    have hlt : j < l.length * 2 := by have := (List.getElem?_eq_some_iff.1 hj).1; rwa [itCells_len] at this
    rw [addr_addE, blk_cell hh, ← hj]
    have := congrArg (fun l => l[j]?) h4
    simpa only [List.getElem?_take, if_pos hlt, Array.getElem?_toList] using this
theorem oneOwnIt_src (w : World) (x : Pr) : Src Try.prog 2 102 (.slice (some ⟨w.heap.size, 0, .none⟩) 1 1) 1 [.string (bs x.k), .string (bs x.v)] (w.alloc (.cells #[.string (bs x.k), .string (bs x.v)] 117)) := by
  refine Src.ofSlice _ Try.underlying102 ⟨w.heap.size, 0, .none⟩ 1 1 _ rfl ?_ (fun u hu => by simp at hu; rcases hu with rfl | rfl <;> rfl)
  intro j u hj
  rw [addr_addE, blk_cell (blk_new w (.cells #[.string (bs x.k), .string (bs x.v)] 117)), ← hj]
  simp
theorem OwnIt.app {B c n m : Nat} {w : World} {ao : Option Addr} {fs gs : List Pr} (hn : n = fs.length) (hm : m = gs.length) (h : w.ownsRow B 117 2 (.slice ao (n + m) c) (n + m) (itCells fs ++ itCells gs)) : OwnIt B w ao c (fs ++ gs) := by
  subst hn
  subst hm
  show World.ownsRow _ _ _ _ _ _ _
  rw [List.length_append, itCells_app]
  exact h
theorem OwnIt.push {B c : Nat} {w : World} {ao : Option Addr} {l : List Pr} {x : Pr} (h : w.ownsRow B 117 2 (.slice ao (l.length + 1) c) (l.length + 1) (itCells l ++ [.string (bs x.k), .string (bs x.v)])) : OwnIt B w ao c (l ++ [x]) := OwnIt.app (gs := [x]) rfl rfl (by rw [show itCells [x] = [.string (bs x.k), .string (bs x.v)] by simp [itCells, itCell]]; exact h)

set_option maxRecDepth 100000 in
set_option maxHeartbeats 1000000 in
theorem findI_any (p : Pr) (key : List UInt8) (w : World) :
    Calls Try.prog 65 #[.agg #[.string (bs p.k), .string (bs p.v)], .string (bs key)] w fun e w' => e = .returned (.int .i64 (cmpB p.k key)) ∧ Kept Nil w w' := by
  go_enter Try.func65, Try.ntmps65
  go_wp2_with fail
  go_fit (compare_any p.k key _)
  rintro e w1 ⟨rfl, rfl⟩
  go_wp2
  go_ret
  exact ⟨rfl, (Kept.refl _ _).alloc _⟩
set_option maxRecDepth 100000 in
set_option maxHeartbeats 2000000 in
theorem bsfI_any (B c : Nat) (ao : Option Addr) (ps : List Pr) (key : List UInt8) (w : World) (h : OwnIt B w ao c ps) (hs : Srt ps) (hl : ps.length ≤ 4000000000) :
    Calls Try.prog 64 #[.slice ao ps.length c, .string (bs key), .func (.func 65) #[] #[]] w fun e w' => e = .returned (.tuple #[.int .i64 (lowP key ps), .bool (isThere key ps)]) ∧ Kept Nil w w' := by
  have HR : Hid (OwnIt B w ao c ps) := h
  have HS : Hid (Srt ps) := hs
  clear h hs
  go_enter Try.func64, Try.ntmps64
  go_wp2
  go_loopw [9, 10] (fun u v wr => ∃ i j : Nat, i ≤ j ∧ j ≤ ps.length ∧ u = .int .i64 i ∧ v = .int .i64 j ∧ Hid (∀ q, (hq : q < ps.length) → q < i → lessB ps[q].k key = true) ∧ Hid (∀ q, (hq : q < ps.length) → j ≤ q → lessB ps[q].k key = false) ∧ Hid (Kept Nil w wr)) (fun u v _ => (intOf v).toNat - (intOf u).toNat)
  case atStart => exact ⟨0, ps.length, Nat.zero_le _, Nat.le_refl _, rfl, rfl, fun q hq h0 => by omega, fun q hq h0 => by omega, Kept.refl _ _⟩
  case round =>
    obtain ⟨i, j, hij, hjn, rfl, rfl, H1, H2, HK⟩ := hrel
    by_cases hlt : i < j
    · have hli : (i : Int) < (j : Int) := by omega
      have hm : (i + j) / 2 < ps.length := by omega
      obtain ⟨g, eg, -, -, c0, c1, -, -⟩ := (HR.out.kept HK.out).cells hm
      subst eg
      obtain ⟨y, HY⟩ : ∃ y : Pr, Hid (y = ps[(i + j) / 2]) := ⟨ps[(i + j) / 2], (rfl : ps[(i + j) / 2] = ps[(i + j) / 2])⟩
      rw [← HY.out] at c0 c1
      have CM := findI_any y key wr
      have HC : Hid (cmpB y.k key < 0 ↔ lessB y.k key = true) := (cmp_less y.k key).1
      generalize cmpB y.k key = z at *
      by_cases hz : z < 0
      · have HL : Hid (lessB y.k key = true) := HC.out.1 hz
        go_wp2_with fail
        go_fit CM
        rintro e w1 ⟨rfl, k1⟩
        have K1 : Hid (Kept Nil w w1) := HK.out.trans k1
        clear k1 CM
        go_wp2
        go_roundw
        case rel => exact ⟨(i + j) / 2 + 1, j, by omega, hjn, by congr 1, rfl, fun q hq hqi => (by
          by_cases e : q = (i + j) / 2
          · subst e; rw [← HY.out]; exact HL.out
          · have h1 := List.pairwise_iff_getElem.1 HS.out q ((i + j) / 2) hq hm (by omega)
            rw [← HY.out] at h1
            exact less_trans h1 HL.out), H2.out, K1.out⟩
        case measure => simp [intOf]; omega
      · have HL : Hid (lessB y.k key = false) := by
          show lessB y.k key = false
          cases hx : lessB y.k key
          · rfl
          · exact absurd (HC.out.2 hx) hz
        go_wp2_with fail
        go_fit CM
        rintro e w1 ⟨rfl, k1⟩
        have K1 : Hid (Kept Nil w w1) := HK.out.trans k1
        clear k1 CM
        go_wp2
        go_roundw
        case rel => exact ⟨i, (i + j) / 2, by omega, by omega, rfl, by congr 1, H1.out, fun q hq hqi => (by
          by_cases e : q = (i + j) / 2
          · subst e; rw [← HY.out]; exact HL.out
          · cases hx : lessB ps[q].k key
            · rfl
            · have h1 := List.pairwise_iff_getElem.1 HS.out ((i + j) / 2) q hm hq (by omega)
              rw [← HY.out] at h1
              have h2 := HL.out
              rw [less_trans h1 hx] at h2
              cases h2), K1.out⟩
        case measure => simp [intOf]; omega
    · obtain rfl : i = j := by omega
      have HLow : Hid (lowP key ps = i) := lowP_eq HS.out hjn H1.out H2.out
      by_cases hin : i < ps.length
      · have hii : (i : Int) < ps.length := by omega
        obtain ⟨g, eg, -, -, c0, c1, -, -⟩ := (HR.out.kept HK.out).cells hin
        subst eg
        obtain ⟨y, HY⟩ : ∃ y : Pr, Hid (y = ps[i]) := ⟨ps[i], (rfl : ps[i] = ps[i])⟩
        rw [← HY.out] at c0 c1
        have HTH : Hid (isThere key ps = decide (y.k = key)) := by
          show isThere key ps = _
          unfold isThere
          rw [HLow.out, List.getElem?_eq_getElem hin, ← HY.out]
        have CM := findI_any y key wr
        have HC : Hid (cmpB y.k key = 0 ↔ y.k = key) := (cmp_less y.k key).2
        generalize cmpB y.k key = z at *
        go_wp2_with fail
        go_fit CM
        rintro e w1 ⟨rfl, k1⟩
        have K1 : Hid (Kept Nil w w1) := HK.out.trans k1
        clear k1 CM
        go_wp2
        go_ret2
        exact ⟨by rw [HLow.out, HTH.out, ← decide_eq_decide.2 HC.out]; first | rfl | (cases hd : decide (z = 0) <;> simp_all), K1.out⟩
      · have hii : ¬ (i : Int) < ps.length := by omega
        have HTH : Hid (isThere key ps = false) := by
          show isThere key ps = _
          unfold isThere
          rw [HLow.out, List.getElem?_eq_none (by omega)]
        go_wp2
        go_ret2
        exact ⟨by rw [HLow.out, HTH.out]; rfl, HK.out⟩


/-- A host's block: its relay, its number, its items, who has which keys. -/
def HoAt (w : World) (b rb : Nat) (id : Int) (ai : Option Addr) (ni ci : Nat) (ak : Option Addr) (nk ck : Nat) : Prop := w.heap[b]? = some (.cells #[.pointer (some ⟨rb, 0, none⟩), .int .i64 id, .slice ai ni ci, .slice ak nk ck] 114 (0, 0))
set_option maxRecDepth 100000 in
set_option maxHeartbeats 2000000 in
theorem findH_any (B b rb ci nk ck : Nat) (id : Int) (ai ak : Option Addr) (ps : List Pr) (key : List UInt8) (w : World) (h : OwnIt B w ai ci ps) (hs : Srt ps) (hl : ps.length ≤ 4000000000) (hb : HoAt w b rb id ai ps.length ci ak nk ck) :
    Calls Try.prog 52 #[.pointer (some ⟨b, 0, none⟩), .string (bs key)] w fun e w' => e = .returned (.tuple #[.int .i64 (lowP key ps), .bool (isThere key ps)]) ∧ Kept Nil w w' := by
  have BS := bsfI_any B ci ai ps key w h hs hl
  have q2 : w.cell? ⟨b, 2, none⟩ = some (.slice ai ps.length ci) := blk_at hb 2 rfl
  clear h hs hb
  go_enter Try.func52, Try.ntmps52
  go_wp2_with fail
  go_fit BS
  rintro e w1 ⟨rfl, k1⟩
  have K1 : Hid (Kept Nil w w1) := k1
  clear k1 BS
  go_wp2
  go_ret2
  exact ⟨rfl, K1.out⟩
end Go.Proofs.Ytpfgnhockfofhaa
