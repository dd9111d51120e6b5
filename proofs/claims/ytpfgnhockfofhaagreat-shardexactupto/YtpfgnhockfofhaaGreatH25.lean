/-
  Joined: WSh7, WShA, WShG.
-/
import Derived.Test.YtpfgnhockfofhaaGreatH15
import Derived.Test.YtpfgnhockfofhaaGreatH04
import Derived.Deep.Upon
import Derived.Test.YtpfgnhockfofhaaGreatH24
import Derived.Deep.RegionLaw
/-
  A row from a cell of a block on (what x[1:] leaves), and append onto it.
-/
namespace Go.Proofs.YtpfgnhockfofhaaGreat
open Go.RowKit

/-- A row from a cell of a block on. -/
def RowAt (w : World) (e : TypeId) (size : Nat) (v : Value) (n : Nat) (xs : List Value) : Prop := xs.length = n * size ∧ ((v = .slice none 0 0 ∧ n = 0) ∨ ∃ g o cap cur, v = .slice (some ⟨g, o, none⟩) n cap ∧ w.heap[g]? = some (.cells cur e (0, 0)) ∧ n ≤ cap ∧ cap ≤ maxLen ∧ o + cap * size ≤ cur.size ∧ ∀ j, j < n * size → cur[o + j]? = xs[j]?)
theorem rowG {w : World} {e : TypeId} {size : Nat} {v : Value} {n B : Nat} {xs : List Value} (h : w.ownsRow B e size v n xs) : RowAt w e size v n xs := by
  refine ⟨h.1, h.2.imp id ?_⟩
  rintro ⟨g, cap, cur, h1, _, h2, h3, h4, h5, h6⟩
  refine ⟨g, 0, cap, cur, h1, h2, h3, h4, by omega, fun j hj => ?_⟩
  have := congrArg (fun l => l[j]?) h6
  rw [Nat.zero_add]
  simpa only [List.getElem?_take, if_pos hj, Array.getElem?_toList] using this
theorem RowAt.nil (w : World) (e : TypeId) (size : Nat) : RowAt w e size (.slice none 0 0) 0 [] := ⟨by simp, .inl ⟨rfl, rfl⟩⟩
theorem RowAt.keptX {X : Nat → Obj → Prop} {w w' : World} {e : TypeId} {size : Nat} {v : Value} {n : Nat} {xs : List Value} (h : RowAt w e size v n xs) (hk : Kept X w w') (hX : ∀ g cs, v.ownBlock = some g → ¬ X g (.cells cs e (0, 0))) : RowAt w' e size v n xs := by
  refine ⟨h.1, h.2.imp id ?_⟩
  rintro ⟨g, o, cap, cur, h1, h2, h3⟩
  exact ⟨g, o, cap, cur, h1, hk.block _ _ h2 (hX _ _ (by rw [h1]; rfl)), h3⟩
theorem RowAt.lt {w : World} {e : TypeId} {size : Nat} {v : Value} {n : Nat} {xs : List Value} (h : RowAt w e size v n xs) {g : Nat} (hg : v.ownBlock = some g) : g < w.heap.size := by
  rcases h.2 with ⟨rfl, _⟩ | ⟨g', o, cap, cur, rfl, h2, _⟩
  · simp [Value.ownBlock] at hg
  · have e : g' = g := by simpa [Value.ownBlock] using hg
    subst e
    exact lt_of_block h2
theorem RowAt.shape {w : World} {e : TypeId} {size : Nat} {v : Value} {n : Nat} {xs : List Value} (h : RowAt w e size v n xs) : ∃ ao c, v = .slice ao n c := by
  rcases h.2 with ⟨rfl, rfl⟩ | ⟨g, o, cap, cur, rfl, _⟩
  · exact ⟨_, _, rfl⟩
  · exact ⟨_, _, rfl⟩
/-- Its block, where it is no empty one. -/
theorem RowAt.block {w : World} {e : TypeId} {size : Nat} {ao : Option Addr} {c n : Nat} {xs : List Value} (h : RowAt w e size (.slice ao n c) n xs) (hn : 0 < n) : ∃ g o cur, ao = some ⟨g, o, none⟩ ∧ w.heap[g]? = some (.cells cur e (0, 0)) ∧ n ≤ c ∧ c ≤ maxLen ∧ o + c * size ≤ cur.size ∧ ∀ j, j < n * size → cur[o + j]? = xs[j]? := by
  rcases h.2 with ⟨_, e⟩ | ⟨g, o, cap, cur, e, h2⟩
  · omega
  · simp only [Value.slice.injEq] at e
    obtain ⟨rfl, _, rfl⟩ := e
    exact ⟨g, o, cur, rfl, h2⟩
theorem RowAt.cells {w : World} {e : TypeId} {size : Nat} {g o c n : Nat} {xs : List Value} (h : RowAt w e size (.slice (some ⟨g, o, none⟩) n c) n xs) : ∀ j u, xs[j]? = some u → w.cell? ((⟨g, o, none⟩ : Addr).add j) = some u := fun j u hj => by
  have hlt : j < n * size := by have := (List.getElem?_eq_some_iff.1 hj).1; rw [h.1] at this; exact this
  rcases h.2 with ⟨e, _⟩ | ⟨g', o', cap, cur, e, h2, _, _, _, h6⟩
  · cases e
  · simp only [Value.slice.injEq, Option.some.injEq, Addr.mk.injEq, and_true] at e
    obtain ⟨⟨rfl, rfl⟩, _⟩ := e
    rw [Addr.add_lit, blk_cell h2, h6 j hlt, hj]
theorem RowAt.src {P : Program} {w : World} {e e' tx : TypeId} {size : Nat} {ao : Option Addr} {c n : Nat} {xs : List Value} (h : RowAt w e size (.slice ao n c) n xs) (hk : P.underlying tx = some (.slice e')) (h1 : ∀ u ∈ xs, u.oneCell' = true) : Src P size tx (.slice ao n c) n xs w := by
  rcases h.2 with ⟨e, rfl⟩ | ⟨g', o', cap, cur, e, h2⟩
  · simp only [Value.slice.injEq] at e
    obtain ⟨rfl, _, rfl⟩ := e
    obtain rfl : xs = [] := List.eq_nil_of_length_eq_zero (by simpa using h.1)
    exact Src.ofNil _ hk 0
  · simp only [Value.slice.injEq] at e
    obtain ⟨rfl, _, rfl⟩ := e
    exact Src.ofSlice _ hk _ n c xs h.1 h.cells h1

section
variable {P : Program} (w : World)
theorem run_append_row (t tx ty e : TypeId) (i : TypeInfo) (z : Value) (size bytes : Nat) (ht : P.underlying t = some (.slice e)) (hi : P.info? e = some i) (hz : i.zero = some z)
    (hsize : i.size = size) (hby : i.bytes = bytes) (hzs : z.cells.size = size)
    (v : Value) (n : Nat) (xs : List Value) (hown : RowAt w e size v n xs) (x : Value) (m : Nat) (news : List Value) (hs : Src P size tx x m news w)
    (h63 : n + m ≤ maxLen) (hbytes : (n + m) * bytes ≤ 140737488355328) :
    ∃ v' w', (Builtin.append_ #[t, tx] ty #[v, x]).run P w = .ok v' w' ∧ RowAt w' e size v' (n + m) (xs ++ news) ∧ w.grownBy w' v.ownBlock ∧ ∀ g, v'.ownBlock = some g → v.ownBlock = some g ∨ w.heap.size ≤ g := by
  rcases hown.2 with ⟨rfl, rfl⟩ | ⟨g, o, cap, cur, rfl, hg, hnc, hcm, hcs, hat⟩
  · obtain rfl : xs = [] := List.eq_nil_of_length_eq_zero (by simpa using hown.1)
    obtain ⟨v', w', h1, h2, h3, h4⟩ := run_append_at (P := P) w 0 t tx ty e i z size bytes ht hi hz hsize hby hzs (.slice none 0 0) 0 [] (World.ownsRow_nil w 0 e size) x m news hs h63 hbytes (Nat.zero_le _)
    exact ⟨v', w', h1, rowG h2, h3, h4⟩
  · subst hsize
    subst hby
    have hsmall : n + m ≤ 9223372036854775807 := by simp only [maxLen] at h63; omega
    have hl := hs.newsLen
    have hlen : (xs ++ news).length = (n + m) * i.size := by rw [List.length_append, hown.1, hl, Nat.add_mul]
    by_cases hroom : n + m ≤ cap
    · have hfit : o + n * i.size + news.length ≤ cur.size := by rw [hl]; have := Nat.mul_le_mul_right i.size hroom; rw [Nat.add_mul] at this; omega
      have hr := run_append_room_src (P := P) w t tx ty e i ht hi g o n cap x m news hs hroom (fun j hj => by rw [blk_cell hg, Array.getElem?_eq_getElem (by omega)]; rfl) (fun j _ => blk_free hg _)
      obtain ⟨cs1, b1, s1, g1⟩ := blk_setCellsK (b := g) news (o + n * i.size) w cur hg
      refine ⟨_, _, hr, ⟨hlen, .inr ⟨g, o, cap, cs1, rfl, b1, hroom, hcm, by rw [s1]; exact hcs, fun j hj => ?_⟩⟩, grownBy_setCellsK g _ _ (grown_reflK _ _), fun g' hg' => .inl (by simpa [Value.ownBlock] using hg')⟩
      rw [g1]
      rw [Nat.add_mul] at hj
      by_cases hjo : j < n * i.size
      · rw [if_neg (by omega), List.getElem?_append_left (by rw [hown.1]; exact hjo)]
        exact hat j hjo
      · rw [if_pos (by omega), List.getElem?_append_right (by rw [hown.1]; omega), hown.1]
        congr 1
        omega
    · have hge := grownCap_ge w (n + m) cap e
      have hcm2 : grownCap w (n + m) cap e ≤ maxLen := grownCap_le_maxLen w (n + m) cap e h63
      have hr := run_append_grow_src (P := P) w t tx ty e i z ht hi hz (some ⟨g, o, none⟩) n cap xs (run_firstCells_some w.drew i.size n ⟨g, o, none⟩ n cap xs hown.1 (fun j u hj => hown.cells j u hj)) x m news hs (by omega) (by omega) (growslice_fits (by omega) hbytes)
      refine ⟨_, _, hr, ⟨hlen, .inr ⟨w.heap.size, 0, _, _, rfl, heap_alloc_new w.drew _, hge, hcm2, ?_, fun j hj => ?_⟩⟩, ⟨rfl, rfl, rfl, by simp, fun k hk _ => Below.heap_alloc w.drew _ k hk⟩, fun g hg => .inr (by simp [Value.ownBlock] at hg; omega)⟩
      · simp only [Array.size_append, List.size_toArray, size_zeroCells, hzs, hlen, ← Nat.add_mul, Nat.zero_add]
        have : n + m + (grownCap w (n + m) cap e - (n + m)) = grownCap w (n + m) cap e := by omega
        rw [this]
        exact Nat.le_refl _
      · rw [Nat.zero_add, Array.getElem?_append_left (by simp only [List.size_toArray]; rw [hlen]; exact hj), List.getElem?_toArray]
theorem wp_append_row {o : Oper} {a : Act} {K : Act → World → Prop} {Q : Exit → Act → World → Prop} (s xo : Operand) (t tx : TypeId)
    (ho : o.op = .call { callee := .builtin .append, args := #[s, xo], argTypes := #[t, tx] })
    (e : TypeId) (i : TypeInfo) (z : Value) (size bytes : Nat) (ht : P.underlying t = some (.slice e)) (hi : P.info? e = some i) (hz : i.zero = some z)
    (hsize : i.size = size) (hby : i.bytes = bytes) (hzs : z.cells.size = size)
    (v : Value) (n : Nat) (xs : List Value) (hv : a.eval s = v) (hown : RowAt w e size v n xs) (x : Value) (m : Nat) (news : List Value) (hx : a.eval xo = x) (hs : Src P size tx x m news w)
    (h63 : n + m ≤ maxLen) (hbytes : (n + m) * bytes ≤ 140737488355328)
    (h : ∀ v' w', RowAt w' e size v' (n + m) (xs ++ news) → w.grownBy w' v.ownBlock → (∀ g, v'.ownBlock = some g → v.ownBlock = some g ∨ w.heap.size ≤ g) → K (a.put o.dst v') w') : o.wp P a w K Q := by
  obtain ⟨v', w', hr, h2, h3, h4⟩ := run_append_row (P := P) w t tx o.type e i z size bytes ht hi hz hsize hby hzs v n xs hown x m news hs h63 hbytes
  unfold Oper.wp execOp
  simp only [ho, resolve, invoke, builtin, Sem.run_bind, Sem.run_pure, Result.andThen_ok, List.map_toArray, List.map_cons, List.map_nil, hv, hx, hr]
  exact h v' w' h2 h3 h4
theorem wpList_append_row {ops : Array Oper} {rest : List Oper} {o : Oper} {a : Act} {Q : Exit → Act → World → Prop} (hgd : o.guard = none) (s xo : Operand) (t tx : TypeId)
    (ho : o.op = .call { callee := .builtin .append, args := #[s, xo], argTypes := #[t, tx] })
    (e : TypeId) (i : TypeInfo) (z : Value) (size bytes : Nat) (ht : P.underlying t = some (.slice e)) (hi : P.info? e = some i) (hz : i.zero = some z)
    (hsize : i.size = size) (hby : i.bytes = bytes) (hzs : z.cells.size = size)
    (v : Value) (n : Nat) (xs : List Value) (hv : a.eval s = v) (hown : RowAt w e size v n xs) (x : Value) (m : Nat) (news : List Value) (hx : a.eval xo = x) (hs : Src P size tx x m news w)
    (h63 : n + m ≤ maxLen) (hbytes : (n + m) * bytes ≤ 140737488355328)
    (h : ∀ ao c w', RowAt w' e size (.slice ao (n + m) c) (n + m) (xs ++ news) → w.grownBy w' v.ownBlock → (∀ g, (Value.slice ao (n + m) c).ownBlock = some g → v.ownBlock = some g ∨ w.heap.size ≤ g) → wpList P ops Q rest (a.put o.dst (.slice ao (n + m) c)) w') : wpList P ops Q (o :: rest) a w :=
  wpList_plain hgd fun _ hK => wp_append_row w s xo t tx ho e i z size bytes ht hi hz hsize hby hzs v n xs hv hown x m news hx hs h63 hbytes fun v' w' h2 h3 h4 => by
    obtain ⟨ao, c, rfl⟩ := h2.shape
    exact hK _ _ (h ao c w' h2 h3 h4)
end
theorem step_append_row {P : Program} {w : World} {ops : Array Oper} {o : Oper} {a : Act} {K : Act → World → Prop} {Q : Exit → Act → World → Prop} {E : Prop} (hgd : o.guard = none) (s xo : Operand) (t tx : TypeId)
    (ho : o.op = .call { callee := .builtin .append, args := #[s, xo], argTypes := #[t, tx] })
    (e : TypeId) (i : TypeInfo) (z : Value) (size bytes : Nat) (ht : P.underlying t = some (.slice e)) (hi : P.info? e = some i) (hz : i.zero = some z)
    (hsize : i.size = size) (hby : i.bytes = bytes) (hzs : z.cells.size = size)
    (v : Value) (n : Nat) (xs : List Value) (hv : a.eval s = v) (hown : RowAt w e size v n xs) (x : Value) (m : Nat) (news : List Value) (hx : a.eval xo = x) (hs : Src P size tx x m news w)
    (h63 : n + m ≤ maxLen) (hbytes : (n + m) * bytes ≤ 140737488355328)
    (h : ∀ ao c w', RowAt w' e size (.slice ao (n + m) c) (n + m) (xs ++ news) → w.grownBy w' v.ownBlock → (∀ g, (Value.slice ao (n + m) c).ownBlock = some g → v.ownBlock = some g ∨ w.heap.size ≤ g) → K (a.put o.dst (.slice ao (n + m) c)) w') :
    if Region.wanted o (yielded ops a.tmps) = true then Oper.wp P o a w K Q else E := by
  rw [if_pos (by simp [Region.wanted, hgd])]
  exact wp_append_row w s xo t tx ho e i z size bytes ht hi hz hsize hby hzs v n xs hv hown x m news hx hs h63 hbytes fun v' w' h2 h3 h4 => by
    obtain ⟨ao, c, rfl⟩ := h2.shape
    exact h ao c w' h2 h3 h4
end Go.Proofs.YtpfgnhockfofhaaGreat

/-
  Shards in memory: each host's blocks are its own, and so are those of what is on its way.
-/
namespace Go.Proofs.YtpfgnhockfofhaaGreat
open Go.RowKit

def hsL (hs : Nat → Nat) (n : Nat) : List Value := (List.range n).map fun i => .pointer (some ⟨hs i, 0, none⟩)
/-- Shards in memory: host i's blocks are those of Gs i, the rest's those of Gs 10. -/
structure ShX (Gs : Nat → Nat → Prop) (w : World) (b hb ch : Nat) (hs : Nat → Nat) (aw : Option Addr) (cw : Nat) (S : Sd) : Prop where
  blk : w.heap[b]? = some (.cells #[.slice (some ⟨hb, 0, none⟩) S.n ch, .slice aw S.wy.length cw] 46 (0, 0))
  gb : Gs 10 b
  gh : Gs 10 hb
  row : w.ownsRow 0 47 1 (.slice (some ⟨hb, 0, none⟩) S.n ch) S.n (hsL hs S.n)
  wy : RowAt w 86 5 (.slice aw S.wy.length cw) S.wy.length (pkCells S.wy)
  gw : ∀ g, (Value.slice aw S.wy.length cw).ownBlock = some g → Gs 10 g
  ho : ∀ i, i < S.n → HoM (Gs i) w (hs i) (i + 1 : Nat) (S.ho i)
  dis : ∀ i j g, Gs i g → Gs j g → i = j
  lt : ∀ i g, Gs i g → g < w.heap.size
  n9 : S.n ≤ 9
def ShM (G : Nat → Prop) (w : World) (b : Nat) (S : Sd) : Prop := ∃ Gs hb ch hs aw cw, ShX Gs w b hb ch hs aw cw S ∧ ∀ i g, Gs i g → G g
theorem ShX.keptX {Gs : Nat → Nat → Prop} {X : Nat → Obj → Prop} {w w' : World} {b hb ch : Nat} {hs : Nat → Nat} {aw : Option Addr} {cw : Nat} {S : Sd} (x : ShX Gs w b hb ch hs aw cw S) (k : Kept X w w') (hX : ∀ i q o, Gs i q → ¬ X q o) : ShX Gs w' b hb ch hs aw cw S :=
  ⟨k.block _ _ x.blk (hX _ _ _ x.gb), x.gb, x.gh, own_keptG x.row k (fun g cs hg => by
    have e : hb = g := by simpa [Value.ownBlock] using hg
    rw [← e]; exact hX _ _ _ x.gh), x.wy.keptX k (fun g cs hg => hX _ _ _ (x.gw g hg)), x.gw, fun i hi => (x.ho i hi).keptX k (fun q o hq => hX i q o hq), x.dis, fun i g hg => Nat.lt_of_lt_of_le (x.lt i g hg) k.size, x.n9⟩
theorem ShX.kept {Gs : Nat → Nat → Prop} {w w' : World} {b hb ch : Nat} {hs : Nat → Nat} {aw : Option Addr} {cw : Nat} {S : Sd} (x : ShX Gs w b hb ch hs aw cw S) (k : Kept Nil w w') : ShX Gs w' b hb ch hs aw cw S := x.keptX k (fun _ _ _ _ e => e)
theorem ShM.keptX {G : Nat → Prop} {X : Nat → Obj → Prop} {w w' : World} {b : Nat} {S : Sd} (x : ShM G w b S) (k : Kept X w w') (hX : ∀ q o, G q → ¬ X q o) : ShM G w' b S := by
  obtain ⟨Gs, hb, ch, hs, aw, cw, x, hG⟩ := x
  exact ⟨Gs, hb, ch, hs, aw, cw, x.keptX k (fun i q o hq => hX q o (hG i q hq)), hG⟩
theorem ShM.up {G H : Nat → Prop} {w : World} {b : Nat} {S : Sd} (x : ShM G w b S) (k : ∀ g, G g → H g) : ShM H w b S := by
  obtain ⟨Gs, hb, ch, hs, aw, cw, x, hG⟩ := x
  exact ⟨Gs, hb, ch, hs, aw, cw, x, fun i g hg => k g (hG i g hg)⟩
theorem ShM.lt {G : Nat → Prop} {w : World} {b : Nat} {S : Sd} (x : ShM G w b S) : ShM (fun g => G g ∧ g < w.heap.size) w b S := by
  obtain ⟨Gs, hb, ch, hs, aw, cw, x, hG⟩ := x
  exact ⟨Gs, hb, ch, hs, aw, cw, x, fun i g hg => ⟨hG i g hg, x.lt i g hg⟩⟩
/-- A family whose member i may have what is new. -/
def famN (Gs : Nat → Nat → Prop) (i : Nat) (w w' : World) : Nat → Nat → Prop := fun j g => if j = i then GN (Gs i) w g ∧ g < w'.heap.size else Gs j g
theorem famN_sub {Gs : Nat → Nat → Prop} {i : Nat} {w w' : World} {j g : Nat} (h : famN Gs i w w' j g) : Gs j g ∨ w.heap.size ≤ g := by
  unfold famN at h
  split at h
  · rename_i e; subst e; exact h.1
  · exact .inl h
theorem famN_old {Gs : Nat → Nat → Prop} {i : Nat} {w w' : World} {j g : Nat} (h : Gs j g) (hl : g < w'.heap.size) : famN Gs i w w' j g := by
  unfold famN
  split
  · rename_i e; subst e; exact ⟨.inl h, hl⟩
  · exact h
theorem famN_new {Gs : Nat → Nat → Prop} {i : Nat} {w w' : World} {g : Nat} (h : GN (Gs i) w g) (hl : g < w'.heap.size) : famN Gs i w w' i g := by
  unfold famN
  rw [if_pos rfl]
  exact ⟨h, hl⟩
theorem famN_dis {Gs : Nat → Nat → Prop} {i : Nat} {w w' : World} (hd : ∀ i j g, Gs i g → Gs j g → i = j) (hl : ∀ i g, Gs i g → g < w.heap.size) : ∀ j k g, famN Gs i w w' j g → famN Gs i w w' k g → j = k := fun j k g h1 h2 => by
  unfold famN at h1 h2
  split at h1
  · rename_i e
    split at h2
    · rename_i e2; rw [e, e2]
    · rcases h1.1 with h1 | h1
      · rw [e]; exact hd _ _ _ h1 h2
      · have := hl _ _ h2; omega
  · split at h2
    · rename_i e
      rcases h2.1 with h2 | h2
      · rw [e]; exact hd _ _ _ h1 h2
      · have := hl _ _ h1; omega
    · exact hd _ _ _ h1 h2
theorem famN_lt {Gs : Nat → Nat → Prop} {i : Nat} {w w' : World} (hl : ∀ i g, Gs i g → g < w.heap.size) (hs : w.heap.size ≤ w'.heap.size) : ∀ j g, famN Gs i w w' j g → g < w'.heap.size := fun j g h => by
  unfold famN at h
  split at h
  · exact h.2
  · exact Nat.lt_of_lt_of_le (hl _ _ h) hs
/-- A host was called. -/
theorem ShX.host {Gs : Nat → Nat → Prop} {w w' : World} {b hb ch : Nat} {hs : Nat → Nat} {aw : Option Addr} {cw : Nat} {S : Sd} (x : ShX Gs w b hb ch hs aw cw S) {i : Nat} (hi : i < S.n) {h' : Hd} (y : HoM (GN (Gs i) w) w' (hs i) (i + 1 : Nat) h') (k : Kept (TG (Gs i)) w w') : ShX (famN Gs i w w') w' b hb ch hs aw cw (putH S i h') := by
  have h9 := x.n9
  have no : ∀ j, j ≠ i → ∀ q (o : Obj), Gs j q → ¬ TG (Gs i) q o := fun j hj q o hq e => hj (x.dis _ _ _ hq e)
  have up : ∀ j g, Gs j g → famN Gs i w w' j g := fun j g hg => famN_old hg (Nat.lt_of_lt_of_le (x.lt _ _ hg) k.size)
  refine ⟨k.block _ _ x.blk (no 10 (by omega) _ _ x.gb), up _ _ x.gb, up _ _ x.gh, own_keptG x.row k (fun g cs hg => ?_), x.wy.keptX k (fun g cs hg => no 10 (by omega) _ _ (x.gw g hg)), fun g hg => up _ _ (x.gw g hg), fun j hj => ?_, famN_dis x.dis x.lt, famN_lt x.lt k.size, x.n9⟩
  · have e : hb = g := by simpa [Value.ownBlock] using hg
    rw [← e]; exact no 10 (by omega) _ _ x.gh
  · show HoM _ _ _ _ (upd S.ho i h' j)
    by_cases e : j = i
    · subst e
      rw [upd_self]
      exact y.lt.up (fun g hg => famN_new hg.1 hg.2)
    · rw [upd_ne _ _ e]
      exact ((x.ho j hj).keptX k (fun q o hq => no j e q o hq)).up (fun g hg => up j g hg)
/-- What is on its way has changed in memory (w1), and is noted. -/
def TP (aw : Option Addr) (n cw : Nat) : Nat → Obj → Prop := fun q o => (Value.slice aw n cw).ownBlock = some q ∧ ∃ cs, o = .cells cs 86 (0, 0)
theorem ShX.way {Gs : Nat → Nat → Prop} {w w1 : World} {b hb ch : Nat} {hs : Nat → Nat} {aw : Option Addr} {cw : Nat} {S : Sd} (x : ShX Gs w b hb ch hs aw cw S) (k : Kept (TP aw S.wy.length cw) w w1) {a : Option Addr} {c : Nat} {ps : List Pk} (r : RowAt w1 86 5 (.slice a ps.length c) ps.length (pkCells ps)) (hg : ∀ g, (Value.slice a ps.length c).ownBlock = some g → GN (Gs 10) w g) :
    ShX (famN Gs 10 w w1) (w1.setCell ⟨b, 1, none⟩ (.slice a ps.length c)) b hb ch hs a c { S with wy := ps } ∧ Kept (TG (Gs 10)) w (w1.setCell ⟨b, 1, none⟩ (.slice a ps.length c)) := by
  have h9 := x.n9
  have hno : ∀ q t cs, t ≠ 86 → ¬ TP aw S.wy.length cw q (.cells cs t (0, 0)) := fun q t cs n e => by
    obtain ⟨_, _, e⟩ := e
    cases e
    exact n rfl
  have hb1 : w1.heap[b]? = some (.cells #[.slice (some ⟨hb, 0, none⟩) S.n ch, .slice aw S.wy.length cw] 46 (0, 0)) := k.block _ _ x.blk (hno _ _ _ (by decide))
  have kG : Kept (TG (Gs 10)) w (w1.setCell ⟨b, 1, none⟩ (.slice a ps.length c)) := (k.mono (fun q o e => x.gw q e.1) : Kept (TG (Gs 10)) w w1).setT (fun o _ => x.gb) _ _
  have hsz : (w1.setCell ⟨b, 1, none⟩ (.slice a ps.length c)).heap.size = w1.heap.size := by simp [World.setCell]
  have no : ∀ j, j ≠ 10 → ∀ q (o : Obj), Gs j q → ¬ TG (Gs 10) q o := fun j hj q o hq e => hj (x.dis _ _ _ hq e)
  have up : ∀ j g, Gs j g → famN Gs 10 w w1 j g := fun j g hg => famN_old hg (Nat.lt_of_lt_of_le (x.lt _ _ hg) k.size)
  refine ⟨⟨blk_set hb1 1 _, up _ _ x.gb, up _ _ x.gh, own_setTy hb1 (own_keptG x.row k (fun g cs hg => hno _ _ _ (by decide))) (by decide), ?_, fun g hg2 => famN_new (hg g hg2) (by have := r.lt hg2; exact this), fun j hj => ?_, famN_dis x.dis x.lt, fun j g hj => ?_, x.n9⟩, kG⟩
  · refine r.keptX (X := fun q o => q = b ∧ ∃ cs, o = .cells cs 46 (0, 0)) ((Kept.refl _ _).setT (fun o ho => ?_) _ _) (fun g cs _ e => ?_)
    · rw [hb1] at ho; cases ho; exact ⟨rfl, _, rfl⟩
    · obtain ⟨_, _, e⟩ := e; cases e
  · have hj9 : j < S.n := hj
    exact ((x.ho j hj).keptX kG (fun q o hq => no j (by omega) q o hq)).up (fun g hg => up j g hg)
  · rw [hsz]; exact famN_lt x.lt k.size j g hj
/-- The host with a number. -/
theorem ShX.at {Gs : Nat → Nat → Prop} {w : World} {b hb ch : Nat} {hs : Nat → Nat} {aw : Option Addr} {cw : Nat} {S : Sd} (x : ShX Gs w b hb ch hs aw cw S) {i : Nat} (hi : i < S.n) : w.cell? ⟨hb, i, none⟩ = some (.pointer (some ⟨hs i, 0, none⟩)) := by
  have h := x.row.cells (g := hb) rfl i (.pointer (some ⟨hs i, 0, none⟩)) (by unfold hsL; rw [List.getElem?_map, List.getElem?_range hi]; rfl)
  rwa [addr_addE] at h
theorem ShX.m {Gs : Nat → Nat → Prop} {w : World} {b hb ch : Nat} {hs : Nat → Nat} {aw : Option Addr} {cw : Nat} {S : Sd} (x : ShX Gs w b hb ch hs aw cw S) {G : Nat → Prop} (h : ∀ i g, Gs i g → G g) : ShM G w b S := ⟨Gs, hb, ch, hs, aw, cw, x, h⟩
end Go.Proofs.YtpfgnhockfofhaaGreat

/-
  Shards: a host sends all that it has waiting.
-/
namespace Go.Proofs.YtpfgnhockfofhaaGreat
open Go.RowKit

/-- What a call on shards leaves. -/
def ShPost (Gs : Nat → Nat → Prop) (w : World) (b hb ch : Nat) (hs : Nat → Nat) (S' : Sd) (w' : World) : Prop := (∃ Gs' aw' cw', ShX Gs' w' b hb ch hs aw' cw' S' ∧ ∀ j g, Gs' j g → Gs j g ∨ w.heap.size ≤ g) ∧ Kept (fun q _ => ∃ j, Gs j q) w w'
theorem ShPost.ofWay {Gs : Nat → Nat → Prop} {w w1 w2 : World} {b hb ch : Nat} {hs : Nat → Nat} {aw : Option Addr} {cw : Nat} {S : Sd} {i : Nat} (x : ShX (famN Gs i w w1) w2 b hb ch hs aw cw S) (k : Kept (TG (Gs i)) w w2) : ShPost Gs w b hb ch hs S w2 :=
  ⟨⟨_, _, _, x, fun _ _ hg => famN_sub hg⟩, k.mono (fun _ _ e => ⟨i, e⟩)⟩
theorem ShPost.trans {Gs Gs1 : Nat → Nat → Prop} {w w1 w2 : World} {b hb ch : Nat} {hs : Nat → Nat} {S2 : Sd} (hsub : ∀ j g, Gs1 j g → Gs j g ∨ w.heap.size ≤ g) (k : Kept (fun q _ => ∃ j, Gs j q) w w1) (y : ShPost Gs1 w1 b hb ch hs S2 w2) : ShPost Gs w b hb ch hs S2 w2 := by
  obtain ⟨⟨Gs', aw', cw', x', h'⟩, k'⟩ := y
  refine ⟨⟨Gs', aw', cw', x', fun j g hg => ?_⟩, ⟨k'.os.trans k.os, k'.tape.trans k.tape, k'.output.trans k.output, Nat.le_trans k.size k'.size, fun q o ho hx => k'.block q o (k.block q o ho hx) (fun e => ?_)⟩⟩
  · rcases h' j g hg with h | h
    · exact hsub j g h
    · exact .inr (Nat.le_trans k.size h)
  · obtain ⟨j, e⟩ := e
    rcases hsub j q e with e | e
    · exact hx ⟨j, e⟩
    · have := lt_of_block ho; omega
theorem ShPost.m {Gs : Nat → Nat → Prop} {w w' : World} {b hb ch : Nat} {hs : Nat → Nat} {S' : Sd} (y : ShPost Gs w b hb ch hs S' w') {G : Nat → Prop} (hG : ∀ i g, Gs i g → G g) : ShM (GN G w) w' b S' ∧ Kept (TG G) w w' := by
  obtain ⟨⟨Gs', aw', cw', x', h'⟩, k'⟩ := y
  refine ⟨x'.m (fun i g hg => (h' i g hg).imp (hG i g) id), k'.mono (fun q _ e => ?_)⟩
  obtain ⟨j, e⟩ := e
  exact hG j q e
theorem RowAt.tp {w : World} {e : TypeId} {size : Nat} {v : Value} {n : Nat} {xs : List Value} (h : RowAt w e size v n xs) {k : Nat} (hk : v.ownBlock = some k) {o : Obj} (ho : w.heap[k]? = some o) : ∃ cs, o = .cells cs e (0, 0) := by
  rcases h.2 with ⟨rfl, _⟩ | ⟨g', _, cap, cur, rfl, h2, _⟩
  · simp [Value.ownBlock] at hk
  · have e : g' = k := by simpa [Value.ownBlock] using hk
    subst e
    rw [h2] at ho
    cases ho
    exact ⟨_, rfl⟩
/-- Packets are appended to those on their way. -/
theorem ShX.more {Gs : Nat → Nat → Prop} {w w1 w6 : World} {b hb ch : Nat} {hs : Nat → Nat} {aw : Option Addr} {cw : Nat} {S : Sd} (x : ShX Gs w b hb ch hs aw cw S) (k1 : Kept Nil w w1) {ps : List Pk} {a6 : Option Addr} {c6 : Nat} (r6 : RowAt w6 86 5 (.slice a6 (S.wy.length + ps.length) c6) (S.wy.length + ps.length) (pkCells S.wy ++ pkCells ps)) (g6 : w1.grownBy w6 (Value.slice aw S.wy.length cw).ownBlock) (t6 : ∀ g, (Value.slice a6 (S.wy.length + ps.length) c6).ownBlock = some g → (Value.slice aw S.wy.length cw).ownBlock = some g ∨ w1.heap.size ≤ g) :
    ShPost Gs w b hb ch hs { S with wy := S.wy ++ ps } (w6.setCell ⟨b, 1, none⟩ (.slice a6 (S.wy.length + ps.length) c6)) := by
  have k6 : Kept (TP aw S.wy.length cw) w w6 := (k1.mono (fun _ _ e => e.elim)).grownT g6 (fun k hk o ho => ⟨hk, x.wy.tp hk ho⟩)
  have hl : (S.wy ++ ps).length = S.wy.length + ps.length := List.length_append
  obtain ⟨y, ky⟩ := x.way k6 (a := a6) (c := c6) (ps := S.wy ++ ps) (by rw [hl, pkCells_app]; exact r6) (fun g hg => by
    rw [hl] at hg
    rcases t6 g hg with h | h
    · exact .inl (x.gw g h)
    · exact .inr (Nat.le_trans k1.size h))
  rw [hl] at y ky
  exact ShPost.ofWay y ky
set_option maxRecDepth 100000 in
set_option maxHeartbeats 4000000 in
theorem send_any (K : List (List UInt8)) (M i : Nat) (Gs : Nat → Nat → Prop) (b hb ch cw : Nat) (hs : Nat → Nat) (aw : Option Addr) (S : Sd) (w : World) (x : ShX Gs w b hb ch hs aw cw S) (inv : Inv K M S) (hi : i < S.n) (hM : M ≤ 1900000) :
    Calls Tryz.prog 19 #[.pointer (some ⟨b, 0, none⟩), .pointer (some ⟨hs i, 0, none⟩)] w fun e w' => e = .returned (.tuple #[]) ∧ ShPost Gs w b hb ch hs (sendS i S) w' := by
  obtain ⟨i2, hi2, hx0, hx1, hx2⟩ := info_parts Tryz.infoOwnPk
  obtain ⟨rb, ao, cs, ai, ci, gk, ck, y⟩ := x.ho i hi
  have hn := (inv.ho i hi).nu
  have hpl := pksTo_len (i + 1 : Nat) (S.ho i).os (fun k hk => (hn k hk).2.1) 10 (Nat.le_refl _)
  have hwl := inv.wl
  have PA := packets_any (Gs i) rb (i + 1 : Nat) (S.ho i).os ao cs w.drew (y.rl.kept (Kept.refl _ _).drew) (fun k hk => ⟨(hn k hk).2.1, by have := (hn k hk).1; omega, by have := (hn k hk).2.2; omega⟩)
  obtain ⟨ps, HPs⟩ : ∃ ps, Hid (ps = pksTo (i + 1 : Nat) (S.ho i).os 10) := ⟨_, rfl⟩
  rw [← HPs.out] at PA hpl
  have HSE : Hid (sendS i S = { S with wy := S.wy ++ ps }) := by show _ = _; rw [HPs.out]; rfl
  have HLL : Hid (S.wy.length + ps.length ≤ maxLen ∧ (S.wy.length + ps.length) * 48 ≤ 140737488355328) := by constructor <;> (try unfold maxLen) <;> omega
  have HX : Hid (ShX Gs w b hb ch hs aw cw S) := x
  have HB : Hid (w.heap[b]? = some (.cells #[.slice (some ⟨hb, 0, none⟩) S.n ch, .slice aw S.wy.length cw] 46 (0, 0))) := x.blk
  have s1 : w.cell? ⟨b, 1, none⟩ = some (.slice aw S.wy.length cw) := blk_at HB.out 1 rfl
  have p0 : w.cell? ⟨hs i, 0, none⟩ = some (.pointer (some ⟨rb, 0, none⟩)) := blk_at y.ho 0 rfl
  have hbl : b < w.heap.size := lt_of_block HB.out
  have hhl : hs i < w.heap.size := lt_of_block y.ho
  have HPB : Hid (w.heap[hs i]? = _) := y.ho
  rw [HSE.out]
  generalize hs i = hi' at *
  clear x y inv hn
  go_enter Tryz.func19, Tryz.ntmps19
  go_wp2
  go_region_law (first | (refine step_append_row rfl (.tmp 8) (.tmp 13) 44 44 rfl 86 i2 (.agg #[.int .i64 0, .int .i64 0, .int .i64 0, .bool false, .string ⟨#[]⟩]) 5 48 Tryz.underlying44 hi2 hx0 hx1 hx2 rfl (.slice aw S.wy.length cw) S.wy.length (pkCells S.wy) (by simp [Act.eval]) R2.out (.slice a2 ps.length c2) ps.length (pkCells ps) (by simp [Act.eval]) SR2.out HLL.out.1 HLL.out.2 ?_; intro a6 c6 w6 r6 g6 t6; have HF : Hid (ShPost Gs w b hb ch hs { S with wy := S.wy ++ ps } (w6.setCell ⟨b, 1, none⟩ (.slice a6 (S.wy.length + ps.length) c6))) := HX.out.more K2.out r6 g6 t6; have s6 : w6.heap[b]? = some (.cells #[.slice (some ⟨hb, 0, none⟩) S.n ch, .slice aw S.wy.length cw] 46 (0, 0)) := (by rw [g6.block b (lt_of_block B2.out) (fun e => NE.out e.symm)]; exact B2.out); have e6 : w6.cell? ⟨b, 1, none⟩ = some (.slice aw S.wy.length cw) := blk_at s6 1 rfl; have f6 : w6.frozen? ⟨b, 1, none⟩ = false := blk_free s6 _; clear r6 g6 t6 s6) | (go_simp; go_at_call 42; go_must (go_fit PA); rintro e w2 ⟨a2, c2, rfl, o2, k2⟩; have K2 : Hid (Kept Nil w w2) := (Kept.refl _ _).drew.trans k2; have B2 : Hid (w2.heap[b]? = some (.cells #[.slice (some ⟨hb, 0, none⟩) S.n ch, .slice aw S.wy.length cw] 46 (0, 0))) := K2.out.block _ _ HB.out (fun e => e); have s2 : w2.cell? ⟨b, 1, none⟩ = some (.slice aw S.wy.length cw) := blk_at B2.out 1 rfl; have R2 : Hid (RowAt w2 86 5 (.slice aw S.wy.length cw) S.wy.length (pkCells S.wy)) := HX.out.wy.keptX K2.out (fun _ _ _ e => e); have NE : Hid ((Value.slice aw S.wy.length cw).ownBlock ≠ some b) := (fun e => by obtain ⟨_, e2⟩ := HX.out.wy.tp e HB.out; cases e2); have SR2 : Hid (Src Tryz.prog 5 44 (.slice a2 ps.length c2) ps.length (pkCells ps) w2) := o2.src; clear o2 k2))
  all_goals
    go_wp2
    go_end0
    exact ⟨rfl, HF.out⟩
end Go.Proofs.YtpfgnhockfofhaaGreat
