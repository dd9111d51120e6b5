/-
  Joined: WSk1, WSk3, WSh7, WSh9.
-/
import Derived.Test.YtpfgnhockfofhaaM18
import Derived.BigQuiet
import Derived.Test.YtpfgnhockfofhaaM13
import Derived.Test.YtpfgnhockfofhaaM03
import Derived.Deep.Upon
import Derived.Test.YtpfgnhockfofhaaM14
/-
  Shared by many: letters; whom a host's bounds name.
-/


namespace Go.Proofs.Ytpfgnhockfofhaa
open Go.RowKit

theorem Kept.oneN {w a b : World} {c : Nat} (h : Kept Nil w a) (k : Kept (One c) a b) (hc : w.heap.size ≤ c) : Kept Nil w b :=
  ⟨k.os.trans h.os, k.tape.trans h.tape, k.output.trans h.output, Nat.le_trans h.size k.size, fun q o ho _ => k.block q o (h.block q o ho (fun x => x)) (fun e => by have := lt_of_block ho; have e : q = c := e; omega)⟩
/-- The letters that are looked at. -/
def ltB : ByteArray := ⟨#[97, 98, 99, 100, 101, 102, 103, 104, 105, 106, 107, 108, 109, 110, 111, 112, 113, 114, 115, 116]⟩
theorem ltB_at : ∀ k, k < 20 → (ltB.extract k (k + 1)).data = #[UInt8.ofNat (97 + k)] := by decide
theorem ltB_is {k : Nat} (h : k < 20) : ltB.extract k (k + 1) = bs (lt k) := by
  have := ltB_at k h
  exact ByteArray.ext this
theorem ltE {k : Nat} (h : k < 20) : (⟨#[97, 98, 99, 100, 101, 102, 103, 104, 105, 106, 107, 108, 109, 110, 111, 112, 113, 114, 115, 116]⟩ : ByteArray).extract k (k + 1) = bs (lt k) := ltB_is h
set_option maxRecDepth 100000 in
set_option maxHeartbeats 2000000 in
theorem hostAt_any (B c : Nat) (a : Addr) (ps : List Bd) (key : List UInt8) (w : World) (h : BdRow B w (some a) ps) (hl : (ps.length : Int) ≤ 4611686018427387903) :
    Calls Try.prog 35 #[.slice (some a) ps.length c, .string (bs key)] w fun e w' => e = .returned (.int .i64 (hoF key ps)) ∧ w' = w := by
  have HR : Hid (BdRow B w (some a) ps) := h
  have t1 := bs_toList key
  clear h
  go_enter Try.func35, Try.ntmps35
  go_wp2
  go_loopw [5, 6] (fun v u wr => ∃ k : Nat, k ≤ ps.length ∧ u = .int .i64 k ∧ v = .int .i64 (hoF key (ps.take k)) ∧ Hid (wr = w)) (fun _ u _ => ps.length - (intOf u).toNat)
  case atStart => exact ⟨0, Nat.zero_le _, rfl, rfl, rfl⟩
  case round =>
    obtain ⟨k, hk, rfl, rfl, hwr⟩ := hrel
    rw [hwr.out]
    clear hwr
    by_cases hlt : k < ps.length
    · have hki : (k : Int) < ps.length := by omega
      obtain ⟨c0, c1, _⟩ := HR.out.at2 hlt
      have HN : Hid (hoF key (ps.take (k + 1)) = if lessB key ps[k].f = true then hoF key (ps.take k) else ps[k].h) := hoF_next hlt
      obtain ⟨y, HY⟩ : ∃ y : Bd, Hid (y = ps[k]) := ⟨ps[k], (rfl : ps[k] = ps[k])⟩
      rw [← HY.out] at c0 c1 HN
      obtain ⟨v, HV⟩ : ∃ v, Hid (v = hoF key (ps.take k)) := ⟨_, rfl⟩
      rw [← HV.out] at HN ⊢
      have t2 := bs_toList y.f
      cases h1 : lessB key y.f with
      | true =>
        have a1 : (Op.bytesLess y.f key || y.f == key) = false := by have := @less_le y.f key; rw [h1] at this; exact this
        rw [h1] at HN
        clear h1
        go_upto_if 19 with fail
        go_wp2
        go_roundw
        case rel => exact ⟨k + 1, by omega, by go_num, by rw [HN.out]; rfl, trivial⟩
        case measure => simp [intOf]; omega
      | false =>
        have a1 : (Op.bytesLess y.f key || y.f == key) = true := by have := @less_le y.f key; rw [h1] at this; exact this
        rw [h1] at HN
        clear h1
        go_upto_if 19 with fail
        go_wp2
        go_roundw
        case rel => exact ⟨k + 1, by omega, by go_num, by rw [HN.out]; rfl, trivial⟩
        case measure => simp [intOf]; omega
    · obtain rfl : k = ps.length := by omega
      have hirr : ¬ (ps.length : Int) < ps.length := by omega
      have HE : Hid (ps.take ps.length = ps) := List.take_length
      go_wp2
      go_ret
      exact ⟨by first | rfl | (rw [HE.out]; rfl), rfl⟩
end Go.Proofs.Ytpfgnhockfofhaa

/-
  Shared by many: does a host have all keys of a range?
-/
namespace Go.Proofs.Ytpfgnhockfofhaa
open Go.RowKit

/-- Twenty numbers. -/
def arrI (f : Nat → Int) : Array Value := ((List.range 20).map fun k => Value.int .i64 (f k)).toArray
theorem arrI_at (f : Nat → Int) {k : Nat} (h : k < 20) : (arrI f)[k]? = some (.int .i64 (f k)) := by
  unfold arrI
  simp [h]
theorem arrI_size (f : Nat → Int) : (arrI f).size = 20 := by simp [arrI]
theorem arrI_one (f : Nat → Int) : (arrI f).all (·.oneCell') = true := by
  unfold arrI
  simp [Value.oneCell']
/-- Has a host all of a range, by the twenty keys? -/
def hasF (f : Nat → Int) (fr up : List UInt8) (ho : Int) : Bool := (List.range 20).any (fun k => inR (lt k) fr up) && (List.range 20).all (fun k => !inR (lt k) fr up || decide (f k = ho))
theorem hasF_iff {f : Nat → Int} {fr up : List UInt8} {ho : Int} : hasF f fr up ho = true ↔ (∃ k, k < 20 ∧ inR (lt k) fr up = true) ∧ ∀ k, k < 20 → inR (lt k) fr up = true → f k = ho := by
  unfold hasF
  rw [Bool.and_eq_true, List.any_eq_true, List.all_eq_true]
  constructor
  · rintro ⟨⟨k, h1, h2⟩, h3⟩
    refine ⟨⟨k, List.mem_range.1 h1, h2⟩, fun j hj hi => ?_⟩
    have := h3 j (List.mem_range.2 hj)
    rw [hi] at this
    simpa using this
  · rintro ⟨⟨k, h1, h2⟩, h3⟩
    refine ⟨⟨k, List.mem_range.2 h1, h2⟩, fun j hj => ?_⟩
    cases hi : inR (lt j) fr up with
    | false => rfl
    | true => simp [h3 j (List.mem_range.1 hj) hi]
def someF (fr up : List UInt8) (n : Nat) : Bool := (List.range n).any (fun k => inR (lt k) fr up)
theorem someF_next (fr up : List UInt8) (n : Nat) : someF fr up (n + 1) = (someF fr up n || inR (lt n) fr up) := by
  unfold someF
  rw [List.range_succ, List.any_append]
  simp
set_option maxRecDepth 100000 in
set_option maxHeartbeats 4000000 in
theorem hasAll_any (f : Nat → Int) (fr up : List UInt8) (ho : Int) (w : World) :
    Calls Try.prog 26 #[.agg (arrI f), .string (bs fr), .string (bs up), .int .i64 ho] w fun e w' => e = .returned (.bool (hasF f fr up ho)) ∧ Kept Nil w w' := by
  obtain ⟨z, HZ⟩ : ∃ z, Hid (z = hasF f fr up ho) := ⟨_, rfl⟩
  rw [← HZ.out]
  have t2 := bs_toList fr
  have t3 := bs_toList up
  obtain ⟨W, hW⟩ : ∃ W, W = w.alloc (.cells (arrI f) 70) := ⟨_, rfl⟩
  obtain ⟨A, HA⟩ : ∃ A : Nat, Hid (A = w.heap.size) := ⟨_, rfl⟩
  have KW : Hid (Kept Nil w W) := by rw [hW]; exact (Kept.refl _ _).alloc _
  have HAW : Hid (W.heap[A]? = some (.cells (arrI f) 70 (0, 0))) := by rw [hW, HA.out]; exact blk_new _ _
  have hAl : A < W.heap.size := lt_of_block HAW.out
  go_enter Try.func26, Try.ntmps26
  go_upto_region 1 with fail
  rw [← hW, ← HA.out]
  clear hW
  go_wp2
  go_loopw [9, 10] (fun v u wr => ∃ k : Nat, k ≤ 20 ∧ u = .int .i64 k ∧ v = .bool (someF fr up k) ∧ Hid (wr = W) ∧ Hid (∀ j, j < k → inR (lt j) fr up = true → f j = ho)) (fun _ u _ => 20 - (intOf u).toNat)
  case atStart => exact ⟨0, Nat.zero_le _, rfl, rfl, rfl, fun j hj => absurd hj (Nat.not_lt_zero _)⟩
  case round =>
    obtain ⟨k, hk, rfl, rfl, HE, HAll⟩ := hrel
    have he := HE.out
    clear HE
    subst he
    by_cases hlt : k < 20
    · have hki : (k : Int) < 20 := by omega
      have t1 := bs_toList (lt k)
      have c0 : wr.cell? ⟨A, k, none⟩ = some (.int .i64 (f k)) := blk_at HAW.out k (arrI_at f hlt)
      have HS : Hid (someF fr up (k + 1) = (someF fr up k || inR (lt k) fr up)) := someF_next fr up k
      obtain ⟨v, HV⟩ : ∃ v, Hid (v = f k) := ⟨_, rfl⟩
      rw [← HV.out] at c0
      obtain ⟨u, HU⟩ : ∃ u, Hid (u = lt k) := ⟨_, rfl⟩
      rw [← HU.out] at t1 HS
      have hx : (⟨#[97, 98, 99, 100, 101, 102, 103, 104, 105, 106, 107, 108, 109, 110, 111, 112, 113, 114, 115, 116]⟩ : ByteArray).extract k (k + 1) = bs u := by rw [HU.out]; exact ltE hlt
      obtain ⟨sk, HSK⟩ : ∃ s, Hid (s = someF fr up k) := ⟨_, rfl⟩
      rw [← HSK.out] at HS ⊢
      go_upto_region 6 with fail
      cases h1 : lessB u fr with
      | true =>
        have a1 : Op.bytesLess u fr = true := h1
        have HN : Hid (inR u fr up = false) := by show _ = _; unfold inR; rw [h1]; rfl
        clear h1
        go_wp2
        go_roundw
        case rel => exact ⟨k + 1, by omega, by go_num, by rw [HS.out, HN.out, Bool.or_false], trivial, fun j hj hi => by
          by_cases e : j = k
          · subst e; rw [← HU.out, HN.out] at hi; cases hi
          · exact HAll.out j (by omega) hi⟩
        case measure => simp [intOf]; omega
      | false =>
        have a1 : Op.bytesLess u fr = false := h1
        have HF : Hid (inR u fr up = (up.isEmpty || lessB u up)) := by show _ = _; unfold inR; rw [h1]; rfl
        clear h1
        have hgo : ∀ (h2 : Hid (inR u fr up = true)), Hid (v = ho → ∀ j, j < k + 1 → inR (lt j) fr up = true → f j = ho) := fun h2 e j hj hi => by
          by_cases e2 : j = k
          · subst e2; rw [← HV.out]; exact e
          · exact HAll.out j (by omega) hi
        have hno : ∀ (h2 : Hid (inR u fr up = true)), v ≠ ho → Hid (z = false) := fun h2 e => by
          show z = false
          rw [HZ.out]
          cases hz : hasF f fr up ho with
          | false => rfl
          | true => exact absurd (by rw [HV.out]; exact (hasF_iff.1 hz).2 k hlt (by rw [← HU.out]; exact h2.out)) e
        cases up with
        | nil =>
          have HI : Hid (inR u fr [] = true) := HF.out
          by_cases he : v = ho
          · have HG := hgo HI
            subst he
            clear hgo hno
            go_wp2
            go_roundw
            case rel => exact ⟨k + 1, by omega, by go_num, by rw [HS.out, HI.out, Bool.or_true], trivial, HG.out rfl⟩
            case measure => simp [intOf]; omega
          · have HB := hno HI he
            clear hgo hno
            go_wp2
            go_ret
            exact ⟨by rw [HB.out]; rfl, KW.out⟩
        | cons x t =>
          cases h2 : lessB u (x :: t) with
          | true =>
            have a2 : Op.bytesLess u (x :: t) = true := h2
            have HI : Hid (inR u fr (x :: t) = true) := by show _ = _; rw [HF.out, h2]; rfl
            clear h2
            by_cases he : v = ho
            · have HG := hgo HI
              subst he
              clear hgo hno
              go_wp2
              go_roundw
              case rel => exact ⟨k + 1, by omega, by go_num, by rw [HS.out, HI.out, Bool.or_true], trivial, HG.out rfl⟩
              case measure => simp [intOf]; omega
            · have HB := hno HI he
              clear hgo hno
              go_wp2
              go_ret
              exact ⟨by rw [HB.out]; rfl, KW.out⟩
          | false =>
            have a2 : Op.bytesLess u (x :: t) = false := h2
            have HI : Hid (inR u fr (x :: t) = false) := by show _ = _; rw [HF.out, h2]; rfl
            clear h2 hgo hno
            go_wp2
            go_roundw
            case rel => exact ⟨k + 1, by omega, by go_num, by rw [HS.out, HI.out, Bool.or_false], trivial, fun j hj hi => by
              by_cases e : j = k
              · subst e; rw [← HU.out, HI.out] at hi; cases hi
              · exact HAll.out j (by omega) hi⟩
            case measure => simp [intOf]; omega
    · obtain rfl : k = 20 := by omega
      have HB : Hid (z = someF fr up 20) := by
        show z = _
        rw [HZ.out]
        unfold hasF
        have : (List.range 20).all (fun k => !inR (lt k) fr up || decide (f k = ho)) = true := by
          rw [List.all_eq_true]
          intro j hj
          cases hi : inR (lt j) fr up with
          | false => rfl
          | true => simp [HAll.out j (List.mem_range.1 hj) hi]
        rw [this, Bool.and_true]
        rfl
      go_wp2
      go_ret
      exact ⟨by rw [HB.out]; rfl, KW.out⟩
end Go.Proofs.Ytpfgnhockfofhaa

/-
  A row from a cell of a block on (what x[1:] leaves), and append onto it.
-/
namespace Go.Proofs.Ytpfgnhockfofhaa
open Go.RowKit

/-- A row from a cell of a block on. -/
def RowAt (w : World) (e : TypeId) (size : Nat) (v : Value) (n : Nat) (xs : List Value) : Prop := xs.length = n * size ∧ ((v = .slice none 0 0 ∧ n = 0) ∨ ∃ g o cap cur, v = .slice (some ⟨g, o, none⟩) n cap ∧ w.heap[g]? = some (.cells cur e (0, 0)) ∧ n ≤ cap ∧ cap ≤ maxLen ∧ o + cap * size ≤ cur.size ∧ ∀ j, j < n * size → cur[o + j]? = xs[j]?)
theorem rowG {w : World} {e : TypeId} {size : Nat} {v : Value} {n B : Nat} {xs : List Value} (h : w.ownsRow B e size v n xs) : RowAt w e size v n xs := by
  refine ⟨h.1, h.2.imp id ?_⟩
  rintro ⟨g, cap, cur, h1, _, h2, h3, h4, h5, h6⟩
  refine ⟨g, 0, cap, cur, h1, h2, h3, h4, by omega, fun j hj => ?_⟩
  have := congrArg (fun l => l[j]?) h6
  rw [Nat.zero_add]
  simpa only [List.getElem?_take, if_pos hj, Array.getElem?_toList] using this
theorem RowAt.nil (w : World) (e : TypeId) (size : Nat) : RowAt w e size (.slice none 0 0) 0 [] := ⟨by simp, .inl ⟨rfl, rfl⟩⟩
theorem RowAt.keptX {X : Nat → Obj → Prop} {w w' : World} {e : TypeId} {size : Nat} {v : Value} {n : Nat} {xs : List Value} (h : RowAt w e size v n xs) (hk : Kept X w w') (hX : ∀ g cs, v.ownBlock = some g → ¬ X g (.cells cs e (0, 0))) : RowAt w' e size v n xs := by
  refine ⟨h.1, h.2.imp id ?_⟩
  rintro ⟨g, o, cap, cur, h1, h2, h3⟩
  exact ⟨g, o, cap, cur, h1, hk.block _ _ h2 (hX _ _ (by rw [h1]; rfl)), h3⟩
theorem RowAt.lt {w : World} {e : TypeId} {size : Nat} {v : Value} {n : Nat} {xs : List Value} (h : RowAt w e size v n xs) {g : Nat} (hg : v.ownBlock = some g) : g < w.heap.size := by
  rcases h.2 with ⟨rfl, _⟩ | ⟨g', o, cap, cur, rfl, h2, _⟩
  · simp [Value.ownBlock] at hg
  · have e : g' = g := by simpa [Value.ownBlock] using hg
    subst e
    exact lt_of_block h2
theorem RowAt.shape {w : World} {e : TypeId} {size : Nat} {v : Value} {n : Nat} {xs : List Value} (h : RowAt w e size v n xs) : ∃ ao c, v = .slice ao n c := by
  rcases h.2 with ⟨rfl, rfl⟩ | ⟨g, o, cap, cur, rfl, _⟩
  · exact ⟨_, _, rfl⟩
  · exact ⟨_, _, rfl⟩
/-- Its block, where it is no empty one. -/
theorem RowAt.block {w : World} {e : TypeId} {size : Nat} {ao : Option Addr} {c n : Nat} {xs : List Value} (h : RowAt w e size (.slice ao n c) n xs) (hn : 0 < n) : ∃ g o cur, ao = some ⟨g, o, none⟩ ∧ w.heap[g]? = some (.cells cur e (0, 0)) ∧ n ≤ c ∧ c ≤ maxLen ∧ o + c * size ≤ cur.size ∧ ∀ j, j < n * size → cur[o + j]? = xs[j]? := by
  rcases h.2 with ⟨_, e⟩ | ⟨g, o, cap, cur, e, h2⟩
  · omega
  · simp only [Value.slice.injEq] at e
    obtain ⟨rfl, _, rfl⟩ := e
    exact ⟨g, o, cur, rfl, h2⟩
theorem RowAt.cells {w : World} {e : TypeId} {size : Nat} {g o c n : Nat} {xs : List Value} (h : RowAt w e size (.slice (some ⟨g, o, none⟩) n c) n xs) : ∀ j u, xs[j]? = some u → w.cell? ((⟨g, o, none⟩ : Addr).add j) = some u := fun j u hj => by
  have hlt : j < n * size := by have := (List.getElem?_eq_some_iff.1 hj).1; rw [h.1] at this; exact this
  rcases h.2 with ⟨e, _⟩ | ⟨g', o', cap, cur, e, h2, _, _, _, h6⟩
  · cases e
  · simp only [Value.slice.injEq, Option.some.injEq, Addr.mk.injEq, and_true] at e
    obtain ⟨⟨rfl, rfl⟩, _⟩ := e
    rw [Addr.add_lit, blk_cell h2, h6 j hlt, hj]
theorem RowAt.src {P : Program} {w : World} {e e' tx : TypeId} {size : Nat} {ao : Option Addr} {c n : Nat} {xs : List Value} (h : RowAt w e size (.slice ao n c) n xs) (hk : P.underlying tx = some (.slice e')) (h1 : ∀ u ∈ xs, u.oneCell' = true) : Src P size tx (.slice ao n c) n xs w := by
  rcases h.2 with ⟨e, rfl⟩ | ⟨g', o', cap, cur, e, h2⟩
  · simp only [Value.slice.injEq] at e
    obtain ⟨rfl, _, rfl⟩ := e
    obtain rfl : xs = [] := List.eq_nil_of_length_eq_zero (by simpa using h.1)
    exact Src.ofNil _ hk 0
  · simp only [Value.slice.injEq] at e
    obtain ⟨rfl, _, rfl⟩ := e
    exact Src.ofSlice _ hk _ n c xs h.1 h.cells h1

section
variable {P : Program} (w : World)
theorem run_append_row (t tx ty e : TypeId) (i : TypeInfo) (z : Value) (size bytes : Nat) (ht : P.underlying t = some (.slice e)) (hi : P.info? e = some i) (hz : i.zero = some z)
    (hsize : i.size = size) (hby : i.bytes = bytes) (hzs : z.cells.size = size)
    (v : Value) (n : Nat) (xs : List Value) (hown : RowAt w e size v n xs) (x : Value) (m : Nat) (news : List Value) (hs : Src P size tx x m news w)
    (h63 : n + m ≤ maxLen) (hbytes : (n + m) * bytes ≤ 140737488355328) :
    ∃ v' w', (Builtin.append_ #[t, tx] ty #[v, x]).run P w = .ok v' w' ∧ RowAt w' e size v' (n + m) (xs ++ news) ∧ w.grownBy w' v.ownBlock ∧ ∀ g, v'.ownBlock = some g → v.ownBlock = some g ∨ w.heap.size ≤ g := by
  rcases hown.2 with ⟨rfl, rfl⟩ | ⟨g, o, cap, cur, rfl, hg, hnc, hcm, hcs, hat⟩
  · obtain rfl : xs = [] := List.eq_nil_of_length_eq_zero (by simpa using hown.1)
    obtain ⟨v', w', h1, h2, h3, h4⟩ := run_append_at (P := P) w 0 t tx ty e i z size bytes ht hi hz hsize hby hzs (.slice none 0 0) 0 [] (World.ownsRow_nil w 0 e size) x m news hs h63 hbytes (Nat.zero_le _)
    exact ⟨v', w', h1, rowG h2, h3, h4⟩
  · subst hsize
    subst hby
    have hsmall : n + m ≤ 9223372036854775807 := by simp only [maxLen] at h63; omega
    have hl := hs.newsLen
    have hlen : (xs ++ news).length = (n + m) * i.size := by rw [List.length_append, hown.1, hl, Nat.add_mul]
    by_cases hroom : n + m ≤ cap
    · have hfit : o + n * i.size + news.length ≤ cur.size := by rw [hl]; have := Nat.mul_le_mul_right i.size hroom; rw [Nat.add_mul] at this; omega
      have hr := run_append_room_src (P := P) w t tx ty e i ht hi g o n cap x m news hs hroom (fun j hj => by rw [blk_cell hg, Array.getElem?_eq_getElem (by omega)]; rfl) (fun j _ => blk_free hg _)
      obtain ⟨cs1, b1, s1, g1⟩ := blk_setCellsK (b := g) news (o + n * i.size) w cur hg
      refine ⟨_, _, hr, ⟨hlen, .inr ⟨g, o, cap, cs1, rfl, b1, hroom, hcm, by rw [s1]; exact hcs, fun j hj => ?_⟩⟩, grownBy_setCellsK g _ _ (grown_reflK _ _), fun g' hg' => .inl (by simpa [Value.ownBlock] using hg')⟩
      rw [g1]
      rw [Nat.add_mul] at hj
      by_cases hjo : j < n * i.size
      · rw [if_neg (by omega), List.getElem?_append_left (by rw [hown.1]; exact hjo)]
        exact hat j hjo
      · rw [if_pos (by omega), List.getElem?_append_right (by rw [hown.1]; omega), hown.1]
        congr 1
        omega
    · have hge := grownCap_ge w (n + m) cap e
      have hcm2 : grownCap w (n + m) cap e ≤ maxLen := grownCap_le_maxLen w (n + m) cap e h63
      have hr := run_append_grow_src (P := P) w t tx ty e i z ht hi hz (some ⟨g, o, none⟩) n cap xs (run_firstCells_some w.drew i.size n ⟨g, o, none⟩ n cap xs hown.1 (fun j u hj => hown.cells j u hj)) x m news hs (by omega) (by omega) (growslice_fits (by omega) hbytes)
      refine ⟨_, _, hr, ⟨hlen, .inr ⟨w.heap.size, 0, _, _, rfl, heap_alloc_new w.drew _, hge, hcm2, ?_, fun j hj => ?_⟩⟩, ⟨rfl, rfl, rfl, by simp, fun k hk _ => Below.heap_alloc w.drew _ k hk⟩, fun g hg => .inr (by simp [Value.ownBlock] at hg; omega)⟩
      · simp only [Array.size_append, List.size_toArray, size_zeroCells, hzs, hlen, ← Nat.add_mul, Nat.zero_add]
        have : n + m + (grownCap w (n + m) cap e - (n + m)) = grownCap w (n + m) cap e := by omega
        rw [this]
        exact Nat.le_refl _
      · rw [Nat.zero_add, Array.getElem?_append_left (by simp only [List.size_toArray]; rw [hlen]; exact hj), List.getElem?_toArray]
theorem wp_append_row {o : Oper} {a : Act} {K : Act → World → Prop} {Q : Exit → Act → World → Prop} (s xo : Operand) (t tx : TypeId)
    (ho : o.op = .call { callee := .builtin .append, args := #[s, xo], argTypes := #[t, tx] })
    (e : TypeId) (i : TypeInfo) (z : Value) (size bytes : Nat) (ht : P.underlying t = some (.slice e)) (hi : P.info? e = some i) (hz : i.zero = some z)
    (hsize : i.size = size) (hby : i.bytes = bytes) (hzs : z.cells.size = size)
    (v : Value) (n : Nat) (xs : List Value) (hv : a.eval s = v) (hown : RowAt w e size v n xs) (x : Value) (m : Nat) (news : List Value) (hx : a.eval xo = x) (hs : Src P size tx x m news w)
    (h63 : n + m ≤ maxLen) (hbytes : (n + m) * bytes ≤ 140737488355328)
    (h : ∀ v' w', RowAt w' e size v' (n + m) (xs ++ news) → w.grownBy w' v.ownBlock → (∀ g, v'.ownBlock = some g → v.ownBlock = some g ∨ w.heap.size ≤ g) → K (a.put o.dst v') w') : o.wp P a w K Q := by
  obtain ⟨v', w', hr, h2, h3, h4⟩ := run_append_row (P := P) w t tx o.type e i z size bytes ht hi hz hsize hby hzs v n xs hown x m news hs h63 hbytes
  unfold Oper.wp execOp
  simp only [ho, resolve, invoke, builtin, Sem.run_bind, Sem.run_pure, Result.andThen_ok, List.map_toArray, List.map_cons, List.map_nil, hv, hx, hr]
  exact h v' w' h2 h3 h4
theorem wpList_append_row {ops : Array Oper} {rest : List Oper} {o : Oper} {a : Act} {Q : Exit → Act → World → Prop} (hgd : o.guard = none) (s xo : Operand) (t tx : TypeId)
    (ho : o.op = .call { callee := .builtin .append, args := #[s, xo], argTypes := #[t, tx] })
    (e : TypeId) (i : TypeInfo) (z : Value) (size bytes : Nat) (ht : P.underlying t = some (.slice e)) (hi : P.info? e = some i) (hz : i.zero = some z)
    (hsize : i.size = size) (hby : i.bytes = bytes) (hzs : z.cells.size = size)
    (v : Value) (n : Nat) (xs : List Value) (hv : a.eval s = v) (hown : RowAt w e size v n xs) (x : Value) (m : Nat) (news : List Value) (hx : a.eval xo = x) (hs : Src P size tx x m news w)
    (h63 : n + m ≤ maxLen) (hbytes : (n + m) * bytes ≤ 140737488355328)
    (h : ∀ ao c w', RowAt w' e size (.slice ao (n + m) c) (n + m) (xs ++ news) → w.grownBy w' v.ownBlock → (∀ g, (Value.slice ao (n + m) c).ownBlock = some g → v.ownBlock = some g ∨ w.heap.size ≤ g) → wpList P ops Q rest (a.put o.dst (.slice ao (n + m) c)) w') : wpList P ops Q (o :: rest) a w :=
  wpList_plain hgd fun _ hK => wp_append_row w s xo t tx ho e i z size bytes ht hi hz hsize hby hzs v n xs hv hown x m news hx hs h63 hbytes fun v' w' h2 h3 h4 => by
    obtain ⟨ao, c, rfl⟩ := h2.shape
    exact hK _ _ (h ao c w' h2 h3 h4)
end
theorem step_append_row {P : Program} {w : World} {ops : Array Oper} {o : Oper} {a : Act} {K : Act → World → Prop} {Q : Exit → Act → World → Prop} {E : Prop} (hgd : o.guard = none) (s xo : Operand) (t tx : TypeId)
    (ho : o.op = .call { callee := .builtin .append, args := #[s, xo], argTypes := #[t, tx] })
    (e : TypeId) (i : TypeInfo) (z : Value) (size bytes : Nat) (ht : P.underlying t = some (.slice e)) (hi : P.info? e = some i) (hz : i.zero = some z)
    (hsize : i.size = size) (hby : i.bytes = bytes) (hzs : z.cells.size = size)
    (v : Value) (n : Nat) (xs : List Value) (hv : a.eval s = v) (hown : RowAt w e size v n xs) (x : Value) (m : Nat) (news : List Value) (hx : a.eval xo = x) (hs : Src P size tx x m news w)
    (h63 : n + m ≤ maxLen) (hbytes : (n + m) * bytes ≤ 140737488355328)
    (h : ∀ ao c w', RowAt w' e size (.slice ao (n + m) c) (n + m) (xs ++ news) → w.grownBy w' v.ownBlock → (∀ g, (Value.slice ao (n + m) c).ownBlock = some g → v.ownBlock = some g ∨ w.heap.size ≤ g) → K (a.put o.dst (.slice ao (n + m) c)) w') :
    if Region.wanted o (yielded ops a.tmps) = true then Oper.wp P o a w K Q else E := by
  rw [if_pos (by simp [Region.wanted, hgd])]
  exact wp_append_row w s xo t tx ho e i z size bytes ht hi hz hsize hby hzs v n xs hv hown x m news hx hs h63 hbytes fun v' w' h2 h3 h4 => by
    obtain ⟨ao, c, rfl⟩ := h2.shape
    exact h ao c w' h2 h3 h4
end Go.Proofs.Ytpfgnhockfofhaa

/-
  Shards: unpack of what pack wrote.
-/
namespace Go.Proofs.Ytpfgnhockfofhaa
open Go.RowKit

theorem results_tmp4 {fn : Func} {t u v x : Tmp} (h : fn.results = #[.tmp t, .tmp u, .tmp v, .tmp x]) (tmps : Array Value) (P : Program) (w : World) :
    (results fn tmps).run P w = .ok (.tuple #[tmps.getD t undef, tmps.getD u undef, tmps.getD v undef, tmps.getD x undef]) w := by
  simp [results, h]
theorem frP_at : ∀ (l : List Pr) (j : Nat) (hj : j < l.length), (frP l)[2 * j]? = some l[j].k ∧ (frP l)[2 * j + 1]? = some l[j].v
  | [], j, hj => by simp at hj
  | x :: t, 0, _ => by simp [frP]
  | x :: t, j + 1, hj => by
    have h := frP_at t j (by simpa using hj)
    simp only [frP, show 2 * (j + 1) = 2 * j + 1 + 1 by omega, List.getElem?_cons_succ]
    simpa using h
theorem OwnTd.cellO {B c g j : Nat} {w : World} {ks : List (List UInt8)} {s : List UInt8} (h : OwnTd B w (some ⟨g, 0, .none⟩) c ks) (hj : ks[j]? = some s) : w.cell? ⟨g, j, .none⟩ = some (.string (bs s)) := by
  obtain ⟨hl, e⟩ := List.getElem?_eq_some_iff.1 hj
  rw [h.cellT hl, e]
theorem frB_len (fr up : List UInt8) (l : List Pr) : (frB fr up l).length = 2 + 2 * l.length := by unfold frB; rw [List.length_cons, List.length_cons, frP_len]; omega
set_option maxRecDepth 100000 in
set_option maxHeartbeats 4000000 in
theorem unpack_any (K : List (List UInt8)) (fr up : List UInt8) (l : List Pr) (w : World) (hf : fr.length ≤ 16) (hu : up.length ≤ 16) (hi : ∀ x ∈ l, itOk K x ∧ inR x.k fr up = true) (hl : l.length ≤ 4000000) :
    Calls Try.prog 75 #[.string (bs (packB fr up l))] w fun e w' => ∃ a c, e = .returned (.tuple #[.string (bs fr), .string (bs up), .slice a l.length c, .bool true]) ∧ OwnIt w.heap.size w' a c l ∧ Kept Nil w w' := by
  obtain ⟨i0, hi0, hz0, hz1, hz2⟩ := info_parts Try.infoOwnIt
  have hsm := frB_small hf hu (fun x hx => (hi x hx).1)
  have hfl := frames_le hsm
  have UF := unframeAll_any (frB fr up l) w (fun s hs => by have := hsm s hs; omega) (by rw [frB_len] at hfl; omega)
  obtain ⟨n, HN⟩ : ∃ n, Hid (n = 2 + 2 * l.length) := ⟨_, rfl⟩
  rw [frB_len, ← HN.out] at UF
  have HI : Hid (∀ x ∈ l, itOk K x ∧ inR x.k fr up = true) := hi
  have HL : Hid (l.length ≤ 4000000) := hl
  have hn2 : 2 ≤ n := by rw [HN.out]; omega
  have hn2i : ¬ (n : Int) < 2 := by omega
  have hnm : (n : Int).tmod 2 = 0 := by rw [HN.out]; exact Int.tmod_eq_zero_of_dvd ⟨1 + l.length, by omega⟩
  have HMX : Hid (l.length + 1 ≤ maxLen ∧ (l.length + 1) * 32 ≤ 140737488355328) := by constructor <;> (try unfold maxLen) <;> omega
  clear hsm hfl hi hl
  unfold packB
  go_enter Try.func75, Try.ntmps75
  go_wp2_with fail
  go_fit UF
  rintro e w1 ⟨a0, c0, rfl, o1, k1⟩
  have HO1 : Hid (OwnTd w.heap.size w1 a0 c0 (frB fr up l)) := o1
  have HK1 : Hid (Kept Nil w w1) := k1
  clear UF o1 k1
  obtain ⟨g, rfl⟩ : ∃ g, a0 = some ⟨g, 0, none⟩ := by
    obtain ⟨g, e, _⟩ := HO1.out.cell (j := 0) (by rw [frB_len]; omega)
    exact ⟨g, e⟩
  have HC0 : Hid (w1.cell? ⟨g, 0, none⟩ = some (.string (bs fr))) := HO1.out.cellO (by rfl)
  have HC1 : Hid (w1.cell? ⟨g, 1, none⟩ = some (.string (bs up))) := HO1.out.cellO (by rfl)
  have HCk : Hid (∀ j, (hj : j < l.length) → w1.cell? ⟨g, 2 + 2 * j, none⟩ = some (.string (bs l[j].k)) ∧ w1.cell? ⟨g, 2 + 2 * j + 1, none⟩ = some (.string (bs l[j].v))) := fun j hj => by
    obtain ⟨h1, h2⟩ := frP_at l j hj
    refine ⟨HO1.out.cellO ?_, HO1.out.cellO ?_⟩
    · rw [show 2 + 2 * j = 2 * j + 1 + 1 by omega]; unfold frB; simpa using h1
    · rw [show 2 + 2 * j + 1 = 2 * j + 1 + 1 + 1 by omega]; unfold frB; simpa using h2
  go_wp2
  go_loopw [4, 7] (fun u v wr => ∃ k i c : Nat, ∃ a : Option Addr, k ≤ l.length ∧ Hid (i = 2 + 2 * k) ∧ u = .slice a k c ∧ v = .int .i64 i ∧ Hid (OwnIt w1.heap.size wr a c (l.take k)) ∧ Hid (Kept Nil w1 wr)) (fun _ v _ => n - (intOf v).toNat)
  case atStart => exact ⟨0, 2, 0, none, Nat.zero_le _, rfl, rfl, rfl, World.ownsRow_nil _ _ _ _, Kept.refl _ _⟩
  case round =>
    obtain ⟨k, i, c, a, hk, Hik, rfl, rfl, HO, HK⟩ := hrel
    by_cases hlt : k < l.length
    · have hin : i < n := by rw [HN.out, Hik.out]; omega
      have hii : (i : Int) < (n : Int) := by omega
      have hi1 : i + 1 < n := by rw [HN.out, Hik.out]; omega
      have hii1 : (i : Int) + 1 < (n : Int) := by omega
      have hmx : (i : Int) + 2 ≤ 9000000000 := by have := HL.out; have := HN.out; omega
      obtain ⟨y, HY⟩ : ∃ y : Pr, Hid (y = l[k]) := ⟨l[k], (rfl : l[k] = l[k])⟩
      obtain ⟨e0, e1⟩ := HCk.out k hlt
      rw [← HY.out, ← Hik.out] at e0 e1
      have d0 : wr.cell? ⟨g, 0, none⟩ = some (.string (bs fr)) := cell_kept HK.out (fun _ x => x) HC0.out
      have d1 : wr.cell? ⟨g, 1, none⟩ = some (.string (bs up)) := cell_kept HK.out (fun _ x => x) HC1.out
      have d2 : wr.cell? ⟨g, i, none⟩ = some (.string (bs y.k)) := cell_kept HK.out (fun _ x => x) e0
      have d3 : wr.cell? ⟨g, i + 1, none⟩ = some (.string (bs y.v)) := cell_kept HK.out (fun _ x => x) e1
      have HYI : Hid (itOk K y ∧ inR y.k fr up = true) := by rw [HY.out]; exact HI.out _ (List.getElem_mem _)
      have IN := fun X => in_any y.k fr up X
      rw [HYI.out.2] at IN
      have hgl : g < wr.heap.size := World.block_lt_of_cell? wr _ d0
      go_upto_region 7 with fail
      go_cut [43] (fun x w5 => x = .bool false ∧ Hid (Kept Nil wr w5))
      case first =>
        go_wp2
        go_quiet (first | (go_at_call 61; exact Calls.quiet_of_same (IN _)))
        go_wp2
        go_meet
        exact ⟨rfl, (Kept.refl _ _).drewN _⟩
      case rest =>
        rename_i x0 wc
        obtain ⟨rfl, hkc⟩ := hcut
        have HKC : Hid (Kept Nil w1 wc) := HK.out.trans hkc.out
        have HOC : Hid (OwnIt w1.heap.size wc a c (l.take k)) := HO.out.kept hkc.out
        have f2 : wc.cell? ⟨g, i, none⟩ = some (.string (bs y.k)) := cell_kept HKC.out (fun _ x => x) e0
        have f3 : wc.cell? ⟨g, i + 1, none⟩ = some (.string (bs y.v)) := cell_kept HKC.out (fun _ x => x) e1
        have HKL : Hid ((l.take k).length = k) := by show _ = _; rw [List.length_take]; omega
        have HOR : Hid (wc.ownsRow w1.heap.size 117 2 (.slice a k c) k (itCells (l.take k))) := by have := HOC.out; unfold OwnIt at this; rwa [HKL.out] at this
        have HTK : Hid (l.take (k + 1) = l.take k ++ [y]) := by rw [HY.out]; exact List.take_succ_eq_append_getElem hlt
        have hsz : w1.heap.size ≤ wc.heap.size := HKC.out.size
        have HKM : Hid (k + 1 ≤ maxLen ∧ (k + 1) * 32 ≤ 140737488355328) := ⟨Nat.le_trans (by omega) HMX.out.1, Nat.le_trans (Nat.mul_le_mul_right _ (by omega)) HMX.out.2⟩
        have hge0 : 0 ≤ (i : Int) + 1 := by omega
        have hwr1 : IntKind.i64.wrap ((i : Int) + 1) = (i : Int) + 1 := by rw [IntKind.wrap_i64]; omega
        have hti : ((i : Int) + 1).toNat = i + 1 := by omega
        apply_assumption
        go_upto_region 9 with fail
        go_region_law (refine step_append_at rfl (.tmp 44) (.tmp 55) 102 102 rfl w1.heap.size 117 i0 (.agg #[.string ⟨#[]⟩, .string ⟨#[]⟩]) 2 32 Try.underlying102 hi0 hz0 hz1 hz2 rfl (.slice a k c) k (itCells (l.take k)) (by simp [Act.eval]) (World.ownsRow.alloc (w := wc.drew) HOR.out _) (.slice (some ⟨wc.heap.size, 0, none⟩) 1 1) 1 [.string (bs y.k), .string (bs y.v)] (by simp [Act.eval]) (oneOwnIt_src wc.drew y) HKM.out.1 HKM.out.2 (le_alloc (w := wc.drew) hsz _) ?_; intro a6 c6 w6 ho6 hg6 hat6; have HO6 : Hid (OwnIt w1.heap.size w6 a6 c6 (l.take (k + 1))) := (by rw [HTK.out]; exact OwnIt.push (by rw [HKL.out]; exact ho6)); have K6 : Hid (Kept Nil w1 w6) := (HKC.out.drew.alloc _).grown hg6 (fun q hq => own_row HOR.out q hq); clear ho6 hg6 hat6)
        all_goals
          go_wp2
          go_roundw
          · exact ⟨k + 1, i + 2, c6, a6, by omega, (by show i + 2 = 2 + 2 * (k + 1); rw [Hik.out]; omega), rfl, by congr 1, HO6.out, K6.out⟩
          · simp [intOf]; omega
    · obtain rfl : k = l.length := by omega
      have hin : ¬ (i : Int) < (n : Int) := by rw [HN.out, Hik.out]; omega
      have d0 : wr.cell? ⟨g, 0, none⟩ = some (.string (bs fr)) := cell_kept HK.out (fun _ x => x) HC0.out
      have d1 : wr.cell? ⟨g, 1, none⟩ = some (.string (bs up)) := cell_kept HK.out (fun _ x => x) HC1.out
      have hgl : g < wr.heap.size := World.block_lt_of_cell? wr _ d0
      have h1n : 1 < n := by omega
      have h0n : 0 < n := by omega
      have HOE : Hid (OwnIt w.heap.size wr a c l) := by
        have := HO.out
        rw [List.take_length] at this
        exact this.mono HK1.out.size
      go_wp2
      go_quiet (fail)
      go_wp2
      refine bodyPost_ret (results_tmp4 rfl _ _ _) rfl ?_
      exact ⟨a, c, rfl, HOE.out.kept ((Kept.refl _ _).drewN _), (HK1.out.trans HK.out).drewN _⟩
end Go.Proofs.Ytpfgnhockfofhaa
