/-
  Joined: WTz8, WTxD, WTxE.
-/
import Derived.Test.YtflnjlbafchnaaaGreatDoorR20
import Derived.Test.YtflnjlbafchnaaaGreatDoorR17
import Derived.Sort.OwnSortedInts
import Derived.Shelf.SlSortCmp.SmallK
/-
  TxnExact: the document's Answer, whole; rows of parts: a piece from the beginning, a piece to the end.
-/
namespace Go.Proofs.YtflnjlbafchnaaaGreatDoor
open Go.RowKit

theorem danswer_any (w : World) (b : Nat) (t : Tx) (D : Dx) (ap oo : Option Addr) (cp oc : Nat) (h : TdAt w b t D ap oo cp oc) (B : Nat) (hO : OwnI B w oo oc t.old) (hB : B ≤ w.heap.size) (ok : t.Ok) (sm : Sim t D) (hP : PtRow w.heap.size w ap t.ps) (hPb : ∀ a, ap = some a → a.block ≠ b) (r : Rr) (ko : Option Addr) (kc : Nat) (hv : r.v.length ≤ 1048576) :
    Calls Tryz.prog 18 #[.pointer (some ⟨b, 0, none⟩), rrV r ko kc] w (DdPost B w b (t.answer r) (D.ans t r) ap cp oo) := by
  have hp := ok.ph
  have hl := ok.len4
  have ha := ok.at'
  have hc : t.ph = 0 ∨ t.ph = 1 ∨ t.ph = 2 ∨ t.ph = 3 ∨ t.ph = 4 ∨ t.ph = 5 ∨ t.ph = 6 ∨ t.ph = 7 ∨ t.ph = 8 ∨ t.ph = 9 ∨ t.ph = 10 := by omega
  rcases hc with hp | hp | hp | hp | hp | hp | hp | hp | hp | hp | hp
  · exact dans0 w b t D ap oo cp oc h B hO hl ha r ko kc hp
  · exact dans1 w b t D ap oo cp oc h B hO hl ha r ko kc hp hB ok.old hv ok hP hPb
  · exact dans2 w b t D ap oo cp oc h B hO hl ha r ko kc hp hB ok.old (sm.sn (.inl hp))
  · exact dans3 w b t D ap oo cp oc h B hO hl ha r ko kc hp
  · exact dans4 w b t D ap oo cp oc h B hO hl ha r ko kc hp
  · exact dans5 w b t D ap oo cp oc h B hO hl ha r ko kc hp
  · exact dans6 w b t D ap oo cp oc h B hO hl ha r ko kc hp
  · exact dans7 w b t D ap oo cp oc h B hO hl ha r ko kc hp
  · exact dans8 w b t D ap oo cp oc h B hO hl ha r ko kc hp hv ok.id0
  · exact dans9 w b t D ap oo cp oc h B hO hl ha r ko kc hp
  · exact dans10 w b t D ap oo cp oc h B hO hl ha r ko kc hp
theorem ptCells_take (ps : List Pt) (k : Nat) (hk : k ≤ ps.length) : ptCells (ps.take k) = (ptCells ps).take (k * 2) := by
  induction ps generalizing k with
  | nil => simp [ptCells]
  | cons p ps ih =>
    cases k with
    | zero => simp [ptCells]
    | succ k =>
      have := ih k (by simpa using hk)
      unfold ptCells at this ⊢
      rw [show (k + 1) * 2 = k * 2 + 1 + 1 by omega]
      simp [this]
theorem ptCells_app (ps qs : List Pt) : ptCells (ps ++ qs) = ptCells ps ++ ptCells qs := by unfold ptCells; rw [List.flatMap_append]
/-- The first k of a row of one's own are one, too. -/
theorem OwnT.takeT {B c : Nat} {w : World} {ao : Option Addr} {ps : List Pt} (h : OwnT B w ao c ps) (k : Nat) (hk : k ≤ ps.length) : w.ownsRow B 29 2 (.slice ao k c) k (ptCells (ps.take k)) := by
  have hlen : (ptCells (ps.take k)).length = k * 2 := by rw [ptCells_len, List.length_take, Nat.min_eq_left hk]
  rcases h.2 with ⟨hv, hx⟩ | ⟨g, cap, cur, hv, hb, hh, h1, h2, h3, h4⟩
  · simp at hv
    obtain ⟨rfl, e2, rfl⟩ := hv
    obtain rfl : k = 0 := by omega
    exact World.ownsRow_nil _ _ _ _
  · simp only [Value.slice.injEq] at hv
    obtain ⟨rfl, e2, rfl⟩ := hv
    refine ⟨hlen, .inr ⟨g, c, cur, rfl, hb, hh, by omega, h2, h3, ?_⟩⟩
    rw [ptCells_take ps k hk, ← h4, List.take_take, Nat.min_eq_left (by omega)]
/-- What lies behind the first k. -/
theorem OwnT.dropT {B c g : Nat} {w : World} {ps : List Pt} (h : OwnT B w (some ⟨g, 0, none⟩) c ps) (k : Nat) : PtRow w.heap.size w (some ⟨g, k * 2, none⟩) (ps.drop k) := fun j hj => by
  rw [List.length_drop] at hj
  obtain ⟨a, ha, hb, c1, c2⟩ := h.row (k + j) (by omega)
  obtain rfl := Option.some.inj ha
  rw [Addr.add_lit] at c1 c2
  simp only [Nat.zero_add] at c1 c2 hb
  refine ⟨⟨g, k * 2, none⟩, rfl, hb, ?_, ?_⟩
  · rw [Addr.add_lit, List.getElem_drop, show k * 2 + j * 2 = (k + j) * 2 by omega]
    exact c1
  · rw [Addr.add_lit, List.getElem_drop]
    show w.cell? ⟨g, k * 2 + j * 2 + 1, none⟩ = _
    rw [show k * 2 + j * 2 + 1 = (k + j) * 2 + 1 by omega]
    exact c2
end Go.Proofs.YtflnjlbafchnaaaGreatDoor

/-
  Transactions: parts sorted by the library.
-/
namespace Go.Proofs.YtflnjlbafchnaaaGreatDoor
open Go.RowKit Go.Sort Go.Shelf

instance : Inhabited Pt := ⟨⟨[], 0⟩⟩
def encP (p : Pt) : List Value := [.string (bs p.k), .int .i64 p.a]
def cfP (x y : Pt) : Int := cmpB x.k y.k
theorem ltP (x y : Pt) : ltOf cfP x y = lessB x.k y.k := by
  unfold ltOf cfP
  have := (cmp_less x.k y.k).1
  cases h : lessB x.k y.k with
  | true => rw [decide_eq_true (this.2 h)]
  | false => rw [decide_eq_false (fun e => by rw [this.1 e] at h; cases h)]
theorem swoP : SWO (ltOf cfP) where
  irrefl x := by rw [ltP]; exact less_irrefl _
  trans x y z h1 h2 := by rw [ltP] at *; exact less_trans h1 h2
  ntrans x y z h1 h2 := by
    rw [ltP] at *
    cases h : lessB x.k z.k with
    | false => rfl
    | true =>
      by_cases e : x.k = y.k
      · rw [e] at h; rw [h2] at h; cases h
      · have hyx := less_total h1 e
        have := less_trans hyx h
        rw [h2] at this
        cases this
set_option maxHeartbeats 1000000 in
theorem closureP (x y : Pt) (W : World) : Calls Tryz.prog 45 #[.agg #[.string (bs x.k), .int .i64 x.a], .agg #[.string (bs y.k), .int .i64 y.a]] W fun e w' => e = .returned (.int .i64 (cfP x y)) ∧ ∃ q os', w' = grow (W.drewN q) os' := by
  have CM := fun X => compare_any x.k y.k X
  obtain ⟨r, HR⟩ : ∃ r, Hid (r = cmpB x.k y.k) := ⟨_, rfl⟩
  rw [← HR.out] at CM
  rw [show cfP x y = r from HR.out.symm]
  go_enter Tryz.func45, Tryz.ntmps45
  go_wp2_with (go_at_call 46; refine (CM _).mono ?_; rintro e w' ⟨rfl, rfl⟩)
  go_ret
  exact ⟨rfl, 0, _, by rw [alloc_eq_grow, alloc_eq_grow, grow_grow]; rfl⟩
theorem flat_pt (qs : List Pt) : (flatK encP 2 qs.toArray).toList = ptCells qs := by
  apply List.ext_getElem?
  intro j
  by_cases hj : j < qs.length * 2
  · have h1 : (flatK encP 2 qs.toArray).toList[j]? = some ((flatK encP 2 qs.toArray)[j]!) := by
      rw [Array.getElem?_toList, getElem!_pos _ j (by simpa using hj), Array.getElem?_eq_getElem (by simpa using hj)]
    rw [h1, get_flatK encP 2 qs.toArray j (by simpa using hj)]
    obtain ⟨e1, e2⟩ := ptCells_at qs (j / 2) (by omega)
    have hg : (qs.toArray)[j / 2]! = qs[j / 2] := by
      rw [getElem!_pos _ (j / 2) (by simp; omega)]
      simp
    rw [hg]
    rcases (show j % 2 = 0 ∨ j % 2 = 1 by omega) with e | e
    · have : j = j / 2 * 2 := by omega
      rw [e]
      conv => rhs; rw [this]
      rw [e1]
      rfl
    · have : j = j / 2 * 2 + 1 := by omega
      rw [e]
      conv => rhs; rw [this]
      rw [e2]
      rfl
  · rw [List.getElem?_eq_none (by simp; omega), List.getElem?_eq_none (by rw [ptCells_len]; omega)]
def SrtT (qs : List Pt) : Prop := ∀ i j, (hi : i < j) → (hj : j < qs.length) → lessB qs[j].k qs[i].k = false
set_option maxRecDepth 100000 in
theorem sortT_any (B c g : Nat) (ps : List Pt) (w : World) (h : OwnT B w (some ⟨g, 0, none⟩) c ps) (hl : ps.length ≤ 12) :
    Calls Tryz.prog 44 #[.slice (some ⟨g, 0, none⟩) ps.length c, .func (.func 45) #[] #[]] w fun e w' => e = .returned (.tuple #[]) ∧ ∃ qs, qs.Perm ps ∧ SrtT qs ∧ OwnT B w' (some ⟨g, 0, none⟩) c qs ∧ Kept (One g) w w' := by
  rcases h.2 with ⟨h1, _⟩ | ⟨g', cap, cur, hv, hb, hh, h1, h2, h3, h4⟩
  · simp at h1
  · simp only [Value.slice.injEq] at hv
    obtain ⟨hv1, _, rfl⟩ := hv
    cases hv1
    have eg : ∀ args w, (callFunc 45 args).run Tryz.prog w = .ok (.enter 45 args) w := enters_of Tryz.func45 (by kernel_rfl) rfl
    have hH : HoldsK encP 2 w g 0 ps.toArray := by
      intro j hj
      have hj' : j < ps.length * 2 := by simpa using hj
      refine ⟨?_, by simp [World.frozen?, hh]⟩
      have hfl : (flatK encP 2 ps.toArray)[j]? = (ptCells ps)[j]? := by rw [← Array.getElem?_toList, flat_pt]
      have hc := congrArg (fun l : List Value => l[j]?) h4
      simp only [List.getElem?_take, if_pos hj', Array.getElem?_toList] at hc
      rw [blk_cell hh, Nat.zero_add, hc, ← hfl, Array.getElem?_eq_getElem (by simpa using hj'), getElem!_pos _ j (by simpa using hj')]
      rfl
    have con := AnyQ.slices_SortFunc_small_sorted Tryz.sortP 2 Tryz.isAgg29 Tryz.sizeOf29 encP (fun _ => rfl) (fun x v hv => by simp [encP] at hv; rcases hv with rfl | rfl <;> rfl) cfP 45 #[] swoP g 0 c ps.toArray w eg (fun m os dk _ x y => closureP x y _) hH (lt_of_block hh) (by simpa using hl)
      (fun n W hn => (Tryz.bits_Len n W (by omega) (by omega)).mono (by rintro e w' ⟨rfl, rfl⟩; exact ⟨⟨_, rfl⟩, rfl⟩))
    have con' : Calls Tryz.prog 44 #[.slice (some ⟨g, 0, none⟩) ps.length c, .func (.func 45) #[] #[]] w fun e w' => e = .returned (.tuple #[]) ∧ ∃ d' n os, PermIn 0 ps.toArray.size ps.toArray d' ∧ SortedIn (ltOf cfP) 0 ps.toArray.size d' ∧ w' = sortWorldK encP 2 w g 0 n d' os := con
    refine con'.mono ?_
    rintro e w' ⟨rfl, d', n, os, ⟨hp1, _, hp3⟩, hs, rfl⟩
    have hsz : d'.size = ps.length := by simpa using hp1
    have hperm : d'.toList.Perm ps := by
      have e1 : d'.extract 0 ps.toArray.size = d' := by
        apply Array.ext'
        simp
        exact List.take_of_length_le (by simp [hsz])
      rw [e1] at hp3
      simpa using hp3
    refine ⟨rfl, d'.toList, hperm, ?_, ?_, ?_⟩
    · intro i j hi hj
      have hj' : j < d'.size := by simpa using hj
      have := hs i j (Nat.zero_le _) hi (by simpa [hsz] using hj')
      rw [ltP, getElem!_pos _ j hj', getElem!_pos _ i (by omega)] at this
      simpa using this
    · have hlen : d'.toList.length = ps.length := by simpa using hsz
      have hheap : (sortWorldK encP 2 w g 0 n d' os).heap[g]? = some (.cells (putCells id 0 (flatK encP 2 d') cur) 29 (0, 0)) := by
        unfold sortWorldK putRowK
        rw [heap_grow_old _ _ (by simpa using lt_of_block hh)]
        simp [putRow, mapBlock, Sort.ahead, Array.getElem?_modify, hh, onCells]
      refine ⟨by rw [ptCells_len], .inr ⟨g, c, _, rfl, hb, hheap, by rw [hlen]; exact h1, h2, by simp [putCells, h3], ?_⟩⟩
      have hfl : (flatK encP 2 d').toList = ptCells d'.toList := by
        have := flat_pt d'.toList
        simpa using this
      apply List.ext_getElem?
      intro j
      by_cases hj : j < d'.toList.length * 2
      · rw [List.getElem?_take_of_lt hj, ← hfl, Array.getElem?_toList, Array.getElem?_toList]
        have hjs : j < (flatK encP 2 d').size := by rw [size_flatK]; simpa using hj
        have hjc : j < cur.size := by rw [h3]; rw [hlen] at hj; omega
        simp only [putCells, Array.getElem?_mapIdx, Nat.zero_le, true_and, Nat.zero_add, if_pos hjs, Nat.sub_zero, id, Array.getElem?_eq_getElem hjc, Option.map_some]
        rw [getElem!_pos _ j hjs, Array.getElem?_eq_getElem hjs]
      · rw [List.getElem?_take_eq_none (by omega), List.getElem?_eq_none (by rw [ptCells_len]; omega)]
    · refine ⟨rfl, rfl, rfl, by simp [sortWorldK, putRowK], fun k x hk hne => ?_⟩
      unfold sortWorldK putRowK
      rw [heap_grow_old _ _ (by simpa using lt_of_block hk)]
      have : g ≠ k := fun e => hne e.symm
      simp [putRow, mapBlock, Sort.ahead, Array.getElem?_modify, this]
      exact hk
end Go.Proofs.YtflnjlbafchnaaaGreatDoor

/-
  Transactions: New (the program).
-/
namespace Go.Proofs.YtflnjlbafchnaaaGreatDoor
open Go.RowKit

structure NewGood (id : Int) (ps : List Pt) : Prop where
  id0 : 1 ≤ id
  id : id ≤ 999
  len : 1 ≤ ps.length
  len4 : ps.length ≤ 4
  ok : ∀ p ∈ ps, ptOk p = true
  keys : (ps.map Pt.k).Nodup
def newTx (id : Nat) (qs : List Pt) : Tx := ⟨id, qs, 1, [], 0, 0, Hd.no, 0, false, 0⟩
/-- By rising keys. -/
def RiseT (qs : List Pt) : Prop := ∀ i j, (hi : i < j) → (hj : j < qs.length) → lessB qs[i].k qs[j].k = true
def NewPost (w : World) (id : Int) (ps : List Pt) (e : Ending) (w' : World) : Prop :=
  (¬ NewGood id ps ∧ e = .returned (.tuple #[.pointer none, .int .i64 22]) ∧ Kept Nil w w') ∨
  (NewGood id ps ∧ ∃ qs b ap cp, qs.Perm ps ∧ RiseT qs ∧ e = .returned (.tuple #[.pointer (some ⟨b, 0, none⟩), .int .i64 0]) ∧ TxAt w' b (newTx id.toNat qs) ap none cp 0 ∧ OwnT w.heap.size w' ap cp qs ∧ w.heap.size ≤ b ∧ Kept Nil w w')
theorem ptOk_iff {p : Pt} (h : ptOk p = true) : 1 ≤ p.k.length ∧ p.k.length ≤ 15 ∧ -999999999 ≤ p.a ∧ p.a ≤ 999999999 := by
  unfold ptOk at h
  simp only [Bool.and_eq_true, decide_eq_true_eq] at h
  omega
theorem newTx_ok {id : Int} {ps qs : List Pt} (h : NewGood id ps) (hp : qs.Perm ps) : (newTx id.toNat qs).Ok := by
  have hl := hp.length_eq
  have h0 := h.id0
  have h1 := h.id
  exact ⟨by show 1 ≤ id.toNat; omega, by show id.toNat ≤ 999; omega, by show 1 ≤ qs.length; rw [hl]; exact h.len, by show qs.length ≤ 4; rw [hl]; exact h.len4, fun p hm => ptOk_iff (h.ok p (hp.mem_iff.1 hm)), by show 0 < qs.length; rw [hl]; exact h.len, Hd.no_ok, by show 0 ≤ 4; omega, fun e => (by cases e), by show 0 ≤ 10; omega, fun _ _ => rfl⟩
/-- What the look along the sorted parts has found so far. -/
def Seen (qs : List Pt) (k : Nat) : Prop := ∀ j, (hj : j < qs.length) → j < k → ptOk qs[j] = true ∧ (0 < j → qs[j - 1].k ≠ qs[j].k)
theorem Seen.next {qs : List Pt} {k : Nat} (h : Seen qs k) (hk : k < qs.length) (h1 : ptOk qs[k] = true) (h2 : 0 < k → qs[k - 1].k ≠ qs[k].k) : Seen qs (k + 1) := fun j hj hlt => by
  by_cases e : j = k
  · subst e; exact ⟨h1, h2⟩
  · exact h j hj (by omega)
theorem seen_rise {qs : List Pt} (hs : SrtT qs) (h : Seen qs qs.length) : RiseT qs := by
  have step : ∀ i, (hi : i + 1 < qs.length) → lessB qs[i].k qs[i + 1].k = true := fun i hi => by
    have h1 := hs i (i + 1) (by omega) hi
    have h2 := (h (i + 1) hi hi).2 (by omega)
    exact less_total h1 (fun e => h2 (by simpa using e.symm))
  intro i j hi hj
  obtain ⟨d, rfl⟩ : ∃ d, j = i + 1 + d := ⟨j - i - 1, by omega⟩
  induction d with
  | zero => exact step i hj
  | succ d ih => exact less_trans (ih (by omega) (by omega)) (step (i + 1 + d) hj)
theorem rise_nodup {qs : List Pt} (h : RiseT qs) : (qs.map Pt.k).Nodup := by
  rw [List.nodup_iff_pairwise_ne, List.pairwise_iff_getElem]
  intro i j hi hj hlt e
  have := h i j hlt (by simpa using hj)
  simp only [List.getElem_map] at e
  rw [e, less_irrefl] at this
  cases this
theorem good_of {id : Int} {ps qs : List Pt} (h0 : 1 ≤ id) (h1 : id ≤ 999) (h2 : 1 ≤ ps.length) (h3 : ps.length ≤ 4) (hp : qs.Perm ps) (hs : SrtT qs) (h : Seen qs qs.length) : NewGood id ps ∧ RiseT qs := by
  have hr := seen_rise hs h
  refine ⟨⟨h0, h1, h2, h3, fun p hm => ?_, (hp.map Pt.k).nodup_iff.1 (rise_nodup hr)⟩, hr⟩
  obtain ⟨j, hj, rfl⟩ := List.getElem_of_mem (hp.mem_iff.2 hm)
  exact (h j hj hj).1
theorem bad_part {id : Int} {ps qs : List Pt} {k : Nat} (hp : qs.Perm ps) (hk : k < qs.length) (h : ptOk qs[k] = false) : ¬ NewGood id ps := fun g => by
  have := g.ok qs[k] (hp.mem_iff.1 (List.getElem_mem hk))
  rw [h] at this
  cases this
theorem bad_twice {id : Int} {ps qs : List Pt} {k : Nat} (hp : qs.Perm ps) (hk : k < qs.length) (h0 : 0 < k) (h : qs[k - 1].k = qs[k].k) : ¬ NewGood id ps := fun g => by
  have hn := (hp.map Pt.k).nodup_iff.2 g.keys
  rw [List.nodup_iff_pairwise_ne, List.pairwise_iff_getElem] at hn
  have := hn (k - 1) k (by simp; omega) (by simpa using hk) (by omega)
  simp only [List.getElem_map] at this
  exact this h
set_option maxRecDepth 100000 in
set_option maxHeartbeats 16000000 in
theorem new_any (B c : Nat) (ao : Option Addr) (id : Int) (ps : List Pt) (w : World) (h : PtRow B w ao ps) (hkl : ∀ p ∈ ps, p.k.length ≤ maxLen) (hlen : (ps.length : Int) ≤ 9223372036854775807) :
    Calls Tryz.prog 10 #[.int .i64 id, .slice ao ps.length c] w (NewPost w id ps) := by
  by_cases c1 : id < 1
  · have HF : Hid (NewPost w id ps (.returned (.tuple #[.pointer none, .int .i64 22])) w) := .inl ⟨fun g => by have := g.id0; omega, rfl, Kept.refl _ _⟩
    clear h hkl
    go_enter Tryz.func10, Tryz.ntmps10
    go_wp2
    go_ret2
    exact HF.out
  · by_cases c2 : 999 < id
    · have HF : Hid (NewPost w id ps (.returned (.tuple #[.pointer none, .int .i64 22])) w) := .inl ⟨fun g => by have := g.id; omega, rfl, Kept.refl _ _⟩
      clear h hkl
      go_enter Tryz.func10, Tryz.ntmps10
      go_wp2
      go_ret2
      exact HF.out
    · by_cases c3 : (ps.length : Int) < 1
      · have HF : Hid (NewPost w id ps (.returned (.tuple #[.pointer none, .int .i64 22])) w) := .inl ⟨fun g => by have := g.len; omega, rfl, Kept.refl _ _⟩
        clear h hkl
        go_enter Tryz.func10, Tryz.ntmps10
        go_wp2
        go_ret2
        exact HF.out
      · by_cases c4 : (4 : Int) < (ps.length : Int)
        · have HF : Hid (NewPost w id ps (.returned (.tuple #[.pointer none, .int .i64 22])) w) := .inl ⟨fun g => by have := g.len4; omega, rfl, Kept.refl _ _⟩
          clear h hkl
          go_enter Tryz.func10, Tryz.ntmps10
          go_wp2
          go_ret2
          exact HF.out
        · obtain ⟨a, rfl⟩ : ∃ a, ao = some a := by obtain ⟨a, ha, _⟩ := h 0 (by omega); exact ⟨a, ha⟩
          have CT := cloneT_any B c a ps w h (by omega)
          have HKL : Hid (∀ p ∈ ps, p.k.length ≤ maxLen) := hkl
          clear h hkl
          go_enter Tryz.func10, Tryz.ntmps10
          go_wp2_with fail
          go_fit CT
          clear CT
          rintro _ w1 ⟨a1, c1', rfl, o1, k1⟩
          obtain ⟨g, rfl, hg⟩ : ∃ g, a1 = some ⟨g, 0, none⟩ ∧ w.heap.size ≤ g := by
            rcases o1.2 with ⟨e, _⟩ | ⟨g, cap, cur, hv, hb, _⟩
            · simp at e; omega
            · simp only [Value.slice.injEq] at hv
              exact ⟨g, hv.1, hb⟩
          have SO := sortT_any w.heap.size c1' g ps w1 o1 (by omega)
          have K1 : Hid (Kept Nil w w1) := k1
          clear o1 k1
          go_wp2_with fail
          go_fit SO
          clear SO
          rintro _ w2 ⟨rfl, qs, hperm, hsrt, o2, k2⟩
          have HPM : Hid (qs.Perm ps) := hperm
          have HSR : Hid (SrtT qs) := hsrt
          have HO2 : Hid (OwnT w.heap.size w2 (some ⟨g, 0, none⟩) c1' qs) := o2
          have K2 : Hid (Kept Nil w w2) := ⟨k2.os.trans K1.out.os, k2.tape.trans K1.out.tape, k2.output.trans K1.out.output, Nat.le_trans K1.out.size k2.size, fun q x hq _ => k2.block _ _ (K1.out.block _ _ hq (fun x => x.elim)) (fun e => by have h1 := lt_of_block hq; have h2 : q = g := e; omega)⟩
          have hn : ps.length = qs.length := hperm.length_eq.symm
          rw [hn]
          have hq1 : 1 ≤ qs.length := by omega
          have hq4 : qs.length ≤ 4 := by omega
          have HGD : Hid (Seen qs qs.length → NewGood id ps ∧ RiseT qs) := fun hS => good_of (by omega) (by omega) (by omega) (by omega) hperm hsrt hS
          have HKQ : Hid (∀ p ∈ qs, p.k.length ≤ maxLen) := fun p hm => HKL.out p (hperm.mem_iff.1 hm)
          clear hperm hsrt o2 k2 hn hlen c3 c4
          go_wp2
          go_loopw [31] (fun i wr => ∃ k : Nat, k ≤ qs.length ∧ i = .int .i64 k ∧ Hid (Seen qs k) ∧ Hid (OwnT w.heap.size wr (some ⟨g, 0, none⟩) c1' qs) ∧ Hid (Kept Nil w wr)) (fun i _ => qs.length - (intOf i).toNat)
          case atStart => exact ⟨0, Nat.zero_le _, rfl, fun _ _ hj => absurd hj (Nat.not_lt_zero _), HO2.out, K2.out⟩
          case round =>
            obtain ⟨k, hk, rfl, HSe, HOr, HKr⟩ := hrel
            rename World => wr
            by_cases hlt : k < qs.length
            · obtain ⟨y, HY⟩ : ∃ y : Pt, Hid (y = qs[k]) := ⟨qs[k], (rfl : qs[k] = qs[k])⟩
              obtain ⟨a', ea, _, p0, p1⟩ := HOr.out.row k hlt
              cases ea
              rw [← HY.out, Addr.add_lit, Nat.zero_add] at p0 p1
              have p1 : wr.cell? ⟨g, k * 2 + 1, none⟩ = some (.int .i64 y.a) := p1
              have hgl : g < wr.heap.size := (HOr.out.lt _ rfl).2.elim fun _ h => h.elim fun _ h => lt_of_block h
              obtain ⟨W, hW⟩ : ∃ W, W = wr.alloc (.cells #[.string (bs y.k), .int .i64 y.a] 29) := ⟨_, rfl⟩
              obtain ⟨N, HNe⟩ : ∃ N, Hid (N = wr.heap.size) := ⟨_, rfl⟩
              have KW : Hid (Kept Nil wr W) := by rw [hW]; exact (Kept.refl _ _).alloc _
              have HNW : Hid (W.heap[N]? = some (.cells #[.string (bs y.k), .int .i64 y.a] 29 (0, 0))) := by rw [hW, HNe.out]; exact blk_new _ _
              have HOW : Hid (OwnT w.heap.size W (some ⟨g, 0, none⟩) c1' qs) := HOr.out.keptX KW.out (fun _ _ _ x => x.elim)
              have KD : Hid (Kept Nil W W.drew) := (Kept.refl _ _).drew
              have IP := isPart_any y (by rw [HY.out]; exact HKQ.out _ (List.getElem_mem hlt)) W.drew
              go_upto_region 8 with fail
              rw [← hW, ← HNe.out]
              clear hW
              obtain ⟨x, HX⟩ : ∃ x, Hid (x = ptOk y) := ⟨_, rfl⟩
              rw [← HX.out] at IP
              cases x with
              | false =>
                have HB : Hid (¬ NewGood id ps) := bad_part HPM.out hlt (by rw [← HY.out]; exact HX.out.symm)
                have SS : ∀ X, Kept Nil W X → X.cell? ⟨N, 0, none⟩ = some (.string (bs y.k)) ∧ X.cell? ⟨N, 1, none⟩ = some (.int .i64 y.a) := fun X kX => ⟨blk_at (kX.block _ _ HNW.out (fun x => x.elim)) 0 rfl, blk_at (kX.block _ _ HNW.out (fun x => x.elim)) 1 rfl⟩
                have s0 := SS W (Kept.refl _ _)
                obtain ⟨s00, s01⟩ := s0
                refine wp_region_any (by kernel_rfl) ?_
                (try (change wpAny _ _ _ _ _ _ _ (World.drew _)))
                refine wpAny_ready (rs := [0]) (by kernel_rfl) (by simp) ?_
                refine AllReady.cons rfl (fun K hK => ?_) AllReady.nil
                go_simp
                refine hK _ _ ?_
                clear hK K
                refine wpAny_ready (rs := [1]) (by kernel_rfl) (by simp) ?_
                refine AllReady.cons rfl (fun K hK => ?_) AllReady.nil
                go_simp
                go_wp2_with fail
                go_fit IP
                rintro e wa ⟨rfl, ka⟩
                have Ka : Hid (Kept Nil W wa) := KD.out.trans ka
                obtain ⟨sa0, sa1⟩ := SS wa Ka.out
                clear ka
                dsimp only
                refine hK _ _ ?_
                clear hK K
                refine wpAny_ready (rs := [2]) (by kernel_rfl) (by simp) ?_
                refine AllReady.cons rfl (fun K hK => ?_) AllReady.nil
                go_simp
                refine hK _ _ ?_
                clear hK K
                refine wpAny_ready (rs := [3]) (by kernel_rfl) (by simp) ?_
                refine AllReady.cons rfl (fun K hK => ?_) AllReady.nil
                go_simp
                refine hK _ _ ?_
                clear hK K
                refine wpAny_ready (rs := [4]) (by kernel_rfl) (by simp) ?_
                refine AllReady.cons rfl (fun K hK => ?_) AllReady.nil
                go_simp
                refine hK _ _ ?_
                clear hK K
                refine wpAny_ready (rs := [5]) (by kernel_rfl) (by simp) ?_
                refine AllReady.cons rfl (fun K hK => ?_) AllReady.nil
                go_simp
                refine hK _ _ ?_
                clear hK K
                refine wpAny_ready (rs := [6]) (by kernel_rfl) (by simp) ?_
                refine AllReady.cons rfl (fun K hK => ?_) AllReady.nil
                go_simp
                refine hK _ _ ?_
                clear hK K
                refine wpAny_take (i := 7) (v := undef) rfl (by kernel_rfl) (by kernel_rfl) (by kernel_rfl) (fun _ _ _ h => h) (Or.inr ⟨by kernel_rfl, rfl⟩) ?_
                refine wpAny_take (i := 8) (v := undef) rfl (by kernel_rfl) (by kernel_rfl) (by kernel_rfl) (fun _ _ _ h => h) (Or.inr ⟨by kernel_rfl, rfl⟩) ?_
                refine wpAny_take (i := 9) (v := undef) rfl (by kernel_rfl) (by kernel_rfl) (by kernel_rfl) (fun _ _ _ h => h) (Or.inr ⟨by kernel_rfl, rfl⟩) ?_
                refine wpAny_take (i := 10) (v := undef) rfl (by kernel_rfl) (by kernel_rfl) (by kernel_rfl) (fun _ _ _ h => h) (Or.inr ⟨by kernel_rfl, rfl⟩) ?_
                refine wpAny_take (i := 11) (v := undef) rfl (by kernel_rfl) (by kernel_rfl) (by kernel_rfl) (fun _ _ _ h => h) (Or.inr ⟨by kernel_rfl, rfl⟩) ?_
                refine wpAny_take (i := 12) (v := undef) rfl (by kernel_rfl) (by kernel_rfl) (by kernel_rfl) (fun _ _ _ h => h) (Or.inr ⟨by kernel_rfl, rfl⟩) ?_
                refine wpAny_take (i := 13) (v := undef) rfl (by kernel_rfl) (by kernel_rfl) (by kernel_rfl) (fun _ _ _ h => h) (Or.inr ⟨by kernel_rfl, rfl⟩) ?_
                refine wpAny_take (i := 14) (v := undef) rfl (by kernel_rfl) (by kernel_rfl) (by kernel_rfl) (fun _ _ _ h => h) (Or.inr ⟨by kernel_rfl, rfl⟩) ?_
                refine wpAny_take (i := 15) (v := undef) rfl (by kernel_rfl) (by kernel_rfl) (by kernel_rfl) (fun _ _ _ h => h) (Or.inr ⟨by kernel_rfl, rfl⟩) ?_
                refine wpAny_ready (rs := [16]) (by kernel_rfl) (by simp) ?_
                refine AllReady.cons rfl (fun K hK => ?_) AllReady.nil
                go_simp
                refine hK _ _ ?_
                clear hK K
                refine wpAny_ready (rs := [17]) (by kernel_rfl) (by simp) ?_
                refine AllReady.cons rfl (fun K hK => ?_) AllReady.nil
                go_simp
                refine hK _ _ ?_
                clear hK K
                refine wpAny_done (by kernel_rfl) ?_ _
                have HF : Hid (NewPost w id ps (.returned (.tuple #[.pointer none, .int .i64 22])) wa) := .inl ⟨HB.out, rfl, (HKr.out.trans KW.out).trans Ka.out⟩
                go_wp2
                go_ret2
                exact HF.out
              | true =>
                by_cases k0 : k = 0
                · have hk0 : decide ((0 : Int) < (k : Int)) = false := decide_eq_false (by omega)
                  have HNX : Hid (0 < k → qs[k - 1].k ≠ qs[k].k) := fun h => by omega
                  have SS : ∀ X, Kept Nil W X → X.cell? ⟨N, 0, none⟩ = some (.string (bs y.k)) ∧ X.cell? ⟨N, 1, none⟩ = some (.int .i64 y.a) := fun X kX => ⟨blk_at (kX.block _ _ HNW.out (fun x => x.elim)) 0 rfl, blk_at (kX.block _ _ HNW.out (fun x => x.elim)) 1 rfl⟩
                  obtain ⟨s00, s01⟩ := SS W (Kept.refl _ _)
                  refine wp_region_any (by kernel_rfl) ?_
                  (try (change wpAny _ _ _ _ _ _ _ (World.drew _)))
                  refine wpAny_ready (rs := [0]) (by kernel_rfl) (by simp) ?_
                  refine AllReady.cons rfl (fun K hK => ?_) AllReady.nil
                  go_simp
                  refine hK _ _ ?_
                  clear hK K
                  refine wpAny_ready (rs := [1]) (by kernel_rfl) (by simp) ?_
                  refine AllReady.cons rfl (fun K hK => ?_) AllReady.nil
                  go_simp
                  go_wp2_with fail
                  go_fit IP
                  rintro e wa ⟨rfl, ka⟩
                  have Ka : Hid (Kept Nil W wa) := KD.out.trans ka
                  obtain ⟨sa0, sa1⟩ := SS wa Ka.out
                  clear ka
                  dsimp only
                  refine hK _ _ ?_
                  clear hK K
                  refine wpAny_ready (rs := [2]) (by kernel_rfl) (by simp) ?_
                  refine AllReady.cons rfl (fun K hK => ?_) AllReady.nil
                  go_simp
                  refine hK _ _ ?_
                  clear hK K
                  refine wpAny_ready (rs := [3]) (by kernel_rfl) (by simp) ?_
                  refine AllReady.cons rfl (fun K hK => ?_) AllReady.nil
                  go_simp
                  refine hK _ _ ?_
                  clear hK K
                  refine wpAny_ready (rs := [4]) (by kernel_rfl) (by simp) ?_
                  refine AllReady.cons rfl (fun K hK => ?_) AllReady.nil
                  go_simp
                  refine hK _ _ ?_
                  clear hK K
                  refine wpAny_ready (rs := [5]) (by kernel_rfl) (by simp) ?_
                  refine AllReady.cons rfl (fun K hK => ?_) AllReady.nil
                  go_simp
                  refine hK _ _ ?_
                  clear hK K
                  refine wpAny_ready (rs := [6]) (by kernel_rfl) (by simp) ?_
                  refine AllReady.cons rfl (fun K hK => ?_) AllReady.nil
                  go_simp
                  refine hK _ _ ?_
                  clear hK K
                  refine wpAny_take (i := 7) (v := undef) rfl (by kernel_rfl) (by kernel_rfl) (by kernel_rfl) (fun _ _ _ h => h) (Or.inr ⟨by kernel_rfl, rfl⟩) ?_
                  refine wpAny_take (i := 8) (v := undef) rfl (by kernel_rfl) (by kernel_rfl) (by kernel_rfl) (fun _ _ _ h => h) (Or.inr ⟨by kernel_rfl, rfl⟩) ?_
                  refine wpAny_take (i := 9) (v := undef) rfl (by kernel_rfl) (by kernel_rfl) (by kernel_rfl) (fun _ _ _ h => h) (Or.inr ⟨by kernel_rfl, rfl⟩) ?_
                  refine wpAny_take (i := 10) (v := undef) rfl (by kernel_rfl) (by kernel_rfl) (by kernel_rfl) (fun _ _ _ h => h) (Or.inr ⟨by kernel_rfl, rfl⟩) ?_
                  refine wpAny_take (i := 11) (v := undef) rfl (by kernel_rfl) (by kernel_rfl) (by kernel_rfl) (fun _ _ _ h => h) (Or.inr ⟨by kernel_rfl, rfl⟩) ?_
                  refine wpAny_take (i := 12) (v := undef) rfl (by kernel_rfl) (by kernel_rfl) (by kernel_rfl) (fun _ _ _ h => h) (Or.inr ⟨by kernel_rfl, rfl⟩) ?_
                  refine wpAny_take (i := 13) (v := undef) rfl (by kernel_rfl) (by kernel_rfl) (by kernel_rfl) (fun _ _ _ h => h) (Or.inr ⟨by kernel_rfl, rfl⟩) ?_
                  refine wpAny_take (i := 14) (v := undef) rfl (by kernel_rfl) (by kernel_rfl) (by kernel_rfl) (fun _ _ _ h => h) (Or.inr ⟨by kernel_rfl, rfl⟩) ?_
                  refine wpAny_take (i := 15) (v := undef) rfl (by kernel_rfl) (by kernel_rfl) (by kernel_rfl) (fun _ _ _ h => h) (Or.inr ⟨by kernel_rfl, rfl⟩) ?_
                  refine wpAny_ready (rs := [16]) (by kernel_rfl) (by simp) ?_
                  refine AllReady.cons rfl (fun K hK => ?_) AllReady.nil
                  go_simp
                  refine hK _ _ ?_
                  clear hK K
                  refine wpAny_ready (rs := [17]) (by kernel_rfl) (by simp) ?_
                  refine AllReady.cons rfl (fun K hK => ?_) AllReady.nil
                  go_simp
                  refine hK _ _ ?_
                  clear hK K
                  refine wpAny_done (by kernel_rfl) ?_ _
                  go_wp2
                  go_roundw
                  case rel => exact ⟨k + 1, by omega, by go_num, HSe.out.next hlt (by rw [← HY.out]; exact HX.out.symm) HNX.out, HOW.out.keptX Ka.out (fun _ _ _ x => x.elim), (HKr.out.trans KW.out).trans Ka.out⟩
                  case measure => simp [intOf]; omega
                · obtain ⟨m, rfl⟩ : ∃ m, k = m + 1 := ⟨k - 1, by omega⟩
                  have hk0 : decide (0 < m + 1) = true := decide_eq_true (by omega)
                  obtain ⟨v, HVe⟩ : ∃ v : Pt, Hid (v = qs[m]) := ⟨qs[m], (rfl : qs[m] = qs[m])⟩
                  have hsub : IntKind.i64.wrap ((m : Int) + 1 - 1) = (m : Int) := by rw [IntKind.wrap_i64]; omega
                  have hsub3 : IntKind.i64.wrap (((m + 1 : Nat) : Int) - 1) = (m : Int) := by rw [IntKind.wrap_i64]; omega
                  have hsub4 : IntKind.i64.wrap (m : Int) = (m : Int) := by rw [IntKind.wrap_i64]; omega
                  have hk1 : m < qs.length := by omega
                  have hk2 : (0 : Int) ≤ (m : Int) := by omega
                  have hk3 : (m : Int) < (qs.length : Int) := by omega
                  have SS : ∀ X, Kept Nil W X → X.cell? ⟨N, 0, none⟩ = some (.string (bs y.k)) ∧ X.cell? ⟨N, 1, none⟩ = some (.int .i64 y.a) ∧ X.cell? ⟨g, m * 2, none⟩ = some (.string (bs v.k)) := fun X kX => by
                    obtain ⟨a', ea, _, p0, p1⟩ := (HOW.out.keptX kX (fun _ _ _ x => x.elim)).row m (by omega)
                    cases ea
                    rw [← HVe.out, Addr.add_lit, Nat.zero_add] at p0
                    exact ⟨blk_at (kX.block _ _ HNW.out (fun x => x.elim)) 0 rfl, blk_at (kX.block _ _ HNW.out (fun x => x.elim)) 1 rfl, p0⟩
                  have s0 := SS W (Kept.refl _ _)
                  obtain ⟨q, HQ⟩ : ∃ q : Bool, Hid (q = decide (v.k = y.k)) := ⟨_, rfl⟩
                  have hq : ((bs v.k).toList == (bs y.k).toList) = q := by rw [bs_toList, bs_toList, HQ.out, Bool.eq_iff_iff]; simp
                  go_region_held3 (fun w' => w'.cell? ⟨N, 0, none⟩ = some (.string (bs y.k)) ∧ w'.cell? ⟨N, 1, none⟩ = some (.int .i64 y.a) ∧ w'.cell? ⟨g, m * 2, none⟩ = some (.string (bs v.k))) (first | assumption | go_keep) (first | (go_at_call 47; go_must (go_fit IP; rintro e wa ⟨rfl, ka⟩; have Ka : Hid (Kept Nil W wa) := KD.out.trans ka; have sa := SS wa Ka.out)))
                  all_goals
                    cases q with
                    | true =>
                      have HB : Hid (¬ NewGood id ps) := bad_twice HPM.out hlt (by omega) (by
                        have h1 := of_decide_eq_true HQ.out.symm
                        rw [HVe.out, HY.out] at h1
                        exact h1)
                      have HF : Hid (NewPost w id ps (.returned (.tuple #[.pointer none, .int .i64 22])) wa) := .inl ⟨HB.out, rfl, (HKr.out.trans KW.out).trans Ka.out⟩
                      go_wp2
                      go_ret2
                      exact HF.out
                    | false =>
                      have HNX : Hid (0 < m + 1 → qs[m + 1 - 1].k ≠ qs[m + 1].k) := fun _ e => by
                        have h1 := of_decide_eq_false HQ.out.symm
                        rw [HVe.out, HY.out] at h1
                        exact h1 e
                      go_wp2
                      go_roundw
                      case rel => exact ⟨m + 1 + 1, by omega, by go_num, HSe.out.next hlt (by rw [← HY.out]; exact HX.out.symm) HNX.out, HOW.out.keptX Ka.out (fun _ _ _ x => x.elim), (HKr.out.trans KW.out).trans Ka.out⟩
                      case measure => simp [intOf]; omega
            · obtain rfl : k = qs.length := by omega
              obtain ⟨hgood, hrise⟩ := HGD.out HSe.out
              obtain ⟨n, rfl⟩ : ∃ n : Nat, id = n := ⟨id.toNat, by omega⟩
              obtain ⟨V, hV⟩ : ∃ V, V = wr.alloc (.cells #[.int .i64 n, .slice (some ⟨g, 0, none⟩) qs.length c1', .int .i64 1, .slice none 0 0, .int .i64 0, .int .i64 0, .int .i64 0, .int .i64 0, .int .i64 0, .int .i64 0, .bool false, .int .i64 0] 106) := ⟨_, rfl⟩
              have HF : Hid (NewPost w n ps (.returned (.tuple #[.pointer (some ⟨wr.heap.size, 0, none⟩), .int .i64 0])) V) := by
                refine .inr ⟨hgood, qs, wr.heap.size, some ⟨g, 0, none⟩, c1', HPM.out, hrise, rfl, ?_, ?_, HKr.out.size, ?_⟩
                · rw [hV]; exact blk_new _ _
                · rw [hV]; exact HOr.out.keptX ((Kept.refl Nil _).alloc _) (fun _ _ _ x => x.elim)
                · rw [hV]; exact HKr.out.alloc _
              clear hgood hrise
              go_wp2
              rw [← hV]
              go_ret2
              exact HF.out
end Go.Proofs.YtflnjlbafchnaaaGreatDoor
