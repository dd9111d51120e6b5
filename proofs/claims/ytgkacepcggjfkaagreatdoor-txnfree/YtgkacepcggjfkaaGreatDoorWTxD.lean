/-
  Transactions: parts sorted by the library.
-/
import Derived.Test.YtgkacepcggjfkaaGreatDoorWTxC
import Derived.Sort.OwnSortedInts
import Derived.Shelf.SlSortCmp.SmallK
namespace Go.Proofs.YtgkacepcggjfkaaGreatDoor
open Go.RowKit Go.Sort Go.Shelf

instance : Inhabited Pt := ⟨⟨[], 0⟩⟩
def encP (p : Pt) : List Value := [.string (bs p.k), .int .i64 p.a]
def cfP (x y : Pt) : Int := cmpB x.k y.k
theorem ltP (x y : Pt) : ltOf cfP x y = lessB x.k y.k := by
  unfold ltOf cfP
  have := (cmp_less x.k y.k).1
  cases h : lessB x.k y.k with
  | true => rw [decide_eq_true (this.2 h)]
  | false => rw [decide_eq_false (fun e => by rw [this.1 e] at h; cases h)]
theorem swoP : SWO (ltOf cfP) where
  irrefl x := by rw [ltP]; exact less_irrefl _
  trans x y z h1 h2 := by rw [ltP] at *; exact less_trans h1 h2
  ntrans x y z h1 h2 := by
    rw [ltP] at *
    cases h : lessB x.k z.k with
    | false => rfl
    | true =>
      by_cases e : x.k = y.k
      · rw [e] at h; rw [h2] at h; cases h
      · have hyx := less_total h1 e
        have := less_trans hyx h
        rw [h2] at this
        cases this
set_option maxHeartbeats 1000000 in
theorem closureP (x y : Pt) (W : World) : Calls Tryz.prog 45 #[.agg #[.string (bs x.k), .int .i64 x.a], .agg #[.string (bs y.k), .int .i64 y.a]] W fun e w' => e = .returned (.int .i64 (cfP x y)) ∧ ∃ q os', w' = grow (W.drewN q) os' := by
  have CM := fun X => compare_any x.k y.k X
  obtain ⟨r, HR⟩ : ∃ r, Hid (r = cmpB x.k y.k) := ⟨_, rfl⟩
  rw [← HR.out] at CM
  rw [show cfP x y = r from HR.out.symm]
  go_enter Tryz.func45, Tryz.ntmps45
  go_wp2_with (go_at_call 46; refine (CM _).mono ?_; rintro e w' ⟨rfl, rfl⟩)
  go_ret
  exact ⟨rfl, 0, _, by rw [alloc_eq_grow, alloc_eq_grow, grow_grow]; rfl⟩
theorem flat_pt (qs : List Pt) : (flatK encP 2 qs.toArray).toList = ptCells qs := by
  apply List.ext_getElem?
  intro j
  by_cases hj : j < qs.length * 2
  · have h1 : (flatK encP 2 qs.toArray).toList[j]? = some ((flatK encP 2 qs.toArray)[j]!) := by
      rw [Array.getElem?_toList, getElem!_pos _ j (by simpa using hj), Array.getElem?_eq_getElem (by simpa using hj)]
    rw [h1, get_flatK encP 2 qs.toArray j (by simpa using hj)]
    obtain ⟨e1, e2⟩ := ptCells_at qs (j / 2) (by omega)
    have hg : (qs.toArray)[j / 2]! = qs[j / 2] := by
      rw [getElem!_pos _ (j / 2) (by simp; omega)]
      simp
    rw [hg]
    rcases (show j % 2 = 0 ∨ j % 2 = 1 by omega) with e | e
    · have : j = j / 2 * 2 := by omega
      rw [e]
      conv => rhs; rw [this]
      rw [e1]
      rfl
    · have : j = j / 2 * 2 + 1 := by omega
      rw [e]
      conv => rhs; rw [this]
      rw [e2]
      rfl
  · rw [List.getElem?_eq_none (by simp; omega), List.getElem?_eq_none (by rw [ptCells_len]; omega)]
def SrtT (qs : List Pt) : Prop := ∀ i j, (hi : i < j) → (hj : j < qs.length) → lessB qs[j].k qs[i].k = false
set_option maxRecDepth 100000 in
theorem sortT_any (B c g : Nat) (ps : List Pt) (w : World) (h : OwnT B w (some ⟨g, 0, none⟩) c ps) (hl : ps.length ≤ 12) :
    Calls Tryz.prog 44 #[.slice (some ⟨g, 0, none⟩) ps.length c, .func (.func 45) #[] #[]] w fun e w' => e = .returned (.tuple #[]) ∧ ∃ qs, qs.Perm ps ∧ SrtT qs ∧ OwnT B w' (some ⟨g, 0, none⟩) c qs ∧ Kept (One g) w w' := by
  rcases h.2 with ⟨h1, _⟩ | ⟨g', cap, cur, hv, hb, hh, h1, h2, h3, h4⟩
  · simp at h1
  · simp only [Value.slice.injEq] at hv
    obtain ⟨hv1, _, rfl⟩ := hv
    cases hv1
    have eg : ∀ args w, (callFunc 45 args).run Tryz.prog w = .ok (.enter 45 args) w := enters_of Tryz.func45 (by kernel_rfl) rfl
    have hH : HoldsK encP 2 w g 0 ps.toArray := by
      intro j hj
      have hj' : j < ps.length * 2 := by simpa using hj
      refine ⟨?_, by simp [World.frozen?, hh]⟩
      have hfl : (flatK encP 2 ps.toArray)[j]? = (ptCells ps)[j]? := by rw [← Array.getElem?_toList, flat_pt]
      have hc := congrArg (fun l : List Value => l[j]?) h4
      simp only [List.getElem?_take, if_pos hj', Array.getElem?_toList] at hc
      rw [blk_cell hh, Nat.zero_add, hc, ← hfl, Array.getElem?_eq_getElem (by simpa using hj'), getElem!_pos _ j (by simpa using hj')]
      rfl
    have con := AnyQ.slices_SortFunc_small_sorted Tryz.sortP 2 Tryz.isAgg29 Tryz.sizeOf29 encP (fun _ => rfl) (fun x v hv => by simp [encP] at hv; rcases hv with rfl | rfl <;> rfl) cfP 45 #[] swoP g 0 c ps.toArray w eg (fun m os dk _ x y => closureP x y _) hH (lt_of_block hh) (by simpa using hl)
      (fun n W hn => (Tryz.bits_Len n W (by omega) (by omega)).mono (by rintro e w' ⟨rfl, rfl⟩; exact ⟨⟨_, rfl⟩, rfl⟩))
    have con' : Calls Tryz.prog 44 #[.slice (some ⟨g, 0, none⟩) ps.length c, .func (.func 45) #[] #[]] w fun e w' => e = .returned (.tuple #[]) ∧ ∃ d' n os, PermIn 0 ps.toArray.size ps.toArray d' ∧ SortedIn (ltOf cfP) 0 ps.toArray.size d' ∧ w' = sortWorldK encP 2 w g 0 n d' os := con
    refine con'.mono ?_
    rintro e w' ⟨rfl, d', n, os, ⟨hp1, _, hp3⟩, hs, rfl⟩
    have hsz : d'.size = ps.length := by simpa using hp1
    have hperm : d'.toList.Perm ps := by
      have e1 : d'.extract 0 ps.toArray.size = d' := by
        apply Array.ext'
        simp
        exact List.take_of_length_le (by simp [hsz])
      rw [e1] at hp3
      simpa using hp3
    refine ⟨rfl, d'.toList, hperm, ?_, ?_, ?_⟩
    · intro i j hi hj
      have hj' : j < d'.size := by simpa using hj
      have := hs i j (Nat.zero_le _) hi (by simpa [hsz] using hj')
      rw [ltP, getElem!_pos _ j hj', getElem!_pos _ i (by omega)] at this
      simpa using this
    · have hlen : d'.toList.length = ps.length := by simpa using hsz
      have hheap : (sortWorldK encP 2 w g 0 n d' os).heap[g]? = some (.cells (putCells id 0 (flatK encP 2 d') cur) 29 (0, 0)) := by
        unfold sortWorldK putRowK
        rw [heap_grow_old _ _ (by simpa using lt_of_block hh)]
        simp [putRow, mapBlock, Sort.ahead, Array.getElem?_modify, hh, onCells]
      refine ⟨by rw [ptCells_len], .inr ⟨g, c, _, rfl, hb, hheap, by rw [hlen]; exact h1, h2, by simp [putCells, h3], ?_⟩⟩
      have hfl : (flatK encP 2 d').toList = ptCells d'.toList := by
        have := flat_pt d'.toList
        simpa using this
      apply List.ext_getElem?
      intro j
      by_cases hj : j < d'.toList.length * 2
      · rw [List.getElem?_take_of_lt hj, ← hfl, Array.getElem?_toList, Array.getElem?_toList]
        have hjs : j < (flatK encP 2 d').size := by rw [size_flatK]; simpa using hj
        have hjc : j < cur.size := by rw [h3]; rw [hlen] at hj; omega
        simp only [putCells, Array.getElem?_mapIdx, Nat.zero_le, true_and, Nat.zero_add, if_pos hjs, Nat.sub_zero, id, Array.getElem?_eq_getElem hjc, Option.map_some]
        rw [getElem!_pos _ j hjs, Array.getElem?_eq_getElem hjs]
      · rw [List.getElem?_take_eq_none (by omega), List.getElem?_eq_none (by rw [ptCells_len]; omega)]
    · refine ⟨rfl, rfl, rfl, by simp [sortWorldK, putRowK], fun k x hk hne => ?_⟩
      unfold sortWorldK putRowK
      rw [heap_grow_old _ _ (by simpa using lt_of_block hk)]
      have : g ≠ k := fun e => hne e.symm
      simp [putRow, mapBlock, Sort.ahead, Array.getElem?_modify, this]
      exact hk
end Go.Proofs.YtgkacepcggjfkaaGreatDoor
