/-
  Any operation on a draft; a row cloned; what comes of a draft.
-/
import Derived.Test.YtijklginabipgaaWChg5
import Derived.Test.YtijklginabipgaaWChgE
import Derived.Test.YtijklginabipgaaWChg6
import Derived.Test.YtijklginabipgaaWChg7
import Derived.Test.YtijklginabipgaaWChg8
namespace Go.Proofs.Ytijklginabipgaa
open Go.RowKit

theorem do_any (w0 : World) (bd c1 c2 c3 : Nat) (a1 a2 a3 : Option Addr) (v nx le : List Int) (kd nd : Int) (w : World) (h : Drf w0 bd a1 a2 a3 c1 c2 c3 v nx le w) (hd : Dr v nx le) :
    Calls Try.prog 64 #[.pointer (some ⟨bd, 0, none⟩), .agg #[.int .i64 kd, .int .i64 nd]] w (DoPost w0 bd a1 c1 v nx le kd nd w) := by
  cases hn : isNd nd with
  | false => exact do_none w0 bd c1 c2 c3 a1 a2 a3 v nx le nd kd w h hd hn
  | true =>
    by_cases k1 : kd = 1
    · subst k1
      cases hx : hasZ nx nd with
      | false => exact do_add w0 bd c1 c2 c3 a1 a2 a3 v nx le nd w h hd hn hx
      | true => exact do_there w0 bd c1 c2 c3 a1 a2 a3 v nx le nd w h hd hn hx
    · by_cases k2 : kd = 2
      · subst k2
        cases hx : hasZ nx nd with
        | true => exact do_votes w0 bd c1 c2 c3 a1 a2 a3 v nx le nd w h hd hn hx
        | false =>
          cases hy : hasZ le nd with
          | true => exact do_learns w0 bd c1 c2 c3 a1 a2 a3 v nx le nd w h hd hn hx hy
          | false =>
            cases hv : hasZ v nd with
            | true => exact do_old w0 bd c1 c2 c3 a1 a2 a3 v nx le nd w h hd hn hx hy hv
            | false => exact do_learn w0 bd c1 c2 c3 a1 a2 a3 v nx le nd w h hd hn hx hy hv
      · by_cases k3 : kd = 3
        · subst k3
          cases hx : hasZ nx nd with
          | true => exact do_gone w0 bd c1 c2 c3 a1 a2 a3 v nx le nd w h hd hn hx
          | false =>
            cases hy : hasZ le nd with
            | true => exact do_gone2 w0 bd c1 c2 c3 a1 a2 a3 v nx le nd w h hd hn hx hy
            | false => exact do_away w0 bd c1 c2 c3 a1 a2 a3 v nx le nd w h hd hn hx hy
        · exact do_other w0 bd c1 c2 c3 a1 a2 a3 v nx le nd kd w h hd hn k1 k2 k3

/-! ### a row cloned -/
def ClPost (w : World) (zs : List Int) (e : Ending) (w' : World) : Prop := ∃ ao c, e = .returned (.slice ao zs.length c) ∧ OwnInts w.heap.size w' ao c zs ∧ Kept Nil w w'
theorem own_shapeI {B n : Nat} {w : World} {v : Value} {zs : List Int} (h : w.ownsRow B 3 1 v n (zs.map (Value.int .i64))) : ∃ ao c, v = .slice ao zs.length c ∧ OwnInts B w ao c zs := by
  have hn : n = zs.length := by have := h.1; simp at this; omega
  subst hn
  rcases h.2 with ⟨h1, h0⟩ | ⟨g, cap, cur, h1, _⟩
  · exact ⟨none, 0, by rw [h1, h0], by rw [h1] at h; unfold OwnInts; rw [h0] at h ⊢; exact h⟩
  · exact ⟨_, _, h1, by rw [h1] at h; exact h⟩
theorem clone_any (B c : Nat) (ao : Option Addr) (zs : List Int) (w : World) (h : OwnInts B w ao c zs) (hs : zs.length * 8 ≤ 140737488355328) : Calls Try.prog 63 #[.slice ao zs.length c] w (ClPost w zs) := by
  rcases h.2 with ⟨h1, h0⟩ | ⟨g, cap, cur, h1, hbg, hg, hnc, hcm, hcs, ht⟩
  · simp only [Value.slice.injEq] at h1
    obtain ⟨rfl, _, rfl⟩ := h1
    obtain rfl : zs = [] := List.length_eq_zero_iff.1 h0
    refine (Try.slices_Clone_int_nil 0 0 w).mono ?_
    rintro e w' ⟨rfl, rfl⟩
    exact ⟨none, 0, rfl, World.ownsRow_nil _ _ _ _, Kept.refl _ _⟩
  · simp only [Value.slice.injEq] at h1
    obtain ⟨rfl, _, rfl⟩ := h1
    by_cases hz : zs = []
    · subst hz
      refine (Try.slices_Clone_int_zero ⟨g, 0, none⟩ c w).mono ?_
      rintro e w' ⟨v', rfl, ho, _, hbl⟩
      obtain ⟨ao', c', rfl, ho'⟩ := own_shapeI (zs := []) ho
      exact ⟨ao', c', rfl, ho', Kept.ofBelow hbl _⟩
    · rw [Nat.mul_one] at ht
      have C := Try.slices_Clone_int g 0 zs.length c zs w (Nat.le_refl _) hs (fun j hj => by
        rw [Nat.zero_add, blk_cell hg j]
        have := congrArg (fun l => l[j]?) ht
        simp only [List.getElem?_take, if_pos hj, Array.getElem?_toList] at this
        rw [this]
        simp [hj, List.getD_eq_getElem?_getD])
      rw [List.take_length] at C
      refine C.mono ?_
      rintro e w' ⟨v', rfl, ho, _, hbl⟩
      obtain ⟨ao', c', rfl, ho'⟩ := own_shapeI ho
      exact ⟨ao', c', rfl, ho', Kept.ofBelow hbl _⟩

/-! ### what comes of it -/
theorem OwnInts.kept {B c : Nat} {w w' : World} {ao : Option Addr} {zs : List Int} (h : OwnInts B w ao c zs) (hk : Kept Nil w w') : OwnInts B w' ao c zs := own_kept h hk (fun _ _ _ x => x.elim)
/-- Three rows of one's own, apart from each other. -/
structure Own3 (B : Nat) (a1 a2 a3 : Option Addr) (c1 c2 c3 : Nat) (v n l : List Int) (w : World) : Prop where
  o1 : OwnInts B w a1 c1 v
  o2 : OwnInts B w a2 c2 n
  o3 : OwnInts B w a3 c3 l
  d12 : ∀ g, (Value.slice a1 v.length c1).ownBlock = some g → (Value.slice a2 n.length c2).ownBlock ≠ some g
  d13 : ∀ g, (Value.slice a1 v.length c1).ownBlock = some g → (Value.slice a3 l.length c3).ownBlock ≠ some g
  d23 : ∀ g, (Value.slice a2 n.length c2).ownBlock = some g → (Value.slice a3 l.length c3).ownBlock ≠ some g
theorem Own3.grown {B : Nat} {a1 a2 a3 : Option Addr} {c1 c2 c3 : Nat} {v n l : List Int} {w w' : World} (h : Own3 B a1 a2 a3 c1 c2 c3 v n l w) (hk : Kept Nil w w') : Own3 B a1 a2 a3 c1 c2 c3 v n l w' :=
  ⟨own_kept h.o1 hk (fun _ _ _ x => x.elim), own_kept h.o2 hk (fun _ _ _ x => x.elim), own_kept h.o3 hk (fun _ _ _ x => x.elim), h.d12, h.d13, h.d23⟩
theorem Own3.rows {B : Nat} {a1 a2 a3 : Option Addr} {c1 c2 c3 : Nat} {v n l : List Int} {w : World} (h : Own3 B a1 a2 a3 c1 c2 c3 v n l w) : CfRows w.heap.size w a1 a2 a3 v n l := ⟨h.o1.row, h.o2.row, h.o3.row⟩
/-- What comes of a draft. -/
def begEnd (v : List Int) : Option (List Int × List Int) → Except Int (List Int × List Int × List Int)
  | none => .error 8
  | some r => if r.1.length = 0 then .error 8 else .ok (v, if v = r.1 then [] else r.1, r.2)
/-- A change's beginning, plainly: an error, or the three rows. -/
def begZ (v n l : List Int) (ops : List (Int × Int)) : Except Int (List Int × List Int × List Int) :=
  if isCfg v n l = false then .error 8
  else if 0 < n.length then .error 9
  else if ops.length = 0 ∨ 6 < ops.length then .error 4
  else begEnd v (doAll v ops v l)
def BegPost (w : World) (r : Except Int (List Int × List Int × List Int)) (e : Ending) (w' : World) : Prop :=
  (∃ c, r = .error c ∧ e = .returned (.tuple #[.agg #[.slice none 0 0, .slice none 0 0, .slice none 0 0], .int .i64 c]) ∧ Kept Nil w w') ∨
  ∃ v n l, r = .ok (v, n, l) ∧ ∃ a1 a2 a3 c1 c2 c3, e = .returned (.tuple #[.agg #[.slice a1 v.length c1, .slice a2 n.length c2, .slice a3 l.length c3], .int .i64 0]) ∧ Own3 w.heap.size a1 a2 a3 c1 c2 c3 v n l w' ∧ Kept Nil w w'
theorem doAll_snoc {v : List Int} : ∀ {os : List (Int × Int)} {o : Int × Int} {nx le : List Int}, doAll v (os ++ [o]) nx le = match doAll v os nx le with | none => none | some r => doZ v r.1 r.2 o.1 o.2
  | [], o, nx, le => by
    simp only [List.nil_append, doAll]
    cases doZ v nx le o.1 o.2 <;> rfl
  | p :: os, o, nx, le => by
    simp only [List.cons_append, doAll]
    cases doZ v nx le p.1 p.2 with
    | none => rfl
    | some r => exact doAll_snoc
theorem doAll_none {v : List Int} : ∀ {os qs : List (Int × Int)} {nx le : List Int}, doAll v os nx le = none → doAll v (os ++ qs) nx le = none
  | [], qs, nx, le, h => by simp [doAll] at h
  | p :: os, qs, nx, le, h => by
    simp only [List.cons_append, doAll] at h ⊢
    cases hz : doZ v nx le p.1 p.2 with
    | none => rfl
    | some r =>
      rw [hz] at h
      exact doAll_none h
theorem doAll_at {v : List Int} {os : List (Int × Int)} {nx le a b : List Int} {k : Nat} (hk : k < os.length) (h : doAll v (os.take k) nx le = some (a, b)) : doAll v (os.take (k + 1)) nx le = doZ v a b os[k].1 os[k].2 := by
  rw [List.take_succ_eq_append_getElem hk, doAll_snoc, h]
theorem doAll_stop {v : List Int} {os : List (Int × Int)} {nx le a b : List Int} {k : Nat} (hk : k < os.length) (h : doAll v (os.take k) nx le = some (a, b)) (hz : doZ v a b os[k].1 os[k].2 = none) : doAll v os nx le = none := by
  have h1 := (doAll_at hk h).trans hz
  have := doAll_none (qs := os.drop (k + 1)) h1
  rwa [List.take_append_drop] at this

set_option maxRecDepth 100000 in
set_option maxHeartbeats 2000000 in
theorem dconfig_any (w0 : World) (bd c1 c2 c3 : Nat) (a1 a2 a3 : Option Addr) (v nx le : List Int) (w : World) (h : Drf w0 bd a1 a2 a3 c1 c2 c3 v nx le w) (hd : Dr v nx le) :
    Calls Try.prog 65 #[.pointer (some ⟨bd, 0, none⟩)] w fun e w' => ∃ x2 y2, e = .returned (.agg #[.slice a1 v.length c1, .slice x2 (if v = nx then [] else nx).length y2, .slice a3 le.length c3]) ∧ Own3 w0.heap.size a1 x2 a3 c1 y2 c3 v (if v = nx then [] else nx) le w' ∧ Kept Nil w0 w' := by
  have hlen := hd.len
  have HD : Hid (Drf w0 bd a1 a2 a3 c1 c2 c3 v nx le w) := h
  obtain ⟨W, hW⟩ : ∃ W, W = w.alloc (.cells #[.slice none 0 0, .slice none 0 0, .slice none 0 0] 24) := ⟨_, rfl⟩
  have HW : Hid (Drf w0 bd a1 a2 a3 c1 c2 c3 v nx le W) := by rw [hW]; exact h.grown (grown_alloc (grown_refl _ _) _)
  have HR : Hid (W.heap[w.heap.size]? = some (.cells #[.slice none 0 0, .slice none 0 0, .slice none 0 0] 24 (0, 0))) := by rw [hW]; exact blk_new _ _
  have SE := fun m => slEqualQ_any _ _ c1 c2 a1 a2 v nx (W.drewN m) ((HW.out.o1.row).nil ((Kept.refl _ _).drewN _)) ((HW.out.o2.row).nil ((Kept.refl _ _).drewN _)) (by omega) (by omega)
  have q0 : W.cell? ⟨bd, 0, none⟩ = some (.slice a1 v.length c1) := blk_at HW.out.blk 0 rfl
  have q1 : W.cell? ⟨bd, 1, none⟩ = some (.slice a2 nx.length c2) := blk_at HW.out.blk 1 rfl
  have q2 : W.cell? ⟨bd, 2, none⟩ = some (.slice a3 le.length c3) := blk_at HW.out.blk 2 rfl
  have HZ : Hid (w0.heap.size ≤ w.heap.size) := h.kp.size
  have HX : Hid (∀ (x : World) (u0 u1 u2 : Value), Kept Nil W x → Kept Nil w0 (((x.setCell ⟨w.heap.size, 0, none⟩ u0).setCell ⟨w.heap.size, 1, none⟩ u1).setCell ⟨w.heap.size, 2, none⟩ u2) ∧ Own3 w0.heap.size a1 a2 a3 c1 c2 c3 v nx le (((x.setCell ⟨w.heap.size, 0, none⟩ u0).setCell ⟨w.heap.size, 1, none⟩ u1).setCell ⟨w.heap.size, 2, none⟩ u2)) := fun x u0 u1 u2 hx => by
    have hk := HW.out.kp.trans hx
    refine ⟨((hk.setNew HZ.out _).setNew HZ.out _).setNew HZ.out _, ?_⟩
    have hn : ∀ {ao c zs}, OwnInts w0.heap.size w ao c zs → OwnInts w0.heap.size W ao c zs → OwnInts w0.heap.size (((x.setCell ⟨w.heap.size, 0, none⟩ u0).setCell ⟨w.heap.size, 1, none⟩ u1).setCell ⟨w.heap.size, 2, none⟩ u2) ao c zs := fun {ao c zs} ho hoW => by
      have hne : (Value.slice ao zs.length c).ownBlock ≠ some w.heap.size := fun e => by have := (World.ownsRow.lt ho _ e).2; omega
      exact own_setNe (own_setNe (own_setNe (own_kept hoW hx (fun _ _ _ x => x.elim)) hne _) hne _) hne _
    exact ⟨hn HD.out.o1 HW.out.o1, hn HD.out.o2 HW.out.o2, hn HD.out.o3 HW.out.o3, HD.out.d12, HD.out.d13, HD.out.d23⟩
  clear h hd
  obtain ⟨n', HN⟩ : ∃ n', Hid (n' = if v = nx then [] else nx) := ⟨_, rfl⟩
  rw [← HN.out]
  by_cases hv : v = nx
  · have HV : Hid (n' = []) := HN.out.trans (if_pos hv)
    rw [decide_eq_true hv] at SE
    clear hv HN
    go_enter Try.func65, Try.ntmps65
    go_wp2
    rw [← hW]
    clear hW
    go_quiet (first | (go_at_call 122; exact Calls.quiet_of (SE _)))
    generalize hwd : W.drewN _ = wd
    have HKd : Hid (Kept Nil W wd) := by rw [← hwd]; exact (Kept.refl _ _).drewN _
    have HRd : Hid (wd.heap[w.heap.size]? = some (.cells #[.slice none 0 0, .slice none 0 0, .slice none 0 0] 24 (0, 0))) := by rw [← hwd]; exact HR.out
    have q0 : wd.cell? ⟨bd, 0, none⟩ = some (.slice a1 v.length c1) := by rw [← hwd]; exact q0
    have q1 : wd.cell? ⟨bd, 1, none⟩ = some (.slice a2 nx.length c2) := by rw [← hwd]; exact q1
    have q2 : wd.cell? ⟨bd, 2, none⟩ = some (.slice a3 le.length c3) := by rw [← hwd]; exact q2
    have g0 : wd.cell? ⟨w.heap.size, 0, none⟩ = some (.slice none 0 0) := blk_at HRd.out 0 rfl
    have g1 : wd.cell? ⟨w.heap.size, 1, none⟩ = some (.slice none 0 0) := blk_at HRd.out 1 rfl
    have g2 : wd.cell? ⟨w.heap.size, 2, none⟩ = some (.slice none 0 0) := blk_at HRd.out 2 rfl
    have f0 : wd.frozen? ⟨w.heap.size, 0, none⟩ = false := blk_free HRd.out 0
    have f1 : wd.frozen? ⟨w.heap.size, 1, none⟩ = false := blk_free HRd.out 1
    have f2 : wd.frozen? ⟨w.heap.size, 2, none⟩ = false := blk_free HRd.out 2
    clear hwd SE HR
    go_wp2
    go_region
    all_goals
      go_wp2
      refine bodyPost_ret (v := .agg #[.slice a1 v.length c1, .slice none 0 0, .slice a3 le.length c3]) (by simp [results, Try.results65, go_sem, g0, g1, g2]) rfl ?_
      obtain ⟨k1, k2⟩ := HX.out wd (.slice a1 v.length c1) (.slice none 0 0) (.slice a3 le.length c3) HKd.out
      refine ⟨none, 0, by rw [HV.out]; rfl, ?_, k1.drew⟩
      rw [HV.out]
      have k2 := k2.grown (Kept.refl _ _).drew
      exact ⟨k2.o1, World.ownsRow_nil _ _ _ _, k2.o3, fun g _ h => by simp [Value.ownBlock] at h, k2.d13, fun g h => by simp [Value.ownBlock] at h⟩
  · have HV : Hid (n' = nx) := HN.out.trans (if_neg hv)
    rw [decide_eq_false hv] at SE
    clear hv HN
    go_enter Try.func65, Try.ntmps65
    go_wp2
    rw [← hW]
    clear hW
    go_quiet (first | (go_at_call 122; exact Calls.quiet_of (SE _)))
    generalize hwd : W.drewN _ = wd
    have HKd : Hid (Kept Nil W wd) := by rw [← hwd]; exact (Kept.refl _ _).drewN _
    have HRd : Hid (wd.heap[w.heap.size]? = some (.cells #[.slice none 0 0, .slice none 0 0, .slice none 0 0] 24 (0, 0))) := by rw [← hwd]; exact HR.out
    have q0 : wd.cell? ⟨bd, 0, none⟩ = some (.slice a1 v.length c1) := by rw [← hwd]; exact q0
    have q1 : wd.cell? ⟨bd, 1, none⟩ = some (.slice a2 nx.length c2) := by rw [← hwd]; exact q1
    have q2 : wd.cell? ⟨bd, 2, none⟩ = some (.slice a3 le.length c3) := by rw [← hwd]; exact q2
    have g0 : wd.cell? ⟨w.heap.size, 0, none⟩ = some (.slice none 0 0) := blk_at HRd.out 0 rfl
    have g1 : wd.cell? ⟨w.heap.size, 1, none⟩ = some (.slice none 0 0) := blk_at HRd.out 1 rfl
    have g2 : wd.cell? ⟨w.heap.size, 2, none⟩ = some (.slice none 0 0) := blk_at HRd.out 2 rfl
    have f0 : wd.frozen? ⟨w.heap.size, 0, none⟩ = false := blk_free HRd.out 0
    have f1 : wd.frozen? ⟨w.heap.size, 1, none⟩ = false := blk_free HRd.out 1
    have f2 : wd.frozen? ⟨w.heap.size, 2, none⟩ = false := blk_free HRd.out 2
    clear hwd SE HR
    go_wp2
    go_region
    all_goals
      go_wp2
      refine bodyPost_ret (v := .agg #[.slice a1 v.length c1, .slice a2 nx.length c2, .slice a3 le.length c3]) (by simp [results, Try.results65, go_sem, g0, g1, g2]) rfl ?_
      obtain ⟨k1, k2⟩ := HX.out wd (.slice a1 v.length c1) (.slice a2 nx.length c2) (.slice a3 le.length c3) HKd.out
      refine ⟨a2, c2, by rw [HV.out], ?_, k1.drew⟩
      rw [HV.out]
      exact k2.grown (Kept.refl _ _).drew

end Go.Proofs.Ytijklginabipgaa
