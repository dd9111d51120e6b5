/-
  Sessions: own.Table: a table in memory of its own.
-/
import Derived.Test.YtblmmbghnkplkaaWSe1
import Derived.Deep.DeepCutAuto
namespace Go.Proofs.Ytblmmbghnkplkaa
open Go.RowKit

/-- Keys of one's own, of each session. -/
def OwnKs (B : Nat) (w : World) (es : List Se) : Prop := ∀ e ∈ es, OwnK B w e.ao e.c e.s.ks
theorem OwnKs.kept {B : Nat} {w w' : World} {es : List Se} (h : OwnKs B w es) (hk : Kept Nil w w') : OwnKs B w' es := fun e he => (h e he).kept hk
/-- Between the rounds: the first k have keys of their own, the others are as they were. -/
structure Half (B : Nat) (w : World) (k : Nat) (es xs : List Se) : Prop where
  len : xs.length = es.length
  same : xs.map Se.s = es.map Se.s
  own : ∀ j, (hj : j < xs.length) → j < k → OwnK B w xs[j].ao xs[j].c xs[j].s.ks
  rest : xs.drop k = es.drop k
theorem Half.zero {B : Nat} {w : World} {es : List Se} : Half B w 0 es es := ⟨rfl, rfl, fun _ _ h => absurd h (Nat.not_lt_zero _), rfl⟩
theorem Half.kept {B k : Nat} {w w' : World} {es xs : List Se} (h : Half B w k es xs) (hk : Kept Nil w w') : Half B w' k es xs := ⟨h.len, h.same, fun j hj hjk => (h.own j hj hjk).kept hk, h.rest⟩
theorem Half.at {B k : Nat} {w : World} {es xs : List Se} (h : Half B w k es xs) (hk : k < es.length) : xs[k]'(by rw [h.len]; exact hk) = es[k] := by
  have h1 := h.rest
  rw [List.drop_eq_getElem_cons (by rw [h.len]; exact hk), List.drop_eq_getElem_cons hk] at h1
  exact (List.cons.inj h1).1
theorem Half.next {B k : Nat} {w w' : World} {es xs : List Se} (h : Half B w k es xs) (hk : k < es.length) {ao : Option Addr} {c : Nat} (ho : OwnK B w' ao c es[k].s.ks) (hw : ∀ (a : Option Addr) (d : Nat) (l : List (List UInt8)), OwnK B w a d l → OwnK B w' a d l) : Half B w' (k + 1) es (xs.set k ⟨es[k].s, ao, c⟩) := by
  have hkx : k < xs.length := by rw [h.len]; exact hk
  refine ⟨by rw [List.length_set, h.len], ?_, fun j hj hjk => ?_, ?_⟩
  · rw [List.map_set]
    apply List.ext_getElem?
    intro j
    rw [List.getElem?_set]
    split
    · rename_i e
      subst e
      rw [if_pos (by rw [List.length_map]; exact hkx), List.getElem?_map, List.getElem?_eq_getElem hk]
      rfl
    · rw [h.same]
  · by_cases e : k = j
    · subst e
      rw [List.getElem_set_self]
      exact ho
    · rw [List.getElem_set_ne e]
      exact hw _ _ _ (h.own j (by rw [List.length_set] at hj; exact hj) (by omega))
  · rw [List.drop_set_of_lt (by omega)]
    have h1 := h.rest
    rw [List.drop_eq_getElem_cons hkx, List.drop_eq_getElem_cons hk] at h1
    exact (List.cons.inj h1).2
theorem Half.all {B : Nat} {w : World} {es xs : List Se} (h : Half B w es.length es xs) : OwnKs B w xs := fun e he => by
  obtain ⟨j, hj, rfl⟩ := List.getElem_of_mem he
  exact h.own j hj (by rw [← h.len]; exact hj)

theorem own_neTyS {B size n b : Nat} {e t : TypeId} {w : World} {v : Value} {xs : List Value} {cs : Array Value} (h : w.ownsRow B e size v n xs) (hb : w.heap[b]? = some (.cells cs t (0, 0))) (hne : e ≠ t) : v.ownBlock ≠ some b := fun ee => by
  rcases h.2 with ⟨hv, _⟩ | ⟨g, cap, cur, hv, _, hh, _⟩
  · rw [hv] at ee; simp [Value.ownBlock] at ee
  · rw [hv] at ee
    simp [Value.ownBlock] at ee
    subst ee
    rw [hh] at hb
    simp at hb
    exact hne hb.2
/-- Four cells of a session put: rows of another kind are as they were. -/
theorem own_ans {B size n g o0 o1 o2 o3 : Nat} {e : TypeId} {w : World} {v x0 x1 x2 x3 : Value} {xs : List Value} {cs : Array Value} (h : w.ownsRow B e size v n xs) (hb : w.heap[g]? = some (.cells cs 121 (0, 0))) (hne : e ≠ 121) : ((((w.setCell ⟨g, o0, none⟩ x0).setCell ⟨g, o1, none⟩ x1).setCell ⟨g, o2, none⟩ x2).setCell ⟨g, o3, none⟩ x3).ownsRow B e size v n xs := by
  have h0 := ownsRow_setCell_other h (a := ⟨g, o0, none⟩) (own_neTyS h hb hne) x0
  have b0 := blk_set hb o0 x0
  have h1 := ownsRow_setCell_other h0 (a := ⟨g, o1, none⟩) (own_neTyS h0 b0 hne) x1
  have b1 := blk_set b0 o1 x1
  have h2 := ownsRow_setCell_other h1 (a := ⟨g, o2, none⟩) (own_neTyS h1 b1 hne) x2
  have b2 := blk_set b1 o2 x2
  exact ownsRow_setCell_other h2 (a := ⟨g, o3, none⟩) (own_neTyS h2 b2 hne) x3

set_option maxRecDepth 100000 in
set_option maxHeartbeats 4000000 in
theorem ownTable_any (B cp cs : Nat) (tm : Int) (ap sa : Option Addr) (ps : List Pr) (es : List Se) (w : World) (hp : PairRow B w ap ps) (hs : SeRow B w sa es) (hpn : ap = none → ps = [] ∧ cp = 0) (hsn : sa = none → es = [] ∧ cs = 0) (hlp : (ps.length : Int) ≤ 3518437208780) (hls : es.length ≤ 1759218604441) (hB : B ≤ w.heap.size) :
    Calls Try.prog 82 #[.agg #[.slice ap ps.length cp, .slice sa es.length cs, .int .i64 tm]] w fun e w' => ∃ a1 c1 a2 c2 xs, e = .returned (.agg #[.slice a1 ps.length c1, .slice a2 xs.length c2, .int .i64 tm]) ∧ xs.map Se.s = es.map Se.s ∧ OwnP w.heap.size w' a1 c1 ps ∧ OwnE w.heap.size w' a2 c2 xs ∧ OwnKs w.heap.size w' xs ∧ Kept Nil w w' := by
  obtain ⟨W, hW⟩ : ∃ W, W = (w.alloc (.cells #[.slice ap ps.length cp, .slice sa es.length cs, .int .i64 tm] 70)).alloc (.cells #[.slice none 0 0, .slice none 0 0, .int .i64 0] 70) := ⟨_, rfl⟩
  have K0 : Hid (Kept Nil w W) := by rw [hW]; exact ((Kept.refl _ _).alloc _).alloc _
  have HS0 : Hid (W.heap.size = w.heap.size + 2) := by show _ = _; rw [hW]; simp
  have HB : Hid (W.heap[w.heap.size]? = some (.cells #[.slice ap ps.length cp, .slice sa es.length cs, .int .i64 tm] 70 (0, 0))) := by rw [hW]; exact blk_past (blk_new _ _) _
  have HR : Hid (W.heap[w.heap.size + 1]? = some (.cells #[.slice none 0 0, .slice none 0 0, .int .i64 0] 70 (0, 0))) := by
    rw [hW]
    have := blk_new (w.alloc (.cells #[.slice ap ps.length cp, .slice sa es.length cs, .int .i64 tm] 70)) (.cells #[.slice none 0 0, .slice none 0 0, .int .i64 0] 70)
    show _ = _
    simpa using this
  have CP := cloneP_any B cp ap ps W (hp.nil K0.out) hpn hlp
  have HSR : Hid (SeRow B W sa es) := hs.nil K0.out
  have HSN : Hid (sa = none → es = [] ∧ cs = 0) := hsn
  have HLS : Hid (es.length ≤ 1759218604441) := hls
  have q0 : W.cell? ⟨w.heap.size, 0, none⟩ = some (.slice ap ps.length cp) := blk_at HB.out 0 rfl
  clear hp hs hpn hsn hlp hls
  go_enter Try.func82, Try.ntmps82
  go_upto_region 1 with fail
  rw [← hW]
  obtain ⟨C, HCe⟩ : ∃ C, Hid (C = w.heap.size) := ⟨_, rfl⟩
  obtain ⟨D, HDe⟩ : ∃ D, Hid (D = w.heap.size + 1) := ⟨_, rfl⟩
  rw [← HDe.out] at HR ⊢
  rw [← HCe.out] at HB q0 ⊢
  clear hW
  have hC1 : w.heap.size ≤ C := by have := HCe.out; omega
  have hC2 : C < w.heap.size + 2 := by have := HCe.out; omega
  have hD1 : w.heap.size ≤ D := by have := HDe.out; omega
  have hD2 : D < w.heap.size + 2 := by have := HDe.out; omega
  have hDC : D ≠ C := by have := HCe.out; have := HDe.out; omega
  have HC : Hid (w.heap.size ≤ C ∧ C < w.heap.size + 2 ∧ w.heap.size ≤ D ∧ D < w.heap.size + 2 ∧ D ≠ C) := ⟨hC1, hC2, hD1, hD2, hDC⟩
  clear hC1 hC2 hD1 hD2 hDC
  go_wp2_with fail
  go_fit CP
  rintro _ w1 ⟨a1, c1, rfl, o1, k1⟩
  have HB1 : Hid (w1.heap[C]? = some (.cells #[.slice ap ps.length cp, .slice sa es.length cs, .int .i64 tm] 70 (0, 0))) := k1.block _ _ HB.out (fun x => x.elim)
  have HR1 : Hid (w1.heap[D]? = some (.cells #[.slice none 0 0, .slice none 0 0, .int .i64 0] 70 (0, 0))) := k1.block _ _ HR.out (fun x => x.elim)
  have HO1 : Hid (OwnP (w.heap.size + 2) w1 a1 c1 ps) := by rw [← HS0.out]; exact o1
  have HK1 : Hid (Kept Nil w w1) := K0.out.trans k1
  have HSR1 : Hid (SeRow B w1 sa es) := HSR.out.nil k1
  clear o1 k1 CP q0 HB HR HSR
  have q0 : w1.cell? ⟨C, 0, none⟩ = some (.slice ap ps.length cp) := blk_at HB1.out 0 rfl
  have z0 : w1.frozen? ⟨C, 0, none⟩ = false := blk_free HB1.out 0
  obtain ⟨w2, hw2⟩ : ∃ w2, w2 = w1.setCell ⟨C, 0, none⟩ (.slice a1 ps.length c1) := ⟨_, rfl⟩
  have HB2 : Hid (w2.heap[C]? = some (.cells #[.slice a1 ps.length c1, .slice sa es.length cs, .int .i64 tm] 70 (0, 0))) := by rw [hw2]; exact blk_set HB1.out 0 _
  have HR2 : Hid (w2.heap[D]? = some (.cells #[.slice none 0 0, .slice none 0 0, .int .i64 0] 70 (0, 0))) := by rw [hw2]; exact blk_other HR1.out (a := ⟨C, 0, none⟩) HC.out.2.2.2.2 _
  have HO2 : Hid (OwnP (w.heap.size + 2) w2 a1 c1 ps) := by rw [hw2]; exact ownsRow_setCell_below (a := ⟨C, 0, none⟩) HO1.out HC.out.2.1 _
  have HK2 : Hid (Kept Nil w w2) := by rw [hw2]; exact HK1.out.setNew (p := ⟨C, 0, none⟩) HC.out.1 _
  have HSR2 : Hid (SeRow B w2 sa es) := by
    rw [hw2]
    refine HSR1.out.far ?_
    show B ≤ C
    have := HC.out.1
    omega
  go_upto_region 2 with fail
  rw [← hw2]
  clear hw2 q0 z0 HB1 HR1 HO1 HK1 HSR1
  have CS := cloneS_any B cs sa es w2 HSR2.out HSN.out HLS.out
  have q1 : w2.cell? ⟨C, 1, none⟩ = some (.slice sa es.length cs) := blk_at HB2.out 1 rfl
  go_wp2_with fail
  go_fit CS
  rintro _ w3 ⟨a2, c2, rfl, o3, k3⟩
  have HB3 : Hid (w3.heap[C]? = some (.cells #[.slice a1 ps.length c1, .slice sa es.length cs, .int .i64 tm] 70 (0, 0))) := k3.block _ _ HB2.out (fun x => x.elim)
  have HR3 : Hid (w3.heap[D]? = some (.cells #[.slice none 0 0, .slice none 0 0, .int .i64 0] 70 (0, 0))) := k3.block _ _ HR2.out (fun x => x.elim)
  have HE3 : Hid (OwnE (w.heap.size + 2) w3 a2 c2 es) := own_mono o3 (by have := lt_of_block HR2.out; have := HC.out; have := HDe.out; omega)
  have HO3 : Hid (OwnP (w.heap.size + 2) w3 a1 c1 ps) := HO2.out.kept k3
  have HK3 : Hid (Kept Nil w w3) := HK2.out.trans k3
  have HSR3 : Hid (SeRow B w3 sa es) := HSR2.out.nil k3
  clear o3 k3 CS q1 HB2 HR2 HO2 HK2 HSR2
  have q1 : w3.cell? ⟨C, 1, none⟩ = some (.slice sa es.length cs) := blk_at HB3.out 1 rfl
  have z1 : w3.frozen? ⟨C, 1, none⟩ = false := blk_free HB3.out 1
  obtain ⟨w4, hw4⟩ : ∃ w4, w4 = w3.setCell ⟨C, 1, none⟩ (.slice a2 es.length c2) := ⟨_, rfl⟩
  have HB4 : Hid (w4.heap[C]? = some (.cells #[.slice a1 ps.length c1, .slice a2 es.length c2, .int .i64 tm] 70 (0, 0))) := by rw [hw4]; exact blk_set HB3.out 1 _
  have HR4 : Hid (w4.heap[D]? = some (.cells #[.slice none 0 0, .slice none 0 0, .int .i64 0] 70 (0, 0))) := by rw [hw4]; exact blk_other HR3.out (a := ⟨C, 1, none⟩) HC.out.2.2.2.2 _
  have HO4 : Hid (OwnP (w.heap.size + 2) w4 a1 c1 ps) := by rw [hw4]; exact ownsRow_setCell_below (a := ⟨C, 1, none⟩) HO3.out HC.out.2.1 _
  have HE4 : Hid (OwnE (w.heap.size + 2) w4 a2 c2 es) := by rw [hw4]; exact ownsRow_setCell_below (a := ⟨C, 1, none⟩) HE3.out HC.out.2.1 _
  have HK4 : Hid (Kept Nil w w4) := by rw [hw4]; exact HK3.out.setNew (p := ⟨C, 1, none⟩) HC.out.1 _
  have HSR4 : Hid (SeRow B w4 sa es) := by
    rw [hw4]
    refine HSR3.out.far ?_
    show B ≤ C
    have := HC.out.1
    omega
  go_upto_region 3 with fail
  rw [← hw4]
  clear hw4 q1 z1 HB3 HR3 HO3 HE3 HK3 HSR3
  have q1 : w4.cell? ⟨C, 1, none⟩ = some (.slice a2 es.length c2) := blk_at HB4.out 1 rfl
  go_wp2_with fail
  clear q1
  go_loopg [3, 15] es.length (fun g _ i wr => ∃ k : Nat, ∃ xs, k ≤ es.length ∧ g = es.length - k ∧ i = .int .i64 k ∧ Hid (Half (w.heap.size + 2) wr k es xs) ∧ Hid (OwnE (w.heap.size + 2) wr a2 c2 xs) ∧ Hid (OwnP (w.heap.size + 2) wr a1 c1 ps) ∧ Hid (SeRow B wr sa es) ∧ Hid (wr.heap[C]? = some (.cells #[.slice a1 ps.length c1, .slice a2 es.length c2, .int .i64 tm] 70 (0, 0))) ∧ Hid (wr.heap[D]? = some (.cells #[.slice none 0 0, .slice none 0 0, .int .i64 0] 70 (0, 0))) ∧ Hid (Kept Nil w wr))
  case atStart => exact ⟨0, es, Nat.zero_le _, rfl, rfl, Half.zero, HE4.out, HO4.out, HSR4.out, HB4.out, HR4.out, HK4.out⟩
  case round =>
    obtain ⟨k, xs, hk, rfl, rfl, HH, HE, HO, HSr, HBr, HRr, HKr⟩ := hrel
    rename World => wr
    clear HE4 HO4 HSR4 HB4 HR4 HK4
    by_cases hlt : k < es.length
    · obtain ⟨x, HX⟩ : ∃ x : Se, Hid (x = es[k]) := ⟨_, (rfl : es[k] = es[k])⟩
      have hkx : k < xs.length := by rw [HH.out.len]; exact hlt
      have hxk : xs[k] = x := by rw [HX.out]; exact HH.out.at hlt
      have hne : a2 ≠ none := fun e => by
        have h := HE.out
        rw [e] at h
        have := h.noneE.1
        rw [this] at hkx
        simp at hkx
      obtain ⟨g, gs, rfl, hg1, hg2, hg3, hg5, hg4, hg6⟩ := HE.out.block hne
      have HG : Hid (w.heap.size + 2 ≤ g) := hg1
      have HGB : Hid (wr.heap[g]? = some (.cells gs 121 (0, 0))) := hg2
      have HGS : Hid (k * 7 + 7 ≤ gs.size) := by show _ ≤ _; rw [hg4]; omega
      obtain ⟨a9, e9, b9, d9, hst, hnn, l1, m9⟩ := HSr.out k hlt
      clear e9 b9 d9 m9 a9
      rw [← HX.out] at hst hnn l1
      obtain ⟨y0, y1, y2, y3, y4, y5, y6⟩ := HE.out.at7 hkx
      clear y0 y1 y6
      rw [hxk] at y2 y3 y4 y5
      have OR := ownResult_any B x.c x.s.kd x.s.ver x.s.val x.ao x.s.ks wr.drew (hst.kept (Kept.refl _ _).drew (fun _ _ _ x => x)) hnn l1
      clear hst hnn l1 hg1 hg2 hg3 hg4 hg5 hg6 hne hxk
      have t3 : wr.cell? ⟨g, k * 7 + 2 + 1, none⟩ = some (.string (bs x.s.val)) := y3
      have t4 : wr.cell? ⟨g, k * 7 + 2 + 2, none⟩ = some (.int .i64 x.s.ver) := y4
      have t5 : wr.cell? ⟨g, k * 7 + 2 + 3, none⟩ = some (.slice x.ao x.s.ks.length x.c) := y5
      have q1 : wr.cell? ⟨C, 1, none⟩ = some (.slice (some ⟨g, 0, none⟩) es.length c2) := blk_at HBr.out 1 rfl
      have HY2 : Hid (wr.cell? ⟨g, k * 7 + 2, none⟩ = some (.int .i64 x.s.kd)) := y2
      have HY3 : Hid (wr.cell? ⟨g, k * 7 + 2 + 1, none⟩ = some (.string (bs x.s.val))) := y3
      have HY4 : Hid (wr.cell? ⟨g, k * 7 + 2 + 2, none⟩ = some (.int .i64 x.s.ver)) := y4
      have HY5 : Hid (wr.cell? ⟨g, k * 7 + 2 + 3, none⟩ = some (.slice x.ao x.s.ks.length x.c)) := y5
      clear y3 y4 y5
      have hki : (k : Int) < es.length := by omega
      go_upto_region 6 with fail
      go_region_with (go_at_call 118; go_fit OR; rintro e w3 ⟨ao', c', rfl, o3, k3⟩; have K3 : Hid (Kept Nil wr w3) := (Kept.refl _ _).drew.trans k3; have HO3 : Hid (OwnK wr.heap.size w3 ao' c' x.s.ks) := o3; have HG3 : Hid (w3.heap[g]? = some (.cells gs 121 (0, 0))) := K3.out.block _ _ HGB.out (fun x => x.elim); have u1 : w3.cell? ⟨C, 1, none⟩ = some (.slice (some ⟨g, 0, none⟩) es.length c2) := blk_at (K3.out.block _ _ HBr.out (fun x => x.elim)) 1 rfl; have u2 := cell_kept (X := Nil) K3.out (fun _ x => x) HY2.out; have u3 := cell_kept (X := Nil) K3.out (fun _ x => x) HY3.out; have u4 := cell_kept (X := Nil) K3.out (fun _ x => x) HY4.out; have u5 := cell_kept (X := Nil) K3.out (fun _ x => x) HY5.out; have f2 : w3.frozen? ⟨g, k * 7 + 2, none⟩ = false := blk_free HG3.out _; have f3 : w3.frozen? ⟨g, k * 7 + 2 + 1, none⟩ = false := blk_free HG3.out _; have f4 : w3.frozen? ⟨g, k * 7 + 2 + 2, none⟩ = false := blk_free HG3.out _; have f5 : w3.frozen? ⟨g, k * 7 + 2 + 3, none⟩ = false := blk_free HG3.out _; clear o3 k3)
      all_goals
        obtain ⟨V, hV⟩ : ∃ V, V = (((w3.setCell ⟨g, k * 7 + 2, none⟩ (.int .i64 x.s.kd)).setCell ⟨g, k * 7 + 2 + 1, none⟩ (.string (bs x.s.val))).setCell ⟨g, k * 7 + 2 + 2, none⟩ (.int .i64 x.s.ver)).setCell ⟨g, k * 7 + 2 + 3, none⟩ (.slice ao' x.s.ks.length c') := ⟨_, rfl⟩
        have hcg : C ≠ g := by have := HC.out.2.1; have := HG.out; omega
        have hdg : D ≠ g := by have := HC.out.2.2.2.1; have := HG.out; omega
        have hbg : B ≤ g := by have := HG.out; omega
        have hwg : w.heap.size ≤ g := by have := HG.out; omega
        have HEV : Hid (OwnE (w.heap.size + 2) V (some ⟨g, 0, none⟩) c2 (xs.set k ⟨x.s, ao', c'⟩)) := by
          rw [hV]
          have h9 : xs[k] = x := by rw [HX.out]; exact HH.out.at hlt
          exact (HE.out.kept K3.out).setAns hkx ⟨x.s, ao', c'⟩ (by rw [h9]) (by rw [h9]) (by rw [h9])
        have HHV : Hid (Half (w.heap.size + 2) V (k + 1) es (xs.set k ⟨x.s, ao', c'⟩)) := by
          rw [hV]
          have h8 : w.heap.size + 2 ≤ wr.heap.size := by have := lt_of_block HGB.out; have := HG.out; omega
          have hN := (HH.out.kept K3.out).next (w' := (((w3.setCell ⟨g, k * 7 + 2, none⟩ (.int .i64 x.s.kd)).setCell ⟨g, k * 7 + 2 + 1, none⟩ (.string (bs x.s.val))).setCell ⟨g, k * 7 + 2 + 2, none⟩ (.int .i64 x.s.ver)).setCell ⟨g, k * 7 + 2 + 3, none⟩ (.slice ao' x.s.ks.length c')) hlt (ao := ao') (c := c') (by rw [← HX.out]; exact own_ans (own_mono HO3.out h8) HG3.out (by decide)) (fun a d l h => own_ans h HG3.out (by decide))
          rw [← HX.out] at hN
          exact hN
        have HOV : Hid (OwnP (w.heap.size + 2) V a1 c1 ps) := by rw [hV]; exact own_ans (HO.out.kept K3.out) HG3.out (by decide)
        have HSV : Hid (SeRow B V sa es) := by
          rw [hV]
          exact ((((HSr.out.nil K3.out).far (a := ⟨g, k * 7 + 2, none⟩) hbg).far (a := ⟨g, k * 7 + 2 + 1, none⟩) hbg).far (a := ⟨g, k * 7 + 2 + 2, none⟩) hbg).far (a := ⟨g, k * 7 + 2 + 3, none⟩) hbg
        have HBV : Hid (V.heap[C]? = some (.cells #[.slice a1 ps.length c1, .slice (some ⟨g, 0, none⟩) es.length c2, .int .i64 tm] 70 (0, 0))) := by
          rw [hV]
          exact blk_other (a := ⟨g, k * 7 + 2 + 3, none⟩) (blk_other (a := ⟨g, k * 7 + 2 + 2, none⟩) (blk_other (a := ⟨g, k * 7 + 2 + 1, none⟩) (blk_other (a := ⟨g, k * 7 + 2, none⟩) (K3.out.block _ _ HBr.out (fun x => x.elim)) hcg _) hcg _) hcg _) hcg _
        have HRV : Hid (V.heap[D]? = some (.cells #[.slice none 0 0, .slice none 0 0, .int .i64 0] 70 (0, 0))) := by
          rw [hV]
          exact blk_other (a := ⟨g, k * 7 + 2 + 3, none⟩) (blk_other (a := ⟨g, k * 7 + 2 + 2, none⟩) (blk_other (a := ⟨g, k * 7 + 2 + 1, none⟩) (blk_other (a := ⟨g, k * 7 + 2, none⟩) (K3.out.block _ _ HRr.out (fun x => x.elim)) hdg _) hdg _) hdg _) hdg _
        have HKV : Hid (Kept Nil w V) := by
          rw [hV]
          exact ((((HKr.out.trans K3.out).setNew (p := ⟨g, k * 7 + 2, none⟩) hwg _).setNew (p := ⟨g, k * 7 + 2 + 1, none⟩) hwg _).setNew (p := ⟨g, k * 7 + 2 + 2, none⟩) hwg _).setNew (p := ⟨g, k * 7 + 2 + 3, none⟩) hwg _
        rw [← hV]
        clear hV u1 u2 u3 u4 u5 f2 f3 f4 f5 y2 t3 t4 t5 q1 OR
        have hls9 : es.length ≤ 1759218604441 := HLS.out
        go_wp2
        go_roundg (es.length - (k + 1))
        case measure => omega
        case rel => exact ⟨k + 1, xs.set k ⟨x.s, ao', c'⟩, by omega, rfl, by go_num, HHV.out, HEV.out, HOV.out, HSV.out, HBV.out, HRV.out, HKV.out⟩
    · obtain rfl : k = es.length := by omega
      have HOwn : Hid (OwnKs (w.heap.size + 2) wr xs) := HH.out.all
      have q0 : wr.cell? ⟨C, 0, none⟩ = some (.slice a1 ps.length c1) := blk_at HBr.out 0 rfl
      have q1 : wr.cell? ⟨C, 1, none⟩ = some (.slice a2 es.length c2) := blk_at HBr.out 1 rfl
      have q2 : wr.cell? ⟨C, 2, none⟩ = some (.int .i64 tm) := blk_at HBr.out 2 rfl
      have r0 : wr.cell? ⟨D, 0, none⟩ = some (.slice none 0 0) := blk_at HRr.out 0 rfl
      have r1 : wr.cell? ⟨D, 1, none⟩ = some (.slice none 0 0) := blk_at HRr.out 1 rfl
      have r2 : wr.cell? ⟨D, 2, none⟩ = some (.int .i64 0) := blk_at HRr.out 2 rfl
      have z0 : wr.frozen? ⟨D, 0, none⟩ = false := blk_free HRr.out 0
      have z1 : wr.frozen? ⟨D, 1, none⟩ = false := blk_free HRr.out 1
      have z2 : wr.frozen? ⟨D, 2, none⟩ = false := blk_free HRr.out 2
      obtain ⟨V, hV⟩ : ∃ V, V = ((wr.setCell ⟨D, 0, none⟩ (.slice a1 ps.length c1)).setCell ⟨D, 1, none⟩ (.slice a2 es.length c2)).setCell ⟨D, 2, none⟩ (.int .i64 tm) := ⟨_, rfl⟩
      have BF : Hid (V.heap[D]? = some (.cells #[.slice a1 ps.length c1, .slice a2 es.length c2, .int .i64 tm] 70 (0, 0))) := by rw [hV]; exact blk_set (blk_set (blk_set HRr.out 0 _) 1 _) 2 _
      have KV : Hid (Kept Nil w V) := by rw [hV]; exact ((HKr.out.setNew (p := ⟨D, 0, none⟩) HC.out.2.2.1 _).setNew (p := ⟨D, 1, none⟩) HC.out.2.2.1 _).setNew (p := ⟨D, 2, none⟩) HC.out.2.2.1 _
      have HSub : Hid (∀ (e : TypeId) (sz n : Nat) (v : Value) (l : List Value), wr.ownsRow (w.heap.size + 2) e sz v n l → V.ownsRow (w.heap.size + 2) e sz v n l) := fun e sz n v l h => by
        rw [hV]
        exact ownsRow_setCell_below (a := ⟨D, 2, none⟩) (ownsRow_setCell_below (a := ⟨D, 1, none⟩) (ownsRow_setCell_below (a := ⟨D, 0, none⟩) h HC.out.2.2.2.1 _) HC.out.2.2.2.1 _) HC.out.2.2.2.1 _
      have hirr : ¬ ((es.length : Int) < es.length) := by omega
      go_wp2
      rw [← hV]
      clear hV r0 r1 r2
      have j0 : V.cell? ⟨D, 0, none⟩ = some (.slice a1 ps.length c1) := blk_at BF.out 0 rfl
      have j1 : V.cell? ⟨D, 1, none⟩ = some (.slice a2 es.length c2) := blk_at BF.out 1 rfl
      have j2 : V.cell? ⟨D, 2, none⟩ = some (.int .i64 tm) := blk_at BF.out 2 rfl
      refine bodyPost_ret (v := .agg #[.slice a1 ps.length c1, .slice a2 es.length c2, .int .i64 tm]) (by simp [results, Try.results82, go_sem, j0, j1, j2]) rfl ?_
      exact ⟨a1, c1, a2, c2, xs, by rw [HH.out.len], HH.out.same, own_mono (HSub.out _ _ _ _ _ HO.out) (by omega), own_mono (HSub.out _ _ _ _ _ HE.out) (by omega), fun e he => own_mono (HSub.out _ _ _ _ _ (HOwn.out e he)) (by omega), KV.out⟩

end Go.Proofs.Ytblmmbghnkplkaa
