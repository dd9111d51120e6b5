/-
  Joined: WCf1.
-/
import Derived.Test.YtflnjlbafchnaaaGreatDoorQ34
import Derived.Test.YtflnjlbafchnaaaGreatDoorQ44
import Derived.StillTailTactics
/-
  Cells: apply of a content (the program).
-/
namespace Go.Proofs.YtflnjlbafchnaaaGreatDoor
open Go.RowKit

def CaPost (w : World) (v : List UInt8) (n : Nat) (r : Rr) (e : Ending) (w' : World) : Prop := ∃ ko kc, e = .returned (.tuple #[ctV v n, rrV r ko kc]) ∧ (ko = none ∧ kc = 0) ∧ Kept Nil w w'
theorem OwnP.one {B c : Nat} {w : World} {ao : Option Addr} {p : Pr} (h : OwnP B w ao c [p]) : ∃ g, ao = some ⟨g, 0, none⟩ ∧ B ≤ g ∧ g < w.heap.size ∧ w.cell? ⟨g, 0, none⟩ = some (.string (bs p.k)) ∧ w.cell? ⟨g, 1, none⟩ = some (.string (bs p.v)) ∧ w.cell? ⟨g, 2, none⟩ = some (.int .i64 p.n) ∧ ∃ cur, w.heap[g]? = some (.cells cur 63 (0, 0)) := by
  rcases h.2 with ⟨h1, h2⟩ | ⟨g, cap, cur, h1, h2, h3, h4⟩
  · simp at h2
  · simp only [Value.slice.injEq] at h1
    have hc := World.ownsRow.cells (g := g) h (by rw [h1.1]; rfl)
    have hcc : ∀ j u, (kvCells [p])[j]? = some u → w.cell? ⟨g, j, none⟩ = some u := fun j u e => by
      have := hc j u e
      rw [Addr.add_lit, Nat.zero_add] at this
      exact this
    exact ⟨g, h1.1, h2, lt_of_block h3, hcc 0 _ rfl, hcc 1 _ rfl, hcc 2 _ rfl, cur, h3⟩
theorem pr_src {g : Nat} {w : World} {p : Pr} (h : w.heap[g]? = some (.cells #[.string (bs p.k), .string (bs p.v), .int .i64 p.n] 63 (0, 0))) : Src Tryz.prog 3 55 (.slice (some ⟨g, 0, none⟩) 1 1) 1 [.string (bs p.k), .string (bs p.v), .int .i64 p.n] w := by
  refine Src.ofSlice _ Tryz.underlying55 _ 1 1 _ rfl ?_ ?_
  · intro j u hj
    match j, hj with
    | 0, hj => simp at hj; subst hj; exact blk_at h 0 rfl
    | 1, hj => simp at hj; subst hj; exact blk_at h 1 rfl
    | 2, hj => simp at hj; subst hj; exact blk_at h 2 rfl
  · intro u hu
    simp at hu
    rcases hu with rfl | rfl | rfl <;> rfl
/-- From kv.Apply on. -/
structure CaIn (w X : World) (A1 R0 R1 : Nat) (kd : Int) (k val : List UInt8) (m : Int) : Prop where
  kp : Kept Nil w X
  ca : X.heap[A1]? = some (.cells #[.int .i64 kd, .string (bs k), .string (bs val), .int .i64 m] 31 (0, 0))
  c0 : X.heap[R0]? = some (.cells #[.string ⟨#[]⟩, .int .i64 0] 129 (0, 0))
  c1 : X.heap[R1]? = some (.cells #[.int .i64 0, .string ⟨#[]⟩, .int .i64 0, .slice none 0 0] 50 (0, 0))
theorem CaIn.kept {w X Y : World} {A1 R0 R1 : Nat} {kd m : Int} {k val : List UInt8} (h : CaIn w X A1 R0 R1 kd k val m) (kk : Kept Nil X Y) : CaIn w Y A1 R0 R1 kd k val m := ⟨h.kp.trans kk, kk.block _ _ h.ca (fun x => x), kk.block _ _ h.c0 (fun x => x), kk.block _ _ h.c1 (fun x => x)⟩
theorem blk_4 (w : World) (o0 o1 o2 o3 : Obj) : ((((w.alloc o0).alloc o1).alloc o2).alloc o3).heap[w.heap.size]? = some o0 ∧ ((((w.alloc o0).alloc o1).alloc o2).alloc o3).heap[w.heap.size + 1]? = some o1 ∧ ((((w.alloc o0).alloc o1).alloc o2).alloc o3).heap[w.heap.size + 1 + 1]? = some o2 ∧ ((((w.alloc o0).alloc o1).alloc o2).alloc o3).heap[w.heap.size + 1 + 1 + 1]? = some o3 := by
  refine ⟨blk_past (blk_past (blk_past (blk_new _ _) _) _) _, blk_past (blk_past (blk_new1 _ _ _) _) _, ?_, ?_⟩
  · have := blk_new ((w.alloc o0).alloc o1) o2
    refine blk_past ?_ _
    simpa using this
  · have := blk_new (((w.alloc o0).alloc o1).alloc o2) o3
    simpa using this
theorem cput2 {w : World} {R : Nat} {t : TypeId} {p0 p1 x0 x1 : Value} (h : w.heap[R]? = some (.cells #[p0, p1] t (0, 0))) : ((w.setCell ⟨R, 0, none⟩ x0).setCell ⟨R, 1, none⟩ x1).heap[R]? = some (.cells #[x0, x1] t (0, 0)) := by
  have h0 := blk_set h 0 x0
  have h1 := blk_set h0 1 x1
  simpa using h1
theorem cput4 {w : World} {R : Nat} {t : TypeId} {p0 p1 p2 p3 x0 x1 x2 x3 : Value} (h : w.heap[R]? = some (.cells #[p0, p1, p2, p3] t (0, 0))) : ((((w.setCell ⟨R, 0, none⟩ x0).setCell ⟨R, 1, none⟩ x1).setCell ⟨R, 2, none⟩ x2).setCell ⟨R, 3, none⟩ x3).heap[R]? = some (.cells #[x0, x1, x2, x3] t (0, 0)) := by
  have h0 := blk_set h 0 x0
  have h1 := blk_set h0 1 x1
  have h2 := blk_set h1 2 x2
  have h3 := blk_set h2 3 x3
  simpa using h3
theorem cdrew {w : World} {R : Nat} {o : Obj} (h : w.heap[R]? = some o) : w.drew.heap[R]? = some o := h
theorem coth2 {w : World} {R b : Nat} {o : Obj} (h : w.heap[R]? = some o) (hne : R ≠ b) (u v : Value) : ((w.setCell ⟨b, 0, none⟩ u).setCell ⟨b, 1, none⟩ v).heap[R]? = some o := by
  have h1 := blk_other (a := ⟨b, 0, none⟩) h hne u
  exact blk_other (a := ⟨b, 1, none⟩) h1 hne v
theorem coth4 {w : World} {R b : Nat} {o : Obj} (h : w.heap[R]? = some o) (hne : R ≠ b) (u v x y : Value) : ((((w.setCell ⟨b, 0, none⟩ u).setCell ⟨b, 1, none⟩ v).setCell ⟨b, 2, none⟩ x).setCell ⟨b, 3, none⟩ y).heap[R]? = some o := by
  have h1 := coth2 h hne u v
  have h2 := blk_other (a := ⟨b, 2, none⟩) h1 hne x
  exact blk_other (a := ⟨b, 3, none⟩) h2 hne y
set_option maxRecDepth 100000 in
set_option maxHeartbeats 12000000 in
theorem capply_any (kd : Int) (k val : List UInt8) (m : Int) (v : List UInt8) (n : Nat) (w : World) (h : CmOk kd k val m v n) :
    Calls Tryz.prog 159 #[ctV v n, .agg #[.int .i64 kd, .string (bs k), .string (bs val), .int .i64 m]] w (CaPost w (cmV kd val m v n) (cmN kd m n) (cmR kd m v n)) := by
  obtain ⟨i0, hi, hz0, hz1, hz2⟩ := info_parts Tryz.infoPr
  have HO := ap_one h
  obtain ⟨v', Hv'⟩ : ∃ v', Hid (v' = cmV kd val m v n) := ⟨_, rfl⟩
  obtain ⟨n', Hn'⟩ : ∃ n', Hid (n' = cmN kd m n) := ⟨_, rfl⟩
  obtain ⟨r, Hr⟩ : ∃ r, Hid (r = cmR kd m v n) := ⟨_, rfl⟩
  rw [← Hv'.out, ← Hn'.out, ← Hr.out] at HO ⊢
  have HE : Hid (apP kd k val m (onePr k v n) = onePr k v' n' ∧ apR kd k val m (onePr k v n) = r) := HO
  have HVN : Hid (n' = 0 → v' = []) := fun e => by rw [Hn'.out] at e; rw [Hv'.out]; exact cmN_zero h.ovn e
  clear HO
  have hk140 : k.length ≤ maxLen := by have := h.ok2; unfold maxLen; omega
  have hv140 : val.length ≤ maxLen := by have := h.oval; unfold maxLen; omega
  have hvm : v.length ≤ maxLen := by have := h.ov; unfold maxLen; omega
  obtain ⟨W, hW⟩ : ∃ W, W = (((w.alloc (.cells #[.string (bs v), .int .i64 n] 129)).alloc (.cells #[.int .i64 kd, .string (bs k), .string (bs val), .int .i64 m] 31)).alloc (.cells #[.string ⟨#[]⟩, .int .i64 0] 129)).alloc (.cells #[.int .i64 0, .string ⟨#[]⟩, .int .i64 0, .slice none 0 0] 50) := ⟨_, rfl⟩
  obtain ⟨R1, HR1⟩ : ∃ A, Hid (A = w.heap.size + 1 + 1 + 1) := ⟨_, rfl⟩
  obtain ⟨R0, HR0⟩ : ∃ A, Hid (A = w.heap.size + 1 + 1) := ⟨_, rfl⟩
  obtain ⟨A1, HA1⟩ : ∃ A, Hid (A = w.heap.size + 1) := ⟨_, rfl⟩
  obtain ⟨A0, HA0⟩ : ∃ A, Hid (A = w.heap.size) := ⟨_, rfl⟩
  have HB4 := blk_4 w (.cells #[.string (bs v), .int .i64 n] 129) (.cells #[.int .i64 kd, .string (bs k), .string (bs val), .int .i64 m] 31) (.cells #[.string ⟨#[]⟩, .int .i64 0] 129) (.cells #[.int .i64 0, .string ⟨#[]⟩, .int .i64 0, .slice none 0 0] 50)
  rw [← hW, ← HR1.out, ← HR0.out, ← HA1.out, ← HA0.out] at HB4
  have HI : Hid (CaIn w W A1 R0 R1 kd k val m) := ⟨by rw [hW]; exact ((((Kept.refl _ _).alloc _).alloc _).alloc _).alloc _, HB4.2.1, HB4.2.2.1, HB4.2.2.2⟩
  have a0 : W.cell? ⟨A0, 0, none⟩ = some (.string (bs v)) := blk_at HB4.1 0 rfl
  have a1 : W.cell? ⟨A0, 1, none⟩ = some (.int .i64 n) := blk_at HB4.1 1 rfl
  have a2 : W.cell? ⟨A1, 1, none⟩ = some (.string (bs k)) := blk_at HB4.2.1 1 rfl
  have HRw : Hid (w.heap.size ≤ R0 ∧ w.heap.size ≤ R1 ∧ R0 ≠ R1) := by rw [HR0.out, HR1.out]; exact ⟨by omega, by omega, by omega⟩
  clear HB4
  have PA := pair_any v n k W
  have AP : ∀ (X : World) (ao : Option Addr) (c : Nat), PairRow X.heap.size X ao (onePr k v n) → (ao = none → onePr k v n = [] ∧ c = 0) → Calls Tryz.prog 21 #[.slice ao (onePr k v n).length c, .agg #[.int .i64 kd, .string (bs k), .string (bs val), .int .i64 m]] X (ApPoN X (onePr k v' n') r) := fun X ao c hp hn => by
    have := applyN_any X.heap.size c ao (onePr k v n) k val kd m X hp hn (by unfold onePr; split <;> simp) hk140 hv140 h.okd
    rw [HE.out.1, HE.out.2] at this
    exact this
  unfold ctV
  go_enter Tryz.func159, Tryz.ntmps159
  go_upto_region 2 with fail
  rw [← hW, ← HR1.out, ← HR0.out, ← HA1.out, ← HA0.out]
  clear hW
  go_wp2_with fail
  go_fit PA
  clear PA
  rintro _ w1 ⟨rfl, k1⟩
  have HI1 : Hid (CaIn w w1 A1 R0 R1 kd k val m) := HI.out.kept k1
  clear k1 a0 a1 a2
  by_cases hz0' : v = [] ∧ n = 0
  · have e1 : prV k v n = .agg #[.string ⟨#[]⟩, .string ⟨#[]⟩, .int .i64 0] := if_pos hz0'
    have e2 : (!decide (v = [] ∧ n = 0)) = false := by rw [decide_eq_true hz0']; rfl
    have e3 : onePr k v n = [] := if_pos hz0'
    rw [e1, e2]
    rw [e3] at AP
    clear e1 e2 e3 hz0'
    obtain ⟨W2, hW2⟩ : ∃ W2, W2 = w1.alloc (.cells #[.string ⟨#[]⟩, .string ⟨#[]⟩, .int .i64 0] 63) := ⟨_, rfl⟩
    have HI2 : Hid (CaIn w W2 A1 R0 R1 kd k val m) := by rw [hW2]; exact HI1.out.kept ((Kept.refl _ _).alloc _)
    have c0 : W2.cell? ⟨A1, 0, none⟩ = some (.int .i64 kd) := blk_at HI2.out.ca 0 rfl
    have c1 : W2.cell? ⟨A1, 1, none⟩ = some (.string (bs k)) := blk_at HI2.out.ca 1 rfl
    have c2 : W2.cell? ⟨A1, 2, none⟩ = some (.string (bs val)) := blk_at HI2.out.ca 2 rfl
    have c3 : W2.cell? ⟨A1, 3, none⟩ = some (.int .i64 m) := blk_at HI2.out.ca 3 rfl
    have AQ := AP W2 none 0 (fun j hj => by simp at hj) (fun _ => ⟨rfl, rfl⟩)
    clear AP
    go_upto_region 5 with fail
    rw [← hW2]
    clear hW2
    go_wp2_with fail
    go_fit AQ
    clear AQ c0 c1 c2 c3
    rintro _ w3 ⟨ao', c', ko, kc, rfl, ho, hkn, k3⟩
    have HKN : Hid (ko = none ∧ kc = 0) := ⟨hkn.1, hkn.2.1⟩
    clear hkn
    have HI3 : Hid (CaIn w w3 A1 R0 R1 kd k val m) := HI2.out.kept k3
    have HO3 : Hid (OwnP W2.heap.size w3 ao' c' (onePr k v' n')) := ho
    clear ho k3
    obtain ⟨rk, rv, rn, rks⟩ := r
    unfold rrV
    obtain ⟨V, hV⟩ : ∃ V, V = w3.alloc (.cells #[.int .i64 rk, .string (bs rv), .int .i64 rn, .slice ko rks.length kc] 50) := ⟨_, rfl⟩
    obtain ⟨Q, HQ⟩ : ∃ A, Hid (A = w3.heap.size) := ⟨_, rfl⟩
    have HQb : Hid (V.heap[Q]? = some (.cells #[.int .i64 rk, .string (bs rv), .int .i64 rn, .slice ko rks.length kc] 50 (0, 0))) := by rw [hV, HQ.out]; exact blk_new _ _
    have HIV : Hid (CaIn w V A1 R0 R1 kd k val m) := HI3.out.kept (by rw [hV]; exact (Kept.refl _ _).alloc _)
    have HQR : Hid (Q ≠ R0 ∧ Q ≠ R1) := by rw [HQ.out]; have h1 := lt_of_block HI3.out.c0; have h2 := lt_of_block HI3.out.c1; exact ⟨by omega, by omega⟩
    have hq0 := HQR.out.1
    have hq1 := HQR.out.2
    have hr01 := HRw.out.2.2
    have hr10 : R1 ≠ R0 := fun e => hr01 e.symm
    have hq0' : R0 ≠ Q := fun e => hq0 e.symm
    have hq1' : R1 ≠ Q := fun e => hq1 e.symm
    have q0 : V.cell? ⟨Q, 0, none⟩ = some (.int .i64 rk) := blk_at HQb.out 0 rfl
    have q1 : V.cell? ⟨Q, 1, none⟩ = some (.string (bs rv)) := blk_at HQb.out 1 rfl
    have q2 : V.cell? ⟨Q, 2, none⟩ = some (.int .i64 rn) := blk_at HQb.out 2 rfl
    have q3 : V.cell? ⟨Q, 3, none⟩ = some (.slice ko rks.length kc) := blk_at HQb.out 3 rfl
    have x0 : V.cell? ⟨R0, 0, none⟩ = some (.string ⟨#[]⟩) := blk_at HIV.out.c0 0 rfl
    have x1 : V.cell? ⟨R0, 1, none⟩ = some (.int .i64 0) := blk_at HIV.out.c0 1 rfl
    have y0 : V.cell? ⟨R1, 0, none⟩ = some (.int .i64 0) := blk_at HIV.out.c1 0 rfl
    have y1 : V.cell? ⟨R1, 1, none⟩ = some (.string ⟨#[]⟩) := blk_at HIV.out.c1 1 rfl
    have y2 : V.cell? ⟨R1, 2, none⟩ = some (.int .i64 0) := blk_at HIV.out.c1 2 rfl
    have y3 : V.cell? ⟨R1, 3, none⟩ = some (.slice none 0 0) := blk_at HIV.out.c1 3 rfl
    have f0 := blk_free HIV.out.c0 0
    have f1 := blk_free HIV.out.c0 1
    have g0 := blk_free HIV.out.c1 0
    have g1 := blk_free HIV.out.c1 1
    have g2 := blk_free HIV.out.c1 2
    have g3 := blk_free HIV.out.c1 3
    have l0 : Q < V.heap.size := lt_of_block HQb.out
    have l1 : R0 < V.heap.size := lt_of_block HIV.out.c0
    have l2 : R1 < V.heap.size := lt_of_block HIV.out.c1
    by_cases hz : v' = [] ∧ n' = 0
    · obtain ⟨rfl, rfl⟩ := hz
      rw [one_zero]
      obtain ⟨Y, hY⟩ : ∃ Y, Y = ((((((V.setCell ⟨R0, 0, none⟩ (.string ⟨#[]⟩)).setCell ⟨R0, 1, none⟩ (.int .i64 0)).setCell ⟨R1, 0, none⟩ (.int .i64 rk)).setCell ⟨R1, 1, none⟩ (.string (bs rv))).setCell ⟨R1, 2, none⟩ (.int .i64 rn)).setCell ⟨R1, 3, none⟩ (.slice ko rks.length kc)).drew := ⟨_, rfl⟩
      have HY : Hid (Y.heap[R0]? = some (.cells #[.string ⟨#[]⟩, .int .i64 0] 129 (0, 0)) ∧ Y.heap[R1]? = some (.cells #[.int .i64 rk, .string (bs rv), .int .i64 rn, .slice ko rks.length kc] 50 (0, 0)) ∧ Kept Nil w Y) := by
        rw [hY]
        exact ⟨cdrew (coth4 (cput2 HIV.out.c0) hr01 _ _ _ _), cdrew (cput4 (coth2 HIV.out.c1 hr10 _ _)), ((((((HIV.out.kp.setNew (p := ⟨R0, 0, none⟩) HRw.out.1 _).setNew (p := ⟨R0, 1, none⟩) HRw.out.1 _).setNew (p := ⟨R1, 0, none⟩) HRw.out.2.1 _).setNew (p := ⟨R1, 1, none⟩) HRw.out.2.1 _).setNew (p := ⟨R1, 2, none⟩) HRw.out.2.1 _).setNew (p := ⟨R1, 3, none⟩) HRw.out.2.1 _).drew⟩
      go_upto_region 7 with fail
      (try rw [← hV, ← HQ.out])
      clear hV
      go_region
      all_goals
        go_wp2
        rw [← hY]
        have j0 := blk_at HY.out.1 0 rfl
        have j1 := blk_at HY.out.1 1 rfl
        have i0' := blk_at HY.out.2.1 0 rfl
        have i1' := blk_at HY.out.2.1 1 rfl
        have i2' := blk_at HY.out.2.1 2 rfl
        have i3' := blk_at HY.out.2.1 3 rfl
        exact bodyPost_ret (v := .tuple #[ctV [] 0, rrV ⟨rk, rv, rn, rks⟩ ko kc]) (by simp [results, Tryz.results159, go_sem, j0, j1, i0', i1', i2', i3', ctV, rrV, bs]) rfl ⟨ko, kc, rfl, HKN.out, HY.out.2.2⟩
    · have hn1 : 1 ≤ n' := by
        rcases Nat.eq_zero_or_pos n' with e | e
        · exact absurd ⟨HVN.out e, e⟩ hz
        · exact e
      rw [one_pos k v' hn1] at HO3 ⊢
      clear hz
      obtain ⟨g, rfl, _, _, _, s1, s2, cur, hcur⟩ := HO3.out.one
      have u1 : V.cell? ⟨g, 1, none⟩ = some (.string (bs v')) := by rw [hV]; exact cell_kept (X := Nil) ((Kept.refl _ _).alloc _) (fun _ x => x) s1
      have u2 : V.cell? ⟨g, 2, none⟩ = some (.int .i64 n') := by rw [hV]; exact cell_kept (X := Nil) ((Kept.refl _ _).alloc _) (fun _ x => x) s2
      have lg : g < V.heap.size := by rw [hV]; have := lt_of_block hcur; simp; omega
      have hg0 : g ≠ R0 := fun e => by have := HI3.out.c0; rw [← e, hcur] at this; simp at this
      have hg1 : g ≠ R1 := fun e => by have := HI3.out.c1; rw [← e, hcur] at this; simp at this
      clear s1 s2 hcur
      obtain ⟨Y, hY⟩ : ∃ Y, Y = ((((((V.setCell ⟨R0, 0, none⟩ (.string (bs v'))).setCell ⟨R0, 1, none⟩ (.int .i64 n')).setCell ⟨R1, 0, none⟩ (.int .i64 rk)).setCell ⟨R1, 1, none⟩ (.string (bs rv))).setCell ⟨R1, 2, none⟩ (.int .i64 rn)).setCell ⟨R1, 3, none⟩ (.slice ko rks.length kc)).drew := ⟨_, rfl⟩
      have HY : Hid (Y.heap[R0]? = some (.cells #[.string (bs v'), .int .i64 n'] 129 (0, 0)) ∧ Y.heap[R1]? = some (.cells #[.int .i64 rk, .string (bs rv), .int .i64 rn, .slice ko rks.length kc] 50 (0, 0)) ∧ Kept Nil w Y) := by
        rw [hY]
        exact ⟨cdrew (coth4 (cput2 HIV.out.c0) hr01 _ _ _ _), cdrew (cput4 (coth2 HIV.out.c1 hr10 _ _)), ((((((HIV.out.kp.setNew (p := ⟨R0, 0, none⟩) HRw.out.1 _).setNew (p := ⟨R0, 1, none⟩) HRw.out.1 _).setNew (p := ⟨R1, 0, none⟩) HRw.out.2.1 _).setNew (p := ⟨R1, 1, none⟩) HRw.out.2.1 _).setNew (p := ⟨R1, 2, none⟩) HRw.out.2.1 _).setNew (p := ⟨R1, 3, none⟩) HRw.out.2.1 _).drew⟩
      go_upto_region 8 with fail
      (try rw [← hV, ← HQ.out])
      clear hV
      go_region
      all_goals
        go_wp2
        rw [← hY]
        have j0 := blk_at HY.out.1 0 rfl
        have j1 := blk_at HY.out.1 1 rfl
        have i0' := blk_at HY.out.2.1 0 rfl
        have i1' := blk_at HY.out.2.1 1 rfl
        have i2' := blk_at HY.out.2.1 2 rfl
        have i3' := blk_at HY.out.2.1 3 rfl
        exact bodyPost_ret (v := .tuple #[ctV v' n', rrV ⟨rk, rv, rn, rks⟩ ko kc]) (by simp [results, Tryz.results159, go_sem, j0, j1, i0', i1', i2', i3', ctV, rrV]) rfl ⟨ko, kc, rfl, HKN.out, HY.out.2.2⟩
  · have e1 : prV k v n = .agg #[.string (bs k), .string (bs v), .int .i64 n] := if_neg hz0'
    have e2 : (!decide (v = [] ∧ n = 0)) = true := by rw [decide_eq_false hz0']; rfl
    have e3 : onePr k v n = [⟨k, v, n⟩] := if_neg hz0'
    rw [e1, e2]
    rw [e3] at AP
    clear e1 e2 e3 hz0'
    obtain ⟨W2, hW2⟩ : ∃ W2, W2 = (w1.alloc (.cells #[.string (bs k), .string (bs v), .int .i64 n] 63)).alloc (.cells #[.string (bs k), .string (bs v), .int .i64 n] 63) := ⟨_, rfl⟩
    obtain ⟨g2, Hg2⟩ : ∃ g, Hid (g = w1.heap.size + 1) := ⟨_, rfl⟩
    have HI2' : Hid (CaIn w W2 A1 R0 R1 kd k val m) := by rw [hW2]; exact HI1.out.kept (((Kept.refl _ _).alloc _).alloc _)
    have HS2 : Hid (Src Tryz.prog 3 55 (.slice (some ⟨g2, 0, none⟩) 1 1) 1 [.string (bs k), .string (bs v), .int .i64 n] W2) := pr_src (p := ⟨k, v, n⟩) (by rw [hW2, Hg2.out]; exact blk_new1 _ _ _)
    go_upto_region 5 with (at_builtin; rw [← hW2, ← Hg2.out]; go_must (refine wpList_append_src _ rfl _ _ 55 55 rfl W2.heap.size 63 i0 (.agg #[.string ⟨#[]⟩, .string ⟨#[]⟩, .int .i64 0]) 3 40 Tryz.underlying55 hi hz0 hz1 hz2 rfl (.slice none 0 0) 0 [] rfl (World.ownsRow_nil _ _ _ _) (.slice (some ⟨g2, 0, none⟩) 1 1) 1 [.string (bs k), .string (bs v), .int .i64 n] rfl HS2.out (by unfold maxLen; decide) (by decide) (Nat.le_refl _) ?_); intro ao5 c5 w5 ho5 hg5; have HO5 : Hid (OwnP W2.heap.size w5 ao5 c5 [⟨k, v, n⟩]) := (by rw [Nat.zero_add, List.nil_append] at ho5; exact ho5); have K5 : Hid (Kept Nil W2 w5) := (Kept.refl _ _).grown hg5 (fun k hk => by simp [Value.ownBlock] at hk); clear ho5 hg5)
    have HI2 : Hid (CaIn w w5 A1 R0 R1 kd k val m) := HI2'.out.kept K5.out
    have c0 : w5.cell? ⟨A1, 0, none⟩ = some (.int .i64 kd) := blk_at HI2.out.ca 0 rfl
    have c1 : w5.cell? ⟨A1, 1, none⟩ = some (.string (bs k)) := blk_at HI2.out.ca 1 rfl
    have c2 : w5.cell? ⟨A1, 2, none⟩ = some (.string (bs val)) := blk_at HI2.out.ca 2 rfl
    have c3 : w5.cell? ⟨A1, 3, none⟩ = some (.int .i64 m) := blk_at HI2.out.ca 3 rfl
    have AQ := AP w5 ao5 c5 (by
      intro j hj
      have : j = 0 := by simpa using hj
      subst this
      obtain ⟨g, rfl, _, l1, s0, s1, s2, _⟩ := HO5.out.one
      exact ⟨_, rfl, l1, s0, s1, s2, hk140, hvm⟩) (fun e => by obtain ⟨g, e', _⟩ := HO5.out.one; rw [e'] at e; cases e)
    clear AP hW2
    go_wp2_with fail
    go_fit AQ
    clear AQ c0 c1 c2 c3
    rintro _ w3 ⟨ao', c', ko, kc, rfl, ho, hkn, k3⟩
    have HKN : Hid (ko = none ∧ kc = 0) := ⟨hkn.1, hkn.2.1⟩
    clear hkn
    have HI3 : Hid (CaIn w w3 A1 R0 R1 kd k val m) := HI2.out.kept k3
    have HO3 : Hid (OwnP w5.heap.size w3 ao' c' (onePr k v' n')) := ho
    clear ho k3
    obtain ⟨rk, rv, rn, rks⟩ := r
    unfold rrV
    obtain ⟨V, hV⟩ : ∃ V, V = w3.alloc (.cells #[.int .i64 rk, .string (bs rv), .int .i64 rn, .slice ko rks.length kc] 50) := ⟨_, rfl⟩
    obtain ⟨Q, HQ⟩ : ∃ A, Hid (A = w3.heap.size) := ⟨_, rfl⟩
    have HQb : Hid (V.heap[Q]? = some (.cells #[.int .i64 rk, .string (bs rv), .int .i64 rn, .slice ko rks.length kc] 50 (0, 0))) := by rw [hV, HQ.out]; exact blk_new _ _
    have HIV : Hid (CaIn w V A1 R0 R1 kd k val m) := HI3.out.kept (by rw [hV]; exact (Kept.refl _ _).alloc _)
    have HQR : Hid (Q ≠ R0 ∧ Q ≠ R1) := by rw [HQ.out]; have h1 := lt_of_block HI3.out.c0; have h2 := lt_of_block HI3.out.c1; exact ⟨by omega, by omega⟩
    have hq0 := HQR.out.1
    have hq1 := HQR.out.2
    have hr01 := HRw.out.2.2
    have hr10 : R1 ≠ R0 := fun e => hr01 e.symm
    have hq0' : R0 ≠ Q := fun e => hq0 e.symm
    have hq1' : R1 ≠ Q := fun e => hq1 e.symm
    have q0 : V.cell? ⟨Q, 0, none⟩ = some (.int .i64 rk) := blk_at HQb.out 0 rfl
    have q1 : V.cell? ⟨Q, 1, none⟩ = some (.string (bs rv)) := blk_at HQb.out 1 rfl
    have q2 : V.cell? ⟨Q, 2, none⟩ = some (.int .i64 rn) := blk_at HQb.out 2 rfl
    have q3 : V.cell? ⟨Q, 3, none⟩ = some (.slice ko rks.length kc) := blk_at HQb.out 3 rfl
    have x0 : V.cell? ⟨R0, 0, none⟩ = some (.string ⟨#[]⟩) := blk_at HIV.out.c0 0 rfl
    have x1 : V.cell? ⟨R0, 1, none⟩ = some (.int .i64 0) := blk_at HIV.out.c0 1 rfl
    have y0 : V.cell? ⟨R1, 0, none⟩ = some (.int .i64 0) := blk_at HIV.out.c1 0 rfl
    have y1 : V.cell? ⟨R1, 1, none⟩ = some (.string ⟨#[]⟩) := blk_at HIV.out.c1 1 rfl
    have y2 : V.cell? ⟨R1, 2, none⟩ = some (.int .i64 0) := blk_at HIV.out.c1 2 rfl
    have y3 : V.cell? ⟨R1, 3, none⟩ = some (.slice none 0 0) := blk_at HIV.out.c1 3 rfl
    have f0 := blk_free HIV.out.c0 0
    have f1 := blk_free HIV.out.c0 1
    have g0 := blk_free HIV.out.c1 0
    have g1 := blk_free HIV.out.c1 1
    have g2 := blk_free HIV.out.c1 2
    have g3 := blk_free HIV.out.c1 3
    have l0 : Q < V.heap.size := lt_of_block HQb.out
    have l1 : R0 < V.heap.size := lt_of_block HIV.out.c0
    have l2 : R1 < V.heap.size := lt_of_block HIV.out.c1
    by_cases hz : v' = [] ∧ n' = 0
    · obtain ⟨rfl, rfl⟩ := hz
      rw [one_zero]
      obtain ⟨Y, hY⟩ : ∃ Y, Y = ((((((V.setCell ⟨R0, 0, none⟩ (.string ⟨#[]⟩)).setCell ⟨R0, 1, none⟩ (.int .i64 0)).setCell ⟨R1, 0, none⟩ (.int .i64 rk)).setCell ⟨R1, 1, none⟩ (.string (bs rv))).setCell ⟨R1, 2, none⟩ (.int .i64 rn)).setCell ⟨R1, 3, none⟩ (.slice ko rks.length kc)).drew := ⟨_, rfl⟩
      have HY : Hid (Y.heap[R0]? = some (.cells #[.string ⟨#[]⟩, .int .i64 0] 129 (0, 0)) ∧ Y.heap[R1]? = some (.cells #[.int .i64 rk, .string (bs rv), .int .i64 rn, .slice ko rks.length kc] 50 (0, 0)) ∧ Kept Nil w Y) := by
        rw [hY]
        exact ⟨cdrew (coth4 (cput2 HIV.out.c0) hr01 _ _ _ _), cdrew (cput4 (coth2 HIV.out.c1 hr10 _ _)), ((((((HIV.out.kp.setNew (p := ⟨R0, 0, none⟩) HRw.out.1 _).setNew (p := ⟨R0, 1, none⟩) HRw.out.1 _).setNew (p := ⟨R1, 0, none⟩) HRw.out.2.1 _).setNew (p := ⟨R1, 1, none⟩) HRw.out.2.1 _).setNew (p := ⟨R1, 2, none⟩) HRw.out.2.1 _).setNew (p := ⟨R1, 3, none⟩) HRw.out.2.1 _).drew⟩
      go_upto_region 7 with fail
      (try rw [← hV, ← HQ.out])
      clear hV
      go_region
      all_goals
        go_wp2
        rw [← hY]
        have j0 := blk_at HY.out.1 0 rfl
        have j1 := blk_at HY.out.1 1 rfl
        have i0' := blk_at HY.out.2.1 0 rfl
        have i1' := blk_at HY.out.2.1 1 rfl
        have i2' := blk_at HY.out.2.1 2 rfl
        have i3' := blk_at HY.out.2.1 3 rfl
        exact bodyPost_ret (v := .tuple #[ctV [] 0, rrV ⟨rk, rv, rn, rks⟩ ko kc]) (by simp [results, Tryz.results159, go_sem, j0, j1, i0', i1', i2', i3', ctV, rrV, bs]) rfl ⟨ko, kc, rfl, HKN.out, HY.out.2.2⟩
    · have hn1 : 1 ≤ n' := by
        rcases Nat.eq_zero_or_pos n' with e | e
        · exact absurd ⟨HVN.out e, e⟩ hz
        · exact e
      rw [one_pos k v' hn1] at HO3 ⊢
      clear hz
      obtain ⟨g, rfl, _, _, _, s1, s2, cur, hcur⟩ := HO3.out.one
      have u1 : V.cell? ⟨g, 1, none⟩ = some (.string (bs v')) := by rw [hV]; exact cell_kept (X := Nil) ((Kept.refl _ _).alloc _) (fun _ x => x) s1
      have u2 : V.cell? ⟨g, 2, none⟩ = some (.int .i64 n') := by rw [hV]; exact cell_kept (X := Nil) ((Kept.refl _ _).alloc _) (fun _ x => x) s2
      have lg : g < V.heap.size := by rw [hV]; have := lt_of_block hcur; simp; omega
      have hg0 : g ≠ R0 := fun e => by have := HI3.out.c0; rw [← e, hcur] at this; simp at this
      have hg1 : g ≠ R1 := fun e => by have := HI3.out.c1; rw [← e, hcur] at this; simp at this
      clear s1 s2 hcur
      obtain ⟨Y, hY⟩ : ∃ Y, Y = ((((((V.setCell ⟨R0, 0, none⟩ (.string (bs v'))).setCell ⟨R0, 1, none⟩ (.int .i64 n')).setCell ⟨R1, 0, none⟩ (.int .i64 rk)).setCell ⟨R1, 1, none⟩ (.string (bs rv))).setCell ⟨R1, 2, none⟩ (.int .i64 rn)).setCell ⟨R1, 3, none⟩ (.slice ko rks.length kc)).drew := ⟨_, rfl⟩
      have HY : Hid (Y.heap[R0]? = some (.cells #[.string (bs v'), .int .i64 n'] 129 (0, 0)) ∧ Y.heap[R1]? = some (.cells #[.int .i64 rk, .string (bs rv), .int .i64 rn, .slice ko rks.length kc] 50 (0, 0)) ∧ Kept Nil w Y) := by
        rw [hY]
        exact ⟨cdrew (coth4 (cput2 HIV.out.c0) hr01 _ _ _ _), cdrew (cput4 (coth2 HIV.out.c1 hr10 _ _)), ((((((HIV.out.kp.setNew (p := ⟨R0, 0, none⟩) HRw.out.1 _).setNew (p := ⟨R0, 1, none⟩) HRw.out.1 _).setNew (p := ⟨R1, 0, none⟩) HRw.out.2.1 _).setNew (p := ⟨R1, 1, none⟩) HRw.out.2.1 _).setNew (p := ⟨R1, 2, none⟩) HRw.out.2.1 _).setNew (p := ⟨R1, 3, none⟩) HRw.out.2.1 _).drew⟩
      go_upto_region 8 with fail
      (try rw [← hV, ← HQ.out])
      clear hV
      go_region
      all_goals
        go_wp2
        rw [← hY]
        have j0 := blk_at HY.out.1 0 rfl
        have j1 := blk_at HY.out.1 1 rfl
        have i0' := blk_at HY.out.2.1 0 rfl
        have i1' := blk_at HY.out.2.1 1 rfl
        have i2' := blk_at HY.out.2.1 2 rfl
        have i3' := blk_at HY.out.2.1 3 rfl
        exact bodyPost_ret (v := .tuple #[ctV v' n', rrV ⟨rk, rv, rn, rks⟩ ko kc]) (by simp [results, Tryz.results159, go_sem, j0, j1, i0', i1', i2', i3', ctV, rrV]) rfl ⟨ko, kc, rfl, HKN.out, HY.out.2.2⟩
end Go.Proofs.YtflnjlbafchnaaaGreatDoor
