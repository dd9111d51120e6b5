/-
  The document's client: Next.
-/
import Derived.Test.YtbfleeilpccmcaaWCr2
namespace Go.Proofs.Ytbfleeilpccmcaa
open Go.RowKit

theorem put9b {w : World} {R : Nat} {t : TypeId} {p0 p1 p2 p3 p4 p5 p6 p7 p8 x2 x3 x4 x5 x6 x7 x8 : Value} (h : w.heap[R]? = some (.cells #[p0, p1, p2, p3, p4, p5, p6, p7, p8] t (0, 0))) : (((((((w.setCell ⟨R, 2, none⟩ x2).setCell ⟨R, 3, none⟩ x3).setCell ⟨R, 4, none⟩ x4).setCell ⟨R, 5, none⟩ x5).setCell ⟨R, 6, none⟩ x6).setCell ⟨R, 7, none⟩ x7).setCell ⟨R, 8, none⟩ x8).heap[R]? = some (.cells #[p0, p1, x2, x3, x4, x5, x6, x7, x8] t (0, 0)) := by
  have h2 := blk_set h 2 x2
  have h3 := blk_set h2 3 x3
  have h4 := blk_set h3 4 x4
  have h5 := blk_set h4 5 x5
  have h6 := blk_set h5 6 x6
  have h7 := blk_set h6 7 x7
  have h8 := blk_set h7 8 x8
  simpa using h8
set_option maxRecDepth 100000 in
set_option maxHeartbeats 2000000 in
theorem rnext_any (y n cn : Nat) (c : Cl) (r : Rl) (an : Option Addr) (l : List Int) (B : Nat) (nd : Int) (w : World) (h : RAt w y r an n cn) (hs : Sim c r) (hr : IntRow B w an l) (hl : l.length = n) (hx : c.nx < l.length) (hnd : l[c.nx] = nd) (hu : 0 ≤ c.nu) (hu2 : c.nu ≤ 4611686018427387904) (hab' : ∀ a, an = some a → a.block ≠ y) (ha : 0 ≤ c.la) (ha2 : c.la ≤ 4611686018427387904) :
    Calls Try.prog 25 #[.pointer (some ⟨y, 0, none⟩)] w fun e w' => e = .returned (.tuple #[.agg (askV c nd), .bool (goes c)]) ∧ (∃ r', RAt w' y r' an n cn ∧ Sim (nextC c) r' ∧ r'.m = r.m ∧ r'.ro = r.ro ∧ r'.rc = r.rc) ∧ Kept (One y) w w' := by
  obtain ⟨W, hW⟩ : ∃ W, W = w.alloc (.cells #[.int .i64 0, .int .i64 0, .int .i64 0, .int .i64 0, .int .i64 0, .string ⟨#[]⟩, .string ⟨#[]⟩, .int .i64 0, .int .i64 0] 34) := ⟨_, rfl⟩
  obtain ⟨R, HRe⟩ : ∃ R, Hid (R = w.heap.size) := ⟨_, rfl⟩
  have HR : Hid (W.heap[R]? = some (.cells #[.int .i64 0, .int .i64 0, .int .i64 0, .int .i64 0, .int .i64 0, .string ⟨#[]⟩, .string ⟨#[]⟩, .int .i64 0, .int .i64 0] 34 (0, 0))) := by rw [hW, HRe.out]; exact blk_new _ _
  have HW : Hid (RAt W y r an n cn) := by rw [hW]; exact h.past _
  have KW : Hid (Kept Nil w W) := by rw [hW]; exact (Kept.refl _ _).alloc _
  have hRn : w.heap.size ≤ R := by have := HRe.out; omega
  have hbR : y ≠ R := by have := lt_of_block h; have := HRe.out; omega
  have hRb : R ≠ y := fun e => hbR e.symm
  have HSim : Hid (Sim c r) := hs
  have hla := hs.la
  have hnu := hs.nu
  have hnx := hs.nx
  have ha' : 0 ≤ r.la := by omega
  have ha2' : r.la ≤ 4611686018427387904 := by omega
  obtain ⟨a, rfl, hab, hcell0⟩ := hr c.nx hx
  have hcell : W.cell? (a.add r.nx) = some (.int .i64 nd) := by
    obtain ⟨a', e, _, h'⟩ := hr.nil KW.out c.nx hx
    cases e
    rw [hnd] at h'
    rw [hnx]
    exact h'
  have hx1 : (r.nx : Int) < n := by omega
  have hx0 : (0 : Int) ≤ r.nx := by omega
  have haR : (a.add r.nx).block ≠ R := fun e => by
    rw [hnx] at e
    have h9 := World.block_lt_of_cell? w _ hcell0
    have := HRe.out
    omega
  cases hg : goes c with
  | false =>
    have HE : Hid (askV c nd = #[.int .i64 0, .int .i64 0, .int .i64 0, .int .i64 0, .int .i64 0, .string ⟨#[]⟩, .string ⟨#[]⟩, .int .i64 0, .int .i64 0] ∧ nextC c = c) := by
      constructor
      · unfold askV; rw [hg]; rfl
      · unfold nextC; rw [hg]; rfl
    rw [HE.out.1, HE.out.2]
    have r0 : W.cell? ⟨R, 0, none⟩ = some (.int .i64 0) := blk_at HR.out 0 rfl
    have r1 : W.cell? ⟨R, 1, none⟩ = some (.int .i64 0) := blk_at HR.out 1 rfl
    have r2 : W.cell? ⟨R, 2, none⟩ = some (.int .i64 0) := blk_at HR.out 2 rfl
    have r3 : W.cell? ⟨R, 3, none⟩ = some (.int .i64 0) := blk_at HR.out 3 rfl
    have r4 : W.cell? ⟨R, 4, none⟩ = some (.int .i64 0) := blk_at HR.out 4 rfl
    have r5 : W.cell? ⟨R, 5, none⟩ = some (.string ⟨#[]⟩) := blk_at HR.out 5 rfl
    have r6 : W.cell? ⟨R, 6, none⟩ = some (.string ⟨#[]⟩) := blk_at HR.out 6 rfl
    have r7 : W.cell? ⟨R, 7, none⟩ = some (.int .i64 0) := blk_at HR.out 7 rfl
    have r8 : W.cell? ⟨R, 8, none⟩ = some (.int .i64 0) := blk_at HR.out 8 rfl
    have z0 : W.frozen? ⟨R, 0, none⟩ = false := blk_free HR.out 0
    have z1 : W.frozen? ⟨R, 1, none⟩ = false := blk_free HR.out 1
    have z2 : W.frozen? ⟨R, 2, none⟩ = false := blk_free HR.out 2
    have z3 : W.frozen? ⟨R, 3, none⟩ = false := blk_free HR.out 3
    have z4 : W.frozen? ⟨R, 4, none⟩ = false := blk_free HR.out 4
    have z5 : W.frozen? ⟨R, 5, none⟩ = false := blk_free HR.out 5
    have z6 : W.frozen? ⟨R, 6, none⟩ = false := blk_free HR.out 6
    have z7 : W.frozen? ⟨R, 7, none⟩ = false := blk_free HR.out 7
    have z8 : W.frozen? ⟨R, 8, none⟩ = false := blk_free HR.out 8
    by_cases h1 : c.st = 1
    · have ht : c.wt = true := by simpa [goes, h1] using hg
      have q9 : W.cell? ⟨y, 9, none⟩ = some (.bool true) := by rw [show true = r.bu by rw [hs.bu, h1]; rfl]; exact blk_at HW.out 9 rfl
      have q3 : W.cell? ⟨y, 3, none⟩ = some (.bool true) := by rw [← ht, ← hs.wt]; exact blk_at HW.out 3 rfl
      clear h hr hl hs
      go_enter Try.func25, Try.ntmps25
      go_upto_region 1 with fail
      rw [← hW, ← HRe.out]
      clear hW
      obtain ⟨V, hV⟩ : ∃ V, V = (((((((((W.setCell ⟨R, 0, none⟩ (.int .i64 0)).setCell ⟨R, 1, none⟩ (.int .i64 0)).setCell ⟨R, 2, none⟩ (.int .i64 0)).setCell ⟨R, 3, none⟩ (.int .i64 0)).setCell ⟨R, 4, none⟩ (.int .i64 0)).setCell ⟨R, 5, none⟩ (.string ⟨#[]⟩)).setCell ⟨R, 6, none⟩ (.string ⟨#[]⟩)).setCell ⟨R, 7, none⟩ (.int .i64 0)).setCell ⟨R, 8, none⟩ (.int .i64 0)) := ⟨_, rfl⟩
      have BR : Hid (V.heap[R]? = some (.cells #[.int .i64 0, .int .i64 0, .int .i64 0, .int .i64 0, .int .i64 0, .string ⟨#[]⟩, .string ⟨#[]⟩, .int .i64 0, .int .i64 0] 34 (0, 0))) := by rw [hV]; exact (put9 HR.out)
      have KV : Hid (Kept (One y) w V) := by rw [hV]; exact (((((((((KW.out.one.setNew (p := ⟨R, 0, none⟩) hRn _).setNew (p := ⟨R, 1, none⟩) hRn _).setNew (p := ⟨R, 2, none⟩) hRn _).setNew (p := ⟨R, 3, none⟩) hRn _).setNew (p := ⟨R, 4, none⟩) hRn _).setNew (p := ⟨R, 5, none⟩) hRn _).setNew (p := ⟨R, 6, none⟩) hRn _).setNew (p := ⟨R, 7, none⟩) hRn _).setNew (p := ⟨R, 8, none⟩) hRn _)
      have HBV : Hid (RAt V y r (some a) n cn) := by rw [hV]; exact (((((((((HW.out.oth (a := ⟨R, 0, none⟩) hbR _).oth (a := ⟨R, 1, none⟩) hbR _).oth (a := ⟨R, 2, none⟩) hbR _).oth (a := ⟨R, 3, none⟩) hbR _).oth (a := ⟨R, 4, none⟩) hbR _).oth (a := ⟨R, 5, none⟩) hbR _).oth (a := ⟨R, 6, none⟩) hbR _).oth (a := ⟨R, 7, none⟩) hbR _).oth (a := ⟨R, 8, none⟩) hbR _)
      go_wp2
      rw [← hV]
      clear hV
      have j0 : V.cell? ⟨R, 0, none⟩ = some (.int .i64 0) := blk_at BR.out 0 rfl
      have j1 : V.cell? ⟨R, 1, none⟩ = some (.int .i64 0) := blk_at BR.out 1 rfl
      have j2 : V.cell? ⟨R, 2, none⟩ = some (.int .i64 0) := blk_at BR.out 2 rfl
      have j3 : V.cell? ⟨R, 3, none⟩ = some (.int .i64 0) := blk_at BR.out 3 rfl
      have j4 : V.cell? ⟨R, 4, none⟩ = some (.int .i64 0) := blk_at BR.out 4 rfl
      have j5 : V.cell? ⟨R, 5, none⟩ = some (.string ⟨#[]⟩) := blk_at BR.out 5 rfl
      have j6 : V.cell? ⟨R, 6, none⟩ = some (.string ⟨#[]⟩) := blk_at BR.out 6 rfl
      have j7 : V.cell? ⟨R, 7, none⟩ = some (.int .i64 0) := blk_at BR.out 7 rfl
      have j8 : V.cell? ⟨R, 8, none⟩ = some (.int .i64 0) := blk_at BR.out 8 rfl
      exact bodyPost_ret (v := .tuple #[.agg #[.int .i64 0, .int .i64 0, .int .i64 0, .int .i64 0, .int .i64 0, .string ⟨#[]⟩, .string ⟨#[]⟩, .int .i64 0, .int .i64 0], .bool false]) (by simp [results, Try.results25, go_sem, j0, j1, j2, j3, j4, j5, j6, j7, j8]) rfl ⟨rfl, ⟨r, HBV.out, HSim.out, rfl, rfl, rfl⟩, KV.out⟩
    · have q9 : W.cell? ⟨y, 9, none⟩ = some (.bool false) := by rw [show false = r.bu by rw [hs.bu]; simpa using h1]; exact blk_at HW.out 9 rfl
      clear h hr hl hs
      go_enter Try.func25, Try.ntmps25
      go_upto_region 1 with fail
      rw [← hW, ← HRe.out]
      clear hW
      obtain ⟨V, hV⟩ : ∃ V, V = (((((((((W.setCell ⟨R, 0, none⟩ (.int .i64 0)).setCell ⟨R, 1, none⟩ (.int .i64 0)).setCell ⟨R, 2, none⟩ (.int .i64 0)).setCell ⟨R, 3, none⟩ (.int .i64 0)).setCell ⟨R, 4, none⟩ (.int .i64 0)).setCell ⟨R, 5, none⟩ (.string ⟨#[]⟩)).setCell ⟨R, 6, none⟩ (.string ⟨#[]⟩)).setCell ⟨R, 7, none⟩ (.int .i64 0)).setCell ⟨R, 8, none⟩ (.int .i64 0)) := ⟨_, rfl⟩
      have BR : Hid (V.heap[R]? = some (.cells #[.int .i64 0, .int .i64 0, .int .i64 0, .int .i64 0, .int .i64 0, .string ⟨#[]⟩, .string ⟨#[]⟩, .int .i64 0, .int .i64 0] 34 (0, 0))) := by rw [hV]; exact (put9 HR.out)
      have KV : Hid (Kept (One y) w V) := by rw [hV]; exact (((((((((KW.out.one.setNew (p := ⟨R, 0, none⟩) hRn _).setNew (p := ⟨R, 1, none⟩) hRn _).setNew (p := ⟨R, 2, none⟩) hRn _).setNew (p := ⟨R, 3, none⟩) hRn _).setNew (p := ⟨R, 4, none⟩) hRn _).setNew (p := ⟨R, 5, none⟩) hRn _).setNew (p := ⟨R, 6, none⟩) hRn _).setNew (p := ⟨R, 7, none⟩) hRn _).setNew (p := ⟨R, 8, none⟩) hRn _)
      have HBV : Hid (RAt V y r (some a) n cn) := by rw [hV]; exact (((((((((HW.out.oth (a := ⟨R, 0, none⟩) hbR _).oth (a := ⟨R, 1, none⟩) hbR _).oth (a := ⟨R, 2, none⟩) hbR _).oth (a := ⟨R, 3, none⟩) hbR _).oth (a := ⟨R, 4, none⟩) hbR _).oth (a := ⟨R, 5, none⟩) hbR _).oth (a := ⟨R, 6, none⟩) hbR _).oth (a := ⟨R, 7, none⟩) hbR _).oth (a := ⟨R, 8, none⟩) hbR _)
      go_wp2
      rw [← hV]
      clear hV
      have j0 : V.cell? ⟨R, 0, none⟩ = some (.int .i64 0) := blk_at BR.out 0 rfl
      have j1 : V.cell? ⟨R, 1, none⟩ = some (.int .i64 0) := blk_at BR.out 1 rfl
      have j2 : V.cell? ⟨R, 2, none⟩ = some (.int .i64 0) := blk_at BR.out 2 rfl
      have j3 : V.cell? ⟨R, 3, none⟩ = some (.int .i64 0) := blk_at BR.out 3 rfl
      have j4 : V.cell? ⟨R, 4, none⟩ = some (.int .i64 0) := blk_at BR.out 4 rfl
      have j5 : V.cell? ⟨R, 5, none⟩ = some (.string ⟨#[]⟩) := blk_at BR.out 5 rfl
      have j6 : V.cell? ⟨R, 6, none⟩ = some (.string ⟨#[]⟩) := blk_at BR.out 6 rfl
      have j7 : V.cell? ⟨R, 7, none⟩ = some (.int .i64 0) := blk_at BR.out 7 rfl
      have j8 : V.cell? ⟨R, 8, none⟩ = some (.int .i64 0) := blk_at BR.out 8 rfl
      exact bodyPost_ret (v := .tuple #[.agg #[.int .i64 0, .int .i64 0, .int .i64 0, .int .i64 0, .int .i64 0, .string ⟨#[]⟩, .string ⟨#[]⟩, .int .i64 0, .int .i64 0], .bool false]) (by simp [results, Try.results25, go_sem, j0, j1, j2, j3, j4, j5, j6, j7, j8]) rfl ⟨rfl, ⟨r, HBV.out, HSim.out, rfl, rfl, rfl⟩, KV.out⟩
  | true =>
    have h1 : c.st = 1 := by simp only [goes, Bool.and_eq_true, decide_eq_true_eq] at hg; exact hg.1
    have ht : c.wt = false := by simp only [goes, Bool.and_eq_true] at hg; simpa using hg.2
    have q9 : W.cell? ⟨y, 9, none⟩ = some (.bool true) := by rw [show true = r.bu by rw [hs.bu, h1]; rfl]; exact blk_at HW.out 9 rfl
    have q3 : W.cell? ⟨y, 3, none⟩ = some (.bool false) := by rw [← ht, ← hs.wt]; exact blk_at HW.out 3 rfl
    have q4 : W.cell? ⟨y, 4, none⟩ = some (.int .i64 r.si) := blk_at HW.out 4 rfl
    have q5 : W.cell? ⟨y, 5, none⟩ = some (.int .i64 r.la) := blk_at HW.out 5 rfl
    have f3 : W.frozen? ⟨y, 3, none⟩ = false := blk_free HW.out 3
    have f4 : W.frozen? ⟨y, 4, none⟩ = false := blk_free HW.out 4
    have f5 : W.frozen? ⟨y, 5, none⟩ = false := blk_free HW.out 5
    obtain ⟨Y, hY⟩ : ∃ Y, Y = (((W.setCell ⟨y, 5, none⟩ (.int .i64 (r.la + 1))).setCell ⟨y, 3, none⟩ (.bool true)).setCell ⟨y, 4, none⟩ (.int .i64 0)) := ⟨_, rfl⟩
    have HY : Hid (RAt Y y { r with la := r.la + 1, wt := true, si := 0 } (some a) n cn ∧ Y.heap[R]? = some (.cells #[.int .i64 0, .int .i64 0, .int .i64 0, .int .i64 0, .int .i64 0, .string ⟨#[]⟩, .string ⟨#[]⟩, .int .i64 0, .int .i64 0] 34 (0, 0)) ∧ Kept (One y) w Y ∧ Y.cell? (a.add r.nx) = some (.int .i64 nd)) := by
      rw [hY]
      refine ⟨(((HW.out.s5 _).s3 _).s4 _), (blk_other (a := ⟨y, 4, none⟩) (blk_other (a := ⟨y, 3, none⟩) (blk_other (a := ⟨y, 5, none⟩) HR.out hRb _) hRb _) hRb _), (((KW.out.one.setCell (p := ⟨y, 5, none⟩) (fun _ => rfl) _).setCell (p := ⟨y, 3, none⟩) (fun _ => rfl) _).setCell (p := ⟨y, 4, none⟩) (fun _ => rfl) _), ?_⟩
      have hne : (a.add r.nx).block ≠ y := fun e => by
        have e2 : (a.add r.nx).block = a.block := by unfold Addr.add; split <;> rfl
        exact hab' a rfl (by rw [← e2, e])
      exact cell_kept (X := One y) ((((Kept.refl _ _).setCell (p := ⟨y, 5, none⟩) (fun _ => rfl) _).setCell (p := ⟨y, 3, none⟩) (fun _ => rfl) _).setCell (p := ⟨y, 4, none⟩) (fun _ => rfl) _) (fun _ => hne) hcell
    obtain ⟨D, HDe⟩ : ∃ D, Hid (D = Y.heap.size) := ⟨_, rfl⟩
    have hDn : w.heap.size ≤ D := by have := HDe.out; have := HY.out.2.2.1.size; omega
    have hbD : y ≠ D := by have := lt_of_block HY.out.1; have := HDe.out; omega
    have hDb : D ≠ y := fun e => hbD e.symm
    have hRD : R ≠ D := by have := lt_of_block HY.out.2.1; have := HDe.out; omega
    have hDR : D ≠ R := fun e => hRD e.symm
    obtain ⟨Z, hZ⟩ : ∃ Z, Z = (Y.alloc (.cells #[.int .i64 (r.la + 1), .int .i64 nd, .int .i64 0, .int .i64 0, .int .i64 0, .string ⟨#[]⟩, .string ⟨#[]⟩, .int .i64 0, .int .i64 0] 34)).drew := ⟨_, rfl⟩
    have HZ : Hid (RAt Z y { r with la := r.la + 1, wt := true, si := 0 } (some a) n cn ∧ Z.heap[R]? = some (.cells #[.int .i64 0, .int .i64 0, .int .i64 0, .int .i64 0, .int .i64 0, .string ⟨#[]⟩, .string ⟨#[]⟩, .int .i64 0, .int .i64 0] 34 (0, 0)) ∧ Z.heap[D]? = some (.cells #[.int .i64 (r.la + 1), .int .i64 nd, .int .i64 0, .int .i64 0, .int .i64 0, .string ⟨#[]⟩, .string ⟨#[]⟩, .int .i64 0, .int .i64 0] 34 (0, 0)) ∧ Kept (One y) w Z) := by
      rw [hZ, HDe.out]
      exact ⟨(HY.out.1.past _).drew, blk_drew (blk_past HY.out.2.1 _), blk_drew (blk_new Y _), (HY.out.2.2.1.alloc _).drew⟩
    have HS2 : Hid (Sim (nextC c) { r with la := r.la + 1, wt := true, si := 0 }) := by
      have e : nextC c = { c with la := c.la + 1, wt := true, si := 0 } := by unfold nextC; rw [hg, if_pos rfl]
      rw [e]
      exact ⟨hs.nx, hs.pat, rfl, rfl, by show r.la + 1 = c.la + 1; rw [hla], hs.fi, hs.se, hs.nu, hs.bu, hs.go, hs.cmd, hs.res⟩
    have p0 : Y.cell? ⟨y, 0, none⟩ = some (.slice (some a) n cn) := blk_at HY.out.1 0 rfl
    have p1 : Y.cell? ⟨y, 1, none⟩ = some (.int .i64 r.nx) := blk_at HY.out.1 1 rfl
    have p5 : Y.cell? ⟨y, 5, none⟩ = some (.int .i64 (r.la + 1)) := blk_at HY.out.1 5 rfl
    have hcY : Y.cell? (a.add r.nx) = some (.int .i64 nd) := HY.out.2.2.2
    have hcZ : (Y.alloc (.cells #[.int .i64 0, .int .i64 0, .int .i64 0, .int .i64 0, .int .i64 0, .string ⟨#[]⟩, .string ⟨#[]⟩, .int .i64 0, .int .i64 0] 34)).cell? (a.add r.nx) = some (.int .i64 nd) := cell_kept ((Kept.refl Nil _).alloc _) (fun _ x => x) hcY
    have pz0 : (Y.alloc (.cells #[.int .i64 0, .int .i64 0, .int .i64 0, .int .i64 0, .int .i64 0, .string ⟨#[]⟩, .string ⟨#[]⟩, .int .i64 0, .int .i64 0] 34)).cell? ⟨y, 0, none⟩ = some (.slice (some a) n cn) := blk_at (HY.out.1.past _) 0 rfl
    have pz1 : (Y.alloc (.cells #[.int .i64 0, .int .i64 0, .int .i64 0, .int .i64 0, .int .i64 0, .string ⟨#[]⟩, .string ⟨#[]⟩, .int .i64 0, .int .i64 0] 34)).cell? ⟨y, 1, none⟩ = some (.int .i64 r.nx) := blk_at (HY.out.1.past _) 1 rfl
    have pz5 : (Y.alloc (.cells #[.int .i64 0, .int .i64 0, .int .i64 0, .int .i64 0, .int .i64 0, .string ⟨#[]⟩, .string ⟨#[]⟩, .int .i64 0, .int .i64 0] 34)).cell? ⟨y, 5, none⟩ = some (.int .i64 (r.la + 1)) := blk_at (HY.out.1.past _) 5 rfl
    by_cases hz : r.se = 0
    · have HA : Hid (askV c nd = #[.int .i64 (r.la + 1), .int .i64 nd, .int .i64 0, .int .i64 0, .int .i64 0, .string ⟨#[]⟩, .string ⟨#[]⟩, .int .i64 0, .int .i64 0]) := by
        show _ = _
        unfold askV
        rw [hg, if_pos rfl, if_pos (show c.se = 0 by rw [← hs.se]; exact hz), hla]
        rfl
      rw [HA.out]
      clear h hr hl hs hg h1 ht hcell0 hla hnu hnx
      go_enter Try.func25, Try.ntmps25
      go_upto_region 1 with fail
      rw [← hW, ← HRe.out]
      clear hW
      go_upto_region 6 with fail
      rw [← hY]
      clear hY q3 q4 q5 q9 f3 f4 f5 hcell
      go_region
      all_goals
        rw [← hZ, ← HDe.out]
        clear hZ p0 p1 p5 hcY pz0 pz1 pz5 hcZ
        have s7 : Z.cell? ⟨y, 7, none⟩ = some (.int .i64 0) := by rw [← hz]; exact blk_at HZ.out.1 7 rfl
        go_upto_region 9 with fail
        have d0 : Z.cell? ⟨D, 0, none⟩ = some (.int .i64 (r.la + 1)) := blk_at HZ.out.2.2.1 0 rfl
        have d1 : Z.cell? ⟨D, 1, none⟩ = some (.int .i64 nd) := blk_at HZ.out.2.2.1 1 rfl
        have d2 : Z.cell? ⟨D, 2, none⟩ = some (.int .i64 0) := blk_at HZ.out.2.2.1 2 rfl
        have d3 : Z.cell? ⟨D, 3, none⟩ = some (.int .i64 0) := blk_at HZ.out.2.2.1 3 rfl
        have d4 : Z.cell? ⟨D, 4, none⟩ = some (.int .i64 0) := blk_at HZ.out.2.2.1 4 rfl
        have d5 : Z.cell? ⟨D, 5, none⟩ = some (.string ⟨#[]⟩) := blk_at HZ.out.2.2.1 5 rfl
        have d6 : Z.cell? ⟨D, 6, none⟩ = some (.string ⟨#[]⟩) := blk_at HZ.out.2.2.1 6 rfl
        have d7 : Z.cell? ⟨D, 7, none⟩ = some (.int .i64 0) := blk_at HZ.out.2.2.1 7 rfl
        have d8 : Z.cell? ⟨D, 8, none⟩ = some (.int .i64 0) := blk_at HZ.out.2.2.1 8 rfl
        have r0 : Z.cell? ⟨R, 0, none⟩ = some (.int .i64 0) := blk_at HZ.out.2.1 0 rfl
        have r1 : Z.cell? ⟨R, 1, none⟩ = some (.int .i64 0) := blk_at HZ.out.2.1 1 rfl
        have r2 : Z.cell? ⟨R, 2, none⟩ = some (.int .i64 0) := blk_at HZ.out.2.1 2 rfl
        have r3 : Z.cell? ⟨R, 3, none⟩ = some (.int .i64 0) := blk_at HZ.out.2.1 3 rfl
        have r4 : Z.cell? ⟨R, 4, none⟩ = some (.int .i64 0) := blk_at HZ.out.2.1 4 rfl
        have r5 : Z.cell? ⟨R, 5, none⟩ = some (.string ⟨#[]⟩) := blk_at HZ.out.2.1 5 rfl
        have r6 : Z.cell? ⟨R, 6, none⟩ = some (.string ⟨#[]⟩) := blk_at HZ.out.2.1 6 rfl
        have r7 : Z.cell? ⟨R, 7, none⟩ = some (.int .i64 0) := blk_at HZ.out.2.1 7 rfl
        have r8 : Z.cell? ⟨R, 8, none⟩ = some (.int .i64 0) := blk_at HZ.out.2.1 8 rfl
        have z0 : Z.frozen? ⟨R, 0, none⟩ = false := blk_free HZ.out.2.1 0
        have z1 : Z.frozen? ⟨R, 1, none⟩ = false := blk_free HZ.out.2.1 1
        have z2 : Z.frozen? ⟨R, 2, none⟩ = false := blk_free HZ.out.2.1 2
        have z3 : Z.frozen? ⟨R, 3, none⟩ = false := blk_free HZ.out.2.1 3
        have z4 : Z.frozen? ⟨R, 4, none⟩ = false := blk_free HZ.out.2.1 4
        have z5 : Z.frozen? ⟨R, 5, none⟩ = false := blk_free HZ.out.2.1 5
        have z6 : Z.frozen? ⟨R, 6, none⟩ = false := blk_free HZ.out.2.1 6
        have z7 : Z.frozen? ⟨R, 7, none⟩ = false := blk_free HZ.out.2.1 7
        have z8 : Z.frozen? ⟨R, 8, none⟩ = false := blk_free HZ.out.2.1 8
        obtain ⟨V, hV⟩ : ∃ V, V = (((((((((Z.setCell ⟨R, 0, none⟩ (.int .i64 (r.la + 1))).setCell ⟨R, 1, none⟩ (.int .i64 nd)).setCell ⟨R, 2, none⟩ (.int .i64 0)).setCell ⟨R, 3, none⟩ (.int .i64 0)).setCell ⟨R, 4, none⟩ (.int .i64 0)).setCell ⟨R, 5, none⟩ (.string ⟨#[]⟩)).setCell ⟨R, 6, none⟩ (.string ⟨#[]⟩)).setCell ⟨R, 7, none⟩ (.int .i64 0)).setCell ⟨R, 8, none⟩ (.int .i64 0)) := ⟨_, rfl⟩
        have BR : Hid (V.heap[R]? = some (.cells #[.int .i64 (r.la + 1), .int .i64 nd, .int .i64 0, .int .i64 0, .int .i64 0, .string ⟨#[]⟩, .string ⟨#[]⟩, .int .i64 0, .int .i64 0] 34 (0, 0))) := by rw [hV]; exact (put9 HZ.out.2.1)
        have KV : Hid (Kept (One y) w V) := by rw [hV]; exact (((((((((HZ.out.2.2.2.setNew (p := ⟨R, 0, none⟩) hRn _).setNew (p := ⟨R, 1, none⟩) hRn _).setNew (p := ⟨R, 2, none⟩) hRn _).setNew (p := ⟨R, 3, none⟩) hRn _).setNew (p := ⟨R, 4, none⟩) hRn _).setNew (p := ⟨R, 5, none⟩) hRn _).setNew (p := ⟨R, 6, none⟩) hRn _).setNew (p := ⟨R, 7, none⟩) hRn _).setNew (p := ⟨R, 8, none⟩) hRn _)
        have HBV : Hid (RAt V y { r with la := r.la + 1, wt := true, si := 0 } (some a) n cn) := by rw [hV]; exact (((((((((HZ.out.1.oth (a := ⟨R, 0, none⟩) hbR _).oth (a := ⟨R, 1, none⟩) hbR _).oth (a := ⟨R, 2, none⟩) hbR _).oth (a := ⟨R, 3, none⟩) hbR _).oth (a := ⟨R, 4, none⟩) hbR _).oth (a := ⟨R, 5, none⟩) hbR _).oth (a := ⟨R, 6, none⟩) hbR _).oth (a := ⟨R, 7, none⟩) hbR _).oth (a := ⟨R, 8, none⟩) hbR _)
        go_wp2
        rw [← hV]
        clear hV
        have j0 : V.cell? ⟨R, 0, none⟩ = some (.int .i64 (r.la + 1)) := blk_at BR.out 0 rfl
        have j1 : V.cell? ⟨R, 1, none⟩ = some (.int .i64 nd) := blk_at BR.out 1 rfl
        have j2 : V.cell? ⟨R, 2, none⟩ = some (.int .i64 0) := blk_at BR.out 2 rfl
        have j3 : V.cell? ⟨R, 3, none⟩ = some (.int .i64 0) := blk_at BR.out 3 rfl
        have j4 : V.cell? ⟨R, 4, none⟩ = some (.int .i64 0) := blk_at BR.out 4 rfl
        have j5 : V.cell? ⟨R, 5, none⟩ = some (.string ⟨#[]⟩) := blk_at BR.out 5 rfl
        have j6 : V.cell? ⟨R, 6, none⟩ = some (.string ⟨#[]⟩) := blk_at BR.out 6 rfl
        have j7 : V.cell? ⟨R, 7, none⟩ = some (.int .i64 0) := blk_at BR.out 7 rfl
        have j8 : V.cell? ⟨R, 8, none⟩ = some (.int .i64 0) := blk_at BR.out 8 rfl
        exact bodyPost_ret (v := .tuple #[.agg #[.int .i64 (r.la + 1), .int .i64 nd, .int .i64 0, .int .i64 0, .int .i64 0, .string ⟨#[]⟩, .string ⟨#[]⟩, .int .i64 0, .int .i64 0], .bool true]) (by simp [results, Try.results25, go_sem, j0, j1, j2, j3, j4, j5, j6, j7, j8]) rfl ⟨rfl, ⟨_, HBV.out, HS2.out, rfl, rfl, rfl⟩, KV.out⟩
    · have HA : Hid (askV c nd = #[.int .i64 (r.la + 1), .int .i64 nd, .int .i64 r.se, .int .i64 (r.nu + 1), .int .i64 r.k, .string (bs r.key), .string (bs r.val), .int .i64 r.i, .int .i64 0]) := by
        show _ = _
        unfold askV
        obtain ⟨e1, e2, e3, e4⟩ := hs.cmd h1
        rw [hg, if_pos rfl, if_neg (show ¬ c.se = 0 by rw [← hs.se]; exact hz), hla, hs.se, hnu, e1, e2, e3, e4]
      rw [HA.out]
      have hz' : (r.se != 0) = true := by simpa using hz
      have hu' : 0 ≤ r.nu := by omega
      have hu2' : r.nu ≤ 4611686018427387904 := by omega
      clear h hr hl hs hg h1 ht hcell0 hz hla hnu hnx
      go_enter Try.func25, Try.ntmps25
      go_upto_region 1 with fail
      rw [← hW, ← HRe.out]
      clear hW
      go_upto_region 6 with fail
      rw [← hY]
      clear hY q3 q4 q5 q9 f3 f4 f5 hcell
      go_region
      all_goals
        rw [← hZ, ← HDe.out]
        clear hZ p0 p1 p5 hcY pz0 pz1 pz5 hcZ
        have s7 : Z.cell? ⟨y, 7, none⟩ = some (.int .i64 r.se) := blk_at HZ.out.1 7 rfl
        have s8 : Z.cell? ⟨y, 8, none⟩ = some (.int .i64 r.nu) := blk_at HZ.out.1 8 rfl
        have s11 : Z.cell? ⟨y, 11, none⟩ = some (.int .i64 r.k) := blk_at HZ.out.1 11 rfl
        have s12 : Z.cell? ⟨y, 12, none⟩ = some (.string (bs r.key)) := blk_at HZ.out.1 12 rfl
        have s13 : Z.cell? ⟨y, 13, none⟩ = some (.string (bs r.val)) := blk_at HZ.out.1 13 rfl
        have s14 : Z.cell? ⟨y, 14, none⟩ = some (.int .i64 r.i) := blk_at HZ.out.1 14 rfl
        have d0 : Z.cell? ⟨D, 0, none⟩ = some (.int .i64 (r.la + 1)) := blk_at HZ.out.2.2.1 0 rfl
        have d1 : Z.cell? ⟨D, 1, none⟩ = some (.int .i64 nd) := blk_at HZ.out.2.2.1 1 rfl
        have d2 : Z.cell? ⟨D, 2, none⟩ = some (.int .i64 0) := blk_at HZ.out.2.2.1 2 rfl
        have d3 : Z.cell? ⟨D, 3, none⟩ = some (.int .i64 0) := blk_at HZ.out.2.2.1 3 rfl
        have d4 : Z.cell? ⟨D, 4, none⟩ = some (.int .i64 0) := blk_at HZ.out.2.2.1 4 rfl
        have d5 : Z.cell? ⟨D, 5, none⟩ = some (.string ⟨#[]⟩) := blk_at HZ.out.2.2.1 5 rfl
        have d6 : Z.cell? ⟨D, 6, none⟩ = some (.string ⟨#[]⟩) := blk_at HZ.out.2.2.1 6 rfl
        have d7 : Z.cell? ⟨D, 7, none⟩ = some (.int .i64 0) := blk_at HZ.out.2.2.1 7 rfl
        have d8 : Z.cell? ⟨D, 8, none⟩ = some (.int .i64 0) := blk_at HZ.out.2.2.1 8 rfl
        have g0 : Z.frozen? ⟨D, 0, none⟩ = false := blk_free HZ.out.2.2.1 0
        have g1 : Z.frozen? ⟨D, 1, none⟩ = false := blk_free HZ.out.2.2.1 1
        have g2 : Z.frozen? ⟨D, 2, none⟩ = false := blk_free HZ.out.2.2.1 2
        have g3 : Z.frozen? ⟨D, 3, none⟩ = false := blk_free HZ.out.2.2.1 3
        have g4 : Z.frozen? ⟨D, 4, none⟩ = false := blk_free HZ.out.2.2.1 4
        have g5 : Z.frozen? ⟨D, 5, none⟩ = false := blk_free HZ.out.2.2.1 5
        have g6 : Z.frozen? ⟨D, 6, none⟩ = false := blk_free HZ.out.2.2.1 6
        have g7 : Z.frozen? ⟨D, 7, none⟩ = false := blk_free HZ.out.2.2.1 7
        have g8 : Z.frozen? ⟨D, 8, none⟩ = false := blk_free HZ.out.2.2.1 8
        obtain ⟨U, hU⟩ : ∃ U, U = (((((((Z.setCell ⟨D, 2, none⟩ (.int .i64 r.se)).setCell ⟨D, 3, none⟩ (.int .i64 (r.nu + 1))).setCell ⟨D, 4, none⟩ (.int .i64 r.k)).setCell ⟨D, 5, none⟩ (.string (bs r.key))).setCell ⟨D, 6, none⟩ (.string (bs r.val))).setCell ⟨D, 7, none⟩ (.int .i64 r.i)).setCell ⟨D, 8, none⟩ (.int .i64 0)).drew := ⟨_, rfl⟩
        have HU : Hid (RAt U y { r with la := r.la + 1, wt := true, si := 0 } (some a) n cn ∧ U.heap[R]? = some (.cells #[.int .i64 0, .int .i64 0, .int .i64 0, .int .i64 0, .int .i64 0, .string ⟨#[]⟩, .string ⟨#[]⟩, .int .i64 0, .int .i64 0] 34 (0, 0)) ∧ U.heap[D]? = some (.cells #[.int .i64 (r.la + 1), .int .i64 nd, .int .i64 r.se, .int .i64 (r.nu + 1), .int .i64 r.k, .string (bs r.key), .string (bs r.val), .int .i64 r.i, .int .i64 0] 34 (0, 0)) ∧ Kept (One y) w U) := by
          rw [hU]
          exact ⟨(((((((HZ.out.1.oth (a := ⟨D, 2, none⟩) hbD _).oth (a := ⟨D, 3, none⟩) hbD _).oth (a := ⟨D, 4, none⟩) hbD _).oth (a := ⟨D, 5, none⟩) hbD _).oth (a := ⟨D, 6, none⟩) hbD _).oth (a := ⟨D, 7, none⟩) hbD _).oth (a := ⟨D, 8, none⟩) hbD _).drew, blk_drew (blk_other (a := ⟨D, 8, none⟩) (blk_other (a := ⟨D, 7, none⟩) (blk_other (a := ⟨D, 6, none⟩) (blk_other (a := ⟨D, 5, none⟩) (blk_other (a := ⟨D, 4, none⟩) (blk_other (a := ⟨D, 3, none⟩) (blk_other (a := ⟨D, 2, none⟩) HZ.out.2.1 hRD _) hRD _) hRD _) hRD _) hRD _) hRD _) hRD _), blk_drew (put9b HZ.out.2.2.1), (((((((HZ.out.2.2.2.setNew (p := ⟨D, 2, none⟩) hDn _).setNew (p := ⟨D, 3, none⟩) hDn _).setNew (p := ⟨D, 4, none⟩) hDn _).setNew (p := ⟨D, 5, none⟩) hDn _).setNew (p := ⟨D, 6, none⟩) hDn _).setNew (p := ⟨D, 7, none⟩) hDn _).setNew (p := ⟨D, 8, none⟩) hDn _).drew⟩
        go_upto_region 8 with fail
        go_region
        all_goals
          rw [← hU]
          clear hU s7 s8 s11 s12 s13 s14 d0 d1 d2 d3 d4 d5 d6 d7 d8 g0 g1 g2 g3 g4 g5 g6 g7 g8
          go_upto_region 9 with fail
          have d0 : U.cell? ⟨D, 0, none⟩ = some (.int .i64 (r.la + 1)) := blk_at HU.out.2.2.1 0 rfl
          have d1 : U.cell? ⟨D, 1, none⟩ = some (.int .i64 nd) := blk_at HU.out.2.2.1 1 rfl
          have d2 : U.cell? ⟨D, 2, none⟩ = some (.int .i64 r.se) := blk_at HU.out.2.2.1 2 rfl
          have d3 : U.cell? ⟨D, 3, none⟩ = some (.int .i64 (r.nu + 1)) := blk_at HU.out.2.2.1 3 rfl
          have d4 : U.cell? ⟨D, 4, none⟩ = some (.int .i64 r.k) := blk_at HU.out.2.2.1 4 rfl
          have d5 : U.cell? ⟨D, 5, none⟩ = some (.string (bs r.key)) := blk_at HU.out.2.2.1 5 rfl
          have d6 : U.cell? ⟨D, 6, none⟩ = some (.string (bs r.val)) := blk_at HU.out.2.2.1 6 rfl
          have d7 : U.cell? ⟨D, 7, none⟩ = some (.int .i64 r.i) := blk_at HU.out.2.2.1 7 rfl
          have d8 : U.cell? ⟨D, 8, none⟩ = some (.int .i64 0) := blk_at HU.out.2.2.1 8 rfl
          have r0 : U.cell? ⟨R, 0, none⟩ = some (.int .i64 0) := blk_at HU.out.2.1 0 rfl
          have r1 : U.cell? ⟨R, 1, none⟩ = some (.int .i64 0) := blk_at HU.out.2.1 1 rfl
          have r2 : U.cell? ⟨R, 2, none⟩ = some (.int .i64 0) := blk_at HU.out.2.1 2 rfl
          have r3 : U.cell? ⟨R, 3, none⟩ = some (.int .i64 0) := blk_at HU.out.2.1 3 rfl
          have r4 : U.cell? ⟨R, 4, none⟩ = some (.int .i64 0) := blk_at HU.out.2.1 4 rfl
          have r5 : U.cell? ⟨R, 5, none⟩ = some (.string ⟨#[]⟩) := blk_at HU.out.2.1 5 rfl
          have r6 : U.cell? ⟨R, 6, none⟩ = some (.string ⟨#[]⟩) := blk_at HU.out.2.1 6 rfl
          have r7 : U.cell? ⟨R, 7, none⟩ = some (.int .i64 0) := blk_at HU.out.2.1 7 rfl
          have r8 : U.cell? ⟨R, 8, none⟩ = some (.int .i64 0) := blk_at HU.out.2.1 8 rfl
          have z0 : U.frozen? ⟨R, 0, none⟩ = false := blk_free HU.out.2.1 0
          have z1 : U.frozen? ⟨R, 1, none⟩ = false := blk_free HU.out.2.1 1
          have z2 : U.frozen? ⟨R, 2, none⟩ = false := blk_free HU.out.2.1 2
          have z3 : U.frozen? ⟨R, 3, none⟩ = false := blk_free HU.out.2.1 3
          have z4 : U.frozen? ⟨R, 4, none⟩ = false := blk_free HU.out.2.1 4
          have z5 : U.frozen? ⟨R, 5, none⟩ = false := blk_free HU.out.2.1 5
          have z6 : U.frozen? ⟨R, 6, none⟩ = false := blk_free HU.out.2.1 6
          have z7 : U.frozen? ⟨R, 7, none⟩ = false := blk_free HU.out.2.1 7
          have z8 : U.frozen? ⟨R, 8, none⟩ = false := blk_free HU.out.2.1 8
          obtain ⟨V, hV⟩ : ∃ V, V = (((((((((U.setCell ⟨R, 0, none⟩ (.int .i64 (r.la + 1))).setCell ⟨R, 1, none⟩ (.int .i64 nd)).setCell ⟨R, 2, none⟩ (.int .i64 r.se)).setCell ⟨R, 3, none⟩ (.int .i64 (r.nu + 1))).setCell ⟨R, 4, none⟩ (.int .i64 r.k)).setCell ⟨R, 5, none⟩ (.string (bs r.key))).setCell ⟨R, 6, none⟩ (.string (bs r.val))).setCell ⟨R, 7, none⟩ (.int .i64 r.i)).setCell ⟨R, 8, none⟩ (.int .i64 0)) := ⟨_, rfl⟩
          have BR : Hid (V.heap[R]? = some (.cells #[.int .i64 (r.la + 1), .int .i64 nd, .int .i64 r.se, .int .i64 (r.nu + 1), .int .i64 r.k, .string (bs r.key), .string (bs r.val), .int .i64 r.i, .int .i64 0] 34 (0, 0))) := by rw [hV]; exact (put9 HU.out.2.1)
          have KV : Hid (Kept (One y) w V) := by rw [hV]; exact (((((((((HU.out.2.2.2.setNew (p := ⟨R, 0, none⟩) hRn _).setNew (p := ⟨R, 1, none⟩) hRn _).setNew (p := ⟨R, 2, none⟩) hRn _).setNew (p := ⟨R, 3, none⟩) hRn _).setNew (p := ⟨R, 4, none⟩) hRn _).setNew (p := ⟨R, 5, none⟩) hRn _).setNew (p := ⟨R, 6, none⟩) hRn _).setNew (p := ⟨R, 7, none⟩) hRn _).setNew (p := ⟨R, 8, none⟩) hRn _)
          have HBV : Hid (RAt V y { r with la := r.la + 1, wt := true, si := 0 } (some a) n cn) := by rw [hV]; exact (((((((((HU.out.1.oth (a := ⟨R, 0, none⟩) hbR _).oth (a := ⟨R, 1, none⟩) hbR _).oth (a := ⟨R, 2, none⟩) hbR _).oth (a := ⟨R, 3, none⟩) hbR _).oth (a := ⟨R, 4, none⟩) hbR _).oth (a := ⟨R, 5, none⟩) hbR _).oth (a := ⟨R, 6, none⟩) hbR _).oth (a := ⟨R, 7, none⟩) hbR _).oth (a := ⟨R, 8, none⟩) hbR _)
          go_wp2
          rw [← hV]
          clear hV
          have j0 : V.cell? ⟨R, 0, none⟩ = some (.int .i64 (r.la + 1)) := blk_at BR.out 0 rfl
          have j1 : V.cell? ⟨R, 1, none⟩ = some (.int .i64 nd) := blk_at BR.out 1 rfl
          have j2 : V.cell? ⟨R, 2, none⟩ = some (.int .i64 r.se) := blk_at BR.out 2 rfl
          have j3 : V.cell? ⟨R, 3, none⟩ = some (.int .i64 (r.nu + 1)) := blk_at BR.out 3 rfl
          have j4 : V.cell? ⟨R, 4, none⟩ = some (.int .i64 r.k) := blk_at BR.out 4 rfl
          have j5 : V.cell? ⟨R, 5, none⟩ = some (.string (bs r.key)) := blk_at BR.out 5 rfl
          have j6 : V.cell? ⟨R, 6, none⟩ = some (.string (bs r.val)) := blk_at BR.out 6 rfl
          have j7 : V.cell? ⟨R, 7, none⟩ = some (.int .i64 r.i) := blk_at BR.out 7 rfl
          have j8 : V.cell? ⟨R, 8, none⟩ = some (.int .i64 0) := blk_at BR.out 8 rfl
          exact bodyPost_ret (v := .tuple #[.agg #[.int .i64 (r.la + 1), .int .i64 nd, .int .i64 r.se, .int .i64 (r.nu + 1), .int .i64 r.k, .string (bs r.key), .string (bs r.val), .int .i64 r.i, .int .i64 0], .bool true]) (by simp [results, Try.results25, go_sem, j0, j1, j2, j3, j4, j5, j6, j7, j8]) rfl ⟨rfl, ⟨_, HBV.out, HS2.out, rfl, rfl, rfl⟩, KV.out⟩

end Go.Proofs.Ytbfleeilpccmcaa
