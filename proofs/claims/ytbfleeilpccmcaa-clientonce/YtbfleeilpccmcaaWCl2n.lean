/-
  A client: Next.
-/
import Derived.Test.YtbfleeilpccmcaaWCl2
import Derived.Deep.DeepFit
import Derived.Deep.RegionHeld3
namespace Go.Proofs.Ytbfleeilpccmcaa
open Go.RowKit

/-- What Next tells: nd is the node that is next. -/
def askV (c : Cl) (nd : Int) : Array Value := if goes c then (if c.se = 0 then #[.int .i64 (c.la + 1), .int .i64 nd, .int .i64 0, .int .i64 0, .int .i64 0, .string (bs []), .string (bs []), .int .i64 0, .int .i64 0] else #[.int .i64 (c.la + 1), .int .i64 nd, .int .i64 c.se, .int .i64 (c.nu + 1), .int .i64 c.ck, .string (bs c.ckey), .string (bs c.cval), .int .i64 c.ci, .int .i64 0]) else #[.int .i64 0, .int .i64 0, .int .i64 0, .int .i64 0, .int .i64 0, .string ⟨#[]⟩, .string ⟨#[]⟩, .int .i64 0, .int .i64 0]
theorem sp_next {b n cn R : Nat} {a : Addr} {c : Cl} {nd : Int} {w w' : World} (h : w.cell? ⟨b, 0, none⟩ = some (.slice (some a) n cn) ∧ w.cell? ⟨b, 1, none⟩ = some (.int .i64 c.nx) ∧ w.cell? ⟨b, 7, none⟩ = some (.int .i64 (c.la + 1)) ∧ w.cell? (a.add c.nx) = some (.int .i64 nd)) (hbR : b ≠ R) (haR : (a.add c.nx).block ≠ R) (hk : Kept (One R) w w') : w'.cell? ⟨b, 0, none⟩ = some (.slice (some a) n cn) ∧ w'.cell? ⟨b, 1, none⟩ = some (.int .i64 c.nx) ∧ w'.cell? ⟨b, 7, none⟩ = some (.int .i64 (c.la + 1)) ∧ w'.cell? (a.add c.nx) = some (.int .i64 nd) :=
  ⟨cell_kept hk (fun _ => hbR) h.1, cell_kept hk (fun _ => hbR) h.2.1, cell_kept hk (fun _ => hbR) h.2.2.1, cell_kept hk (fun _ => haR) h.2.2.2⟩
set_option maxRecDepth 100000 in
set_option maxHeartbeats 2000000 in
theorem next_any (b n cn kc : Nat) (c : Cl) (an ko : Option Addr) (l : List Int) (B : Nat) (nd : Int) (w : World) (h : ClAt w b c an n cn ko kc) (hr : IntRow B w an l) (hl : l.length = n) (hx : c.nx < l.length) (hnd : l[c.nx] = nd) (hu : 0 ≤ c.nu) (hu2 : c.nu ≤ 4611686018427387904) (hab' : ∀ a, an = some a → a.block ≠ b) (ha : 0 ≤ c.la) (ha2 : c.la ≤ 4611686018427387904) :
    Calls Try.prog 7 #[.pointer (some ⟨b, 0, none⟩)] w fun e w' => e = .returned (.tuple #[.agg (askV c nd), .bool (goes c)]) ∧ ClAt w' b (nextC c) an n cn ko kc ∧ Kept (One b) w w' := by
  obtain ⟨W, hW⟩ : ∃ W, W = w.alloc (.cells #[.int .i64 0, .int .i64 0, .int .i64 0, .int .i64 0, .int .i64 0, .string ⟨#[]⟩, .string ⟨#[]⟩, .int .i64 0, .int .i64 0] 34) := ⟨_, rfl⟩
  obtain ⟨R, HRe⟩ : ∃ R, Hid (R = w.heap.size) := ⟨_, rfl⟩
  have HR : Hid (W.heap[R]? = some (.cells #[.int .i64 0, .int .i64 0, .int .i64 0, .int .i64 0, .int .i64 0, .string ⟨#[]⟩, .string ⟨#[]⟩, .int .i64 0, .int .i64 0] 34 (0, 0))) := by rw [hW, HRe.out]; exact blk_new _ _
  have HW : Hid (ClAt W b c an n cn ko kc) := by rw [hW]; exact h.past _
  have KW : Hid (Kept Nil w W) := by rw [hW]; exact (Kept.refl _ _).alloc _
  have hRn : w.heap.size ≤ R := by have := HRe.out; omega
  have hbR : b ≠ R := by have := lt_of_block h; have := HRe.out; omega
  have hRb : R ≠ b := fun e => hbR e.symm
  obtain ⟨a, rfl, hab, hcell0⟩ := hr c.nx hx
  rw [hnd] at hcell0
  have hcell : W.cell? (a.add c.nx) = some (.int .i64 nd) := by
    obtain ⟨a', e, _, h'⟩ := hr.nil KW.out c.nx hx
    cases e
    rw [hnd] at h'
    exact h'
  have hx1 : (c.nx : Int) < n := by omega
  have hx0 : (0 : Int) ≤ c.nx := by omega
  have haR : (a.add c.nx).block ≠ R := fun e => by
    have h9 := World.block_lt_of_cell? w _ hcell0
    have := HRe.out
    omega
  cases hg : goes c with
  | false =>
    have HE : Hid (askV c nd = #[.int .i64 0, .int .i64 0, .int .i64 0, .int .i64 0, .int .i64 0, .string ⟨#[]⟩, .string ⟨#[]⟩, .int .i64 0, .int .i64 0] ∧ nextC c = c) := by
      constructor
      · unfold askV; rw [hg]; rfl
      · unfold nextC; rw [hg]; rfl
    rw [HE.out.1, HE.out.2]
    have r0 : W.cell? ⟨R, 0, none⟩ = some (.int .i64 0) := blk_at HR.out 0 rfl
    have r1 : W.cell? ⟨R, 1, none⟩ = some (.int .i64 0) := blk_at HR.out 1 rfl
    have r2 : W.cell? ⟨R, 2, none⟩ = some (.int .i64 0) := blk_at HR.out 2 rfl
    have r3 : W.cell? ⟨R, 3, none⟩ = some (.int .i64 0) := blk_at HR.out 3 rfl
    have r4 : W.cell? ⟨R, 4, none⟩ = some (.int .i64 0) := blk_at HR.out 4 rfl
    have r5 : W.cell? ⟨R, 5, none⟩ = some (.string ⟨#[]⟩) := blk_at HR.out 5 rfl
    have r6 : W.cell? ⟨R, 6, none⟩ = some (.string ⟨#[]⟩) := blk_at HR.out 6 rfl
    have r7 : W.cell? ⟨R, 7, none⟩ = some (.int .i64 0) := blk_at HR.out 7 rfl
    have r8 : W.cell? ⟨R, 8, none⟩ = some (.int .i64 0) := blk_at HR.out 8 rfl
    have z0 : W.frozen? ⟨R, 0, none⟩ = false := blk_free HR.out 0
    have z1 : W.frozen? ⟨R, 1, none⟩ = false := blk_free HR.out 1
    have z2 : W.frozen? ⟨R, 2, none⟩ = false := blk_free HR.out 2
    have z3 : W.frozen? ⟨R, 3, none⟩ = false := blk_free HR.out 3
    have z4 : W.frozen? ⟨R, 4, none⟩ = false := blk_free HR.out 4
    have z5 : W.frozen? ⟨R, 5, none⟩ = false := blk_free HR.out 5
    have z6 : W.frozen? ⟨R, 6, none⟩ = false := blk_free HR.out 6
    have z7 : W.frozen? ⟨R, 7, none⟩ = false := blk_free HR.out 7
    have z8 : W.frozen? ⟨R, 8, none⟩ = false := blk_free HR.out 8
    by_cases hs : c.st = 1
    · have ht : c.wt = true := by simpa [goes, hs] using hg
      have q9 : W.cell? ⟨b, 9, none⟩ = some (.int .i64 1) := by rw [← hs]; exact blk_at HW.out 9 rfl
      have q5 : W.cell? ⟨b, 5, none⟩ = some (.bool true) := by rw [← ht]; exact blk_at HW.out 5 rfl
      clear h hr hl
      go_enter Try.func7, Try.ntmps7
      go_upto_region 1 with fail
      rw [← hW, ← HRe.out]
      clear hW
      obtain ⟨V, hV⟩ : ∃ V, V = (((((((((W.setCell ⟨R, 0, none⟩ (.int .i64 0)).setCell ⟨R, 1, none⟩ (.int .i64 0)).setCell ⟨R, 2, none⟩ (.int .i64 0)).setCell ⟨R, 3, none⟩ (.int .i64 0)).setCell ⟨R, 4, none⟩ (.int .i64 0)).setCell ⟨R, 5, none⟩ (.string ⟨#[]⟩)).setCell ⟨R, 6, none⟩ (.string ⟨#[]⟩)).setCell ⟨R, 7, none⟩ (.int .i64 0)).setCell ⟨R, 8, none⟩ (.int .i64 0)) := ⟨_, rfl⟩
      have BR : Hid (V.heap[R]? = some (.cells #[.int .i64 0, .int .i64 0, .int .i64 0, .int .i64 0, .int .i64 0, .string ⟨#[]⟩, .string ⟨#[]⟩, .int .i64 0, .int .i64 0] 34 (0, 0))) := by rw [hV]; exact (put9 HR.out)
      have KV : Hid (Kept (One b) w V) := by rw [hV]; exact (((((((((KW.out.one.setNew (p := ⟨R, 0, none⟩) hRn _).setNew (p := ⟨R, 1, none⟩) hRn _).setNew (p := ⟨R, 2, none⟩) hRn _).setNew (p := ⟨R, 3, none⟩) hRn _).setNew (p := ⟨R, 4, none⟩) hRn _).setNew (p := ⟨R, 5, none⟩) hRn _).setNew (p := ⟨R, 6, none⟩) hRn _).setNew (p := ⟨R, 7, none⟩) hRn _).setNew (p := ⟨R, 8, none⟩) hRn _)
      have HBV : Hid (ClAt V b c (some a) n cn ko kc) := by rw [hV]; exact (((((((((HW.out.oth (a := ⟨R, 0, none⟩) hbR _).oth (a := ⟨R, 1, none⟩) hbR _).oth (a := ⟨R, 2, none⟩) hbR _).oth (a := ⟨R, 3, none⟩) hbR _).oth (a := ⟨R, 4, none⟩) hbR _).oth (a := ⟨R, 5, none⟩) hbR _).oth (a := ⟨R, 6, none⟩) hbR _).oth (a := ⟨R, 7, none⟩) hbR _).oth (a := ⟨R, 8, none⟩) hbR _)
      go_wp2
      rw [← hV]
      clear hV
      have j0 : V.cell? ⟨R, 0, none⟩ = some (.int .i64 0) := blk_at BR.out 0 rfl
      have j1 : V.cell? ⟨R, 1, none⟩ = some (.int .i64 0) := blk_at BR.out 1 rfl
      have j2 : V.cell? ⟨R, 2, none⟩ = some (.int .i64 0) := blk_at BR.out 2 rfl
      have j3 : V.cell? ⟨R, 3, none⟩ = some (.int .i64 0) := blk_at BR.out 3 rfl
      have j4 : V.cell? ⟨R, 4, none⟩ = some (.int .i64 0) := blk_at BR.out 4 rfl
      have j5 : V.cell? ⟨R, 5, none⟩ = some (.string ⟨#[]⟩) := blk_at BR.out 5 rfl
      have j6 : V.cell? ⟨R, 6, none⟩ = some (.string ⟨#[]⟩) := blk_at BR.out 6 rfl
      have j7 : V.cell? ⟨R, 7, none⟩ = some (.int .i64 0) := blk_at BR.out 7 rfl
      have j8 : V.cell? ⟨R, 8, none⟩ = some (.int .i64 0) := blk_at BR.out 8 rfl
      exact bodyPost_ret (v := .tuple #[.agg #[.int .i64 0, .int .i64 0, .int .i64 0, .int .i64 0, .int .i64 0, .string ⟨#[]⟩, .string ⟨#[]⟩, .int .i64 0, .int .i64 0], .bool false]) (by simp [results, Try.results7, go_sem, j0, j1, j2, j3, j4, j5, j6, j7, j8]) rfl ⟨rfl, HBV.out, KV.out⟩
    · have hs' : (c.st != 1) = true := by simpa using hs
      have q9 : W.cell? ⟨b, 9, none⟩ = some (.int .i64 c.st) := blk_at HW.out 9 rfl
      clear h hr hl
      go_enter Try.func7, Try.ntmps7
      go_upto_region 1 with fail
      rw [← hW, ← HRe.out]
      clear hW
      obtain ⟨V, hV⟩ : ∃ V, V = (((((((((W.setCell ⟨R, 0, none⟩ (.int .i64 0)).setCell ⟨R, 1, none⟩ (.int .i64 0)).setCell ⟨R, 2, none⟩ (.int .i64 0)).setCell ⟨R, 3, none⟩ (.int .i64 0)).setCell ⟨R, 4, none⟩ (.int .i64 0)).setCell ⟨R, 5, none⟩ (.string ⟨#[]⟩)).setCell ⟨R, 6, none⟩ (.string ⟨#[]⟩)).setCell ⟨R, 7, none⟩ (.int .i64 0)).setCell ⟨R, 8, none⟩ (.int .i64 0)) := ⟨_, rfl⟩
      have BR : Hid (V.heap[R]? = some (.cells #[.int .i64 0, .int .i64 0, .int .i64 0, .int .i64 0, .int .i64 0, .string ⟨#[]⟩, .string ⟨#[]⟩, .int .i64 0, .int .i64 0] 34 (0, 0))) := by rw [hV]; exact (put9 HR.out)
      have KV : Hid (Kept (One b) w V) := by rw [hV]; exact (((((((((KW.out.one.setNew (p := ⟨R, 0, none⟩) hRn _).setNew (p := ⟨R, 1, none⟩) hRn _).setNew (p := ⟨R, 2, none⟩) hRn _).setNew (p := ⟨R, 3, none⟩) hRn _).setNew (p := ⟨R, 4, none⟩) hRn _).setNew (p := ⟨R, 5, none⟩) hRn _).setNew (p := ⟨R, 6, none⟩) hRn _).setNew (p := ⟨R, 7, none⟩) hRn _).setNew (p := ⟨R, 8, none⟩) hRn _)
      have HBV : Hid (ClAt V b c (some a) n cn ko kc) := by rw [hV]; exact (((((((((HW.out.oth (a := ⟨R, 0, none⟩) hbR _).oth (a := ⟨R, 1, none⟩) hbR _).oth (a := ⟨R, 2, none⟩) hbR _).oth (a := ⟨R, 3, none⟩) hbR _).oth (a := ⟨R, 4, none⟩) hbR _).oth (a := ⟨R, 5, none⟩) hbR _).oth (a := ⟨R, 6, none⟩) hbR _).oth (a := ⟨R, 7, none⟩) hbR _).oth (a := ⟨R, 8, none⟩) hbR _)
      go_wp2
      rw [← hV]
      clear hV
      have j0 : V.cell? ⟨R, 0, none⟩ = some (.int .i64 0) := blk_at BR.out 0 rfl
      have j1 : V.cell? ⟨R, 1, none⟩ = some (.int .i64 0) := blk_at BR.out 1 rfl
      have j2 : V.cell? ⟨R, 2, none⟩ = some (.int .i64 0) := blk_at BR.out 2 rfl
      have j3 : V.cell? ⟨R, 3, none⟩ = some (.int .i64 0) := blk_at BR.out 3 rfl
      have j4 : V.cell? ⟨R, 4, none⟩ = some (.int .i64 0) := blk_at BR.out 4 rfl
      have j5 : V.cell? ⟨R, 5, none⟩ = some (.string ⟨#[]⟩) := blk_at BR.out 5 rfl
      have j6 : V.cell? ⟨R, 6, none⟩ = some (.string ⟨#[]⟩) := blk_at BR.out 6 rfl
      have j7 : V.cell? ⟨R, 7, none⟩ = some (.int .i64 0) := blk_at BR.out 7 rfl
      have j8 : V.cell? ⟨R, 8, none⟩ = some (.int .i64 0) := blk_at BR.out 8 rfl
      exact bodyPost_ret (v := .tuple #[.agg #[.int .i64 0, .int .i64 0, .int .i64 0, .int .i64 0, .int .i64 0, .string ⟨#[]⟩, .string ⟨#[]⟩, .int .i64 0, .int .i64 0], .bool false]) (by simp [results, Try.results7, go_sem, j0, j1, j2, j3, j4, j5, j6, j7, j8]) rfl ⟨rfl, HBV.out, KV.out⟩
  | true =>
    have hs : c.st = 1 := by simp only [goes, Bool.and_eq_true, decide_eq_true_eq] at hg; exact hg.1
    have ht : c.wt = false := by simp only [goes, Bool.and_eq_true] at hg; simpa using hg.2
    have q9 : W.cell? ⟨b, 9, none⟩ = some (.int .i64 1) := by rw [← hs]; exact blk_at HW.out 9 rfl
    have q5 : W.cell? ⟨b, 5, none⟩ = some (.bool false) := by rw [← ht]; exact blk_at HW.out 5 rfl
    have q6 : W.cell? ⟨b, 6, none⟩ = some (.int .i64 c.si) := blk_at HW.out 6 rfl
    have q7 : W.cell? ⟨b, 7, none⟩ = some (.int .i64 c.la) := blk_at HW.out 7 rfl
    have f5 : W.frozen? ⟨b, 5, none⟩ = false := blk_free HW.out 5
    have f6 : W.frozen? ⟨b, 6, none⟩ = false := blk_free HW.out 6
    have f7 : W.frozen? ⟨b, 7, none⟩ = false := blk_free HW.out 7
    obtain ⟨Y, hY⟩ : ∃ Y, Y = (((W.setCell ⟨b, 7, none⟩ (.int .i64 (c.la + 1))).setCell ⟨b, 5, none⟩ (.bool true)).setCell ⟨b, 6, none⟩ (.int .i64 0)) := ⟨_, rfl⟩
    have HY : Hid (ClAt Y b { c with la := c.la + 1, wt := true, si := 0 } (some a) n cn ko kc ∧ Y.heap[R]? = some (.cells #[.int .i64 0, .int .i64 0, .int .i64 0, .int .i64 0, .int .i64 0, .string ⟨#[]⟩, .string ⟨#[]⟩, .int .i64 0, .int .i64 0] 34 (0, 0)) ∧ Kept (One b) w Y ∧ Y.cell? (a.add c.nx) = some (.int .i64 nd)) := by
      rw [hY]
      refine ⟨(((HW.out.s7 _).s5 _).s6 _), (blk_other (a := ⟨b, 6, none⟩) (blk_other (a := ⟨b, 5, none⟩) (blk_other (a := ⟨b, 7, none⟩) HR.out hRb _) hRb _) hRb _), (((KW.out.one.setCell (p := ⟨b, 7, none⟩) (fun _ => rfl) _).setCell (p := ⟨b, 5, none⟩) (fun _ => rfl) _).setCell (p := ⟨b, 6, none⟩) (fun _ => rfl) _), ?_⟩
      have hne : (a.add c.nx).block ≠ b := fun e => by
        have e2 : (a.add c.nx).block = a.block := by unfold Addr.add; split <;> rfl
        exact hab' a rfl (by rw [← e2, e])
      exact cell_kept (X := One b) ((((Kept.refl _ _).setCell (p := ⟨b, 7, none⟩) (fun _ => rfl) _).setCell (p := ⟨b, 5, none⟩) (fun _ => rfl) _).setCell (p := ⟨b, 6, none⟩) (fun _ => rfl) _) (fun _ => hne) hcell
    have RQ := request_any b n cn kc _ (some a) ko Y.drew HY.out.1.drew hu hu2
    have p0 : Y.cell? ⟨b, 0, none⟩ = some (.slice (some a) n cn) := blk_at HY.out.1 0 rfl
    have p1 : Y.cell? ⟨b, 1, none⟩ = some (.int .i64 c.nx) := blk_at HY.out.1 1 rfl
    have p7 : Y.cell? ⟨b, 7, none⟩ = some (.int .i64 (c.la + 1)) := blk_at HY.out.1 7 rfl
    have hcY : Y.cell? (a.add c.nx) = some (.int .i64 nd) := HY.out.2.2.2
    have HE : Hid (nextC c = { c with la := c.la + 1, wt := true, si := 0 }) := by show _ = _; unfold nextC; rw [hg, if_pos rfl]
    rw [HE.out]
    clear h hr hl hcell hcell0
    by_cases hz : c.se = 0
    · have HA : Hid (askV c nd = #[.int .i64 (c.la + 1), .int .i64 nd, .int .i64 0, .int .i64 0, .int .i64 0, .string (bs []), .string (bs []), .int .i64 0, .int .i64 0]) := by show _ = _; unfold askV; rw [hg, if_pos rfl, if_pos hz]
      rw [HA.out]
      have HQ : Hid (reqV { c with la := c.la + 1, wt := true, si := 0 } = #[.int .i64 0, .int .i64 0, .int .i64 0, .string (bs []), .string (bs []), .int .i64 0, .int .i64 0]) := by show _ = _; unfold reqV; rw [if_pos hz]
      rw [HQ.out] at RQ
      clear hg hs ht hz
      go_enter Try.func7, Try.ntmps7
      go_upto_region 1 with fail
      rw [← hW, ← HRe.out]
      clear hW
      go_upto_region 5 with fail
      rw [← hY]
      clear hY q5 q6 q7 q9 f5 f6 f7
      have HSP : Hid (Y.cell? ⟨b, 0, none⟩ = some (.slice (some a) n cn) ∧ Y.cell? ⟨b, 1, none⟩ = some (.int .i64 c.nx) ∧ Y.cell? ⟨b, 7, none⟩ = some (.int .i64 (c.la + 1)) ∧ Y.cell? (a.add c.nx) = some (.int .i64 nd)) := ⟨p0, p1, p7, hcY⟩
      have sD : Y.drew.cell? ⟨b, 0, none⟩ = some (.slice (some a) n cn) ∧ Y.drew.cell? ⟨b, 1, none⟩ = some (.int .i64 c.nx) ∧ Y.drew.cell? ⟨b, 7, none⟩ = some (.int .i64 (c.la + 1)) ∧ Y.drew.cell? (a.add c.nx) = some (.int .i64 nd) := HSP.out
      clear p0 p1 p7 hcY
      go_region_held3 (fun w' => w'.cell? ⟨b, 0, none⟩ = some (.slice (some a) n cn) ∧ w'.cell? ⟨b, 1, none⟩ = some (.int .i64 c.nx) ∧ w'.cell? ⟨b, 7, none⟩ = some (.int .i64 (c.la + 1)) ∧ w'.cell? (a.add c.nx) = some (.int .i64 nd)) (first | (with_reducible assumption) | (refine sp_next HSP.out hbR haR ?_; repeat (first | (with_reducible exact K12.out) | (with_reducible exact Kept.refl _ _) | (with_reducible refine Kept.drew ?_) | (with_reducible refine Kept.setCell ?_ (fun _ => rfl) _)))) (first | (go_at_call 22; go_fit RQ; rintro e w2 ⟨rfl, k2⟩; have K2 : Hid (Kept Nil Y w2) := (Kept.refl _ _).drew.trans k2; clear k2; have HB2 : Hid (ClAt w2 b { c with la := c.la + 1, wt := true, si := 0 } (some a) n cn ko kc) := HY.out.1.kept K2.out; have HR2 : Hid (w2.heap[R]? = some (.cells #[.int .i64 0, .int .i64 0, .int .i64 0, .int .i64 0, .int .i64 0, .string ⟨#[]⟩, .string ⟨#[]⟩, .int .i64 0, .int .i64 0] 34 (0, 0))) := K2.out.block _ _ HY.out.2.1 (fun x => x.elim); have s0 : w2.cell? ⟨b, 0, none⟩ = some (.slice (some a) n cn) := blk_at HB2.out 0 rfl; have s1 : w2.cell? ⟨b, 1, none⟩ = some (.int .i64 c.nx) := blk_at HB2.out 1 rfl; have s7 : w2.cell? ⟨b, 7, none⟩ = some (.int .i64 (c.la + 1)) := blk_at HB2.out 7 rfl; have hc2 : w2.cell? (a.add c.nx) = some (.int .i64 nd) := cell_kept K2.out (fun _ x => x) HY.out.2.2.2; have r0 : w2.cell? ⟨R, 0, none⟩ = some (.int .i64 0) := blk_at HR2.out 0 rfl; have r1 : w2.cell? ⟨R, 1, none⟩ = some (.int .i64 0) := blk_at HR2.out 1 rfl; have r2 : w2.cell? ⟨R, 2, none⟩ = some (.int .i64 0) := blk_at HR2.out 2 rfl; have r3 : w2.cell? ⟨R, 3, none⟩ = some (.int .i64 0) := blk_at HR2.out 3 rfl; have r4 : w2.cell? ⟨R, 4, none⟩ = some (.int .i64 0) := blk_at HR2.out 4 rfl; have r5 : w2.cell? ⟨R, 5, none⟩ = some (.string ⟨#[]⟩) := blk_at HR2.out 5 rfl; have r6 : w2.cell? ⟨R, 6, none⟩ = some (.string ⟨#[]⟩) := blk_at HR2.out 6 rfl; have r7 : w2.cell? ⟨R, 7, none⟩ = some (.int .i64 0) := blk_at HR2.out 7 rfl; have r8 : w2.cell? ⟨R, 8, none⟩ = some (.int .i64 0) := blk_at HR2.out 8 rfl; have z0 : w2.frozen? ⟨R, 0, none⟩ = false := blk_free HR2.out 0; have z1 : w2.frozen? ⟨R, 1, none⟩ = false := blk_free HR2.out 1; have z2 : w2.frozen? ⟨R, 2, none⟩ = false := blk_free HR2.out 2; have z3 : w2.frozen? ⟨R, 3, none⟩ = false := blk_free HR2.out 3; have z4 : w2.frozen? ⟨R, 4, none⟩ = false := blk_free HR2.out 4; have z5 : w2.frozen? ⟨R, 5, none⟩ = false := blk_free HR2.out 5; have z6 : w2.frozen? ⟨R, 6, none⟩ = false := blk_free HR2.out 6; have z7 : w2.frozen? ⟨R, 7, none⟩ = false := blk_free HR2.out 7; have z8 : w2.frozen? ⟨R, 8, none⟩ = false := blk_free HR2.out 8; have K12 : Hid (Kept (One R) Y w2) := K2.out.one; have sD2 : w2.cell? ⟨b, 0, none⟩ = some (.slice (some a) n cn) ∧ w2.cell? ⟨b, 1, none⟩ = some (.int .i64 c.nx) ∧ w2.cell? ⟨b, 7, none⟩ = some (.int .i64 (c.la + 1)) ∧ w2.cell? (a.add c.nx) = some (.int .i64 nd) := ⟨s0, s1, s7, hc2⟩))
      all_goals
        obtain ⟨V, hV⟩ : ∃ V, V = (((((((((w2.setCell ⟨R, 0, none⟩ (.int .i64 (c.la + 1))).setCell ⟨R, 1, none⟩ (.int .i64 nd)).setCell ⟨R, 2, none⟩ (.int .i64 0)).setCell ⟨R, 3, none⟩ (.int .i64 0)).setCell ⟨R, 4, none⟩ (.int .i64 0)).setCell ⟨R, 5, none⟩ (.string (bs []))).setCell ⟨R, 6, none⟩ (.string (bs []))).setCell ⟨R, 7, none⟩ (.int .i64 0)).setCell ⟨R, 8, none⟩ (.int .i64 0)) := ⟨_, rfl⟩
        have BR : Hid (V.heap[R]? = some (.cells #[.int .i64 (c.la + 1), .int .i64 nd, .int .i64 0, .int .i64 0, .int .i64 0, .string (bs []), .string (bs []), .int .i64 0, .int .i64 0] 34 (0, 0))) := by rw [hV]; exact (put9 HR2.out)
        have KV : Hid (Kept (One b) w V) := by rw [hV]; exact ((((((((((HY.out.2.2.1.trans K2.out.one).setNew (p := ⟨R, 0, none⟩) hRn _).setNew (p := ⟨R, 1, none⟩) hRn _).setNew (p := ⟨R, 2, none⟩) hRn _).setNew (p := ⟨R, 3, none⟩) hRn _).setNew (p := ⟨R, 4, none⟩) hRn _).setNew (p := ⟨R, 5, none⟩) hRn _).setNew (p := ⟨R, 6, none⟩) hRn _).setNew (p := ⟨R, 7, none⟩) hRn _).setNew (p := ⟨R, 8, none⟩) hRn _)
        have HBV : Hid (ClAt V b { c with la := c.la + 1, wt := true, si := 0 } (some a) n cn ko kc) := by rw [hV]; exact (((((((((HB2.out.oth (a := ⟨R, 0, none⟩) hbR _).oth (a := ⟨R, 1, none⟩) hbR _).oth (a := ⟨R, 2, none⟩) hbR _).oth (a := ⟨R, 3, none⟩) hbR _).oth (a := ⟨R, 4, none⟩) hbR _).oth (a := ⟨R, 5, none⟩) hbR _).oth (a := ⟨R, 6, none⟩) hbR _).oth (a := ⟨R, 7, none⟩) hbR _).oth (a := ⟨R, 8, none⟩) hbR _)
        go_wp2
        rw [← hV]
        clear hV
        have j0 : V.cell? ⟨R, 0, none⟩ = some (.int .i64 (c.la + 1)) := blk_at BR.out 0 rfl
        have j1 : V.cell? ⟨R, 1, none⟩ = some (.int .i64 nd) := blk_at BR.out 1 rfl
        have j2 : V.cell? ⟨R, 2, none⟩ = some (.int .i64 0) := blk_at BR.out 2 rfl
        have j3 : V.cell? ⟨R, 3, none⟩ = some (.int .i64 0) := blk_at BR.out 3 rfl
        have j4 : V.cell? ⟨R, 4, none⟩ = some (.int .i64 0) := blk_at BR.out 4 rfl
        have j5 : V.cell? ⟨R, 5, none⟩ = some (.string (bs [])) := blk_at BR.out 5 rfl
        have j6 : V.cell? ⟨R, 6, none⟩ = some (.string (bs [])) := blk_at BR.out 6 rfl
        have j7 : V.cell? ⟨R, 7, none⟩ = some (.int .i64 0) := blk_at BR.out 7 rfl
        have j8 : V.cell? ⟨R, 8, none⟩ = some (.int .i64 0) := blk_at BR.out 8 rfl
        exact bodyPost_ret (v := .tuple #[.agg #[.int .i64 (c.la + 1), .int .i64 nd, .int .i64 0, .int .i64 0, .int .i64 0, .string (bs []), .string (bs []), .int .i64 0, .int .i64 0], .bool true]) (by simp [results, Try.results7, go_sem, j0, j1, j2, j3, j4, j5, j6, j7, j8]) rfl ⟨rfl, HBV.out, KV.out⟩
    · have HA : Hid (askV c nd = #[.int .i64 (c.la + 1), .int .i64 nd, .int .i64 c.se, .int .i64 (c.nu + 1), .int .i64 c.ck, .string (bs c.ckey), .string (bs c.cval), .int .i64 c.ci, .int .i64 0]) := by show _ = _; unfold askV; rw [hg, if_pos rfl, if_neg hz]
      rw [HA.out]
      have HQ : Hid (reqV { c with la := c.la + 1, wt := true, si := 0 } = #[.int .i64 c.se, .int .i64 (c.nu + 1), .int .i64 c.ck, .string (bs c.ckey), .string (bs c.cval), .int .i64 c.ci, .int .i64 0]) := by show _ = _; unfold reqV; rw [if_neg hz]
      rw [HQ.out] at RQ
      clear hg hs ht hz
      go_enter Try.func7, Try.ntmps7
      go_upto_region 1 with fail
      rw [← hW, ← HRe.out]
      clear hW
      go_upto_region 5 with fail
      rw [← hY]
      clear hY q5 q6 q7 q9 f5 f6 f7
      have HSP : Hid (Y.cell? ⟨b, 0, none⟩ = some (.slice (some a) n cn) ∧ Y.cell? ⟨b, 1, none⟩ = some (.int .i64 c.nx) ∧ Y.cell? ⟨b, 7, none⟩ = some (.int .i64 (c.la + 1)) ∧ Y.cell? (a.add c.nx) = some (.int .i64 nd)) := ⟨p0, p1, p7, hcY⟩
      have sD : Y.drew.cell? ⟨b, 0, none⟩ = some (.slice (some a) n cn) ∧ Y.drew.cell? ⟨b, 1, none⟩ = some (.int .i64 c.nx) ∧ Y.drew.cell? ⟨b, 7, none⟩ = some (.int .i64 (c.la + 1)) ∧ Y.drew.cell? (a.add c.nx) = some (.int .i64 nd) := HSP.out
      clear p0 p1 p7 hcY
      go_region_held3 (fun w' => w'.cell? ⟨b, 0, none⟩ = some (.slice (some a) n cn) ∧ w'.cell? ⟨b, 1, none⟩ = some (.int .i64 c.nx) ∧ w'.cell? ⟨b, 7, none⟩ = some (.int .i64 (c.la + 1)) ∧ w'.cell? (a.add c.nx) = some (.int .i64 nd)) (first | (with_reducible assumption) | (refine sp_next HSP.out hbR haR ?_; repeat (first | (with_reducible exact K12.out) | (with_reducible exact Kept.refl _ _) | (with_reducible refine Kept.drew ?_) | (with_reducible refine Kept.setCell ?_ (fun _ => rfl) _)))) (first | (go_at_call 22; go_fit RQ; rintro e w2 ⟨rfl, k2⟩; have K2 : Hid (Kept Nil Y w2) := (Kept.refl _ _).drew.trans k2; clear k2; have HB2 : Hid (ClAt w2 b { c with la := c.la + 1, wt := true, si := 0 } (some a) n cn ko kc) := HY.out.1.kept K2.out; have HR2 : Hid (w2.heap[R]? = some (.cells #[.int .i64 0, .int .i64 0, .int .i64 0, .int .i64 0, .int .i64 0, .string ⟨#[]⟩, .string ⟨#[]⟩, .int .i64 0, .int .i64 0] 34 (0, 0))) := K2.out.block _ _ HY.out.2.1 (fun x => x.elim); have s0 : w2.cell? ⟨b, 0, none⟩ = some (.slice (some a) n cn) := blk_at HB2.out 0 rfl; have s1 : w2.cell? ⟨b, 1, none⟩ = some (.int .i64 c.nx) := blk_at HB2.out 1 rfl; have s7 : w2.cell? ⟨b, 7, none⟩ = some (.int .i64 (c.la + 1)) := blk_at HB2.out 7 rfl; have hc2 : w2.cell? (a.add c.nx) = some (.int .i64 nd) := cell_kept K2.out (fun _ x => x) HY.out.2.2.2; have r0 : w2.cell? ⟨R, 0, none⟩ = some (.int .i64 0) := blk_at HR2.out 0 rfl; have r1 : w2.cell? ⟨R, 1, none⟩ = some (.int .i64 0) := blk_at HR2.out 1 rfl; have r2 : w2.cell? ⟨R, 2, none⟩ = some (.int .i64 0) := blk_at HR2.out 2 rfl; have r3 : w2.cell? ⟨R, 3, none⟩ = some (.int .i64 0) := blk_at HR2.out 3 rfl; have r4 : w2.cell? ⟨R, 4, none⟩ = some (.int .i64 0) := blk_at HR2.out 4 rfl; have r5 : w2.cell? ⟨R, 5, none⟩ = some (.string ⟨#[]⟩) := blk_at HR2.out 5 rfl; have r6 : w2.cell? ⟨R, 6, none⟩ = some (.string ⟨#[]⟩) := blk_at HR2.out 6 rfl; have r7 : w2.cell? ⟨R, 7, none⟩ = some (.int .i64 0) := blk_at HR2.out 7 rfl; have r8 : w2.cell? ⟨R, 8, none⟩ = some (.int .i64 0) := blk_at HR2.out 8 rfl; have z0 : w2.frozen? ⟨R, 0, none⟩ = false := blk_free HR2.out 0; have z1 : w2.frozen? ⟨R, 1, none⟩ = false := blk_free HR2.out 1; have z2 : w2.frozen? ⟨R, 2, none⟩ = false := blk_free HR2.out 2; have z3 : w2.frozen? ⟨R, 3, none⟩ = false := blk_free HR2.out 3; have z4 : w2.frozen? ⟨R, 4, none⟩ = false := blk_free HR2.out 4; have z5 : w2.frozen? ⟨R, 5, none⟩ = false := blk_free HR2.out 5; have z6 : w2.frozen? ⟨R, 6, none⟩ = false := blk_free HR2.out 6; have z7 : w2.frozen? ⟨R, 7, none⟩ = false := blk_free HR2.out 7; have z8 : w2.frozen? ⟨R, 8, none⟩ = false := blk_free HR2.out 8; have K12 : Hid (Kept (One R) Y w2) := K2.out.one; have sD2 : w2.cell? ⟨b, 0, none⟩ = some (.slice (some a) n cn) ∧ w2.cell? ⟨b, 1, none⟩ = some (.int .i64 c.nx) ∧ w2.cell? ⟨b, 7, none⟩ = some (.int .i64 (c.la + 1)) ∧ w2.cell? (a.add c.nx) = some (.int .i64 nd) := ⟨s0, s1, s7, hc2⟩))
      all_goals
        obtain ⟨V, hV⟩ : ∃ V, V = (((((((((w2.setCell ⟨R, 0, none⟩ (.int .i64 (c.la + 1))).setCell ⟨R, 1, none⟩ (.int .i64 nd)).setCell ⟨R, 2, none⟩ (.int .i64 c.se)).setCell ⟨R, 3, none⟩ (.int .i64 (c.nu + 1))).setCell ⟨R, 4, none⟩ (.int .i64 c.ck)).setCell ⟨R, 5, none⟩ (.string (bs c.ckey))).setCell ⟨R, 6, none⟩ (.string (bs c.cval))).setCell ⟨R, 7, none⟩ (.int .i64 c.ci)).setCell ⟨R, 8, none⟩ (.int .i64 0)) := ⟨_, rfl⟩
        have BR : Hid (V.heap[R]? = some (.cells #[.int .i64 (c.la + 1), .int .i64 nd, .int .i64 c.se, .int .i64 (c.nu + 1), .int .i64 c.ck, .string (bs c.ckey), .string (bs c.cval), .int .i64 c.ci, .int .i64 0] 34 (0, 0))) := by rw [hV]; exact (put9 HR2.out)
        have KV : Hid (Kept (One b) w V) := by rw [hV]; exact ((((((((((HY.out.2.2.1.trans K2.out.one).setNew (p := ⟨R, 0, none⟩) hRn _).setNew (p := ⟨R, 1, none⟩) hRn _).setNew (p := ⟨R, 2, none⟩) hRn _).setNew (p := ⟨R, 3, none⟩) hRn _).setNew (p := ⟨R, 4, none⟩) hRn _).setNew (p := ⟨R, 5, none⟩) hRn _).setNew (p := ⟨R, 6, none⟩) hRn _).setNew (p := ⟨R, 7, none⟩) hRn _).setNew (p := ⟨R, 8, none⟩) hRn _)
        have HBV : Hid (ClAt V b { c with la := c.la + 1, wt := true, si := 0 } (some a) n cn ko kc) := by rw [hV]; exact (((((((((HB2.out.oth (a := ⟨R, 0, none⟩) hbR _).oth (a := ⟨R, 1, none⟩) hbR _).oth (a := ⟨R, 2, none⟩) hbR _).oth (a := ⟨R, 3, none⟩) hbR _).oth (a := ⟨R, 4, none⟩) hbR _).oth (a := ⟨R, 5, none⟩) hbR _).oth (a := ⟨R, 6, none⟩) hbR _).oth (a := ⟨R, 7, none⟩) hbR _).oth (a := ⟨R, 8, none⟩) hbR _)
        go_wp2
        rw [← hV]
        clear hV
        have j0 : V.cell? ⟨R, 0, none⟩ = some (.int .i64 (c.la + 1)) := blk_at BR.out 0 rfl
        have j1 : V.cell? ⟨R, 1, none⟩ = some (.int .i64 nd) := blk_at BR.out 1 rfl
        have j2 : V.cell? ⟨R, 2, none⟩ = some (.int .i64 c.se) := blk_at BR.out 2 rfl
        have j3 : V.cell? ⟨R, 3, none⟩ = some (.int .i64 (c.nu + 1)) := blk_at BR.out 3 rfl
        have j4 : V.cell? ⟨R, 4, none⟩ = some (.int .i64 c.ck) := blk_at BR.out 4 rfl
        have j5 : V.cell? ⟨R, 5, none⟩ = some (.string (bs c.ckey)) := blk_at BR.out 5 rfl
        have j6 : V.cell? ⟨R, 6, none⟩ = some (.string (bs c.cval)) := blk_at BR.out 6 rfl
        have j7 : V.cell? ⟨R, 7, none⟩ = some (.int .i64 c.ci) := blk_at BR.out 7 rfl
        have j8 : V.cell? ⟨R, 8, none⟩ = some (.int .i64 0) := blk_at BR.out 8 rfl
        exact bodyPost_ret (v := .tuple #[.agg #[.int .i64 (c.la + 1), .int .i64 nd, .int .i64 c.se, .int .i64 (c.nu + 1), .int .i64 c.ck, .string (bs c.ckey), .string (bs c.cval), .int .i64 c.ci, .int .i64 0], .bool true]) (by simp [results, Try.results7, go_sem, j0, j1, j2, j3, j4, j5, j6, j7, j8]) rfl ⟨rfl, HBV.out, KV.out⟩

end Go.Proofs.Ytbfleeilpccmcaa
