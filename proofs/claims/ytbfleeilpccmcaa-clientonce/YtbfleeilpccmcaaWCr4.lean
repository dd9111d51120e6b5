/-
  The document's client: Answer.
-/
import Derived.Test.YtbfleeilpccmcaaWCr3
namespace Go.Proofs.Ytbfleeilpccmcaa
open Go.RowKit

set_option maxRecDepth 100000 in
set_option maxHeartbeats 2000000 in
theorem ranswer_any (y n cn : Nat) (c : Cl) (r : Rl) (an : Option Addr) (id er : Int) (rk rver : Int) (rval : List UInt8) (ks : List (List UInt8)) (ao : Option Addr) (cc : Nat) (w : World) (h : RAt w y r an n cn) (hs : Sim c r) (hx : c.nx < n) (hn9 : n ≤ 9) (hu : 0 ≤ c.nu) (hu2 : c.nu ≤ 4611686018427387904) (ha : 0 ≤ c.la) (ha2 : c.la ≤ 4611686018427387904) :
    Calls Try.prog 27 #[.pointer (some ⟨y, 0, none⟩), .int .i64 id, .int .i64 er, .agg #[.int .i64 rk, .string (bs rval), .int .i64 rver, .slice ao ks.length cc]] w fun e w' => ∃ r', e = .returned (.tuple #[]) ∧ RAt w' y r' an n cn ∧ Sim (ansC c n id er rk rval rver ks) r' ∧ (fins c id er = true → r'.ro = ao ∧ r'.rc = cc) ∧ (fins c id er = false → r'.ro = r.ro ∧ r'.rc = r.rc) ∧ Kept (One y) w w' := by
  obtain ⟨W, hW⟩ : ∃ W, W = w.alloc (.cells #[.int .i64 rk, .string (bs rval), .int .i64 rver, .slice ao ks.length cc] 45) := ⟨_, rfl⟩
  obtain ⟨C, HCe⟩ : ∃ C, Hid (C = w.heap.size) := ⟨_, rfl⟩
  have HC : Hid (W.heap[C]? = some (.cells #[.int .i64 rk, .string (bs rval), .int .i64 rver, .slice ao ks.length cc] 45 (0, 0))) := by rw [hW, HCe.out]; exact blk_new _ _
  have HW : Hid (RAt W y r an n cn) := by rw [hW]; exact h.past _
  have KW : Hid (Kept Nil w W) := by rw [hW]; exact (Kept.refl _ _).alloc _
  have hCn : w.heap.size ≤ C := by have := HCe.out; omega
  have hbC : y ≠ C := by have := lt_of_block h; have := HCe.out; omega
  have hCb : C ≠ y := fun e => hbC e.symm
  have c0 : W.cell? ⟨C, 0, none⟩ = some (.int .i64 rk) := blk_at HC.out 0 rfl
  have c1 : W.cell? ⟨C, 1, none⟩ = some (.string (bs rval)) := blk_at HC.out 1 rfl
  have c2 : W.cell? ⟨C, 2, none⟩ = some (.int .i64 rver) := blk_at HC.out 2 rfl
  have c3 : W.cell? ⟨C, 3, none⟩ = some (.slice ao ks.length cc) := blk_at HC.out 3 rfl
  have HSim : Hid (Sim c r) := hs
  have HLA : Hid (r.la = c.la) := hs.la
  have hu' : 0 ≤ r.nu := by have := hs.nu; omega
  have hu2' : r.nu ≤ 4611686018427387904 := by have := hs.nu; omega
  have ha' : 0 ≤ r.la := by have := hs.la; omega
  have ha2' : r.la ≤ 4611686018427387904 := by have := hs.la; omega
  have q3 : W.cell? ⟨y, 3, none⟩ = some (.bool r.wt) := blk_at HW.out 3 rfl
  have q5 : W.cell? ⟨y, 5, none⟩ = some (.int .i64 r.la) := blk_at HW.out 5 rfl
  have q6 : W.cell? ⟨y, 6, none⟩ = some (.int .i64 r.fi) := blk_at HW.out 6 rfl
  have q7 : W.cell? ⟨y, 7, none⟩ = some (.int .i64 r.se) := blk_at HW.out 7 rfl
  have q8 : W.cell? ⟨y, 8, none⟩ = some (.int .i64 r.nu) := blk_at HW.out 8 rfl
  by_cases h1 : c.st = 1
  · have hb : r.bu = true := by rw [hs.bu, h1]; rfl
    have q9 : W.cell? ⟨y, 9, none⟩ = some (.bool true) := by rw [← hb]; exact blk_at HW.out 9 rfl
    by_cases h2 : c.ol < id
    · have h2' : ¬ id < r.fi := by have := hs.fi; omega
      by_cases h3 : id ≤ c.la
      · have h3' : ¬ id > r.la := by have := hs.la; omega
        have hh : hears c id = true := by simp [hears, h1, h2, h3]
        by_cases he : er = 0
        · subst he
          have q10 : W.cell? ⟨y, 10, none⟩ = some (.bool r.go) := blk_at HW.out 10 rfl
          have q15 : W.cell? ⟨y, 15, none⟩ = some (.int .i64 r.rk) := blk_at HW.out 15 rfl
          have q16 : W.cell? ⟨y, 16, none⟩ = some (.string (bs r.rval)) := blk_at HW.out 16 rfl
          have q17 : W.cell? ⟨y, 17, none⟩ = some (.int .i64 r.rver) := blk_at HW.out 17 rfl
          have q18 : W.cell? ⟨y, 18, none⟩ = some (.slice r.ro r.m r.rc) := blk_at HW.out 18 rfl
          have f3 : W.frozen? ⟨y, 3, none⟩ = false := blk_free HW.out 3
          have f6 : W.frozen? ⟨y, 6, none⟩ = false := blk_free HW.out 6
          have f7 : W.frozen? ⟨y, 7, none⟩ = false := blk_free HW.out 7
          have f8 : W.frozen? ⟨y, 8, none⟩ = false := blk_free HW.out 8
          have f9 : W.frozen? ⟨y, 9, none⟩ = false := blk_free HW.out 9
          have f10 : W.frozen? ⟨y, 10, none⟩ = false := blk_free HW.out 10
          have f15 : W.frozen? ⟨y, 15, none⟩ = false := blk_free HW.out 15
          have f16 : W.frozen? ⟨y, 16, none⟩ = false := blk_free HW.out 16
          have f17 : W.frozen? ⟨y, 17, none⟩ = false := blk_free HW.out 17
          have f18 : W.frozen? ⟨y, 18, none⟩ = false := blk_free HW.out 18
          by_cases hz : c.se = 0
          · have q7' : W.cell? ⟨y, 7, none⟩ = some (.int .i64 0) := by rw [q7, hs.se, hz]
            clear q7
            have HF : Hid (fins c id 0 = false) := by show _ = _; unfold fins; rw [hz]; simp
            by_cases hk : rk = 1
            · subst hk
              have HE : Hid (ansC c n id 0 1 rval rver ks = forgetC { c with wt := false, se := rver, nu := 0 }) := by show _ = _; unfold ansC; rw [hh, if_pos rfl, if_pos rfl, if_pos hz]; rfl
              obtain ⟨Y, hY⟩ : ∃ Y, Y = ((((W.setCell ⟨y, 3, none⟩ (.bool false)).setCell ⟨y, 7, none⟩ (.int .i64 rver)).setCell ⟨y, 8, none⟩ (.int .i64 0)).setCell ⟨y, 6, none⟩ (.int .i64 (r.la + 1))) := ⟨_, rfl⟩
              have HY : Hid (RAt Y y { r with wt := false, se := rver, nu := 0, fi := r.la + 1 } an n cn ∧ Kept (One y) w Y) := by
                rw [hY]
                exact ⟨((((HW.out.s3 _).s7 _).s8 _).s6 _), ((((KW.out.one.setCell (p := ⟨y, 3, none⟩) (fun _ => rfl) _).setCell (p := ⟨y, 7, none⟩) (fun _ => rfl) _).setCell (p := ⟨y, 8, none⟩) (fun _ => rfl) _).setCell (p := ⟨y, 6, none⟩) (fun _ => rfl) _)⟩
              have HS2 : Hid (Sim (ansC c n id 0 1 rval rver ks) { r with wt := false, se := rver, nu := 0, fi := r.la + 1 }) := by
                rw [HE.out]
                exact ⟨hs.nx, hs.pat, rfl, hs.si, hs.la, by show r.la + 1 = c.la + 1; rw [hs.la], rfl, rfl, hs.bu, hs.go, hs.cmd, hs.res⟩
              clear h hs
              go_enter Try.func27, Try.ntmps27
              go_upto_region 1 with fail
              rw [← hW, ← HCe.out]
              clear hW
              go_wp2
              rw [← hY]
              first | go_end0 | refine bodyPost_ret (results_none rfl _ _ _) rfl ?_
              first | exact ⟨_, rfl, HY.out.1, HS2.out, (fun e => by rw [HF.out] at e; cases e), (fun _ => ⟨rfl, rfl⟩), HY.out.2⟩ | exact ⟨rfl, _, HY.out.1, HS2.out, (fun e => by rw [HF.out] at e; cases e), (fun _ => ⟨rfl, rfl⟩), HY.out.2⟩
            · have hk' : (rk == 1) = false := by simpa using hk
              have HE : Hid (ansC c n id 0 rk rval rver ks = { c with wt := false }) := by show _ = _; unfold ansC openC; rw [hh, if_pos rfl, if_pos rfl, if_pos hz, if_neg hk]
              obtain ⟨Y, hY⟩ : ∃ Y, Y = (W.setCell ⟨y, 3, none⟩ (.bool false)) := ⟨_, rfl⟩
              have HY : Hid (RAt Y y { r with wt := false } an n cn ∧ Kept (One y) w Y) := by
                rw [hY]
                exact ⟨(HW.out.s3 _), (KW.out.one.setCell (p := ⟨y, 3, none⟩) (fun _ => rfl) _)⟩
              have HS2 : Hid (Sim (ansC c n id 0 rk rval rver ks) { r with wt := false }) := by
                rw [HE.out]
                exact ⟨hs.nx, hs.pat, rfl, hs.si, hs.la, hs.fi, hs.se, hs.nu, hs.bu, hs.go, hs.cmd, hs.res⟩
              clear h hs
              go_enter Try.func27, Try.ntmps27
              go_upto_region 1 with fail
              rw [← hW, ← HCe.out]
              clear hW
              go_wp2
              rw [← hY]
              first | go_end0 | refine bodyPost_ret (results_none rfl _ _ _) rfl ?_
              first | exact ⟨_, rfl, HY.out.1, HS2.out, (fun e => by rw [HF.out] at e; cases e), (fun _ => ⟨rfl, rfl⟩), HY.out.2⟩ | exact ⟨rfl, _, HY.out.1, HS2.out, (fun e => by rw [HF.out] at e; cases e), (fun _ => ⟨rfl, rfl⟩), HY.out.2⟩
          · have hz' : (r.se == 0) = false := by rw [hs.se]; simpa using hz
            have HF : Hid (fins c id 0 = true) := by show _ = _; unfold fins; rw [hh]; simp [hz]
            rcases (show rk = 6 ∨ rk = 7 ∨ rk = 8 ∨ (rk ≠ 6 ∧ rk ≠ 7 ∧ rk ≠ 8) by omega) with hk | hk | hk | ⟨n6, n7, n8⟩
            · subst hk
              have HE : Hid (ansC c n id 0 6 rval rver ks = { c with wt := false, st := 2, ck := 0, ckey := [], cval := [], ci := 0, rk := 6, rval := rval, rver := rver, ks := ks, se := 0, nu := 0 }) := by show _ = _; unfold ansC; rw [hh, if_pos rfl, if_pos rfl, if_neg hz]; rfl
              obtain ⟨Y, hY⟩ : ∃ Y, Y = ((((((((((W.setCell ⟨y, 3, none⟩ (.bool false)).setCell ⟨y, 8, none⟩ (.int .i64 (r.nu + 1))).setCell ⟨y, 7, none⟩ (.int .i64 0)).setCell ⟨y, 8, none⟩ (.int .i64 0)).setCell ⟨y, 9, none⟩ (.bool false)).setCell ⟨y, 10, none⟩ (.bool true)).setCell ⟨y, 15, none⟩ (.int .i64 6)).setCell ⟨y, 16, none⟩ (.string (bs rval))).setCell ⟨y, 17, none⟩ (.int .i64 rver)).setCell ⟨y, 18, none⟩ (.slice ao ks.length cc)) := ⟨_, rfl⟩
              have HY : Hid (RAt Y y { r with wt := false, nu := 0, se := 0, bu := false, go := true, rk := 6, rval := rval, rver := rver, m := ks.length, ro := ao, rc := cc } an n cn ∧ Kept (One y) w Y) := by
                rw [hY]
                exact ⟨((((((((((HW.out.s3 _).s8 _).s7 _).s8 _).s9 _).s10 _).s15 _).s16 _).s17 _).s18 ao ks.length cc), ((((((((((KW.out.one.setCell (p := ⟨y, 3, none⟩) (fun _ => rfl) _).setCell (p := ⟨y, 8, none⟩) (fun _ => rfl) _).setCell (p := ⟨y, 7, none⟩) (fun _ => rfl) _).setCell (p := ⟨y, 8, none⟩) (fun _ => rfl) _).setCell (p := ⟨y, 9, none⟩) (fun _ => rfl) _).setCell (p := ⟨y, 10, none⟩) (fun _ => rfl) _).setCell (p := ⟨y, 15, none⟩) (fun _ => rfl) _).setCell (p := ⟨y, 16, none⟩) (fun _ => rfl) _).setCell (p := ⟨y, 17, none⟩) (fun _ => rfl) _).setCell (p := ⟨y, 18, none⟩) (fun _ => rfl) _)⟩
              have HS2 : Hid (Sim (ansC c n id 0 6 rval rver ks) { r with wt := false, nu := 0, se := 0, bu := false, go := true, rk := 6, rval := rval, rver := rver, m := ks.length, ro := ao, rc := cc }) := by
                rw [HE.out]
                exact ⟨hs.nx, hs.pat, rfl, hs.si, hs.la, hs.fi, rfl, rfl, rfl, rfl, (fun e => by cases e), (fun _ => ⟨rfl, rfl, rfl, rfl⟩)⟩
              clear h hs
              go_enter Try.func27, Try.ntmps27
              go_upto_region 1 with fail
              rw [← hW, ← HCe.out]
              clear hW
              go_wp2
              rw [← hY]
              first | go_end0 | refine bodyPost_ret (results_none rfl _ _ _) rfl ?_
              first | exact ⟨_, rfl, HY.out.1, HS2.out, (fun _ => ⟨rfl, rfl⟩), (fun e => by rw [HF.out] at e; cases e), HY.out.2⟩ | exact ⟨rfl, _, HY.out.1, HS2.out, (fun _ => ⟨rfl, rfl⟩), (fun e => by rw [HF.out] at e; cases e), HY.out.2⟩
            · subst hk
              have HE : Hid (ansC c n id 0 7 rval rver ks = { c with wt := false, st := 2, ck := 0, ckey := [], cval := [], ci := 0, rk := 7, rval := rval, rver := rver, ks := ks, se := 0, nu := 0 }) := by show _ = _; unfold ansC; rw [hh, if_pos rfl, if_pos rfl, if_neg hz]; rfl
              obtain ⟨Y, hY⟩ : ∃ Y, Y = ((((((((((W.setCell ⟨y, 3, none⟩ (.bool false)).setCell ⟨y, 8, none⟩ (.int .i64 (r.nu + 1))).setCell ⟨y, 7, none⟩ (.int .i64 0)).setCell ⟨y, 8, none⟩ (.int .i64 0)).setCell ⟨y, 9, none⟩ (.bool false)).setCell ⟨y, 10, none⟩ (.bool true)).setCell ⟨y, 15, none⟩ (.int .i64 7)).setCell ⟨y, 16, none⟩ (.string (bs rval))).setCell ⟨y, 17, none⟩ (.int .i64 rver)).setCell ⟨y, 18, none⟩ (.slice ao ks.length cc)) := ⟨_, rfl⟩
              have HY : Hid (RAt Y y { r with wt := false, nu := 0, se := 0, bu := false, go := true, rk := 7, rval := rval, rver := rver, m := ks.length, ro := ao, rc := cc } an n cn ∧ Kept (One y) w Y) := by
                rw [hY]
                exact ⟨((((((((((HW.out.s3 _).s8 _).s7 _).s8 _).s9 _).s10 _).s15 _).s16 _).s17 _).s18 ao ks.length cc), ((((((((((KW.out.one.setCell (p := ⟨y, 3, none⟩) (fun _ => rfl) _).setCell (p := ⟨y, 8, none⟩) (fun _ => rfl) _).setCell (p := ⟨y, 7, none⟩) (fun _ => rfl) _).setCell (p := ⟨y, 8, none⟩) (fun _ => rfl) _).setCell (p := ⟨y, 9, none⟩) (fun _ => rfl) _).setCell (p := ⟨y, 10, none⟩) (fun _ => rfl) _).setCell (p := ⟨y, 15, none⟩) (fun _ => rfl) _).setCell (p := ⟨y, 16, none⟩) (fun _ => rfl) _).setCell (p := ⟨y, 17, none⟩) (fun _ => rfl) _).setCell (p := ⟨y, 18, none⟩) (fun _ => rfl) _)⟩
              have HS2 : Hid (Sim (ansC c n id 0 7 rval rver ks) { r with wt := false, nu := 0, se := 0, bu := false, go := true, rk := 7, rval := rval, rver := rver, m := ks.length, ro := ao, rc := cc }) := by
                rw [HE.out]
                exact ⟨hs.nx, hs.pat, rfl, hs.si, hs.la, hs.fi, rfl, rfl, rfl, rfl, (fun e => by cases e), (fun _ => ⟨rfl, rfl, rfl, rfl⟩)⟩
              clear h hs
              go_enter Try.func27, Try.ntmps27
              go_upto_region 1 with fail
              rw [← hW, ← HCe.out]
              clear hW
              go_wp2
              rw [← hY]
              first | go_end0 | refine bodyPost_ret (results_none rfl _ _ _) rfl ?_
              first | exact ⟨_, rfl, HY.out.1, HS2.out, (fun _ => ⟨rfl, rfl⟩), (fun e => by rw [HF.out] at e; cases e), HY.out.2⟩ | exact ⟨rfl, _, HY.out.1, HS2.out, (fun _ => ⟨rfl, rfl⟩), (fun e => by rw [HF.out] at e; cases e), HY.out.2⟩
            · subst hk
              have HE : Hid (ansC c n id 0 8 rval rver ks = { c with wt := false, st := 2, ck := 0, ckey := [], cval := [], ci := 0, rk := 8, rval := rval, rver := rver, ks := ks, se := 0, nu := 0 }) := by show _ = _; unfold ansC; rw [hh, if_pos rfl, if_pos rfl, if_neg hz]; rfl
              obtain ⟨Y, hY⟩ : ∃ Y, Y = ((((((((((W.setCell ⟨y, 3, none⟩ (.bool false)).setCell ⟨y, 8, none⟩ (.int .i64 (r.nu + 1))).setCell ⟨y, 7, none⟩ (.int .i64 0)).setCell ⟨y, 8, none⟩ (.int .i64 0)).setCell ⟨y, 9, none⟩ (.bool false)).setCell ⟨y, 10, none⟩ (.bool true)).setCell ⟨y, 15, none⟩ (.int .i64 8)).setCell ⟨y, 16, none⟩ (.string (bs rval))).setCell ⟨y, 17, none⟩ (.int .i64 rver)).setCell ⟨y, 18, none⟩ (.slice ao ks.length cc)) := ⟨_, rfl⟩
              have HY : Hid (RAt Y y { r with wt := false, nu := 0, se := 0, bu := false, go := true, rk := 8, rval := rval, rver := rver, m := ks.length, ro := ao, rc := cc } an n cn ∧ Kept (One y) w Y) := by
                rw [hY]
                exact ⟨((((((((((HW.out.s3 _).s8 _).s7 _).s8 _).s9 _).s10 _).s15 _).s16 _).s17 _).s18 ao ks.length cc), ((((((((((KW.out.one.setCell (p := ⟨y, 3, none⟩) (fun _ => rfl) _).setCell (p := ⟨y, 8, none⟩) (fun _ => rfl) _).setCell (p := ⟨y, 7, none⟩) (fun _ => rfl) _).setCell (p := ⟨y, 8, none⟩) (fun _ => rfl) _).setCell (p := ⟨y, 9, none⟩) (fun _ => rfl) _).setCell (p := ⟨y, 10, none⟩) (fun _ => rfl) _).setCell (p := ⟨y, 15, none⟩) (fun _ => rfl) _).setCell (p := ⟨y, 16, none⟩) (fun _ => rfl) _).setCell (p := ⟨y, 17, none⟩) (fun _ => rfl) _).setCell (p := ⟨y, 18, none⟩) (fun _ => rfl) _)⟩
              have HS2 : Hid (Sim (ansC c n id 0 8 rval rver ks) { r with wt := false, nu := 0, se := 0, bu := false, go := true, rk := 8, rval := rval, rver := rver, m := ks.length, ro := ao, rc := cc }) := by
                rw [HE.out]
                exact ⟨hs.nx, hs.pat, rfl, hs.si, hs.la, hs.fi, rfl, rfl, rfl, rfl, (fun e => by cases e), (fun _ => ⟨rfl, rfl, rfl, rfl⟩)⟩
              clear h hs
              go_enter Try.func27, Try.ntmps27
              go_upto_region 1 with fail
              rw [← hW, ← HCe.out]
              clear hW
              go_wp2
              rw [← hY]
              first | go_end0 | refine bodyPost_ret (results_none rfl _ _ _) rfl ?_
              first | exact ⟨_, rfl, HY.out.1, HS2.out, (fun _ => ⟨rfl, rfl⟩), (fun e => by rw [HF.out] at e; cases e), HY.out.2⟩ | exact ⟨rfl, _, HY.out.1, HS2.out, (fun _ => ⟨rfl, rfl⟩), (fun e => by rw [HF.out] at e; cases e), HY.out.2⟩
            · have k6 : (rk == 6) = false := by simpa using n6
              have k7 : (rk == 7) = false := by simpa using n7
              have k8 : (rk == 8) = false := by simpa using n8
              have HE : Hid (ansC c n id 0 rk rval rver ks = { c with wt := false, st := 2, ck := 0, ckey := [], cval := [], ci := 0, rk := rk, rval := rval, rver := rver, ks := ks, se := c.se, nu := c.nu + 1 }) := by
                have e : endB rk = false := by simp [endB, n6, n7, n8]
                show _ = _
                unfold ansC finC
                rw [hh, if_pos rfl, if_pos rfl, if_neg hz, e]
                rfl
              obtain ⟨Y, hY⟩ : ∃ Y, Y = ((((((((W.setCell ⟨y, 3, none⟩ (.bool false)).setCell ⟨y, 8, none⟩ (.int .i64 (r.nu + 1))).setCell ⟨y, 9, none⟩ (.bool false)).setCell ⟨y, 10, none⟩ (.bool true)).setCell ⟨y, 15, none⟩ (.int .i64 rk)).setCell ⟨y, 16, none⟩ (.string (bs rval))).setCell ⟨y, 17, none⟩ (.int .i64 rver)).setCell ⟨y, 18, none⟩ (.slice ao ks.length cc)) := ⟨_, rfl⟩
              have HY : Hid (RAt Y y { r with wt := false, nu := r.nu + 1, se := r.se, bu := false, go := true, rk := rk, rval := rval, rver := rver, m := ks.length, ro := ao, rc := cc } an n cn ∧ Kept (One y) w Y) := by
                rw [hY]
                exact ⟨((((((((HW.out.s3 _).s8 _).s9 _).s10 _).s15 _).s16 _).s17 _).s18 ao ks.length cc), ((((((((KW.out.one.setCell (p := ⟨y, 3, none⟩) (fun _ => rfl) _).setCell (p := ⟨y, 8, none⟩) (fun _ => rfl) _).setCell (p := ⟨y, 9, none⟩) (fun _ => rfl) _).setCell (p := ⟨y, 10, none⟩) (fun _ => rfl) _).setCell (p := ⟨y, 15, none⟩) (fun _ => rfl) _).setCell (p := ⟨y, 16, none⟩) (fun _ => rfl) _).setCell (p := ⟨y, 17, none⟩) (fun _ => rfl) _).setCell (p := ⟨y, 18, none⟩) (fun _ => rfl) _)⟩
              have HS2 : Hid (Sim (ansC c n id 0 rk rval rver ks) { r with wt := false, nu := r.nu + 1, se := r.se, bu := false, go := true, rk := rk, rval := rval, rver := rver, m := ks.length, ro := ao, rc := cc }) := by
                rw [HE.out]
                exact ⟨hs.nx, hs.pat, rfl, hs.si, hs.la, hs.fi, hs.se, by show r.nu + 1 = c.nu + 1; rw [hs.nu], rfl, rfl, (fun e => by cases e), (fun _ => ⟨rfl, rfl, rfl, rfl⟩)⟩
              clear h hs
              go_enter Try.func27, Try.ntmps27
              go_upto_region 1 with fail
              rw [← hW, ← HCe.out]
              clear hW
              go_wp2
              rw [← hY]
              first | go_end0 | refine bodyPost_ret (results_none rfl _ _ _) rfl ?_
              first | exact ⟨_, rfl, HY.out.1, HS2.out, (fun _ => ⟨rfl, rfl⟩), (fun e => by rw [HF.out] at e; cases e), HY.out.2⟩ | exact ⟨rfl, _, HY.out.1, HS2.out, (fun _ => ⟨rfl, rfl⟩), (fun e => by rw [HF.out] at e; cases e), HY.out.2⟩
        · have HF : Hid (fins c id er = false) := by show _ = _; unfold fins; simp [he]
          have he' : (er != 0) = true := by simpa using he
          by_cases hi : id = c.la
          · have hi' : (id == r.la) = true := by rw [hs.la]; simpa using hi
            cases ht : c.wt with
            | true =>
              have HE : Hid (ansC c n id er rk rval rver ks = turnC c n) := by show _ = _; unfold ansC; rw [hh, if_pos rfl, if_neg he, if_pos hi, if_pos ht]
              rw [HE.out]
              have TU := on_any y n cn c r an W HW.out hs hx hn9
              have q3' : W.cell? ⟨y, 3, none⟩ = some (.bool true) := by rw [q3, hs.wt, ht]
              clear q3 h hs hi ht
              go_enter Try.func27, Try.ntmps27
              go_upto_region 1 with fail
              rw [← hW, ← HCe.out]
              clear hW
              go_wp2_with (go_at_call 37; go_fit TU; rintro _ w1 ⟨rfl, ⟨r', h9, s9, _, e9, e8⟩, k9⟩; have H9 : Hid (_ ∧ _ ∧ _ ∧ _ ∧ _) := ⟨h9, s9, e9, e8, k9⟩; clear h9 s9 e9 e8 k9)
              first | go_end0 | refine bodyPost_ret (results_none rfl _ _ _) rfl ?_
              first | exact ⟨r', rfl, H9.out.1, H9.out.2.1, (fun e => by rw [HF.out] at e; cases e), (fun _ => ⟨H9.out.2.2.1, H9.out.2.2.2.1⟩), KW.out.one.trans H9.out.2.2.2.2⟩ | exact ⟨rfl, r', H9.out.1, H9.out.2.1, (fun e => by rw [HF.out] at e; cases e), (fun _ => ⟨H9.out.2.2.1, H9.out.2.2.2.1⟩), KW.out.one.trans H9.out.2.2.2.2⟩
            | false =>
              have HE : Hid (ansC c n id er rk rval rver ks = c) := by show _ = _; unfold ansC; rw [hh, if_pos rfl, if_neg he, if_pos hi, ht]; rfl
              have q3' : W.cell? ⟨y, 3, none⟩ = some (.bool false) := by rw [q3, hs.wt, ht]
              clear q3 hi ht
              rw [HE.out]
              clear h hs
              go_enter Try.func27, Try.ntmps27
              go_upto_region 1 with fail
              rw [← hW, ← HCe.out]
              clear hW
              go_wp2
              first | go_end0 | refine bodyPost_ret (results_none rfl _ _ _) rfl ?_
              first | exact ⟨r, rfl, HW.out, HSim.out, (fun e => by rw [HF.out] at e; cases e), (fun _ => ⟨rfl, rfl⟩), KW.out.one⟩ | exact ⟨rfl, r, HW.out, HSim.out, (fun e => by rw [HF.out] at e; cases e), (fun _ => ⟨rfl, rfl⟩), KW.out.one⟩
          · have HE : Hid (ansC c n id er rk rval rver ks = c) := by show _ = _; unfold ansC; rw [hh, if_pos rfl, if_neg he, if_neg hi]
            have hi' : (id == r.la) = false := by rw [hs.la]; simpa using hi
            clear hi
            rw [HE.out]
            clear h hs
            go_enter Try.func27, Try.ntmps27
            go_upto_region 1 with fail
            rw [← hW, ← HCe.out]
            clear hW
            go_wp2
            first | go_end0 | refine bodyPost_ret (results_none rfl _ _ _) rfl ?_
            first | exact ⟨r, rfl, HW.out, HSim.out, (fun e => by rw [HF.out] at e; cases e), (fun _ => ⟨rfl, rfl⟩), KW.out.one⟩ | exact ⟨rfl, r, HW.out, HSim.out, (fun e => by rw [HF.out] at e; cases e), (fun _ => ⟨rfl, rfl⟩), KW.out.one⟩
      · have hh : hears c id = false := by simp [hears, h3]
        have h3' : id > r.la := by have := hs.la; omega
        have HE : Hid (ansC c n id er rk rval rver ks = c) := by show _ = _; unfold ansC; rw [hh]; rfl
        have HF : Hid (fins c id er = false) := by show _ = _; unfold fins; rw [hh]; rfl
        rw [HE.out]
        clear h hs
        go_enter Try.func27, Try.ntmps27
        go_upto_region 1 with fail
        rw [← hW, ← HCe.out]
        clear hW
        go_wp2
        first | go_end0 | refine bodyPost_ret (results_none rfl _ _ _) rfl ?_
        first | exact ⟨r, rfl, HW.out, HSim.out, (fun e => by rw [HF.out] at e; cases e), (fun _ => ⟨rfl, rfl⟩), KW.out.one⟩ | exact ⟨rfl, r, HW.out, HSim.out, (fun e => by rw [HF.out] at e; cases e), (fun _ => ⟨rfl, rfl⟩), KW.out.one⟩
    · have hh : hears c id = false := by simp [hears, h2]
      have h2' : id < r.fi := by have := hs.fi; omega
      have HE : Hid (ansC c n id er rk rval rver ks = c) := by show _ = _; unfold ansC; rw [hh]; rfl
      have HF : Hid (fins c id er = false) := by show _ = _; unfold fins; rw [hh]; rfl
      rw [HE.out]
      clear h hs
      go_enter Try.func27, Try.ntmps27
      go_upto_region 1 with fail
      rw [← hW, ← HCe.out]
      clear hW
      go_wp2
      first | go_end0 | refine bodyPost_ret (results_none rfl _ _ _) rfl ?_
      first | exact ⟨r, rfl, HW.out, HSim.out, (fun e => by rw [HF.out] at e; cases e), (fun _ => ⟨rfl, rfl⟩), KW.out.one⟩ | exact ⟨rfl, r, HW.out, HSim.out, (fun e => by rw [HF.out] at e; cases e), (fun _ => ⟨rfl, rfl⟩), KW.out.one⟩
  · have hh : hears c id = false := by simp [hears, h1]
    have hb : r.bu = false := by rw [hs.bu]; simpa using h1
    have q9 : W.cell? ⟨y, 9, none⟩ = some (.bool false) := by rw [← hb]; exact blk_at HW.out 9 rfl
    have HE : Hid (ansC c n id er rk rval rver ks = c) := by show _ = _; unfold ansC; rw [hh]; rfl
    have HF : Hid (fins c id er = false) := by show _ = _; unfold fins; rw [hh]; rfl
    rw [HE.out]
    clear h hs
    go_enter Try.func27, Try.ntmps27
    go_upto_region 1 with fail
    rw [← hW, ← HCe.out]
    clear hW
    go_wp2
    first | go_end0 | refine bodyPost_ret (results_none rfl _ _ _) rfl ?_
    first | exact ⟨r, rfl, HW.out, HSim.out, (fun e => by rw [HF.out] at e; cases e), (fun _ => ⟨rfl, rfl⟩), KW.out.one⟩ | exact ⟨rfl, r, HW.out, HSim.out, (fun e => by rw [HF.out] at e; cases e), (fun _ => ⟨rfl, rfl⟩), KW.out.one⟩

end Go.Proofs.Ytbfleeilpccmcaa
