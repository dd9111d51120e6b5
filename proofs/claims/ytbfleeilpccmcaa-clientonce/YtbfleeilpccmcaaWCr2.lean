/-
  The document's client: Wants, Done, NewClient.
-/
import Derived.Test.YtbfleeilpccmcaaWCr1
import Derived.Test.YtbfleeilpccmcaaWCl5
namespace Go.Proofs.Ytbfleeilpccmcaa
open Go.RowKit

set_option maxRecDepth 100000 in
set_option maxHeartbeats 2000000 in
theorem wants_any (y n cn : Nat) (c : Cl) (r : Rl) (an : Option Addr) (k i : Int) (key val : List UInt8) (w : World) (h : RAt w y r an n cn) (hs : Sim c r) (hst : c.st = 0 ∨ c.st = 1 ∨ c.st = 2) (hk : key.length ≤ maxLen) (hv : val.length ≤ maxLen) (ha : 0 ≤ c.la) (ha2 : c.la ≤ 4611686018427387904) :
    Calls Try.prog 24 #[.pointer (some ⟨y, 0, none⟩), .agg #[.int .i64 k, .string (bs key), .string (bs val), .int .i64 i]] w fun e w' => e = .returned (.int .i64 (wantE c k key val i)) ∧ (∃ r', RAt w' y r' an n cn ∧ Sim (wantC c k key val i) r' ∧ r'.m = r.m ∧ r'.ro = r.ro ∧ r'.rc = r.rc) ∧ Kept (One y) w w' := by
  obtain ⟨W, hW⟩ : ∃ W, W = w.alloc (.cells #[.int .i64 k, .string (bs key), .string (bs val), .int .i64 i] 30) := ⟨_, rfl⟩
  obtain ⟨C, HCe⟩ : ∃ C, Hid (C = w.heap.size) := ⟨_, rfl⟩
  have HC : Hid (W.heap[C]? = some (.cells #[.int .i64 k, .string (bs key), .string (bs val), .int .i64 i] 30 (0, 0))) := by rw [hW, HCe.out]; exact blk_new _ _
  have HW : Hid (RAt W y r an n cn) := by rw [hW]; exact h.past _
  have KW : Hid (Kept Nil w W) := by rw [hW]; exact (Kept.refl _ _).alloc _
  have hCn : w.heap.size ≤ C := by have := HCe.out; omega
  have hbC : y ≠ C := by have := lt_of_block h; have := HCe.out; omega
  have hCb : C ≠ y := fun e => hbC e.symm
  have HN := refIsCommand_any k i key val W hk hv
  have HSim : Hid (Sim c r) := hs
  have ha' : 0 ≤ r.la := by have := hs.la; omega
  have ha2' : r.la ≤ 4611686018427387904 := by have := hs.la; omega
  have c0 : W.cell? ⟨C, 0, none⟩ = some (.int .i64 k) := blk_at HC.out 0 rfl
  have c1 : W.cell? ⟨C, 1, none⟩ = some (.string (bs key)) := blk_at HC.out 1 rfl
  have c2 : W.cell? ⟨C, 2, none⟩ = some (.string (bs val)) := blk_at HC.out 2 rfl
  have c3 : W.cell? ⟨C, 3, none⟩ = some (.int .i64 i) := blk_at HC.out 3 rfl
  clear h hk hv
  cases hc : isCmd k key val i with
  | false =>
    have HE : Hid (wantE c k key val i = 5 ∧ wantC c k key val i = c) := by
      constructor
      · unfold wantE; rw [hc]; rfl
      · unfold wantC; rw [hc]; rfl
    rw [HE.out.1, HE.out.2]
    rw [hc] at HN
    clear hs
    go_enter Try.func24, Try.ntmps24
    go_upto_region 1 with fail
    rw [← hW, ← HCe.out]
    clear hW
    go_wp2_with (go_at_call 36; go_must (refine HN.mono ?_); rintro e w1 ⟨rfl, k1⟩; have K1 : Hid (Kept Nil W w1) := k1; clear k1)
    go_ret
    exact ⟨rfl, ⟨r, HW.out.kept K1.out, HSim.out, rfl, rfl, rfl⟩, (KW.out.trans K1.out).one⟩
  | true =>
    rw [hc] at HN
    by_cases h0 : c.st = 0
    · have HE : Hid (wantE c k key val i = 0 ∧ wantC c k key val i = forgetC { c with st := 1, ck := k, ckey := key, cval := val, ci := i }) := by
        constructor
        · unfold wantE; rw [hc, if_pos rfl, if_pos h0]
        · unfold wantC; rw [hc, if_pos rfl, if_pos h0]
      rw [HE.out.1, HE.out.2]
      have hb : r.bu = false := by rw [hs.bu, h0]; rfl
      have hg : r.go = false := by rw [hs.go, h0]; rfl
      clear hs
      go_enter Try.func24, Try.ntmps24
      go_upto_region 1 with fail
      rw [← hW, ← HCe.out]
      clear hW
      go_upto_region 2 with (go_at_call 36; go_must (refine HN.mono ?_); rintro e w1 ⟨rfl, k1⟩; have K1 : Hid (Kept Nil W w1) := k1; clear k1; have HB1 : Hid (RAt w1 y r an n cn) := HW.out.kept K1.out; have HC1 : Hid (w1.heap[C]? = some (.cells #[.int .i64 k, .string (bs key), .string (bs val), .int .i64 i] 30 (0, 0))) := K1.out.block _ _ HC.out (fun x => x.elim); have q3 : w1.cell? ⟨y, 3, none⟩ = some (.bool r.wt) := blk_at HB1.out 3 rfl; have q5 : w1.cell? ⟨y, 5, none⟩ = some (.int .i64 r.la) := blk_at HB1.out 5 rfl; have q6 : w1.cell? ⟨y, 6, none⟩ = some (.int .i64 r.fi) := blk_at HB1.out 6 rfl; have q9 : w1.cell? ⟨y, 9, none⟩ = some (.bool false) := (by rw [← hb]; exact blk_at HB1.out 9 rfl); have q10 : w1.cell? ⟨y, 10, none⟩ = some (.bool false) := (by rw [← hg]; exact blk_at HB1.out 10 rfl); have q11 : w1.cell? ⟨y, 11, none⟩ = some (.int .i64 r.k) := blk_at HB1.out 11 rfl; have q12 : w1.cell? ⟨y, 12, none⟩ = some (.string (bs r.key)) := blk_at HB1.out 12 rfl; have q13 : w1.cell? ⟨y, 13, none⟩ = some (.string (bs r.val)) := blk_at HB1.out 13 rfl; have q14 : w1.cell? ⟨y, 14, none⟩ = some (.int .i64 r.i) := blk_at HB1.out 14 rfl; have f3 : w1.frozen? ⟨y, 3, none⟩ = false := blk_free HB1.out 3; have f6 : w1.frozen? ⟨y, 6, none⟩ = false := blk_free HB1.out 6; have f9 : w1.frozen? ⟨y, 9, none⟩ = false := blk_free HB1.out 9; have f11 : w1.frozen? ⟨y, 11, none⟩ = false := blk_free HB1.out 11; have f12 : w1.frozen? ⟨y, 12, none⟩ = false := blk_free HB1.out 12; have f13 : w1.frozen? ⟨y, 13, none⟩ = false := blk_free HB1.out 13; have f14 : w1.frozen? ⟨y, 14, none⟩ = false := blk_free HB1.out 14; have d0 : w1.cell? ⟨C, 0, none⟩ = some (.int .i64 k) := blk_at HC1.out 0 rfl; have d1 : w1.cell? ⟨C, 1, none⟩ = some (.string (bs key)) := blk_at HC1.out 1 rfl; have d2 : w1.cell? ⟨C, 2, none⟩ = some (.string (bs val)) := blk_at HC1.out 2 rfl; have d3 : w1.cell? ⟨C, 3, none⟩ = some (.int .i64 i) := blk_at HC1.out 3 rfl)
      obtain ⟨Y, hY⟩ : ∃ Y, Y = (((((((w1.setCell ⟨y, 9, none⟩ (.bool true)).setCell ⟨y, 11, none⟩ (.int .i64 k)).setCell ⟨y, 12, none⟩ (.string (bs key))).setCell ⟨y, 13, none⟩ (.string (bs val))).setCell ⟨y, 14, none⟩ (.int .i64 i)).setCell ⟨y, 3, none⟩ (.bool false)).setCell ⟨y, 6, none⟩ (.int .i64 (r.la + 1))) := ⟨_, rfl⟩
      have HY : Hid (RAt Y y { r with bu := true, k := k, key := key, val := val, i := i, wt := false, fi := r.la + 1 } an n cn ∧ Kept (One y) w Y) := by
        rw [hY]
        exact ⟨(((((((HB1.out.s9 _).s11 _).s12 _).s13 _).s14 _).s3 _).s6 _), ((((((((KW.out.trans K1.out).one.setCell (p := ⟨y, 9, none⟩) (fun _ => rfl) _).setCell (p := ⟨y, 11, none⟩) (fun _ => rfl) _).setCell (p := ⟨y, 12, none⟩) (fun _ => rfl) _).setCell (p := ⟨y, 13, none⟩) (fun _ => rfl) _).setCell (p := ⟨y, 14, none⟩) (fun _ => rfl) _).setCell (p := ⟨y, 3, none⟩) (fun _ => rfl) _).setCell (p := ⟨y, 6, none⟩) (fun _ => rfl) _)⟩
      go_wp2
      rw [← hY]
      go_ret
      refine ⟨rfl, ⟨_, HY.out.1, ?_, rfl, rfl, rfl⟩, HY.out.2⟩
      have hs := HSim.out
      exact ⟨hs.nx, hs.pat, rfl, hs.si, hs.la, by show r.la + 1 = c.la + 1; rw [hs.la], hs.se, hs.nu, rfl, by show r.go = _; rw [hs.go, h0]; rfl, fun _ => ⟨rfl, rfl, rfl, rfl⟩, fun e => by cases e⟩
    · rcases (show c.st = 1 ∨ c.st = 2 by omega) with h1 | h1
      · have HE : Hid (wantE c k key val i = 21 ∧ wantC c k key val i = c) := by
          constructor
          · unfold wantE; rw [hc, if_pos rfl, if_neg h0]
          · unfold wantC; rw [hc, if_pos rfl, if_neg h0]
        rw [HE.out.1, HE.out.2]
        have hb : r.bu = true := by rw [hs.bu, h1]; rfl
        have hg : r.go = false := by rw [hs.go, h1]; rfl
        clear hs
        go_enter Try.func24, Try.ntmps24
        go_upto_region 1 with fail
        rw [← hW, ← HCe.out]
        clear hW
        go_wp2_with (go_at_call 36; go_must (refine HN.mono ?_); rintro e w1 ⟨rfl, k1⟩; have K1 : Hid (Kept Nil W w1) := k1; clear k1; have HB1 : Hid (RAt w1 y r an n cn) := HW.out.kept K1.out; have q9 : w1.cell? ⟨y, 9, none⟩ = some (.bool true) := (by rw [← hb]; exact blk_at HB1.out 9 rfl); have q10 : w1.cell? ⟨y, 10, none⟩ = some (.bool false) := (by rw [← hg]; exact blk_at HB1.out 10 rfl))
        go_ret
        exact ⟨rfl, ⟨r, HB1.out, HSim.out, rfl, rfl, rfl⟩, (KW.out.trans K1.out).one⟩
      · have HE : Hid (wantE c k key val i = 21 ∧ wantC c k key val i = c) := by
          constructor
          · unfold wantE; rw [hc, if_pos rfl, if_neg h0]
          · unfold wantC; rw [hc, if_pos rfl, if_neg h0]
        rw [HE.out.1, HE.out.2]
        have hb : r.bu = false := by rw [hs.bu, h1]; rfl
        have hg : r.go = true := by rw [hs.go, h1]; rfl
        clear hs
        go_enter Try.func24, Try.ntmps24
        go_upto_region 1 with fail
        rw [← hW, ← HCe.out]
        clear hW
        go_wp2_with (go_at_call 36; go_must (refine HN.mono ?_); rintro e w1 ⟨rfl, k1⟩; have K1 : Hid (Kept Nil W w1) := k1; clear k1; have HB1 : Hid (RAt w1 y r an n cn) := HW.out.kept K1.out; have q9 : w1.cell? ⟨y, 9, none⟩ = some (.bool false) := (by rw [← hb]; exact blk_at HB1.out 9 rfl); have q10 : w1.cell? ⟨y, 10, none⟩ = some (.bool true) := (by rw [← hg]; exact blk_at HB1.out 10 rfl))
        go_ret
        exact ⟨rfl, ⟨r, HB1.out, HSim.out, rfl, rfl, rfl⟩, (KW.out.trans K1.out).one⟩
set_option maxRecDepth 100000 in
set_option maxHeartbeats 2000000 in
theorem rdone_any (y n cn : Nat) (c : Cl) (r : Rl) (an : Option Addr) (w : World) (h : RAt w y r an n cn) (hs : Sim c r) :
    Calls Try.prog 29 #[.pointer (some ⟨y, 0, none⟩)] w fun e w' => e = .returned (.tuple (doneV c r.ro r.rc)) ∧ (∃ r', RAt w' y r' an n cn ∧ Sim (doneC c) r' ∧ r'.ro = r.ro ∧ r'.rc = r.rc) ∧ Kept (One y) w w' := by
  obtain ⟨W, hW⟩ : ∃ W, W = w.alloc (.cells #[.int .i64 0, .string ⟨#[]⟩, .int .i64 0, .slice none 0 0] 45) := ⟨_, rfl⟩
  obtain ⟨R, HRe⟩ : ∃ R, Hid (R = w.heap.size) := ⟨_, rfl⟩
  have HR : Hid (W.heap[R]? = some (.cells #[.int .i64 0, .string ⟨#[]⟩, .int .i64 0, .slice none 0 0] 45 (0, 0))) := by rw [hW, HRe.out]; exact blk_new _ _
  have HW : Hid (RAt W y r an n cn) := by rw [hW]; exact h.past _
  have KW : Hid (Kept Nil w W) := by rw [hW]; exact (Kept.refl _ _).alloc _
  have hRn : w.heap.size ≤ R := by have := HRe.out; omega
  have hbR : y ≠ R := by have := lt_of_block h; have := HRe.out; omega
  have hRb : R ≠ y := fun e => hbR e.symm
  have HSim : Hid (Sim c r) := hs
  by_cases h2 : c.st = 2
  · obtain ⟨e1, e2, e3, e4⟩ := hs.res h2
    have HE : Hid (doneV c r.ro r.rc = #[.agg #[.int .i64 r.rk, .string (bs r.rval), .int .i64 r.rver, .slice r.ro r.m r.rc], .bool true] ∧ doneC c = { c with st := 0, rk := 0, rval := [], rver := 0, ks := [] }) := by
      constructor
      · unfold doneV; rw [if_pos h2, e1, e2, e3, e4]
      · unfold doneC; rw [if_pos h2]
    rw [HE.out.1, HE.out.2]
    have hg : r.go = true := by rw [hs.go, h2]; rfl
    have q10 : W.cell? ⟨y, 10, none⟩ = some (.bool true) := by rw [← hg]; exact blk_at HW.out 10 rfl
    have f10 : W.frozen? ⟨y, 10, none⟩ = false := blk_free HW.out 10
    obtain ⟨Y, hY⟩ : ∃ Y, Y = (W.setCell ⟨y, 10, none⟩ (.bool false)) := ⟨_, rfl⟩
    have HY : Hid (RAt Y y { r with go := false } an n cn ∧ Y.heap[R]? = some (.cells #[.int .i64 0, .string ⟨#[]⟩, .int .i64 0, .slice none 0 0] 45 (0, 0)) ∧ Kept (One y) w Y) := by
      rw [hY]
      exact ⟨(HW.out.s10 _), (blk_other (a := ⟨y, 10, none⟩) HR.out hRb _), (KW.out.one.setCell (p := ⟨y, 10, none⟩) (fun _ => rfl) _)⟩
    have p15 : Y.cell? ⟨y, 15, none⟩ = some (.int .i64 r.rk) := blk_at HY.out.1 15 rfl
    have p16 : Y.cell? ⟨y, 16, none⟩ = some (.string (bs r.rval)) := blk_at HY.out.1 16 rfl
    have p17 : Y.cell? ⟨y, 17, none⟩ = some (.int .i64 r.rver) := blk_at HY.out.1 17 rfl
    have p18 : Y.cell? ⟨y, 18, none⟩ = some (.slice r.ro r.m r.rc) := blk_at HY.out.1 18 rfl
    have r0 : Y.cell? ⟨R, 0, none⟩ = some (.int .i64 0) := blk_at HY.out.2.1 0 rfl
    have r1 : Y.cell? ⟨R, 1, none⟩ = some (.string ⟨#[]⟩) := blk_at HY.out.2.1 1 rfl
    have r2 : Y.cell? ⟨R, 2, none⟩ = some (.int .i64 0) := blk_at HY.out.2.1 2 rfl
    have r3 : Y.cell? ⟨R, 3, none⟩ = some (.slice none 0 0) := blk_at HY.out.2.1 3 rfl
    have z0 : Y.frozen? ⟨R, 0, none⟩ = false := blk_free HY.out.2.1 0
    have z1 : Y.frozen? ⟨R, 1, none⟩ = false := blk_free HY.out.2.1 1
    have z2 : Y.frozen? ⟨R, 2, none⟩ = false := blk_free HY.out.2.1 2
    have z3 : Y.frozen? ⟨R, 3, none⟩ = false := blk_free HY.out.2.1 3
    clear h hs e1 e2 e3 e4
    go_enter Try.func29, Try.ntmps29
    go_upto_region 1 with fail
    rw [← hW, ← HRe.out]
    clear hW
    go_upto_region 4 with fail
    rw [← hY]
    clear hY q10 f10
    obtain ⟨V, hV⟩ : ∃ V, V = ((((Y.setCell ⟨R, 0, none⟩ (.int .i64 r.rk)).setCell ⟨R, 1, none⟩ (.string (bs r.rval))).setCell ⟨R, 2, none⟩ (.int .i64 r.rver)).setCell ⟨R, 3, none⟩ (.slice r.ro r.m r.rc)) := ⟨_, rfl⟩
    have BR : Hid (V.heap[R]? = some (.cells #[.int .i64 r.rk, .string (bs r.rval), .int .i64 r.rver, .slice r.ro r.m r.rc] 45 (0, 0))) := by rw [hV]; exact (put4 HY.out.2.1)
    have KV : Hid (Kept (One y) w V) := by rw [hV]; exact ((((HY.out.2.2.setNew (p := ⟨R, 0, none⟩) hRn _).setNew (p := ⟨R, 1, none⟩) hRn _).setNew (p := ⟨R, 2, none⟩) hRn _).setNew (p := ⟨R, 3, none⟩) hRn _)
    have HBV : Hid (RAt V y { r with go := false } an n cn) := by rw [hV]; exact ((((HY.out.1.oth (a := ⟨R, 0, none⟩) hbR _).oth (a := ⟨R, 1, none⟩) hbR _).oth (a := ⟨R, 2, none⟩) hbR _).oth (a := ⟨R, 3, none⟩) hbR _)
    have HS2 : Hid (Sim { c with st := 0, rk := 0, rval := [], rver := 0, ks := [] } { r with go := false }) := by
      have hs := HSim.out
      exact ⟨hs.nx, hs.pat, hs.wt, hs.si, hs.la, hs.fi, hs.se, hs.nu, by show r.bu = _; rw [hs.bu, h2]; rfl, rfl, (fun e => by cases e), (fun e => by cases e)⟩
    go_wp2
    rw [← hV]
    clear hV
    have j0 : V.cell? ⟨R, 0, none⟩ = some (.int .i64 r.rk) := blk_at BR.out 0 rfl
    have j1 : V.cell? ⟨R, 1, none⟩ = some (.string (bs r.rval)) := blk_at BR.out 1 rfl
    have j2 : V.cell? ⟨R, 2, none⟩ = some (.int .i64 r.rver) := blk_at BR.out 2 rfl
    have j3 : V.cell? ⟨R, 3, none⟩ = some (.slice r.ro r.m r.rc) := blk_at BR.out 3 rfl
    exact bodyPost_ret (v := .tuple #[.agg #[.int .i64 r.rk, .string (bs r.rval), .int .i64 r.rver, .slice r.ro r.m r.rc], .bool true]) (by simp [results, Try.results29, go_sem, j0, j1, j2, j3]) rfl ⟨rfl, ⟨_, HBV.out, HS2.out, rfl, rfl⟩, KV.out⟩
  · have HE : Hid (doneV c r.ro r.rc = #[.agg #[.int .i64 0, .string ⟨#[]⟩, .int .i64 0, .slice none 0 0], .bool false] ∧ doneC c = c) := by
      constructor
      · unfold doneV; rw [if_neg h2]
      · unfold doneC; rw [if_neg h2]
    rw [HE.out.1, HE.out.2]
    have hg : r.go = false := by rw [hs.go]; simpa using h2
    have q10 : W.cell? ⟨y, 10, none⟩ = some (.bool false) := by rw [← hg]; exact blk_at HW.out 10 rfl
    have r0 : W.cell? ⟨R, 0, none⟩ = some (.int .i64 0) := blk_at HR.out 0 rfl
    have r1 : W.cell? ⟨R, 1, none⟩ = some (.string ⟨#[]⟩) := blk_at HR.out 1 rfl
    have r2 : W.cell? ⟨R, 2, none⟩ = some (.int .i64 0) := blk_at HR.out 2 rfl
    have r3 : W.cell? ⟨R, 3, none⟩ = some (.slice none 0 0) := blk_at HR.out 3 rfl
    have z0 : W.frozen? ⟨R, 0, none⟩ = false := blk_free HR.out 0
    have z1 : W.frozen? ⟨R, 1, none⟩ = false := blk_free HR.out 1
    have z2 : W.frozen? ⟨R, 2, none⟩ = false := blk_free HR.out 2
    have z3 : W.frozen? ⟨R, 3, none⟩ = false := blk_free HR.out 3
    clear h hs
    go_enter Try.func29, Try.ntmps29
    go_upto_region 1 with fail
    rw [← hW, ← HRe.out]
    clear hW
    obtain ⟨V, hV⟩ : ∃ V, V = ((((W.setCell ⟨R, 0, none⟩ (.int .i64 0)).setCell ⟨R, 1, none⟩ (.string ⟨#[]⟩)).setCell ⟨R, 2, none⟩ (.int .i64 0)).setCell ⟨R, 3, none⟩ (.slice none 0 0)) := ⟨_, rfl⟩
    have BR : Hid (V.heap[R]? = some (.cells #[.int .i64 0, .string ⟨#[]⟩, .int .i64 0, .slice none 0 0] 45 (0, 0))) := by rw [hV]; exact (put4 HR.out)
    have KV : Hid (Kept (One y) w V) := by rw [hV]; exact ((((KW.out.one.setNew (p := ⟨R, 0, none⟩) hRn _).setNew (p := ⟨R, 1, none⟩) hRn _).setNew (p := ⟨R, 2, none⟩) hRn _).setNew (p := ⟨R, 3, none⟩) hRn _)
    have HBV : Hid (RAt V y r an n cn) := by rw [hV]; exact ((((HW.out.oth (a := ⟨R, 0, none⟩) hbR _).oth (a := ⟨R, 1, none⟩) hbR _).oth (a := ⟨R, 2, none⟩) hbR _).oth (a := ⟨R, 3, none⟩) hbR _)
    go_wp2
    rw [← hV]
    clear hV
    have j0 : V.cell? ⟨R, 0, none⟩ = some (.int .i64 0) := blk_at BR.out 0 rfl
    have j1 : V.cell? ⟨R, 1, none⟩ = some (.string ⟨#[]⟩) := blk_at BR.out 1 rfl
    have j2 : V.cell? ⟨R, 2, none⟩ = some (.int .i64 0) := blk_at BR.out 2 rfl
    have j3 : V.cell? ⟨R, 3, none⟩ = some (.slice none 0 0) := blk_at BR.out 3 rfl
    exact bodyPost_ret (v := .tuple #[.agg #[.int .i64 0, .string ⟨#[]⟩, .int .i64 0, .slice none 0 0], .bool false]) (by simp [results, Try.results29, go_sem, j0, j1, j2, j3]) rfl ⟨rfl, ⟨r, HBV.out, HSim.out, rfl, rfl⟩, KV.out⟩
set_option maxRecDepth 100000 in
set_option maxHeartbeats 2000000 in
theorem rnew_any (B cc : Nat) (ao : Option Addr) (l : List Int) (pat : Int) (w : World) (h : IntRow B w ao l) (hl : (l.length : Int) ≤ 9223372036854775807) :
    Calls Try.prog 9 #[.slice ao l.length cc, .int .i64 pat] w fun e w' => (newOk l pat = false ∧ e = .returned (.tuple #[.pointer none, .int .i64 13]) ∧ Kept Nil w w') ∨ (newOk l pat = true ∧ ∃ y r, e = .returned (.tuple #[.pointer (some ⟨y, 0, none⟩), .int .i64 0]) ∧ RAt w' y r ao l.length cc ∧ Sim (newC pat) r ∧ r.ro = none ∧ r.rc = 0 ∧ w.heap.size ≤ y ∧ Kept Nil w w') := by
  have AN := refRising_any B cc ao l w h hl
  cases hr : rise 0 l with
  | false =>
    have HF : Hid (newOk l pat = false) := by show _ = _; unfold newOk; rw [hr]; simp
    rw [hr] at AN
    go_enter Try.func9, Try.ntmps9
    go_wp2_with (go_at_call 23; go_must (refine AN.mono ?_); rintro e w1 ⟨rfl, k1⟩; have K1 : Hid (Kept Nil w w1) := k1; clear k1)
    exact bodyPost_ret (v := .tuple #[.pointer none, .int .i64 13]) (by simp [results, Try.results9, go_sem]) rfl (.inl ⟨HF.out, rfl, K1.out⟩)
  | true =>
    rw [hr] at AN
    by_cases h0 : l = []
    · subst h0
      have HF : Hid (newOk [] pat = false) := rfl
      go_enter Try.func9, Try.ntmps9
      go_wp2_with (go_at_call 23; go_must (refine AN.mono ?_); rintro e w1 ⟨rfl, k1⟩; have K1 : Hid (Kept Nil w w1) := k1; clear k1)
      exact bodyPost_ret (v := .tuple #[.pointer none, .int .i64 13]) (by simp [results, Try.results9, go_sem]) rfl (.inl ⟨HF.out, rfl, K1.out⟩)
    · have h1 : ((l.length : Int) == 0) = false := by simpa using h0
      have HM : Hid (l.isEmpty = false) := by show l.isEmpty = false; simpa using h0
      by_cases hp : 1 ≤ pat
      · by_cases hq : pat ≤ 100
        · have HF : Hid (newOk l pat = true) := by show _ = _; unfold newOk; rw [hr, HM.out]; simp [hp, hq]
          have hp' : ¬ pat < 1 := by omega
          have hq' : ¬ pat > 100 := by omega
          clear h h0
          go_enter Try.func9, Try.ntmps9
          go_wp2_with (go_at_call 23; go_must (refine AN.mono ?_); rintro e w1 ⟨rfl, k1⟩; have K1 : Hid (Kept Nil w w1) := k1; clear k1)
          exact bodyPost_ret (v := .tuple #[.pointer (some ⟨w1.heap.size, 0, none⟩), .int .i64 0]) (by simp [results, Try.results9, go_sem]) rfl (.inr ⟨HF.out, _, ⟨0, pat, false, 0, 0, 1, 0, 0, false, false, 0, [], [], 0, 0, [], 0, 0, none, 0⟩, rfl, blk_new w1 _, ⟨rfl, rfl, rfl, rfl, rfl, rfl, rfl, rfl, rfl, rfl, (fun e => by cases e), (fun e => by cases e)⟩, rfl, rfl, K1.out.size, K1.out.alloc _⟩)
        · have HF : Hid (newOk l pat = false) := by show _ = _; unfold newOk; simp [hq]
          have hp' : ¬ pat < 1 := by omega
          have hq' : pat > 100 := by omega
          go_enter Try.func9, Try.ntmps9
          go_wp2_with (go_at_call 23; go_must (refine AN.mono ?_); rintro e w1 ⟨rfl, k1⟩; have K1 : Hid (Kept Nil w w1) := k1; clear k1)
          exact bodyPost_ret (v := .tuple #[.pointer none, .int .i64 13]) (by simp [results, Try.results9, go_sem]) rfl (.inl ⟨HF.out, rfl, K1.out⟩)
      · have HF : Hid (newOk l pat = false) := by show _ = _; unfold newOk; simp [hp]
        have hp' : pat < 1 := by omega
        go_enter Try.func9, Try.ntmps9
        go_wp2_with (go_at_call 23; go_must (refine AN.mono ?_); rintro e w1 ⟨rfl, k1⟩; have K1 : Hid (Kept Nil w w1) := k1; clear k1)
        exact bodyPost_ret (v := .tuple #[.pointer none, .int .i64 13]) (by simp [results, Try.results9, go_sem]) rfl (.inl ⟨HF.out, rfl, K1.out⟩)

end Go.Proofs.Ytbfleeilpccmcaa
