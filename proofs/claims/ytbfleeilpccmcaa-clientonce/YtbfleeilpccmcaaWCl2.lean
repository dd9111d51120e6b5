/-
  A client: Want, Tick, Done.
-/
import Derived.Test.YtbfleeilpccmcaaWCl1
namespace Go.Proofs.Ytbfleeilpccmcaa
open Go.RowKit

def wantE (c : Cl) (k : Int) (key val : List UInt8) (i : Int) : Int := if isCmd k key val i then (if c.st = 0 then 0 else 21) else 5
def wantC (c : Cl) (k : Int) (key val : List UInt8) (i : Int) : Cl := if isCmd k key val i then (if c.st = 0 then forgetC { c with st := 1, ck := k, ckey := key, cval := val, ci := i } else c) else c
theorem Kept.one {b : Nat} {w w' : World} (h : Kept Nil w w') : Kept (One b) w w' := h.mono (fun _ _ x => x.elim)
set_option maxRecDepth 100000 in
set_option maxHeartbeats 2000000 in
theorem want_any (b n cn kc : Nat) (c : Cl) (an ko : Option Addr) (k i : Int) (key val : List UInt8) (w : World) (h : ClAt w b c an n cn ko kc) (hk : key.length ≤ maxLen) (hv : val.length ≤ maxLen) :
    Calls Try.prog 6 #[.pointer (some ⟨b, 0, none⟩), .agg #[.int .i64 k, .string (bs key), .string (bs val), .int .i64 i]] w fun e w' => e = .returned (.int .i64 (wantE c k key val i)) ∧ ClAt w' b (wantC c k key val i) an n cn ko kc ∧ Kept (One b) w w' := by
  obtain ⟨W, hW⟩ : ∃ W, W = w.alloc (.cells #[.int .i64 k, .string (bs key), .string (bs val), .int .i64 i] 30) := ⟨_, rfl⟩
  obtain ⟨C, HCe⟩ : ∃ C, Hid (C = w.heap.size) := ⟨_, rfl⟩
  have HC : Hid (W.heap[C]? = some (.cells #[.int .i64 k, .string (bs key), .string (bs val), .int .i64 i] 30 (0, 0))) := by rw [hW, HCe.out]; exact blk_new _ _
  have HW : Hid (ClAt W b c an n cn ko kc) := by rw [hW]; exact h.past _
  have KW : Hid (Kept Nil w W) := by rw [hW]; exact (Kept.refl _ _).alloc _
  have hCn : w.heap.size ≤ C := by have := HCe.out; omega
  have hbC : b ≠ C := by have := lt_of_block h; have := HCe.out; omega
  have hCb : C ≠ b := fun e => hbC e.symm
  have HN := isCommand_any k i key val W hk hv
  have c0 : W.cell? ⟨C, 0, none⟩ = some (.int .i64 k) := blk_at HC.out 0 rfl
  have c1 : W.cell? ⟨C, 1, none⟩ = some (.string (bs key)) := blk_at HC.out 1 rfl
  have c2 : W.cell? ⟨C, 2, none⟩ = some (.string (bs val)) := blk_at HC.out 2 rfl
  have c3 : W.cell? ⟨C, 3, none⟩ = some (.int .i64 i) := blk_at HC.out 3 rfl
  clear h hk hv
  cases hc : isCmd k key val i with
  | false =>
    have HE : Hid (wantE c k key val i = 5 ∧ wantC c k key val i = c) := by
      constructor
      · unfold wantE; rw [hc]; rfl
      · unfold wantC; rw [hc]; rfl
    rw [HE.out.1, HE.out.2]
    rw [hc] at HN
    go_enter Try.func6, Try.ntmps6
    go_upto_region 1 with fail
    rw [← hW, ← HCe.out]
    clear hW
    go_wp2_with (go_at_call 20; go_must (refine HN.mono ?_); rintro e w1 ⟨rfl, k1⟩; have K1 : Hid (Kept Nil W w1) := k1; clear k1)
    go_ret
    exact ⟨rfl, HW.out.kept K1.out, (KW.out.trans K1.out).one⟩
  | true =>
    by_cases hs : c.st = 0
    · have HE : Hid (wantE c k key val i = 0 ∧ wantC c k key val i = forgetC { c with st := 1, ck := k, ckey := key, cval := val, ci := i }) := by
        constructor
        · unfold wantE; rw [hc, if_pos rfl, if_pos hs]
        · unfold wantC; rw [hc, if_pos rfl, if_pos hs]
      rw [HE.out.1, HE.out.2]
      rw [hc] at HN
      go_enter Try.func6, Try.ntmps6
      go_upto_region 1 with fail
      rw [← hW, ← HCe.out]
      clear hW
      go_wp2_with (go_at_call 20; go_must (refine HN.mono ?_); rintro e w1 ⟨rfl, k1⟩; have K1 : Hid (Kept Nil W w1) := k1; clear k1; have HB1 : Hid (ClAt w1 b c an n cn ko kc) := HW.out.kept K1.out; have HC1 : Hid (w1.heap[C]? = some (.cells #[.int .i64 k, .string (bs key), .string (bs val), .int .i64 i] 30 (0, 0))) := K1.out.block _ _ HC.out (fun x => x.elim); have q9 : w1.cell? ⟨b, 9, none⟩ = some (.int .i64 0) := (by rw [← hs]; exact blk_at HB1.out 9 rfl); have q10 : w1.cell? ⟨b, 10, none⟩ = some (.int .i64 c.ck) := blk_at HB1.out 10 rfl; have q11 : w1.cell? ⟨b, 11, none⟩ = some (.string (bs c.ckey)) := blk_at HB1.out 11 rfl; have q12 : w1.cell? ⟨b, 12, none⟩ = some (.string (bs c.cval)) := blk_at HB1.out 12 rfl; have q13 : w1.cell? ⟨b, 13, none⟩ = some (.int .i64 c.ci) := blk_at HB1.out 13 rfl; have f9 : w1.frozen? ⟨b, 9, none⟩ = false := blk_free HB1.out 9; have f10 : w1.frozen? ⟨b, 10, none⟩ = false := blk_free HB1.out 10; have f11 : w1.frozen? ⟨b, 11, none⟩ = false := blk_free HB1.out 11; have f12 : w1.frozen? ⟨b, 12, none⟩ = false := blk_free HB1.out 12; have f13 : w1.frozen? ⟨b, 13, none⟩ = false := blk_free HB1.out 13; have d0 : w1.cell? ⟨C, 0, none⟩ = some (.int .i64 k) := blk_at HC1.out 0 rfl; have d1 : w1.cell? ⟨C, 1, none⟩ = some (.string (bs key)) := blk_at HC1.out 1 rfl; have d2 : w1.cell? ⟨C, 2, none⟩ = some (.string (bs val)) := blk_at HC1.out 2 rfl; have d3 : w1.cell? ⟨C, 3, none⟩ = some (.int .i64 i) := blk_at HC1.out 3 rfl)
      obtain ⟨Y, hY⟩ : ∃ Y, Y = (((((w1.setCell ⟨b, 9, none⟩ (.int .i64 1)).setCell ⟨b, 10, none⟩ (.int .i64 k)).setCell ⟨b, 11, none⟩ (.string (bs key))).setCell ⟨b, 12, none⟩ (.string (bs val))).setCell ⟨b, 13, none⟩ (.int .i64 i)).drew := ⟨_, rfl⟩
      have HY : Hid (ClAt Y b { c with st := 1, ck := k, ckey := key, cval := val, ci := i } an n cn ko kc ∧ Kept (One b) w Y) := by
        rw [hY]
        exact ⟨(((((HB1.out.s9 _).s10 _).s11 _).s12 _).s13 _).drew, ((((((KW.out.trans K1.out).one.setCell (p := ⟨b, 9, none⟩) (fun _ => rfl) _).setCell (p := ⟨b, 10, none⟩) (fun _ => rfl) _).setCell (p := ⟨b, 11, none⟩) (fun _ => rfl) _).setCell (p := ⟨b, 12, none⟩) (fun _ => rfl) _).setCell (p := ⟨b, 13, none⟩) (fun _ => rfl) _).drew⟩
      have FY := forget_any b n cn kc _ an ko Y HY.out.1
      go_region
      all_goals
        rw [← hY]
        clear hY q9 q10 q11 q12 q13 f9 f10 f11 f12 f13 d0 d1 d2 d3
        go_wp2_with fail
        go_fit FY
        rintro e w2 ⟨rfl, h2, k2⟩
        have H2 : Hid (_ ∧ _) := ⟨h2, HY.out.2.trans k2⟩
        clear h2 k2
        go_wp2
        go_ret
        exact ⟨rfl, H2.out⟩
    · have HE : Hid (wantE c k key val i = 21 ∧ wantC c k key val i = c) := by
        constructor
        · unfold wantE; rw [hc, if_pos rfl, if_neg hs]
        · unfold wantC; rw [hc, if_pos rfl, if_neg hs]
      rw [HE.out.1, HE.out.2]
      rw [hc] at HN
      have hs' : (c.st != 0) = true := by simpa using hs
      go_enter Try.func6, Try.ntmps6
      go_upto_region 1 with fail
      rw [← hW, ← HCe.out]
      clear hW
      go_wp2_with (go_at_call 20; go_must (refine HN.mono ?_); rintro e w1 ⟨rfl, k1⟩; have K1 : Hid (Kept Nil W w1) := k1; clear k1; have HB1 : Hid (ClAt w1 b c an n cn ko kc) := HW.out.kept K1.out; have q9 : w1.cell? ⟨b, 9, none⟩ = some (.int .i64 c.st) := blk_at HB1.out 9 rfl)
      go_ret
      exact ⟨rfl, HB1.out, (KW.out.trans K1.out).one⟩
set_option maxRecDepth 100000 in
set_option maxHeartbeats 2000000 in
theorem tick_any (b n cn kc : Nat) (c : Cl) (an ko : Option Addr) (w : World) (h : ClAt w b c an n cn ko kc) (hx : c.nx < n) (hn : n ≤ 9) (h0 : 0 ≤ c.si) (h1 : c.si ≤ 1000) :
    Calls Try.prog 16 #[.pointer (some ⟨b, 0, none⟩)] w fun e w' => e = .returned (.tuple #[]) ∧ ClAt w' b (tickC c n) an n cn ko kc ∧ Kept (One b) w w' := by
  cases ht : c.wt with
  | false =>
    have HE : Hid (tickC c n = c) := by show _ = _; unfold tickC; rw [ht]; rfl
    rw [HE.out]
    have H : Hid (ClAt w b c an n cn ko kc) := h
    have q5 : w.cell? ⟨b, 5, none⟩ = some (.bool false) := by rw [← ht]; exact blk_at h 5 rfl
    clear h hx hn h0 h1 ht
    go_enter Try.func16, Try.ntmps16
    go_wp2
    exact bodyPost_ret (results_none rfl _ _ _) rfl ⟨rfl, H.out, Kept.refl _ _⟩
  | true =>
    have q5 : w.cell? ⟨b, 5, none⟩ = some (.bool true) := by rw [← ht]; exact blk_at h 5 rfl
    have q2 : w.cell? ⟨b, 2, none⟩ = some (.int .i64 c.pat) := blk_at h 2 rfl
    have q6 : w.cell? ⟨b, 6, none⟩ = some (.int .i64 c.si) := blk_at h 6 rfl
    have f6 : w.frozen? ⟨b, 6, none⟩ = false := blk_free h 6
    obtain ⟨Y, hY⟩ : ∃ Y, Y = (w.setCell ⟨b, 6, none⟩ (.int .i64 (c.si + 1))).drew := ⟨_, rfl⟩
    have HY : Hid (ClAt Y b { c with si := c.si + 1 } an n cn ko kc ∧ Kept (One b) w Y) := by
      rw [hY]
      exact ⟨(h.s6 _).drew, ((Kept.refl _ _).setCell (p := ⟨b, 6, none⟩) (fun _ => rfl) _).drew⟩
    by_cases hp : c.si + 1 = c.pat
    · have HE : Hid (tickC c n = turnC { c with si := c.si + 1 } n) := by show _ = _; unfold tickC; rw [ht, if_pos rfl, if_pos hp]
      rw [HE.out]
      have TY := turn_any b n cn kc _ an ko Y HY.out.1 hx hn
      have HP : Hid (c.si + 1 = c.pat) := hp
      have hp' : (c.si + 1 == c.pat) = true := by simpa using hp
      clear h hx hn ht hp
      go_enter Try.func16, Try.ntmps16
      go_wp2
      go_region
      all_goals
        rw [← hY]
        clear hY
        go_wp2_with fail
        go_fit TY
        rintro e w2 ⟨rfl, h2, k2⟩
        have H2 : Hid (_ ∧ _) := ⟨h2, HY.out.2.trans k2⟩
        clear h2 k2
        go_wp2
        go_end0
        exact ⟨rfl, H2.out⟩
    · have HE : Hid (tickC c n = { c with si := c.si + 1 }) := by show _ = _; unfold tickC; rw [ht, if_pos rfl, if_neg hp]
      rw [HE.out]
      have hp' : (c.si + 1 == c.pat) = false := by simpa using hp
      clear h hx hn ht
      go_enter Try.func16, Try.ntmps16
      go_wp2
      go_region
      all_goals
        rw [← hY]
        clear hY
        go_wp2
        go_end0
        exact ⟨rfl, HY.out⟩
/-- What Done tells. -/
def doneV (c : Cl) (ko : Option Addr) (kc : Nat) : Array Value := if c.st = 2 then #[.agg #[.int .i64 c.rk, .string (bs c.rval), .int .i64 c.rver, .slice ko c.ks.length kc], .bool true] else #[.agg #[.int .i64 0, .string ⟨#[]⟩, .int .i64 0, .slice none 0 0], .bool false]
set_option maxRecDepth 100000 in
set_option maxHeartbeats 2000000 in
theorem done_any (b n cn kc : Nat) (c : Cl) (an ko : Option Addr) (w : World) (h : ClAt w b c an n cn ko kc) :
    Calls Try.prog 17 #[.pointer (some ⟨b, 0, none⟩)] w fun e w' => e = .returned (.tuple (doneV c ko kc)) ∧ ClAt w' b (doneC c) an n cn (if c.st = 2 then none else ko) (if c.st = 2 then 0 else kc) ∧ Kept (One b) w w' := by
  obtain ⟨W, hW⟩ : ∃ W, W = w.alloc (.cells #[.int .i64 0, .string ⟨#[]⟩, .int .i64 0, .slice none 0 0] 45) := ⟨_, rfl⟩
  obtain ⟨R, HRe⟩ : ∃ R, Hid (R = w.heap.size) := ⟨_, rfl⟩
  have HR : Hid (W.heap[R]? = some (.cells #[.int .i64 0, .string ⟨#[]⟩, .int .i64 0, .slice none 0 0] 45 (0, 0))) := by rw [hW, HRe.out]; exact blk_new _ _
  have HW : Hid (ClAt W b c an n cn ko kc) := by rw [hW]; exact h.past _
  have KW : Hid (Kept Nil w W) := by rw [hW]; exact (Kept.refl _ _).alloc _
  have hRn : w.heap.size ≤ R := by have := HRe.out; omega
  have hbR : b ≠ R := by have := lt_of_block h; have := HRe.out; omega
  have hRb : R ≠ b := fun e => hbR e.symm
  by_cases hs : c.st = 2
  · have HE : Hid (doneV c ko kc = #[.agg #[.int .i64 c.rk, .string (bs c.rval), .int .i64 c.rver, .slice ko c.ks.length kc], .bool true] ∧ doneC c = { c with st := 0, rk := 0, rval := [], rver := 0, ks := [] }) := by
      constructor
      · unfold doneV; rw [if_pos hs]
      · unfold doneC; rw [if_pos hs]
    rw [HE.out.1, HE.out.2, if_pos hs, if_pos hs]
    have q9 : W.cell? ⟨b, 9, none⟩ = some (.int .i64 2) := by rw [← hs]; exact blk_at HW.out 9 rfl
    have q14 : W.cell? ⟨b, 14, none⟩ = some (.int .i64 c.rk) := blk_at HW.out 14 rfl
    have q15 : W.cell? ⟨b, 15, none⟩ = some (.string (bs c.rval)) := blk_at HW.out 15 rfl
    have q16 : W.cell? ⟨b, 16, none⟩ = some (.int .i64 c.rver) := blk_at HW.out 16 rfl
    have q17 : W.cell? ⟨b, 17, none⟩ = some (.slice ko c.ks.length kc) := blk_at HW.out 17 rfl
    obtain ⟨D, HDe⟩ : ∃ D, Hid (D = W.heap.size) := ⟨_, rfl⟩
    have hDn : w.heap.size ≤ D := by have := HDe.out; have := KW.out.size; omega
    have hbD : b ≠ D := by have := lt_of_block HW.out; have := HDe.out; omega
    have hDb : D ≠ b := fun e => hbD e.symm
    have hRD : R ≠ D := by have := lt_of_block HR.out; have := HDe.out; omega
    have hDR : D ≠ R := fun e => hRD e.symm
    obtain ⟨X, hX⟩ : ∃ X, X = W.alloc (.cells #[.int .i64 c.rk, .string (bs c.rval), .int .i64 c.rver, .slice ko c.ks.length kc] 45) := ⟨_, rfl⟩
    have HX : Hid (ClAt X b c an n cn ko kc ∧ X.heap[D]? = some (.cells #[.int .i64 c.rk, .string (bs c.rval), .int .i64 c.rver, .slice ko c.ks.length kc] 45 (0, 0)) ∧ X.heap[R]? = some (.cells #[.int .i64 0, .string ⟨#[]⟩, .int .i64 0, .slice none 0 0] 45 (0, 0)) ∧ Kept Nil w X) := by
      rw [hX, HDe.out]
      exact ⟨HW.out.past _, blk_new W _, blk_past HR.out _, KW.out.alloc _⟩
    have p9 : X.cell? ⟨b, 9, none⟩ = some (.int .i64 2) := (by rw [← hs]; exact blk_at HX.out.1 9 rfl)
    have p14 : X.cell? ⟨b, 14, none⟩ = some (.int .i64 c.rk) := blk_at HX.out.1 14 rfl
    have p15 : X.cell? ⟨b, 15, none⟩ = some (.string (bs c.rval)) := blk_at HX.out.1 15 rfl
    have p16 : X.cell? ⟨b, 16, none⟩ = some (.int .i64 c.rver) := blk_at HX.out.1 16 rfl
    have p17 : X.cell? ⟨b, 17, none⟩ = some (.slice ko c.ks.length kc) := blk_at HX.out.1 17 rfl
    have g9 : X.frozen? ⟨b, 9, none⟩ = false := blk_free HX.out.1 9
    have g14 : X.frozen? ⟨b, 14, none⟩ = false := blk_free HX.out.1 14
    have g15 : X.frozen? ⟨b, 15, none⟩ = false := blk_free HX.out.1 15
    have g16 : X.frozen? ⟨b, 16, none⟩ = false := blk_free HX.out.1 16
    have g17 : X.frozen? ⟨b, 17, none⟩ = false := blk_free HX.out.1 17
    have d0 : X.cell? ⟨D, 0, none⟩ = some (.int .i64 c.rk) := blk_at HX.out.2.1 0 rfl
    have d1 : X.cell? ⟨D, 1, none⟩ = some (.string (bs c.rval)) := blk_at HX.out.2.1 1 rfl
    have d2 : X.cell? ⟨D, 2, none⟩ = some (.int .i64 c.rver) := blk_at HX.out.2.1 2 rfl
    have d3 : X.cell? ⟨D, 3, none⟩ = some (.slice ko c.ks.length kc) := blk_at HX.out.2.1 3 rfl
    have r0 : X.cell? ⟨R, 0, none⟩ = some (.int .i64 0) := blk_at HX.out.2.2.1 0 rfl
    have r1 : X.cell? ⟨R, 1, none⟩ = some (.string ⟨#[]⟩) := blk_at HX.out.2.2.1 1 rfl
    have r2 : X.cell? ⟨R, 2, none⟩ = some (.int .i64 0) := blk_at HX.out.2.2.1 2 rfl
    have r3 : X.cell? ⟨R, 3, none⟩ = some (.slice none 0 0) := blk_at HX.out.2.2.1 3 rfl
    have z0 : X.frozen? ⟨R, 0, none⟩ = false := blk_free HX.out.2.2.1 0
    have z1 : X.frozen? ⟨R, 1, none⟩ = false := blk_free HX.out.2.2.1 1
    have z2 : X.frozen? ⟨R, 2, none⟩ = false := blk_free HX.out.2.2.1 2
    have z3 : X.frozen? ⟨R, 3, none⟩ = false := blk_free HX.out.2.2.1 3
    obtain ⟨Y, hY⟩ : ∃ Y, Y = (((((X.setCell ⟨b, 9, none⟩ (.int .i64 0)).setCell ⟨b, 14, none⟩ (.int .i64 0)).setCell ⟨b, 15, none⟩ (.string ⟨#[]⟩)).setCell ⟨b, 16, none⟩ (.int .i64 0)).setCell ⟨b, 17, none⟩ (.slice none 0 0)) := ⟨_, rfl⟩
    have HY : Hid (ClAt Y b { c with st := 0, rk := 0, rval := [], rver := 0, ks := [] } an n cn none 0 ∧ Y.heap[D]? = some (.cells #[.int .i64 c.rk, .string (bs c.rval), .int .i64 c.rver, .slice ko c.ks.length kc] 45 (0, 0)) ∧ Y.heap[R]? = some (.cells #[.int .i64 0, .string ⟨#[]⟩, .int .i64 0, .slice none 0 0] 45 (0, 0)) ∧ Kept (One b) w Y) := by
      rw [hY]
      refine ⟨(((((HX.out.1.s9 _).s14 _).s15 []).s16 _).s17 [] none 0), (blk_other (a := ⟨b, 17, none⟩) (blk_other (a := ⟨b, 16, none⟩) (blk_other (a := ⟨b, 15, none⟩) (blk_other (a := ⟨b, 14, none⟩) (blk_other (a := ⟨b, 9, none⟩) HX.out.2.1 hDb _) hDb _) hDb _) hDb _) hDb _), (blk_other (a := ⟨b, 17, none⟩) (blk_other (a := ⟨b, 16, none⟩) (blk_other (a := ⟨b, 15, none⟩) (blk_other (a := ⟨b, 14, none⟩) (blk_other (a := ⟨b, 9, none⟩) HX.out.2.2.1 hRb _) hRb _) hRb _) hRb _) hRb _), (((((HX.out.2.2.2.one.setCell (p := ⟨b, 9, none⟩) (fun _ => rfl) _).setCell (p := ⟨b, 14, none⟩) (fun _ => rfl) _).setCell (p := ⟨b, 15, none⟩) (fun _ => rfl) _).setCell (p := ⟨b, 16, none⟩) (fun _ => rfl) _).setCell (p := ⟨b, 17, none⟩) (fun _ => rfl) _)⟩
    clear h
    go_enter Try.func17, Try.ntmps17
    go_upto_region 1 with fail
    rw [← hW, ← HRe.out]
    clear hW
    go_upto_region 4 with fail
    rw [← HDe.out, ← hX]
    clear hX
    go_upto_region 5 with fail
    rw [← hY]
    clear hY p9 p14 p15 p16 p17 g9 g14 g15 g16 g17 d0 d1 d2 d3 r0 r1 r2 r3 z0 z1 z2 z3
    have d0 : Y.cell? ⟨D, 0, none⟩ = some (.int .i64 c.rk) := blk_at HY.out.2.1 0 rfl
    have d1 : Y.cell? ⟨D, 1, none⟩ = some (.string (bs c.rval)) := blk_at HY.out.2.1 1 rfl
    have d2 : Y.cell? ⟨D, 2, none⟩ = some (.int .i64 c.rver) := blk_at HY.out.2.1 2 rfl
    have d3 : Y.cell? ⟨D, 3, none⟩ = some (.slice ko c.ks.length kc) := blk_at HY.out.2.1 3 rfl
    have r0 : Y.cell? ⟨R, 0, none⟩ = some (.int .i64 0) := blk_at HY.out.2.2.1 0 rfl
    have r1 : Y.cell? ⟨R, 1, none⟩ = some (.string ⟨#[]⟩) := blk_at HY.out.2.2.1 1 rfl
    have r2 : Y.cell? ⟨R, 2, none⟩ = some (.int .i64 0) := blk_at HY.out.2.2.1 2 rfl
    have r3 : Y.cell? ⟨R, 3, none⟩ = some (.slice none 0 0) := blk_at HY.out.2.2.1 3 rfl
    have z0 : Y.frozen? ⟨R, 0, none⟩ = false := blk_free HY.out.2.2.1 0
    have z1 : Y.frozen? ⟨R, 1, none⟩ = false := blk_free HY.out.2.2.1 1
    have z2 : Y.frozen? ⟨R, 2, none⟩ = false := blk_free HY.out.2.2.1 2
    have z3 : Y.frozen? ⟨R, 3, none⟩ = false := blk_free HY.out.2.2.1 3
    obtain ⟨V, hV⟩ : ∃ V, V = ((((Y.setCell ⟨R, 0, none⟩ (.int .i64 c.rk)).setCell ⟨R, 1, none⟩ (.string (bs c.rval))).setCell ⟨R, 2, none⟩ (.int .i64 c.rver)).setCell ⟨R, 3, none⟩ (.slice ko c.ks.length kc)) := ⟨_, rfl⟩
    have BR : Hid (V.heap[R]? = some (.cells #[.int .i64 c.rk, .string (bs c.rval), .int .i64 c.rver, .slice ko c.ks.length kc] 45 (0, 0))) := by rw [hV]; exact (put4 HY.out.2.2.1)
    have KV : Hid (Kept (One b) w V) := by rw [hV]; exact ((((HY.out.2.2.2.setNew (p := ⟨R, 0, none⟩) hRn _).setNew (p := ⟨R, 1, none⟩) hRn _).setNew (p := ⟨R, 2, none⟩) hRn _).setNew (p := ⟨R, 3, none⟩) hRn _)
    have HBV : Hid (ClAt V b { c with st := 0, rk := 0, rval := [], rver := 0, ks := [] } an n cn none 0) := by rw [hV]; exact ((((HY.out.1.oth (a := ⟨R, 0, none⟩) hbR _).oth (a := ⟨R, 1, none⟩) hbR _).oth (a := ⟨R, 2, none⟩) hbR _).oth (a := ⟨R, 3, none⟩) hbR _)
    go_wp2
    rw [← hV]
    clear hV
    have j0 : V.cell? ⟨R, 0, none⟩ = some (.int .i64 c.rk) := blk_at BR.out 0 rfl
    have j1 : V.cell? ⟨R, 1, none⟩ = some (.string (bs c.rval)) := blk_at BR.out 1 rfl
    have j2 : V.cell? ⟨R, 2, none⟩ = some (.int .i64 c.rver) := blk_at BR.out 2 rfl
    have j3 : V.cell? ⟨R, 3, none⟩ = some (.slice ko c.ks.length kc) := blk_at BR.out 3 rfl
    exact bodyPost_ret (v := .tuple #[.agg #[.int .i64 c.rk, .string (bs c.rval), .int .i64 c.rver, .slice ko c.ks.length kc], .bool true]) (by simp [results, Try.results17, go_sem, j0, j1, j2, j3]) rfl ⟨rfl, HBV.out, KV.out⟩
  · have HE : Hid (doneV c ko kc = #[.agg #[.int .i64 0, .string ⟨#[]⟩, .int .i64 0, .slice none 0 0], .bool false] ∧ doneC c = c) := by
      constructor
      · unfold doneV; rw [if_neg hs]
      · unfold doneC; rw [if_neg hs]
    rw [HE.out.1, HE.out.2, if_neg hs, if_neg hs]
    have hs' : (c.st != 2) = true := by simpa using hs
    have q9 : W.cell? ⟨b, 9, none⟩ = some (.int .i64 c.st) := blk_at HW.out 9 rfl
    have r0 : W.cell? ⟨R, 0, none⟩ = some (.int .i64 0) := blk_at HR.out 0 rfl
    have r1 : W.cell? ⟨R, 1, none⟩ = some (.string ⟨#[]⟩) := blk_at HR.out 1 rfl
    have r2 : W.cell? ⟨R, 2, none⟩ = some (.int .i64 0) := blk_at HR.out 2 rfl
    have r3 : W.cell? ⟨R, 3, none⟩ = some (.slice none 0 0) := blk_at HR.out 3 rfl
    have z0 : W.frozen? ⟨R, 0, none⟩ = false := blk_free HR.out 0
    have z1 : W.frozen? ⟨R, 1, none⟩ = false := blk_free HR.out 1
    have z2 : W.frozen? ⟨R, 2, none⟩ = false := blk_free HR.out 2
    have z3 : W.frozen? ⟨R, 3, none⟩ = false := blk_free HR.out 3
    clear h
    go_enter Try.func17, Try.ntmps17
    go_upto_region 1 with fail
    rw [← hW, ← HRe.out]
    clear hW
    obtain ⟨V, hV⟩ : ∃ V, V = ((((W.setCell ⟨R, 0, none⟩ (.int .i64 0)).setCell ⟨R, 1, none⟩ (.string ⟨#[]⟩)).setCell ⟨R, 2, none⟩ (.int .i64 0)).setCell ⟨R, 3, none⟩ (.slice none 0 0)) := ⟨_, rfl⟩
    have BR : Hid (V.heap[R]? = some (.cells #[.int .i64 0, .string ⟨#[]⟩, .int .i64 0, .slice none 0 0] 45 (0, 0))) := by rw [hV]; exact (put4 HR.out)
    have KV : Hid (Kept (One b) w V) := by rw [hV]; exact ((((KW.out.one.setNew (p := ⟨R, 0, none⟩) hRn _).setNew (p := ⟨R, 1, none⟩) hRn _).setNew (p := ⟨R, 2, none⟩) hRn _).setNew (p := ⟨R, 3, none⟩) hRn _)
    have HBV : Hid (ClAt V b c an n cn ko kc) := by rw [hV]; exact ((((HW.out.oth (a := ⟨R, 0, none⟩) hbR _).oth (a := ⟨R, 1, none⟩) hbR _).oth (a := ⟨R, 2, none⟩) hbR _).oth (a := ⟨R, 3, none⟩) hbR _)
    go_wp2
    rw [← hV]
    clear hV
    have j0 : V.cell? ⟨R, 0, none⟩ = some (.int .i64 0) := blk_at BR.out 0 rfl
    have j1 : V.cell? ⟨R, 1, none⟩ = some (.string ⟨#[]⟩) := blk_at BR.out 1 rfl
    have j2 : V.cell? ⟨R, 2, none⟩ = some (.int .i64 0) := blk_at BR.out 2 rfl
    have j3 : V.cell? ⟨R, 3, none⟩ = some (.slice none 0 0) := blk_at BR.out 3 rfl
    exact bodyPost_ret (v := .tuple #[.agg #[.int .i64 0, .string ⟨#[]⟩, .int .i64 0, .slice none 0 0], .bool false]) (by simp [results, Try.results17, go_sem, j0, j1, j2, j3]) rfl ⟨rfl, HBV.out, KV.out⟩

end Go.Proofs.Ytbfleeilpccmcaa
