/-
  Joined: WCg1.
-/
import Derived.Test.YtflnjlbafchnaaaGreatDoorQ16
/-
  Cells: a job in memory; follow, end, endWith, hasPut, hasRoom, hasPrepared, hasSealed (the program).
-/
namespace Go.Proofs.YtflnjlbafchnaaaGreatDoor
open Go.RowKit

/-- Where the lists lie that its results have (they are empty). -/
structure Jk where
  ro : Option Addr
  rc : Nat
  eo : Option Addr
  ec : Nat
/-- The program keeps none. -/
structure Jn extends Jk where
  hr : ro = none ∧ rc = 0
  he : eo = none ∧ ec = 0
def JbAt (w : World) (b : Nat) (j : Jb) (K : Jn) : Prop := w.heap[b]? = some (.cells #[.int .i64 j.kd, .string (bs j.k), .string (bs j.v), .int .i64 j.m, .int .i64 j.tg, .int .i64 j.st, .int .i64 j.at', .int .i64 j.rs.kd, .string (bs j.rs.v), .int .i64 j.rs.n, .slice K.ro j.rs.ks.length K.rc, .int .i64 j.ph, .string (bs j.sn.v), .int .i64 j.sn.n, .int .i64 j.sn.s, .int .i64 j.sn.h, .int .i64 j.sn.g, .int .i64 j.sv, .string (bs j.nx.v), .int .i64 j.nx.n, .int .i64 j.nx.s, .int .i64 j.nx.h, .int .i64 j.nx.g, .int .i64 j.re.kd, .string (bs j.re.v), .int .i64 j.re.n, .slice K.eo j.re.ks.length K.ec, .int .i64 j.sp, .bool j.ow] 135 (0, 0))
theorem JbAt.kept {w w' : World} {b : Nat} {j : Jb} {K : Jn} (h : JbAt w b j K) (k : Kept Nil w w') : JbAt w' b j K := k.block _ _ h (fun x => x)
theorem JbAt.keptX {X : Nat → Obj → Prop} {w w' : World} {b : Nat} {j : Jb} {K : Jn} (h : JbAt w b j K) (k : Kept X w w') (hX : ∀ o, ¬ X b o) : JbAt w' b j K := k.block _ _ h (hX _)
theorem JbAt.s5 {w : World} {b : Nat} {j : Jb} {K : Jn} (h : JbAt w b j K) (x : Nat) : JbAt (w.setCell ⟨b, 5, none⟩ (.int .i64 x)) b { j with st := x } K := blk_set h 5 _
theorem JbAt.s6 {w : World} {b : Nat} {j : Jb} {K : Jn} (h : JbAt w b j K) (x : Nat) : JbAt (w.setCell ⟨b, 6, none⟩ (.int .i64 x)) b { j with at' := x } K := blk_set h 6 _
theorem JbAt.s7 {w : World} {b : Nat} {j : Jb} {K : Jn} (h : JbAt w b j K) (x : Int) : JbAt (w.setCell ⟨b, 7, none⟩ (.int .i64 x)) b { j with rs := { j.rs with kd := x } } K := blk_set h 7 _
theorem JbAt.s8 {w : World} {b : Nat} {j : Jb} {K : Jn} (h : JbAt w b j K) (x : List UInt8) : JbAt (w.setCell ⟨b, 8, none⟩ (.string (bs x))) b { j with rs := { j.rs with v := x } } K := blk_set h 8 _
theorem JbAt.s9 {w : World} {b : Nat} {j : Jb} {K : Jn} (h : JbAt w b j K) (x : Int) : JbAt (w.setCell ⟨b, 9, none⟩ (.int .i64 x)) b { j with rs := { j.rs with n := x } } K := blk_set h 9 _
theorem JbAt.s11 {w : World} {b : Nat} {j : Jb} {K : Jn} (h : JbAt w b j K) (x : Nat) : JbAt (w.setCell ⟨b, 11, none⟩ (.int .i64 x)) b { j with ph := x } K := blk_set h 11 _
theorem JbAt.s12 {w : World} {b : Nat} {j : Jb} {K : Jn} (h : JbAt w b j K) (x : List UInt8) : JbAt (w.setCell ⟨b, 12, none⟩ (.string (bs x))) b { j with sn := { j.sn with v := x } } K := blk_set h 12 _
theorem JbAt.s13 {w : World} {b : Nat} {j : Jb} {K : Jn} (h : JbAt w b j K) (x : Nat) : JbAt (w.setCell ⟨b, 13, none⟩ (.int .i64 x)) b { j with sn := { j.sn with n := x } } K := blk_set h 13 _
theorem JbAt.s14 {w : World} {b : Nat} {j : Jb} {K : Jn} (h : JbAt w b j K) (x : Nat) : JbAt (w.setCell ⟨b, 14, none⟩ (.int .i64 x)) b { j with sn := { j.sn with s := x } } K := blk_set h 14 _
theorem JbAt.s15 {w : World} {b : Nat} {j : Jb} {K : Jn} (h : JbAt w b j K) (x : Nat) : JbAt (w.setCell ⟨b, 15, none⟩ (.int .i64 x)) b { j with sn := { j.sn with h := x } } K := blk_set h 15 _
theorem JbAt.s16 {w : World} {b : Nat} {j : Jb} {K : Jn} (h : JbAt w b j K) (x : Nat) : JbAt (w.setCell ⟨b, 16, none⟩ (.int .i64 x)) b { j with sn := { j.sn with g := x } } K := blk_set h 16 _
theorem JbAt.s17 {w : World} {b : Nat} {j : Jb} {K : Jn} (h : JbAt w b j K) (x : Int) : JbAt (w.setCell ⟨b, 17, none⟩ (.int .i64 x)) b { j with sv := x } K := blk_set h 17 _
theorem JbAt.s18 {w : World} {b : Nat} {j : Jb} {K : Jn} (h : JbAt w b j K) (x : List UInt8) : JbAt (w.setCell ⟨b, 18, none⟩ (.string (bs x))) b { j with nx := { j.nx with v := x } } K := blk_set h 18 _
theorem JbAt.s19 {w : World} {b : Nat} {j : Jb} {K : Jn} (h : JbAt w b j K) (x : Nat) : JbAt (w.setCell ⟨b, 19, none⟩ (.int .i64 x)) b { j with nx := { j.nx with n := x } } K := blk_set h 19 _
theorem JbAt.s20 {w : World} {b : Nat} {j : Jb} {K : Jn} (h : JbAt w b j K) (x : Nat) : JbAt (w.setCell ⟨b, 20, none⟩ (.int .i64 x)) b { j with nx := { j.nx with s := x } } K := blk_set h 20 _
theorem JbAt.s21 {w : World} {b : Nat} {j : Jb} {K : Jn} (h : JbAt w b j K) (x : Nat) : JbAt (w.setCell ⟨b, 21, none⟩ (.int .i64 x)) b { j with nx := { j.nx with h := x } } K := blk_set h 21 _
theorem JbAt.s22 {w : World} {b : Nat} {j : Jb} {K : Jn} (h : JbAt w b j K) (x : Nat) : JbAt (w.setCell ⟨b, 22, none⟩ (.int .i64 x)) b { j with nx := { j.nx with g := x } } K := blk_set h 22 _
theorem JbAt.s23 {w : World} {b : Nat} {j : Jb} {K : Jn} (h : JbAt w b j K) (x : Int) : JbAt (w.setCell ⟨b, 23, none⟩ (.int .i64 x)) b { j with re := { j.re with kd := x } } K := blk_set h 23 _
theorem JbAt.s24 {w : World} {b : Nat} {j : Jb} {K : Jn} (h : JbAt w b j K) (x : List UInt8) : JbAt (w.setCell ⟨b, 24, none⟩ (.string (bs x))) b { j with re := { j.re with v := x } } K := blk_set h 24 _
theorem JbAt.s25 {w : World} {b : Nat} {j : Jb} {K : Jn} (h : JbAt w b j K) (x : Int) : JbAt (w.setCell ⟨b, 25, none⟩ (.int .i64 x)) b { j with re := { j.re with n := x } } K := blk_set h 25 _
theorem JbAt.s27 {w : World} {b : Nat} {j : Jb} {K : Jn} (h : JbAt w b j K) (x : Int) : JbAt (w.setCell ⟨b, 27, none⟩ (.int .i64 x)) b { j with sp := x } K := blk_set h 27 _
theorem JbAt.s28 {w : World} {b : Nat} {j : Jb} {K : Jn} (h : JbAt w b j K) (x : Bool) : JbAt (w.setCell ⟨b, 28, none⟩ (.bool x)) b { j with ow := x } K := blk_set h 28 _
theorem JbAt.s10 {w : World} {b : Nat} {j : Jb} {K : Jn} (h : JbAt w b j K) (o : Option Addr) (c : Nat) (ks : List (List UInt8)) (hn : o = none ∧ c = 0) : JbAt (w.setCell ⟨b, 10, none⟩ (.slice o ks.length c)) b { j with rs := { j.rs with ks := ks } } { K with ro := o, rc := c, hr := hn } := blk_set h 10 _
theorem JbAt.s26 {w : World} {b : Nat} {j : Jb} {K : Jn} (h : JbAt w b j K) (o : Option Addr) (c : Nat) (ks : List (List UInt8)) (hn : o = none ∧ c = 0) : JbAt (w.setCell ⟨b, 26, none⟩ (.slice o ks.length c)) b { j with re := { j.re with ks := ks } } { K with eo := o, ec := c, he := hn } := blk_set h 26 _
theorem JbAt.rs4 {w : World} {b : Nat} {j : Jb} {K : Jn} (h : JbAt w b j K) (r : Rr) (ko : Option Addr) (kc : Nat) (hn : ko = none ∧ kc = 0) : JbAt ((((w.setCell ⟨b, 7, none⟩ (.int .i64 r.kd)).setCell ⟨b, 8, none⟩ (.string (bs r.v))).setCell ⟨b, 9, none⟩ (.int .i64 r.n)).setCell ⟨b, 10, none⟩ (.slice ko r.ks.length kc)) b { j with rs := r } { K with ro := ko, rc := kc, hr := hn } := by
  have h0 := h.s7 r.kd
  have h1 := h0.s8 r.v
  have h2 := h1.s9 r.n
  have h3 := h2.s10 ko kc r.ks hn
  exact h3
theorem JbAt.re4 {w : World} {b : Nat} {j : Jb} {K : Jn} (h : JbAt w b j K) (r : Rr) (ko : Option Addr) (kc : Nat) (hn : ko = none ∧ kc = 0) : JbAt ((((w.setCell ⟨b, 23, none⟩ (.int .i64 r.kd)).setCell ⟨b, 24, none⟩ (.string (bs r.v))).setCell ⟨b, 25, none⟩ (.int .i64 r.n)).setCell ⟨b, 26, none⟩ (.slice ko r.ks.length kc)) b { j with re := r } { K with eo := ko, ec := kc, he := hn } := by
  have h0 := h.s23 r.kd
  have h1 := h0.s24 r.v
  have h2 := h1.s25 r.n
  have h3 := h2.s26 ko kc r.ks hn
  exact h3
theorem JbAt.sn6 {w : World} {b : Nat} {j : Jb} {K : Jn} (h : JbAt w b j K) (c : Ce) (m : Int) : JbAt ((((((w.setCell ⟨b, 12, none⟩ (.string (bs c.v))).setCell ⟨b, 13, none⟩ (.int .i64 c.n)).setCell ⟨b, 14, none⟩ (.int .i64 c.s)).setCell ⟨b, 15, none⟩ (.int .i64 c.h)).setCell ⟨b, 16, none⟩ (.int .i64 c.g)).setCell ⟨b, 17, none⟩ (.int .i64 m)) b { j with sn := c, sv := m } K := by
  have h0 := h.s12 c.v
  have h1 := h0.s13 c.n
  have h2 := h1.s14 c.s
  have h3 := h2.s15 c.h
  have h4 := h3.s16 c.g
  have h5 := h4.s17 m
  exact h5
theorem JbAt.nx5 {w : World} {b : Nat} {j : Jb} {K : Jn} (h : JbAt w b j K) (c : Ce) : JbAt (((((w.setCell ⟨b, 18, none⟩ (.string (bs c.v))).setCell ⟨b, 19, none⟩ (.int .i64 c.n)).setCell ⟨b, 20, none⟩ (.int .i64 c.s)).setCell ⟨b, 21, none⟩ (.int .i64 c.h)).setCell ⟨b, 22, none⟩ (.int .i64 c.g)) b { j with nx := c } K := by
  have h0 := h.s18 c.v
  have h1 := h0.s19 c.n
  have h2 := h1.s20 c.s
  have h3 := h2.s21 c.h
  have h4 := h3.s22 c.g
  exact h4
theorem JbAt.drew {w : World} {b : Nat} {j : Jb} {K : Jn} (h : JbAt w b j K) : JbAt w.drew b j K := h
def JPost (w : World) (b : Nat) (j : Jb) (e : Ending) (w' : World) : Prop := e = .returned (.tuple #[]) ∧ (∃ K, JbAt w' b j K) ∧ Kept (One b) w w'
theorem kept_oneN {b : Nat} {w w' : World} (k : Kept Nil w w') : Kept (One b) w w' := k.mono (fun _ _ e => e.elim)
set_option maxRecDepth 100000 in
set_option maxHeartbeats 4000000 in
theorem follow_any (w : World) (b : Nat) (j : Jb) (K : Jn) (h : JbAt w b j K) :
    Calls Tryz.prog 126 #[.pointer (some ⟨b, 0, none⟩)] w (JPost w b j.follow) := by
  have q16 : w.cell? ⟨b, 16, none⟩ = some (.int .i64 j.sn.g) := blk_at h 16 rfl
  have q6 : w.cell? ⟨b, 6, none⟩ = some (.int .i64 j.at') := blk_at h 6 rfl
  have q11 : w.cell? ⟨b, 11, none⟩ = some (.int .i64 j.ph) := blk_at h 11 rfl
  have f6 : w.frozen? ⟨b, 6, none⟩ = false := blk_free h 6
  have f11 : w.frozen? ⟨b, 11, none⟩ = false := blk_free h 11
  obtain ⟨Y, hY⟩ : ∃ Y, Y = ((w.setCell ⟨b, 6, none⟩ (.int .i64 j.sn.g)).setCell ⟨b, 11, none⟩ (.int .i64 0)) := ⟨_, rfl⟩
  have HY : Hid ((∃ K, JbAt Y b j.follow K) ∧ Kept (One b) w Y) := by rw [hY]; exact ⟨⟨K, (h.s6 j.sn.g).s11 0⟩, (((Kept.refl _ _).setCell (p := ⟨b, 6, none⟩) (fun _ => rfl) _).setCell (p := ⟨b, 11, none⟩) (fun _ => rfl) _)⟩
  obtain ⟨u, Hu⟩ : ∃ u, Hid (u = j.follow) := ⟨_, rfl⟩
  rw [← Hu.out] at HY ⊢
  clear h Hu
  go_enter Tryz.func126, Tryz.ntmps126
  go_wp2
  rw [← hY]
  go_end0
  exact ⟨rfl, HY.out⟩
set_option maxRecDepth 100000 in
set_option maxHeartbeats 4000000 in
theorem end_any (w : World) (b : Nat) (j : Jb) (K : Jn) (h : JbAt w b j K) (r : Rr) (ko : Option Addr) (kc : Nat) (hn : ko = none ∧ kc = 0) :
    Calls Tryz.prog 129 #[.pointer (some ⟨b, 0, none⟩), rrV r ko kc] w (JPost w b (j.fin r)) := by
  have HNK : Hid (ko = none ∧ kc = 0) := hn
  clear hn
  obtain ⟨W, hW⟩ : ∃ W, W = w.alloc (.cells #[.int .i64 r.kd, .string (bs r.v), .int .i64 r.n, .slice ko r.ks.length kc] 50) := ⟨_, rfl⟩
  obtain ⟨A, HAe⟩ : ∃ A, Hid (A = w.heap.size) := ⟨_, rfl⟩
  have KW : Hid (Kept Nil w W) := by rw [hW]; exact (Kept.refl _ _).alloc _
  have HA : Hid (W.heap[A]? = some (.cells #[.int .i64 r.kd, .string (bs r.v), .int .i64 r.n, .slice ko r.ks.length kc] 50 (0, 0))) := by rw [hW, HAe.out]; exact blk_new _ _
  have HJ : Hid (JbAt W b j K) := h.kept KW.out
  have hlb : b < W.heap.size := lt_of_block HJ.out
  have hlA : A < W.heap.size := lt_of_block HA.out
  have hbA : b ≠ A := by rw [HAe.out]; have := lt_of_block h; omega
  have hAb : A ≠ b := fun e => hbA e.symm
  have q5 : W.cell? ⟨b, 5, none⟩ = some (.int .i64 j.st) := blk_at HJ.out 5 rfl
  have q7 : W.cell? ⟨b, 7, none⟩ = some (.int .i64 j.rs.kd) := blk_at HJ.out 7 rfl
  have q8 : W.cell? ⟨b, 8, none⟩ = some (.string (bs j.rs.v)) := blk_at HJ.out 8 rfl
  have q9 : W.cell? ⟨b, 9, none⟩ = some (.int .i64 j.rs.n) := blk_at HJ.out 9 rfl
  have q10 : W.cell? ⟨b, 10, none⟩ = some (.slice K.ro j.rs.ks.length K.rc) := blk_at HJ.out 10 rfl
  have q11 : W.cell? ⟨b, 11, none⟩ = some (.int .i64 j.ph) := blk_at HJ.out 11 rfl
  have f5 : W.frozen? ⟨b, 5, none⟩ = false := blk_free HJ.out 5
  have f7 : W.frozen? ⟨b, 7, none⟩ = false := blk_free HJ.out 7
  have f8 : W.frozen? ⟨b, 8, none⟩ = false := blk_free HJ.out 8
  have f9 : W.frozen? ⟨b, 9, none⟩ = false := blk_free HJ.out 9
  have f10 : W.frozen? ⟨b, 10, none⟩ = false := blk_free HJ.out 10
  have f11 : W.frozen? ⟨b, 11, none⟩ = false := blk_free HJ.out 11
  have a0 : W.cell? ⟨A, 0, none⟩ = some (.int .i64 r.kd) := blk_at HA.out 0 rfl
  have a1 : W.cell? ⟨A, 1, none⟩ = some (.string (bs r.v)) := blk_at HA.out 1 rfl
  have a2 : W.cell? ⟨A, 2, none⟩ = some (.int .i64 r.n) := blk_at HA.out 2 rfl
  have a3 : W.cell? ⟨A, 3, none⟩ = some (.slice ko r.ks.length kc) := blk_at HA.out 3 rfl
  obtain ⟨Y, hY⟩ : ∃ Y, Y = ((((((W.setCell ⟨b, 5, none⟩ (.int .i64 2)).setCell ⟨b, 7, none⟩ (.int .i64 r.kd)).setCell ⟨b, 8, none⟩ (.string (bs r.v))).setCell ⟨b, 9, none⟩ (.int .i64 r.n)).setCell ⟨b, 10, none⟩ (.slice ko r.ks.length kc)).setCell ⟨b, 11, none⟩ (.int .i64 7)).drew := ⟨_, rfl⟩
  have HY : Hid ((∃ K, JbAt Y b (j.fin r) K) ∧ Kept (One b) w Y) := by rw [hY]; exact ⟨⟨_, (((HJ.out.s5 2).rs4 r ko kc HNK.out).s11 7).drew⟩, (((((((kept_oneN KW.out).setCell (p := ⟨b, 5, none⟩) (fun _ => rfl) _).setCell (p := ⟨b, 7, none⟩) (fun _ => rfl) _).setCell (p := ⟨b, 8, none⟩) (fun _ => rfl) _).setCell (p := ⟨b, 9, none⟩) (fun _ => rfl) _).setCell (p := ⟨b, 10, none⟩) (fun _ => rfl) _).setCell (p := ⟨b, 11, none⟩) (fun _ => rfl) _).drew⟩
  obtain ⟨u, Hu⟩ : ∃ u, Hid (u = j.fin r) := ⟨_, rfl⟩
  rw [← Hu.out] at HY ⊢
  clear h Hu
  unfold rrV
  go_enter Tryz.func129, Tryz.ntmps129
  go_upto_region 1 with fail
  rw [← hW, ← HAe.out]
  clear hW
  go_region
  all_goals
    go_wp2
    rw [← hY]
    go_end0
    exact ⟨rfl, HY.out⟩
set_option maxRecDepth 100000 in
set_option maxHeartbeats 4000000 in
theorem endWith_any (w : World) (b : Nat) (j : Jb) (K : Jn) (h : JbAt w b j K) (kd : Int) :
    Calls Tryz.prog 130 #[.pointer (some ⟨b, 0, none⟩), .int .i64 kd] w (JPost w b (j.finK kd)) := by
  have EN : Calls Tryz.prog 129 #[.pointer (some ⟨b, 0, none⟩), .agg #[.int .i64 kd, .string ⟨#[]⟩, .int .i64 0, .slice none 0 0]] w (JPost w b (j.finK kd)) := end_any w b j K h ⟨kd, [], 0, []⟩ none 0 ⟨rfl, rfl⟩
  obtain ⟨u, Hu⟩ : ∃ u, Hid (u = j.finK kd) := ⟨_, rfl⟩
  rw [← Hu.out] at EN ⊢
  clear h Hu
  go_enter Tryz.func130, Tryz.ntmps130
  go_wp2_with fail
  go_fit EN
  rintro _ w1 ⟨rfl, h1, k1⟩
  have HY : Hid ((∃ K, JbAt w1 b u K) ∧ Kept (One b) w w1) := ⟨h1, k1⟩
  clear h1 k1
  go_wp2
  go_end0
  exact ⟨rfl, HY.out⟩
set_option maxRecDepth 100000 in
set_option maxHeartbeats 4000000 in
theorem hasPut_any (w : World) (b : Nat) (j : Jb) (K : Jn) (h : JbAt w b j K) (r : Rr) (ko : Option Addr) (kc : Nat) :
    Calls Tryz.prog 90 #[.pointer (some ⟨b, 0, none⟩), rrV r ko kc] w (JPost w b (j.hasPut r)) := by
  obtain ⟨W, hW⟩ : ∃ W, W = w.alloc (.cells #[.int .i64 r.kd, .string (bs r.v), .int .i64 r.n, .slice ko r.ks.length kc] 50) := ⟨_, rfl⟩
  obtain ⟨A, HAe⟩ : ∃ A, Hid (A = w.heap.size) := ⟨_, rfl⟩
  have KW : Hid (Kept Nil w W) := by rw [hW]; exact (Kept.refl _ _).alloc _
  have HA : Hid (W.heap[A]? = some (.cells #[.int .i64 r.kd, .string (bs r.v), .int .i64 r.n, .slice ko r.ks.length kc] 50 (0, 0))) := by rw [hW, HAe.out]; exact blk_new _ _
  have HJ : Hid (JbAt W b j K) := h.kept KW.out
  have hlb : b < W.heap.size := lt_of_block HJ.out
  have hlA : A < W.heap.size := lt_of_block HA.out
  have hbA : b ≠ A := by rw [HAe.out]; have := lt_of_block h; omega
  have hAb : A ≠ b := fun e => hbA e.symm
  have q11 : W.cell? ⟨b, 11, none⟩ = some (.int .i64 j.ph) := blk_at HJ.out 11 rfl
  have f11 : W.frozen? ⟨b, 11, none⟩ = false := blk_free HJ.out 11
  have a0 : W.cell? ⟨A, 0, none⟩ = some (.int .i64 r.kd) := blk_at HA.out 0 rfl
  obtain ⟨u, Hu⟩ : ∃ u, Hid (u = j.hasPut r) := ⟨_, rfl⟩
  rw [← Hu.out]
  clear h
  unfold rrV
  by_cases c : r.kd = 1
  · obtain ⟨Y, hY⟩ : ∃ Y, Y = (W.setCell ⟨b, 11, none⟩ (.int .i64 4)).setCell ⟨b, 11, none⟩ (.int .i64 6) := ⟨_, rfl⟩
    have HY : Hid ((∃ K, JbAt Y b u K) ∧ Kept (One b) w Y) := by
      rw [hY, Hu.out]
      unfold Jb.hasPut
      rw [if_pos c]
      exact ⟨⟨_, (HJ.out.s11 4).s11 6⟩, (((kept_oneN KW.out).setCell (p := ⟨b, 11, none⟩) (fun _ => rfl) _).setCell (p := ⟨b, 11, none⟩) (fun _ => rfl) _)⟩
    have hc : (r.kd == 1) = true := by simp [c]
    clear c
    go_enter Tryz.func90, Tryz.ntmps90
    go_upto_region 1 with fail
    rw [← hW, ← HAe.out]
    clear hW
    go_wp2
    rw [← hY]
    go_end0
    exact ⟨rfl, HY.out⟩
  · obtain ⟨Y, hY⟩ : ∃ Y, Y = W.setCell ⟨b, 11, none⟩ (.int .i64 4) := ⟨_, rfl⟩
    have HY : Hid ((∃ K, JbAt Y b u K) ∧ Kept (One b) w Y) := by
      rw [hY, Hu.out]
      unfold Jb.hasPut
      rw [if_neg c]
      exact ⟨⟨_, (HJ.out.s11 4)⟩, ((kept_oneN KW.out).setCell (p := ⟨b, 11, none⟩) (fun _ => rfl) _)⟩
    have hc : (r.kd == 1) = false := by simp [c]
    clear c
    go_enter Tryz.func90, Tryz.ntmps90
    go_upto_region 1 with fail
    rw [← hW, ← HAe.out]
    clear hW
    go_wp2
    rw [← hY]
    go_end0
    exact ⟨rfl, HY.out⟩
set_option maxRecDepth 100000 in
set_option maxHeartbeats 4000000 in
theorem chasRoom_any (w : World) (b : Nat) (j : Jb) (K : Jn) (h : JbAt w b j K) (r : Rr) (ko : Option Addr) (kc : Nat) :
    Calls Tryz.prog 88 #[.pointer (some ⟨b, 0, none⟩), rrV r ko kc] w (JPost w b (j.hasRoom r)) := by
  obtain ⟨W, hW⟩ : ∃ W, W = w.alloc (.cells #[.int .i64 r.kd, .string (bs r.v), .int .i64 r.n, .slice ko r.ks.length kc] 50) := ⟨_, rfl⟩
  obtain ⟨A, HAe⟩ : ∃ A, Hid (A = w.heap.size) := ⟨_, rfl⟩
  have KW : Hid (Kept Nil w W) := by rw [hW]; exact (Kept.refl _ _).alloc _
  have HA : Hid (W.heap[A]? = some (.cells #[.int .i64 r.kd, .string (bs r.v), .int .i64 r.n, .slice ko r.ks.length kc] 50 (0, 0))) := by rw [hW, HAe.out]; exact blk_new _ _
  have HJ : Hid (JbAt W b j K) := h.kept KW.out
  have hlb : b < W.heap.size := lt_of_block HJ.out
  have hlA : A < W.heap.size := lt_of_block HA.out
  have hbA : b ≠ A := by rw [HAe.out]; have := lt_of_block h; omega
  have hAb : A ≠ b := fun e => hbA e.symm
  have q11 : W.cell? ⟨b, 11, none⟩ = some (.int .i64 j.ph) := blk_at HJ.out 11 rfl
  have f11 : W.frozen? ⟨b, 11, none⟩ = false := blk_free HJ.out 11
  have a0 : W.cell? ⟨A, 0, none⟩ = some (.int .i64 r.kd) := blk_at HA.out 0 rfl
  obtain ⟨u, Hu⟩ : ∃ u, Hid (u = j.hasRoom r) := ⟨_, rfl⟩
  rw [← Hu.out]
  clear h
  unfold rrV
  by_cases c : r.kd = 4
  · have hu : u = j.finK 4 := by rw [Hu.out]; exact if_pos c
    have EN := endWith_any W b j K HJ.out 4
    rw [← hu] at EN
    clear hu
    have hc : (r.kd == 4) = true := by simp [c]
    clear c
    go_enter Tryz.func88, Tryz.ntmps88
    go_upto_region 1 with fail
    rw [← hW, ← HAe.out]
    clear hW
    go_wp2_with fail
    go_fit EN
    rintro _ w1 ⟨rfl, h1, k1⟩
    have HY : Hid ((∃ K, JbAt w1 b u K) ∧ Kept (One b) w w1) := ⟨h1, (kept_oneN KW.out).trans k1⟩
    clear h1 k1
    go_wp2
    exact bodyPost_ret (results_none rfl _ _ _) rfl ⟨rfl, HY.out⟩
  · obtain ⟨Y, hY⟩ : ∃ Y, Y = W.setCell ⟨b, 11, none⟩ (.int .i64 0) := ⟨_, rfl⟩
    have HY : Hid ((∃ K, JbAt Y b u K) ∧ Kept (One b) w Y) := by
      rw [hY, Hu.out]
      unfold Jb.hasRoom
      rw [if_neg c]
      exact ⟨⟨_, (HJ.out.s11 0)⟩, ((kept_oneN KW.out).setCell (p := ⟨b, 11, none⟩) (fun _ => rfl) _)⟩
    have hc : (r.kd == 4) = false := by simp [c]
    clear c
    go_enter Tryz.func88, Tryz.ntmps88
    go_upto_region 1 with fail
    rw [← hW, ← HAe.out]
    clear hW
    go_wp2
    rw [← hY]
    go_end0
    exact ⟨rfl, HY.out⟩
set_option maxRecDepth 100000 in
set_option maxHeartbeats 4000000 in
theorem hasSealed_any (w : World) (b : Nat) (j : Jb) (K : Jn) (h : JbAt w b j K) :
    Calls Tryz.prog 91 #[.pointer (some ⟨b, 0, none⟩)] w (JPost w b j.hasSealed) := by
  have q28 : w.cell? ⟨b, 28, none⟩ = some (.bool j.ow) := blk_at h 28 rfl
  obtain ⟨u, Hu⟩ : ∃ u, Hid (u = j.hasSealed) := ⟨_, rfl⟩
  rw [← Hu.out]
  obtain ⟨o, Ho⟩ : ∃ o, Hid (o = j.ow) := ⟨_, rfl⟩
  rw [← Ho.out] at q28
  cases o with
  | true =>
    have hu : u = j.finK 1 := by rw [Hu.out]; exact if_pos Ho.out.symm
    have EN := endWith_any w b j K h 1
    rw [← hu] at EN
    clear hu h
    go_enter Tryz.func91, Tryz.ntmps91
    go_wp2_with fail
    go_fit EN
    rintro _ w1 ⟨rfl, h1, k1⟩
    have HY : Hid ((∃ K, JbAt w1 b u K) ∧ Kept (One b) w w1) := ⟨h1, k1⟩
    clear h1 k1
    go_wp2
    exact bodyPost_ret (results_none rfl _ _ _) rfl ⟨rfl, HY.out⟩
  | false =>
    have hu : u = j.follow := by rw [Hu.out]; exact if_neg (by rw [← Ho.out]; decide)
    have EN := follow_any w b j K h
    rw [← hu] at EN
    clear hu h
    go_enter Tryz.func91, Tryz.ntmps91
    go_wp2_with fail
    go_fit EN
    rintro _ w1 ⟨rfl, h1, k1⟩
    have HY : Hid ((∃ K, JbAt w1 b u K) ∧ Kept (One b) w w1) := ⟨h1, k1⟩
    clear h1 k1
    go_wp2
    go_end0
    exact ⟨rfl, HY.out⟩
set_option maxRecDepth 100000 in
set_option maxHeartbeats 4000000 in
theorem hasPrepared_any (w : World) (b : Nat) (j : Jb) (K : Jn) (h : JbAt w b j K) (r : Rr) (ko : Option Addr) (kc : Nat) :
    Calls Tryz.prog 87 #[.pointer (some ⟨b, 0, none⟩), rrV r ko kc] w (JPost w b (j.hasPrepared r)) := by
  obtain ⟨W, hW⟩ : ∃ W, W = w.alloc (.cells #[.int .i64 r.kd, .string (bs r.v), .int .i64 r.n, .slice ko r.ks.length kc] 50) := ⟨_, rfl⟩
  obtain ⟨A, HAe⟩ : ∃ A, Hid (A = w.heap.size) := ⟨_, rfl⟩
  have KW : Hid (Kept Nil w W) := by rw [hW]; exact (Kept.refl _ _).alloc _
  have HA : Hid (W.heap[A]? = some (.cells #[.int .i64 r.kd, .string (bs r.v), .int .i64 r.n, .slice ko r.ks.length kc] 50 (0, 0))) := by rw [hW, HAe.out]; exact blk_new _ _
  have HJ : Hid (JbAt W b j K) := h.kept KW.out
  have hlb : b < W.heap.size := lt_of_block HJ.out
  have hlA : A < W.heap.size := lt_of_block HA.out
  have hbA : b ≠ A := by rw [HAe.out]; have := lt_of_block h; omega
  have hAb : A ≠ b := fun e => hbA e.symm
  have a0 : W.cell? ⟨A, 0, none⟩ = some (.int .i64 r.kd) := blk_at HA.out 0 rfl
  have a1 : W.cell? ⟨A, 1, none⟩ = some (.string (bs r.v)) := blk_at HA.out 1 rfl
  have a2 : W.cell? ⟨A, 2, none⟩ = some (.int .i64 r.n) := blk_at HA.out 2 rfl
  have a3 : W.cell? ⟨A, 3, none⟩ = some (.slice ko r.ks.length kc) := blk_at HA.out 3 rfl
  obtain ⟨u, Hu⟩ : ∃ u, Hid (u = j.hasPrepared r) := ⟨_, rfl⟩
  rw [← Hu.out]
  have IL := isLost_any r ko kc W
  clear h
  unfold rrV at IL ⊢
  go_enter Tryz.func87, Tryz.ntmps87
  go_upto_region 2 with fail
  rw [← hW, ← HAe.out]
  clear hW
  go_wp2_with fail
  go_fit IL
  rintro _ w1 ⟨rfl, k1⟩
  have HJ1 : Hid (JbAt w1 b j K) := HJ.out.kept k1
  have HA1 : Hid (w1.heap[A]? = some (.cells #[.int .i64 r.kd, .string (bs r.v), .int .i64 r.n, .slice ko r.ks.length kc] 50 (0, 0))) := k1.block _ _ HA.out (fun x => x)
  have K1 : Hid (Kept (One b) w w1) := kept_oneN (KW.out.trans k1)
  clear IL k1 a0 a1 a2 a3
  have a0 : w1.cell? ⟨A, 0, none⟩ = some (.int .i64 r.kd) := blk_at HA1.out 0 rfl
  have q11 : w1.cell? ⟨b, 11, none⟩ = some (.int .i64 j.ph) := blk_at HJ1.out 11 rfl
  have f11 : w1.frozen? ⟨b, 11, none⟩ = false := blk_free HJ1.out 11
  by_cases c5 : 5 < r.kd
  · have hu : u = j := by rw [Hu.out]; exact if_pos c5
    rw [decide_eq_true c5]
    clear c5
    go_wp2
    go_end0
    rw [hu]
    exact ⟨rfl, ⟨K, HJ1.out⟩, K1.out⟩
  · rw [decide_eq_false c5]
    by_cases c : r.kd = 2
    · obtain ⟨Y, hY⟩ : ∃ Y, Y = w1.setCell ⟨b, 11, none⟩ (.int .i64 3) := ⟨_, rfl⟩
      have HY : Hid ((∃ K, JbAt Y b u K) ∧ Kept (One b) w Y) := by
        rw [hY, Hu.out]
        unfold Jb.hasPrepared
        rw [if_neg c5, if_pos c]
        exact ⟨⟨_, (HJ1.out.s11 3)⟩, (K1.out.setCell (p := ⟨b, 11, none⟩) (fun _ => rfl) _)⟩
      have hc : (r.kd == 2) = true := by simp [c]
      clear c c5
      go_wp2
      rw [← hY]
      go_end0
      exact ⟨rfl, HY.out⟩
    · obtain ⟨Y, hY⟩ : ∃ Y, Y = w1.setCell ⟨b, 11, none⟩ (.int .i64 1) := ⟨_, rfl⟩
      have HY : Hid ((∃ K, JbAt Y b u K) ∧ Kept (One b) w Y) := by
        rw [hY, Hu.out]
        unfold Jb.hasPrepared
        rw [if_neg c5, if_neg c]
        exact ⟨⟨_, (HJ1.out.s11 1)⟩, (K1.out.setCell (p := ⟨b, 11, none⟩) (fun _ => rfl) _)⟩
      have hc : (r.kd == 2) = false := by simp [c]
      clear c c5
      go_wp2
      rw [← hY]
      go_end0
      exact ⟨rfl, HY.out⟩
end Go.Proofs.YtflnjlbafchnaaaGreatDoor
