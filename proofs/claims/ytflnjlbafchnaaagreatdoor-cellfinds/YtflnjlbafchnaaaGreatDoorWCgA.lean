/-
  Joined: WCg1, WCe6, WCe7, WMs0, WCg7.
-/
import Derived.Test.YtflnjlbafchnaaaGreatDoorWTmB
import Derived.Test.YtflnjlbafchnaaaGreatDoorWOld
import Derived.Deep.MidRow
/-
  Cells: a job in memory; follow, end, endWith, hasPut, hasRoom, hasPrepared, hasSealed (the program).
-/
namespace Go.Proofs.YtflnjlbafchnaaaGreatDoor
open Go.RowKit

/-- Where the lists lie that its results have (they are empty). -/
structure Jk where
  ro : Option Addr
  rc : Nat
  eo : Option Addr
  ec : Nat
def JbAt (w : World) (b : Nat) (j : Jb) (K : Jk) : Prop := w.heap[b]? = some (.cells #[.int .i64 j.kd, .string (bs j.k), .string (bs j.v), .int .i64 j.m, .int .i64 j.tg, .int .i64 j.st, .int .i64 j.at', .int .i64 j.rs.kd, .string (bs j.rs.v), .int .i64 j.rs.n, .slice K.ro j.rs.ks.length K.rc, .int .i64 j.ph, .string (bs j.sn.v), .int .i64 j.sn.n, .int .i64 j.sn.s, .int .i64 j.sn.h, .int .i64 j.sn.g, .int .i64 j.sv, .string (bs j.nx.v), .int .i64 j.nx.n, .int .i64 j.nx.s, .int .i64 j.nx.h, .int .i64 j.nx.g, .int .i64 j.re.kd, .string (bs j.re.v), .int .i64 j.re.n, .slice K.eo j.re.ks.length K.ec, .int .i64 j.sp, .bool j.ow] 135 (0, 0))
theorem JbAt.kept {w w' : World} {b : Nat} {j : Jb} {K : Jk} (h : JbAt w b j K) (k : Kept Nil w w') : JbAt w' b j K := k.block _ _ h (fun x => x)
theorem JbAt.keptX {X : Nat → Obj → Prop} {w w' : World} {b : Nat} {j : Jb} {K : Jk} (h : JbAt w b j K) (k : Kept X w w') (hX : ∀ o, ¬ X b o) : JbAt w' b j K := k.block _ _ h (hX _)
theorem JbAt.s5 {w : World} {b : Nat} {j : Jb} {K : Jk} (h : JbAt w b j K) (x : Nat) : JbAt (w.setCell ⟨b, 5, none⟩ (.int .i64 x)) b { j with st := x } K := blk_set h 5 _
theorem JbAt.s6 {w : World} {b : Nat} {j : Jb} {K : Jk} (h : JbAt w b j K) (x : Nat) : JbAt (w.setCell ⟨b, 6, none⟩ (.int .i64 x)) b { j with at' := x } K := blk_set h 6 _
theorem JbAt.s7 {w : World} {b : Nat} {j : Jb} {K : Jk} (h : JbAt w b j K) (x : Int) : JbAt (w.setCell ⟨b, 7, none⟩ (.int .i64 x)) b { j with rs := { j.rs with kd := x } } K := blk_set h 7 _
theorem JbAt.s8 {w : World} {b : Nat} {j : Jb} {K : Jk} (h : JbAt w b j K) (x : List UInt8) : JbAt (w.setCell ⟨b, 8, none⟩ (.string (bs x))) b { j with rs := { j.rs with v := x } } K := blk_set h 8 _
theorem JbAt.s9 {w : World} {b : Nat} {j : Jb} {K : Jk} (h : JbAt w b j K) (x : Int) : JbAt (w.setCell ⟨b, 9, none⟩ (.int .i64 x)) b { j with rs := { j.rs with n := x } } K := blk_set h 9 _
theorem JbAt.s11 {w : World} {b : Nat} {j : Jb} {K : Jk} (h : JbAt w b j K) (x : Nat) : JbAt (w.setCell ⟨b, 11, none⟩ (.int .i64 x)) b { j with ph := x } K := blk_set h 11 _
theorem JbAt.s12 {w : World} {b : Nat} {j : Jb} {K : Jk} (h : JbAt w b j K) (x : List UInt8) : JbAt (w.setCell ⟨b, 12, none⟩ (.string (bs x))) b { j with sn := { j.sn with v := x } } K := blk_set h 12 _
theorem JbAt.s13 {w : World} {b : Nat} {j : Jb} {K : Jk} (h : JbAt w b j K) (x : Nat) : JbAt (w.setCell ⟨b, 13, none⟩ (.int .i64 x)) b { j with sn := { j.sn with n := x } } K := blk_set h 13 _
theorem JbAt.s14 {w : World} {b : Nat} {j : Jb} {K : Jk} (h : JbAt w b j K) (x : Nat) : JbAt (w.setCell ⟨b, 14, none⟩ (.int .i64 x)) b { j with sn := { j.sn with s := x } } K := blk_set h 14 _
theorem JbAt.s15 {w : World} {b : Nat} {j : Jb} {K : Jk} (h : JbAt w b j K) (x : Nat) : JbAt (w.setCell ⟨b, 15, none⟩ (.int .i64 x)) b { j with sn := { j.sn with h := x } } K := blk_set h 15 _
theorem JbAt.s16 {w : World} {b : Nat} {j : Jb} {K : Jk} (h : JbAt w b j K) (x : Nat) : JbAt (w.setCell ⟨b, 16, none⟩ (.int .i64 x)) b { j with sn := { j.sn with g := x } } K := blk_set h 16 _
theorem JbAt.s17 {w : World} {b : Nat} {j : Jb} {K : Jk} (h : JbAt w b j K) (x : Int) : JbAt (w.setCell ⟨b, 17, none⟩ (.int .i64 x)) b { j with sv := x } K := blk_set h 17 _
theorem JbAt.s18 {w : World} {b : Nat} {j : Jb} {K : Jk} (h : JbAt w b j K) (x : List UInt8) : JbAt (w.setCell ⟨b, 18, none⟩ (.string (bs x))) b { j with nx := { j.nx with v := x } } K := blk_set h 18 _
theorem JbAt.s19 {w : World} {b : Nat} {j : Jb} {K : Jk} (h : JbAt w b j K) (x : Nat) : JbAt (w.setCell ⟨b, 19, none⟩ (.int .i64 x)) b { j with nx := { j.nx with n := x } } K := blk_set h 19 _
theorem JbAt.s20 {w : World} {b : Nat} {j : Jb} {K : Jk} (h : JbAt w b j K) (x : Nat) : JbAt (w.setCell ⟨b, 20, none⟩ (.int .i64 x)) b { j with nx := { j.nx with s := x } } K := blk_set h 20 _
theorem JbAt.s21 {w : World} {b : Nat} {j : Jb} {K : Jk} (h : JbAt w b j K) (x : Nat) : JbAt (w.setCell ⟨b, 21, none⟩ (.int .i64 x)) b { j with nx := { j.nx with h := x } } K := blk_set h 21 _
theorem JbAt.s22 {w : World} {b : Nat} {j : Jb} {K : Jk} (h : JbAt w b j K) (x : Nat) : JbAt (w.setCell ⟨b, 22, none⟩ (.int .i64 x)) b { j with nx := { j.nx with g := x } } K := blk_set h 22 _
theorem JbAt.s23 {w : World} {b : Nat} {j : Jb} {K : Jk} (h : JbAt w b j K) (x : Int) : JbAt (w.setCell ⟨b, 23, none⟩ (.int .i64 x)) b { j with re := { j.re with kd := x } } K := blk_set h 23 _
theorem JbAt.s24 {w : World} {b : Nat} {j : Jb} {K : Jk} (h : JbAt w b j K) (x : List UInt8) : JbAt (w.setCell ⟨b, 24, none⟩ (.string (bs x))) b { j with re := { j.re with v := x } } K := blk_set h 24 _
theorem JbAt.s25 {w : World} {b : Nat} {j : Jb} {K : Jk} (h : JbAt w b j K) (x : Int) : JbAt (w.setCell ⟨b, 25, none⟩ (.int .i64 x)) b { j with re := { j.re with n := x } } K := blk_set h 25 _
theorem JbAt.s27 {w : World} {b : Nat} {j : Jb} {K : Jk} (h : JbAt w b j K) (x : Int) : JbAt (w.setCell ⟨b, 27, none⟩ (.int .i64 x)) b { j with sp := x } K := blk_set h 27 _
theorem JbAt.s28 {w : World} {b : Nat} {j : Jb} {K : Jk} (h : JbAt w b j K) (x : Bool) : JbAt (w.setCell ⟨b, 28, none⟩ (.bool x)) b { j with ow := x } K := blk_set h 28 _
theorem JbAt.s10 {w : World} {b : Nat} {j : Jb} {K : Jk} (h : JbAt w b j K) (o : Option Addr) (c : Nat) (ks : List (List UInt8)) : JbAt (w.setCell ⟨b, 10, none⟩ (.slice o ks.length c)) b { j with rs := { j.rs with ks := ks } } { K with ro := o, rc := c } := blk_set h 10 _
theorem JbAt.s26 {w : World} {b : Nat} {j : Jb} {K : Jk} (h : JbAt w b j K) (o : Option Addr) (c : Nat) (ks : List (List UInt8)) : JbAt (w.setCell ⟨b, 26, none⟩ (.slice o ks.length c)) b { j with re := { j.re with ks := ks } } { K with eo := o, ec := c } := blk_set h 26 _
theorem JbAt.rs4 {w : World} {b : Nat} {j : Jb} {K : Jk} (h : JbAt w b j K) (r : Rr) (ko : Option Addr) (kc : Nat) : JbAt ((((w.setCell ⟨b, 7, none⟩ (.int .i64 r.kd)).setCell ⟨b, 8, none⟩ (.string (bs r.v))).setCell ⟨b, 9, none⟩ (.int .i64 r.n)).setCell ⟨b, 10, none⟩ (.slice ko r.ks.length kc)) b { j with rs := r } { K with ro := ko, rc := kc } := by
  have h0 := h.s7 r.kd
  have h1 := h0.s8 r.v
  have h2 := h1.s9 r.n
  have h3 := h2.s10 ko kc r.ks
  exact h3
theorem JbAt.re4 {w : World} {b : Nat} {j : Jb} {K : Jk} (h : JbAt w b j K) (r : Rr) (ko : Option Addr) (kc : Nat) : JbAt ((((w.setCell ⟨b, 23, none⟩ (.int .i64 r.kd)).setCell ⟨b, 24, none⟩ (.string (bs r.v))).setCell ⟨b, 25, none⟩ (.int .i64 r.n)).setCell ⟨b, 26, none⟩ (.slice ko r.ks.length kc)) b { j with re := r } { K with eo := ko, ec := kc } := by
  have h0 := h.s23 r.kd
  have h1 := h0.s24 r.v
  have h2 := h1.s25 r.n
  have h3 := h2.s26 ko kc r.ks
  exact h3
theorem JbAt.sn6 {w : World} {b : Nat} {j : Jb} {K : Jk} (h : JbAt w b j K) (c : Ce) (m : Int) : JbAt ((((((w.setCell ⟨b, 12, none⟩ (.string (bs c.v))).setCell ⟨b, 13, none⟩ (.int .i64 c.n)).setCell ⟨b, 14, none⟩ (.int .i64 c.s)).setCell ⟨b, 15, none⟩ (.int .i64 c.h)).setCell ⟨b, 16, none⟩ (.int .i64 c.g)).setCell ⟨b, 17, none⟩ (.int .i64 m)) b { j with sn := c, sv := m } K := by
  have h0 := h.s12 c.v
  have h1 := h0.s13 c.n
  have h2 := h1.s14 c.s
  have h3 := h2.s15 c.h
  have h4 := h3.s16 c.g
  have h5 := h4.s17 m
  exact h5
theorem JbAt.nx5 {w : World} {b : Nat} {j : Jb} {K : Jk} (h : JbAt w b j K) (c : Ce) : JbAt (((((w.setCell ⟨b, 18, none⟩ (.string (bs c.v))).setCell ⟨b, 19, none⟩ (.int .i64 c.n)).setCell ⟨b, 20, none⟩ (.int .i64 c.s)).setCell ⟨b, 21, none⟩ (.int .i64 c.h)).setCell ⟨b, 22, none⟩ (.int .i64 c.g)) b { j with nx := c } K := by
  have h0 := h.s18 c.v
  have h1 := h0.s19 c.n
  have h2 := h1.s20 c.s
  have h3 := h2.s21 c.h
  have h4 := h3.s22 c.g
  exact h4
theorem JbAt.drew {w : World} {b : Nat} {j : Jb} {K : Jk} (h : JbAt w b j K) : JbAt w.drew b j K := h
def JPost (w : World) (b : Nat) (j : Jb) (e : Ending) (w' : World) : Prop := e = .returned (.tuple #[]) ∧ (∃ K, JbAt w' b j K) ∧ Kept (One b) w w'
theorem kept_oneN {b : Nat} {w w' : World} (k : Kept Nil w w') : Kept (One b) w w' := k.mono (fun _ _ e => e.elim)
set_option maxRecDepth 100000 in
set_option maxHeartbeats 4000000 in
theorem follow_any (w : World) (b : Nat) (j : Jb) (K : Jk) (h : JbAt w b j K) :
    Calls Tryz.prog 126 #[.pointer (some ⟨b, 0, none⟩)] w (JPost w b j.follow) := by
  have q16 : w.cell? ⟨b, 16, none⟩ = some (.int .i64 j.sn.g) := blk_at h 16 rfl
  have q6 : w.cell? ⟨b, 6, none⟩ = some (.int .i64 j.at') := blk_at h 6 rfl
  have q11 : w.cell? ⟨b, 11, none⟩ = some (.int .i64 j.ph) := blk_at h 11 rfl
  have f6 : w.frozen? ⟨b, 6, none⟩ = false := blk_free h 6
  have f11 : w.frozen? ⟨b, 11, none⟩ = false := blk_free h 11
  obtain ⟨Y, hY⟩ : ∃ Y, Y = ((w.setCell ⟨b, 6, none⟩ (.int .i64 j.sn.g)).setCell ⟨b, 11, none⟩ (.int .i64 0)) := ⟨_, rfl⟩
  have HY : Hid ((∃ K, JbAt Y b j.follow K) ∧ Kept (One b) w Y) := by rw [hY]; exact ⟨⟨K, (h.s6 j.sn.g).s11 0⟩, (((Kept.refl _ _).setCell (p := ⟨b, 6, none⟩) (fun _ => rfl) _).setCell (p := ⟨b, 11, none⟩) (fun _ => rfl) _)⟩
  obtain ⟨u, Hu⟩ : ∃ u, Hid (u = j.follow) := ⟨_, rfl⟩
  rw [← Hu.out] at HY ⊢
  clear h Hu
  go_enter Tryz.func126, Tryz.ntmps126
  go_wp2
  rw [← hY]
  go_end0
  exact ⟨rfl, HY.out⟩
set_option maxRecDepth 100000 in
set_option maxHeartbeats 4000000 in
theorem end_any (w : World) (b : Nat) (j : Jb) (K : Jk) (h : JbAt w b j K) (r : Rr) (ko : Option Addr) (kc : Nat) :
    Calls Tryz.prog 129 #[.pointer (some ⟨b, 0, none⟩), rrV r ko kc] w (JPost w b (j.fin r)) := by
  obtain ⟨W, hW⟩ : ∃ W, W = w.alloc (.cells #[.int .i64 r.kd, .string (bs r.v), .int .i64 r.n, .slice ko r.ks.length kc] 50) := ⟨_, rfl⟩
  obtain ⟨A, HAe⟩ : ∃ A, Hid (A = w.heap.size) := ⟨_, rfl⟩
  have KW : Hid (Kept Nil w W) := by rw [hW]; exact (Kept.refl _ _).alloc _
  have HA : Hid (W.heap[A]? = some (.cells #[.int .i64 r.kd, .string (bs r.v), .int .i64 r.n, .slice ko r.ks.length kc] 50 (0, 0))) := by rw [hW, HAe.out]; exact blk_new _ _
  have HJ : Hid (JbAt W b j K) := h.kept KW.out
  have hlb : b < W.heap.size := lt_of_block HJ.out
  have hlA : A < W.heap.size := lt_of_block HA.out
  have hbA : b ≠ A := by rw [HAe.out]; have := lt_of_block h; omega
  have hAb : A ≠ b := fun e => hbA e.symm
  have q5 : W.cell? ⟨b, 5, none⟩ = some (.int .i64 j.st) := blk_at HJ.out 5 rfl
  have q7 : W.cell? ⟨b, 7, none⟩ = some (.int .i64 j.rs.kd) := blk_at HJ.out 7 rfl
  have q8 : W.cell? ⟨b, 8, none⟩ = some (.string (bs j.rs.v)) := blk_at HJ.out 8 rfl
  have q9 : W.cell? ⟨b, 9, none⟩ = some (.int .i64 j.rs.n) := blk_at HJ.out 9 rfl
  have q10 : W.cell? ⟨b, 10, none⟩ = some (.slice K.ro j.rs.ks.length K.rc) := blk_at HJ.out 10 rfl
  have q11 : W.cell? ⟨b, 11, none⟩ = some (.int .i64 j.ph) := blk_at HJ.out 11 rfl
  have f5 : W.frozen? ⟨b, 5, none⟩ = false := blk_free HJ.out 5
  have f7 : W.frozen? ⟨b, 7, none⟩ = false := blk_free HJ.out 7
  have f8 : W.frozen? ⟨b, 8, none⟩ = false := blk_free HJ.out 8
  have f9 : W.frozen? ⟨b, 9, none⟩ = false := blk_free HJ.out 9
  have f10 : W.frozen? ⟨b, 10, none⟩ = false := blk_free HJ.out 10
  have f11 : W.frozen? ⟨b, 11, none⟩ = false := blk_free HJ.out 11
  have a0 : W.cell? ⟨A, 0, none⟩ = some (.int .i64 r.kd) := blk_at HA.out 0 rfl
  have a1 : W.cell? ⟨A, 1, none⟩ = some (.string (bs r.v)) := blk_at HA.out 1 rfl
  have a2 : W.cell? ⟨A, 2, none⟩ = some (.int .i64 r.n) := blk_at HA.out 2 rfl
  have a3 : W.cell? ⟨A, 3, none⟩ = some (.slice ko r.ks.length kc) := blk_at HA.out 3 rfl
  obtain ⟨Y, hY⟩ : ∃ Y, Y = ((((((W.setCell ⟨b, 5, none⟩ (.int .i64 2)).setCell ⟨b, 7, none⟩ (.int .i64 r.kd)).setCell ⟨b, 8, none⟩ (.string (bs r.v))).setCell ⟨b, 9, none⟩ (.int .i64 r.n)).setCell ⟨b, 10, none⟩ (.slice ko r.ks.length kc)).setCell ⟨b, 11, none⟩ (.int .i64 7)).drew := ⟨_, rfl⟩
  have HY : Hid ((∃ K, JbAt Y b (j.fin r) K) ∧ Kept (One b) w Y) := by rw [hY]; exact ⟨⟨_, (((HJ.out.s5 2).rs4 r ko kc).s11 7).drew⟩, (((((((kept_oneN KW.out).setCell (p := ⟨b, 5, none⟩) (fun _ => rfl) _).setCell (p := ⟨b, 7, none⟩) (fun _ => rfl) _).setCell (p := ⟨b, 8, none⟩) (fun _ => rfl) _).setCell (p := ⟨b, 9, none⟩) (fun _ => rfl) _).setCell (p := ⟨b, 10, none⟩) (fun _ => rfl) _).setCell (p := ⟨b, 11, none⟩) (fun _ => rfl) _).drew⟩
  obtain ⟨u, Hu⟩ : ∃ u, Hid (u = j.fin r) := ⟨_, rfl⟩
  rw [← Hu.out] at HY ⊢
  clear h Hu
  unfold rrV
  go_enter Tryz.func129, Tryz.ntmps129
  go_upto_region 1 with fail
  rw [← hW, ← HAe.out]
  clear hW
  go_region
  all_goals
    go_wp2
    rw [← hY]
    go_end0
    exact ⟨rfl, HY.out⟩
set_option maxRecDepth 100000 in
set_option maxHeartbeats 4000000 in
theorem endWith_any (w : World) (b : Nat) (j : Jb) (K : Jk) (h : JbAt w b j K) (kd : Int) :
    Calls Tryz.prog 130 #[.pointer (some ⟨b, 0, none⟩), .int .i64 kd] w (JPost w b (j.finK kd)) := by
  have EN : Calls Tryz.prog 129 #[.pointer (some ⟨b, 0, none⟩), .agg #[.int .i64 kd, .string ⟨#[]⟩, .int .i64 0, .slice none 0 0]] w (JPost w b (j.finK kd)) := end_any w b j K h ⟨kd, [], 0, []⟩ none 0
  obtain ⟨u, Hu⟩ : ∃ u, Hid (u = j.finK kd) := ⟨_, rfl⟩
  rw [← Hu.out] at EN ⊢
  clear h Hu
  go_enter Tryz.func130, Tryz.ntmps130
  go_wp2_with fail
  go_fit EN
  rintro _ w1 ⟨rfl, h1, k1⟩
  have HY : Hid ((∃ K, JbAt w1 b u K) ∧ Kept (One b) w w1) := ⟨h1, k1⟩
  clear h1 k1
  go_wp2
  go_end0
  exact ⟨rfl, HY.out⟩
set_option maxRecDepth 100000 in
set_option maxHeartbeats 4000000 in
theorem hasPut_any (w : World) (b : Nat) (j : Jb) (K : Jk) (h : JbAt w b j K) (r : Rr) (ko : Option Addr) (kc : Nat) :
    Calls Tryz.prog 90 #[.pointer (some ⟨b, 0, none⟩), rrV r ko kc] w (JPost w b (j.hasPut r)) := by
  obtain ⟨W, hW⟩ : ∃ W, W = w.alloc (.cells #[.int .i64 r.kd, .string (bs r.v), .int .i64 r.n, .slice ko r.ks.length kc] 50) := ⟨_, rfl⟩
  obtain ⟨A, HAe⟩ : ∃ A, Hid (A = w.heap.size) := ⟨_, rfl⟩
  have KW : Hid (Kept Nil w W) := by rw [hW]; exact (Kept.refl _ _).alloc _
  have HA : Hid (W.heap[A]? = some (.cells #[.int .i64 r.kd, .string (bs r.v), .int .i64 r.n, .slice ko r.ks.length kc] 50 (0, 0))) := by rw [hW, HAe.out]; exact blk_new _ _
  have HJ : Hid (JbAt W b j K) := h.kept KW.out
  have hlb : b < W.heap.size := lt_of_block HJ.out
  have hlA : A < W.heap.size := lt_of_block HA.out
  have hbA : b ≠ A := by rw [HAe.out]; have := lt_of_block h; omega
  have hAb : A ≠ b := fun e => hbA e.symm
  have q11 : W.cell? ⟨b, 11, none⟩ = some (.int .i64 j.ph) := blk_at HJ.out 11 rfl
  have f11 : W.frozen? ⟨b, 11, none⟩ = false := blk_free HJ.out 11
  have a0 : W.cell? ⟨A, 0, none⟩ = some (.int .i64 r.kd) := blk_at HA.out 0 rfl
  obtain ⟨u, Hu⟩ : ∃ u, Hid (u = j.hasPut r) := ⟨_, rfl⟩
  rw [← Hu.out]
  clear h
  unfold rrV
  by_cases c : r.kd = 1
  · obtain ⟨Y, hY⟩ : ∃ Y, Y = (W.setCell ⟨b, 11, none⟩ (.int .i64 4)).setCell ⟨b, 11, none⟩ (.int .i64 6) := ⟨_, rfl⟩
    have HY : Hid ((∃ K, JbAt Y b u K) ∧ Kept (One b) w Y) := by
      rw [hY, Hu.out]
      unfold Jb.hasPut
      rw [if_pos c]
      exact ⟨⟨_, (HJ.out.s11 4).s11 6⟩, (((kept_oneN KW.out).setCell (p := ⟨b, 11, none⟩) (fun _ => rfl) _).setCell (p := ⟨b, 11, none⟩) (fun _ => rfl) _)⟩
    have hc : (r.kd == 1) = true := by simp [c]
    clear c
    go_enter Tryz.func90, Tryz.ntmps90
    go_upto_region 1 with fail
    rw [← hW, ← HAe.out]
    clear hW
    go_wp2
    rw [← hY]
    go_end0
    exact ⟨rfl, HY.out⟩
  · obtain ⟨Y, hY⟩ : ∃ Y, Y = W.setCell ⟨b, 11, none⟩ (.int .i64 4) := ⟨_, rfl⟩
    have HY : Hid ((∃ K, JbAt Y b u K) ∧ Kept (One b) w Y) := by
      rw [hY, Hu.out]
      unfold Jb.hasPut
      rw [if_neg c]
      exact ⟨⟨_, (HJ.out.s11 4)⟩, ((kept_oneN KW.out).setCell (p := ⟨b, 11, none⟩) (fun _ => rfl) _)⟩
    have hc : (r.kd == 1) = false := by simp [c]
    clear c
    go_enter Tryz.func90, Tryz.ntmps90
    go_upto_region 1 with fail
    rw [← hW, ← HAe.out]
    clear hW
    go_wp2
    rw [← hY]
    go_end0
    exact ⟨rfl, HY.out⟩
set_option maxRecDepth 100000 in
set_option maxHeartbeats 4000000 in
theorem chasRoom_any (w : World) (b : Nat) (j : Jb) (K : Jk) (h : JbAt w b j K) (r : Rr) (ko : Option Addr) (kc : Nat) :
    Calls Tryz.prog 88 #[.pointer (some ⟨b, 0, none⟩), rrV r ko kc] w (JPost w b (j.hasRoom r)) := by
  obtain ⟨W, hW⟩ : ∃ W, W = w.alloc (.cells #[.int .i64 r.kd, .string (bs r.v), .int .i64 r.n, .slice ko r.ks.length kc] 50) := ⟨_, rfl⟩
  obtain ⟨A, HAe⟩ : ∃ A, Hid (A = w.heap.size) := ⟨_, rfl⟩
  have KW : Hid (Kept Nil w W) := by rw [hW]; exact (Kept.refl _ _).alloc _
  have HA : Hid (W.heap[A]? = some (.cells #[.int .i64 r.kd, .string (bs r.v), .int .i64 r.n, .slice ko r.ks.length kc] 50 (0, 0))) := by rw [hW, HAe.out]; exact blk_new _ _
  have HJ : Hid (JbAt W b j K) := h.kept KW.out
  have hlb : b < W.heap.size := lt_of_block HJ.out
  have hlA : A < W.heap.size := lt_of_block HA.out
  have hbA : b ≠ A := by rw [HAe.out]; have := lt_of_block h; omega
  have hAb : A ≠ b := fun e => hbA e.symm
  have q11 : W.cell? ⟨b, 11, none⟩ = some (.int .i64 j.ph) := blk_at HJ.out 11 rfl
  have f11 : W.frozen? ⟨b, 11, none⟩ = false := blk_free HJ.out 11
  have a0 : W.cell? ⟨A, 0, none⟩ = some (.int .i64 r.kd) := blk_at HA.out 0 rfl
  obtain ⟨u, Hu⟩ : ∃ u, Hid (u = j.hasRoom r) := ⟨_, rfl⟩
  rw [← Hu.out]
  clear h
  unfold rrV
  by_cases c : r.kd = 4
  · have hu : u = j.finK 4 := by rw [Hu.out]; exact if_pos c
    have EN := endWith_any W b j K HJ.out 4
    rw [← hu] at EN
    clear hu
    have hc : (r.kd == 4) = true := by simp [c]
    clear c
    go_enter Tryz.func88, Tryz.ntmps88
    go_upto_region 1 with fail
    rw [← hW, ← HAe.out]
    clear hW
    go_wp2_with fail
    go_fit EN
    rintro _ w1 ⟨rfl, h1, k1⟩
    have HY : Hid ((∃ K, JbAt w1 b u K) ∧ Kept (One b) w w1) := ⟨h1, (kept_oneN KW.out).trans k1⟩
    clear h1 k1
    go_wp2
    exact bodyPost_ret (results_none rfl _ _ _) rfl ⟨rfl, HY.out⟩
  · obtain ⟨Y, hY⟩ : ∃ Y, Y = W.setCell ⟨b, 11, none⟩ (.int .i64 0) := ⟨_, rfl⟩
    have HY : Hid ((∃ K, JbAt Y b u K) ∧ Kept (One b) w Y) := by
      rw [hY, Hu.out]
      unfold Jb.hasRoom
      rw [if_neg c]
      exact ⟨⟨_, (HJ.out.s11 0)⟩, ((kept_oneN KW.out).setCell (p := ⟨b, 11, none⟩) (fun _ => rfl) _)⟩
    have hc : (r.kd == 4) = false := by simp [c]
    clear c
    go_enter Tryz.func88, Tryz.ntmps88
    go_upto_region 1 with fail
    rw [← hW, ← HAe.out]
    clear hW
    go_wp2
    rw [← hY]
    go_end0
    exact ⟨rfl, HY.out⟩
set_option maxRecDepth 100000 in
set_option maxHeartbeats 4000000 in
theorem hasSealed_any (w : World) (b : Nat) (j : Jb) (K : Jk) (h : JbAt w b j K) :
    Calls Tryz.prog 91 #[.pointer (some ⟨b, 0, none⟩)] w (JPost w b j.hasSealed) := by
  have q28 : w.cell? ⟨b, 28, none⟩ = some (.bool j.ow) := blk_at h 28 rfl
  obtain ⟨u, Hu⟩ : ∃ u, Hid (u = j.hasSealed) := ⟨_, rfl⟩
  rw [← Hu.out]
  obtain ⟨o, Ho⟩ : ∃ o, Hid (o = j.ow) := ⟨_, rfl⟩
  rw [← Ho.out] at q28
  cases o with
  | true =>
    have hu : u = j.finK 1 := by rw [Hu.out]; exact if_pos Ho.out.symm
    have EN := endWith_any w b j K h 1
    rw [← hu] at EN
    clear hu h
    go_enter Tryz.func91, Tryz.ntmps91
    go_wp2_with fail
    go_fit EN
    rintro _ w1 ⟨rfl, h1, k1⟩
    have HY : Hid ((∃ K, JbAt w1 b u K) ∧ Kept (One b) w w1) := ⟨h1, k1⟩
    clear h1 k1
    go_wp2
    exact bodyPost_ret (results_none rfl _ _ _) rfl ⟨rfl, HY.out⟩
  | false =>
    have hu : u = j.follow := by rw [Hu.out]; exact if_neg (by rw [← Ho.out]; decide)
    have EN := follow_any w b j K h
    rw [← hu] at EN
    clear hu h
    go_enter Tryz.func91, Tryz.ntmps91
    go_wp2_with fail
    go_fit EN
    rintro _ w1 ⟨rfl, h1, k1⟩
    have HY : Hid ((∃ K, JbAt w1 b u K) ∧ Kept (One b) w w1) := ⟨h1, k1⟩
    clear h1 k1
    go_wp2
    go_end0
    exact ⟨rfl, HY.out⟩
set_option maxRecDepth 100000 in
set_option maxHeartbeats 4000000 in
theorem hasPrepared_any (w : World) (b : Nat) (j : Jb) (K : Jk) (h : JbAt w b j K) (r : Rr) (ko : Option Addr) (kc : Nat) :
    Calls Tryz.prog 87 #[.pointer (some ⟨b, 0, none⟩), rrV r ko kc] w (JPost w b (j.hasPrepared r)) := by
  obtain ⟨W, hW⟩ : ∃ W, W = w.alloc (.cells #[.int .i64 r.kd, .string (bs r.v), .int .i64 r.n, .slice ko r.ks.length kc] 50) := ⟨_, rfl⟩
  obtain ⟨A, HAe⟩ : ∃ A, Hid (A = w.heap.size) := ⟨_, rfl⟩
  have KW : Hid (Kept Nil w W) := by rw [hW]; exact (Kept.refl _ _).alloc _
  have HA : Hid (W.heap[A]? = some (.cells #[.int .i64 r.kd, .string (bs r.v), .int .i64 r.n, .slice ko r.ks.length kc] 50 (0, 0))) := by rw [hW, HAe.out]; exact blk_new _ _
  have HJ : Hid (JbAt W b j K) := h.kept KW.out
  have hlb : b < W.heap.size := lt_of_block HJ.out
  have hlA : A < W.heap.size := lt_of_block HA.out
  have hbA : b ≠ A := by rw [HAe.out]; have := lt_of_block h; omega
  have hAb : A ≠ b := fun e => hbA e.symm
  have a0 : W.cell? ⟨A, 0, none⟩ = some (.int .i64 r.kd) := blk_at HA.out 0 rfl
  have a1 : W.cell? ⟨A, 1, none⟩ = some (.string (bs r.v)) := blk_at HA.out 1 rfl
  have a2 : W.cell? ⟨A, 2, none⟩ = some (.int .i64 r.n) := blk_at HA.out 2 rfl
  have a3 : W.cell? ⟨A, 3, none⟩ = some (.slice ko r.ks.length kc) := blk_at HA.out 3 rfl
  obtain ⟨u, Hu⟩ : ∃ u, Hid (u = j.hasPrepared r) := ⟨_, rfl⟩
  rw [← Hu.out]
  have IL := isLost_any r ko kc W
  clear h
  unfold rrV at IL ⊢
  go_enter Tryz.func87, Tryz.ntmps87
  go_upto_region 2 with fail
  rw [← hW, ← HAe.out]
  clear hW
  go_wp2_with fail
  go_fit IL
  rintro _ w1 ⟨rfl, k1⟩
  have HJ1 : Hid (JbAt w1 b j K) := HJ.out.kept k1
  have HA1 : Hid (w1.heap[A]? = some (.cells #[.int .i64 r.kd, .string (bs r.v), .int .i64 r.n, .slice ko r.ks.length kc] 50 (0, 0))) := k1.block _ _ HA.out (fun x => x)
  have K1 : Hid (Kept (One b) w w1) := kept_oneN (KW.out.trans k1)
  clear IL k1 a0 a1 a2 a3
  have a0 : w1.cell? ⟨A, 0, none⟩ = some (.int .i64 r.kd) := blk_at HA1.out 0 rfl
  have q11 : w1.cell? ⟨b, 11, none⟩ = some (.int .i64 j.ph) := blk_at HJ1.out 11 rfl
  have f11 : w1.frozen? ⟨b, 11, none⟩ = false := blk_free HJ1.out 11
  by_cases c5 : 5 < r.kd
  · have hu : u = j := by rw [Hu.out]; exact if_pos c5
    rw [decide_eq_true c5]
    clear c5
    go_wp2
    go_end0
    rw [hu]
    exact ⟨rfl, ⟨K, HJ1.out⟩, K1.out⟩
  · rw [decide_eq_false c5]
    by_cases c : r.kd = 2
    · obtain ⟨Y, hY⟩ : ∃ Y, Y = w1.setCell ⟨b, 11, none⟩ (.int .i64 3) := ⟨_, rfl⟩
      have HY : Hid ((∃ K, JbAt Y b u K) ∧ Kept (One b) w Y) := by
        rw [hY, Hu.out]
        unfold Jb.hasPrepared
        rw [if_neg c5, if_pos c]
        exact ⟨⟨_, (HJ1.out.s11 3)⟩, (K1.out.setCell (p := ⟨b, 11, none⟩) (fun _ => rfl) _)⟩
      have hc : (r.kd == 2) = true := by simp [c]
      clear c c5
      go_wp2
      rw [← hY]
      go_end0
      exact ⟨rfl, HY.out⟩
    · obtain ⟨Y, hY⟩ : ∃ Y, Y = w1.setCell ⟨b, 11, none⟩ (.int .i64 1) := ⟨_, rfl⟩
      have HY : Hid ((∃ K, JbAt Y b u K) ∧ Kept (One b) w Y) := by
        rw [hY, Hu.out]
        unfold Jb.hasPrepared
        rw [if_neg c5, if_neg c]
        exact ⟨⟨_, (HJ1.out.s11 1)⟩, (K1.out.setCell (p := ⟨b, 11, none⟩) (fun _ => rfl) _)⟩
      have hc : (r.kd == 2) = false := by simp [c]
      clear c c5
      go_wp2
      rw [← hY]
      go_end0
      exact ⟨rfl, HY.out⟩
end Go.Proofs.YtflnjlbafchnaaaGreatDoor

/-
  Cells: pair, tail, text (the program).
-/
namespace Go.Proofs.YtflnjlbafchnaaaGreatDoor
open Go.RowKit

def prV (k : List UInt8) (v : List UInt8) (n : Nat) : Value := if v = [] ∧ n = 0 then .agg #[.string ⟨#[]⟩, .string ⟨#[]⟩, .int .i64 0] else .agg #[.string (bs k), .string (bs v), .int .i64 n]
theorem ct_cases (v : List UInt8) (n : Nat) : (v = [] ∧ n = 0) ∨ (¬ (v = [] ∧ n = 0) ∧ ((bs v).toList = [] ∧ ¬ n = 0 ∨ ¬ (bs v).toList = [])) := by
  rw [bs_toList]
  by_cases h1 : v = []
  · by_cases h2 : n = 0
    · exact .inl ⟨h1, h2⟩
    · exact .inr ⟨fun e => h2 e.2, .inl ⟨h1, h2⟩⟩
  · exact .inr ⟨fun e => h1 e.1, .inr h1⟩
set_option maxRecDepth 100000 in
set_option maxHeartbeats 1000000 in
theorem pair_any (v : List UInt8) (n : Nat) (k : List UInt8) (w : World) :
    Calls Tryz.prog 99 #[ctV v n, .string (bs k)] w fun e w' => e = .returned (.tuple #[prV k v n, .bool (!decide (v = [] ∧ n = 0))]) ∧ Kept Nil w w' := by
  obtain ⟨b, HB⟩ : ∃ b, Hid (b = !decide (v = [] ∧ n = 0)) := ⟨_, rfl⟩
  obtain ⟨x, HX⟩ : ∃ x, Hid (x = prV k v n) := ⟨_, rfl⟩
  rw [← HB.out, ← HX.out]
  unfold ctV
  rcases ct_cases v n with ⟨hv, hn⟩ | ⟨hc, ⟨h1, h2⟩ | h1⟩
  · have HE : Hid (b = false ∧ x = .agg #[.string ⟨#[]⟩, .string ⟨#[]⟩, .int .i64 0]) := ⟨by rw [HB.out, decide_eq_true ⟨hv, hn⟩]; rfl, by rw [HX.out]; exact if_pos ⟨hv, hn⟩⟩
    subst hv hn
    have ht : (bs []).toList = [] := bs_toList []
    go_enter Tryz.func99, Tryz.ntmps99
    go_wp2
    exact bodyPost_ret (v := .tuple #[.agg #[.string ⟨#[]⟩, .string ⟨#[]⟩, .int .i64 0], .bool false]) (by simp [results, Tryz.results99, go_sem]) rfl ⟨by rw [HE.out.1, HE.out.2], by repeat (first | exact Kept.refl _ _ | refine Kept.alloc ?_ _)⟩
  · have HE : Hid (b = true ∧ x = .agg #[.string (bs k), .string (bs v), .int .i64 n]) := ⟨by rw [HB.out, decide_eq_false hc]; rfl, by rw [HX.out]; exact if_neg hc⟩
    clear hc
    go_enter Tryz.func99, Tryz.ntmps99
    go_wp2
    exact bodyPost_ret (v := .tuple #[.agg #[.string (bs k), .string (bs v), .int .i64 n], .bool true]) (by simp [results, Tryz.results99, go_sem]) rfl ⟨by rw [HE.out.1, HE.out.2], by repeat (first | exact Kept.refl _ _ | refine Kept.alloc ?_ _)⟩
  · have HE : Hid (b = true ∧ x = .agg #[.string (bs k), .string (bs v), .int .i64 n]) := ⟨by rw [HB.out, decide_eq_false hc]; rfl, by rw [HX.out]; exact if_neg hc⟩
    clear hc
    go_enter Tryz.func99, Tryz.ntmps99
    go_wp2
    exact bodyPost_ret (v := .tuple #[.agg #[.string (bs k), .string (bs v), .int .i64 n], .bool true]) (by simp [results, Tryz.results99, go_sem]) rfl ⟨by rw [HE.out.1, HE.out.2], by repeat (first | exact Kept.refl _ _ | refine Kept.alloc ?_ _)⟩
theorem catS : ∀ (p q r : ByteArray), p ++ q = r → p.size ≤ 1000 → q.size ≤ 1000 → ∀ X, (Op.stringOp .add p q).run Tryz.prog X = .ok (.string r) X := fun p q r e h1 h2 X => by
  unfold Op.stringOp
  simp only
  rw [if_neg (by have e : IntKind.i64.max = 9223372036854775807 := rfl; omega), e]
  rfl
set_option maxRecDepth 100000 in
set_option maxHeartbeats 2000000 in
theorem tail_any (v : List UInt8) (n : Nat) (w : World) (hv : v.length ≤ 32) (hn : n ≤ 999999) (hL : LD w) :
    Calls Tryz.prog 156 #[ctV v n] w fun e w' => e = .returned (.string (bs (ceTail v n))) ∧ Kept Nil w w' := by
  obtain ⟨y, HY⟩ : ∃ y, Hid (y = ceTail v n) := ⟨_, rfl⟩
  rw [← HY.out]
  unfold ctV
  rcases ct_cases v n with ⟨hv, hn⟩ | ⟨hc, hh⟩
  · obtain rfl : y = [] := by rw [HY.out]; exact if_pos ⟨hv, hn⟩
    subst hv hn
    have ht : (bs []).toList = [] := bs_toList []
    go_enter Tryz.func156, Tryz.ntmps156
    go_wp2
    go_ret
    exact ⟨rfl, (Kept.refl _ _).alloc _⟩
  · have hy : y = 32 :: (Lib.decDigits n ++ 32 :: 61 :: v) := by rw [HY.out]; exact if_neg hc
    obtain ⟨W, hW⟩ : ∃ W, W = w.alloc (.cells #[.string (bs v), .int .i64 n] 129) := ⟨_, rfl⟩
    obtain ⟨A, HAe⟩ : ∃ A, Hid (A = w.heap.size) := ⟨_, rfl⟩
    have KW : Hid (Kept Nil w W) := by rw [hW]; exact (Kept.refl _ _).alloc _
    have HAW : Hid (W.heap[A]? = some (.cells #[.string (bs v), .int .i64 n] 129 (0, 0))) := by rw [hW, HAe.out]; exact blk_new _ _
    have HLW : Hid (LD W) := hL.kept KW.out
    have SS : ∀ X, Kept Nil W X → X.cell? ⟨A, 0, none⟩ = some (.string (bs v)) ∧ X.cell? ⟨A, 1, none⟩ = some (.int .i64 n) := fun X kX =>
      ⟨blk_at (kX.block _ _ HAW.out (fun x => x.elim)) 0 rfl, blk_at (kX.block _ _ HAW.out (fun x => x.elim)) 1 rfl⟩
    have I1 : ∀ X, Kept Nil W X → Calls Tryz.prog 105 #[.int .i64 n] X fun e w' => e = .returned (.string (bs (Lib.decDigits n))) ∧ Kept Nil X w' := fun X kX => by
      have := itoa_any n (by omega) (by omega) X (HLW.out.kept kX)
      rw [itoa_nat] at this
      exact this
    have g1 : (⟨#[32]⟩ : ByteArray) ++ bs (Lib.decDigits n) = bs (32 :: Lib.decDigits n) := bs_append [32] _
    have g2 : bs (32 :: Lib.decDigits n) ++ (⟨#[32, 61]⟩ : ByteArray) = bs (32 :: (Lib.decDigits n ++ [32, 61])) := by
      show _ ++ bs [32, 61] = _
      rw [bs_append]
      simp
    have g3 : bs (32 :: (Lib.decDigits n ++ [32, 61])) ++ bs v = bs y := by rw [bs_append, hy]; simp
    have z1 : (bs (Lib.decDigits n)).size ≤ 6 := by rw [bs_size]; exact digits_len6 hn
    have z2 : (bs v).size ≤ 32 := by rw [bs_size]; exact hv
    have z3 : (bs (32 :: Lib.decDigits n)).size ≤ 7 := by rw [bs_size] at z1 ⊢; simp; omega
    have z4 : (bs (32 :: (Lib.decDigits n ++ [32, 61]))).size ≤ 9 := by rw [bs_size] at z1 ⊢; simp; omega
    have z5 : (⟨#[32]⟩ : ByteArray).size = 1 := rfl
    have z6 : (⟨#[32, 61]⟩ : ByteArray).size = 2 := rfl
    have t1 := catS _ _ _ g1 (by rw [z5]; omega) (by omega)
    have t2 := catS _ _ _ g2 (by omega) (by rw [z6]; omega)
    have t3 := catS _ _ _ g3 (by omega) (by omega)
    have m0 : IntKind.i64.max = 9223372036854775807 := rfl
    have s0 := SS W (Kept.refl _ _)
    have hlt : A < W.heap.size := lt_of_block HAW.out
    clear hc hy
    rcases hh with ⟨h1, h2⟩ | h1
    · go_enter Tryz.func156, Tryz.ntmps156
      go_upto_region 3 with fail
      rw [← hW, ← HAe.out]
      clear hW
      go_region_held3 (fun w' => w'.cell? ⟨A, 0, none⟩ = some (.string (bs v)) ∧ w'.cell? ⟨A, 1, none⟩ = some (.int .i64 n)) (first | assumption | go_keep) (first | (go_at_call 105; go_fit (I1 W.drew ((Kept.refl _ _).drew)); rintro e wa ⟨rfl, ka⟩; have Ka : Hid (Kept Nil W wa) := ((Kept.refl _ _).drew).trans ka; have sa := SS wa Ka.out))
      go_wp2
      go_ret
      exact ⟨rfl, KW.out.trans Ka.out⟩
    · go_enter Tryz.func156, Tryz.ntmps156
      go_upto_region 3 with fail
      rw [← hW, ← HAe.out]
      clear hW
      go_region_held3 (fun w' => w'.cell? ⟨A, 0, none⟩ = some (.string (bs v)) ∧ w'.cell? ⟨A, 1, none⟩ = some (.int .i64 n)) (first | assumption | go_keep) (first | (go_at_call 105; go_fit (I1 W.drew ((Kept.refl _ _).drew)); rintro e wa ⟨rfl, ka⟩; have Ka : Hid (Kept Nil W wa) := ((Kept.refl _ _).drew).trans ka; have sa := SS wa Ka.out))
      go_wp2
      go_ret
      exact ⟨rfl, KW.out.trans Ka.out⟩
end Go.Proofs.YtflnjlbafchnaaaGreatDoor

/-
  Cells: text, swapCommand (the program).
-/
namespace Go.Proofs.YtflnjlbafchnaaaGreatDoor
open Go.RowKit

set_option maxRecDepth 100000 in
set_option maxHeartbeats 2000000 in
theorem text_here (cv : List UInt8) (cn ch cg : Nat) (w : World) (h : Ce.Ok ⟨cv, cn, 0, ch, cg⟩) (hL : LW w) :
    Calls Tryz.prog 123 #[ceV ⟨cv, cn, 0, ch, cg⟩] w fun e w' => e = .returned (.string (bs (ceTxt ⟨cv, cn, 0, ch, cg⟩))) ∧ Kept Nil w w' := by
  obtain ⟨y, HY⟩ : ∃ y, Hid (y = ceTxt ⟨cv, cn, 0, ch, cg⟩) := ⟨_, rfl⟩
  rw [← HY.out]
  have hch : ch ≤ 999999 := h.h
  have hcn : cn ≤ 999999 := h.n
  have hcv : cv.length ≤ 32 := h.v
  unfold ceV
  obtain ⟨W, hW⟩ : ∃ W, W = w.alloc (.cells #[.string (bs cv), .int .i64 cn, .int .i64 0, .int .i64 ch, .int .i64 cg] 131) := ⟨_, rfl⟩
  obtain ⟨A, HAe⟩ : ∃ A, Hid (A = w.heap.size) := ⟨_, rfl⟩
  have KW : Hid (Kept Nil w W) := by rw [hW]; exact (Kept.refl _ _).alloc _
  have HAW : Hid (W.heap[A]? = some (.cells #[.string (bs cv), .int .i64 cn, .int .i64 0, .int .i64 ch, .int .i64 cg] 131 (0, 0))) := by rw [hW, HAe.out]; exact blk_new _ _
  have HLW : Hid (LW W) := hL.kept KW.out
  have SS : ∀ X, Kept Nil W X → X.cell? ⟨A, 2, none⟩ = some (.int .i64 0) ∧ X.cell? ⟨A, 3, none⟩ = some (.int .i64 ch) ∧ X.cell? ⟨1, 0, none⟩ = some (.string ⟨#[104, 101, 114, 101]⟩) := fun X kX =>
    ⟨blk_at (kX.block _ _ HAW.out (fun x => x.elim)) 2 rfl, blk_at (kX.block _ _ HAW.out (fun x => x.elim)) 3 rfl, (HLW.out.kept kX).c0⟩
  have ST : ∀ X, Kept Nil W X → X.cell? ⟨A, 0, none⟩ = some (.string (bs cv)) ∧ X.cell? ⟨A, 1, none⟩ = some (.int .i64 cn) ∧ X.cell? ⟨A, 4, none⟩ = some (.int .i64 cg) := fun X kX =>
    ⟨blk_at (kX.block _ _ HAW.out (fun x => x.elim)) 0 rfl, blk_at (kX.block _ _ HAW.out (fun x => x.elim)) 1 rfl, blk_at (kX.block _ _ HAW.out (fun x => x.elim)) 4 rfl⟩
  have I1 : ∀ X, Kept Nil W X → Calls Tryz.prog 105 #[.int .i64 ch] X fun e w' => e = .returned (.string (bs (Lib.decDigits ch))) ∧ Kept Nil X w' := fun X kX => by
    have := itoa_any ch (by omega) (by omega) X (HLW.out.kept kX).l
    rw [itoa_nat] at this
    exact this
  have TA : ∀ X, Kept Nil W X → Calls Tryz.prog 156 #[.agg #[.string (bs cv), .int .i64 cn]] X fun e w' => e = .returned (.string (bs (ceTail cv cn))) ∧ Kept Nil X w' := fun X kX => tail_any cv cn X hcv hcn (HLW.out.kept kX).l
  have g1 : (⟨#[104, 101, 114, 101]⟩ : ByteArray) ++ (⟨#[32]⟩ : ByteArray) = bs (wHere ++ [32]) := bs_append wHere [32]
  have g2 : bs (wHere ++ [32]) ++ bs (Lib.decDigits ch) = bs (wHere ++ 32 :: Lib.decDigits ch) := by rw [bs_append]; simp
  have zt : (bs (ceTail cv cn)).size ≤ 41 := by
    rw [bs_size]
    unfold ceTail
    have := digits_len6 hcn
    split
    · simp
    · simp; omega
  have z1 : (bs (Lib.decDigits ch)).size ≤ 6 := by rw [bs_size]; exact digits_len6 hch
  have z2 : (bs (wHere ++ 32 :: Lib.decDigits ch)).size ≤ 20 := by rw [bs_size] at z1 ⊢; simp [wHere]; omega
  have z3 : (bs (wHere ++ [32])).size ≤ 20 := by rw [bs_size]; decide
  have z4 : (⟨#[104, 101, 114, 101]⟩ : ByteArray).size ≤ 20 := by decide
  have z5 : (⟨#[32]⟩ : ByteArray).size = 1 := rfl
  have t1 := catS _ _ _ g1 (by omega) (by rw [z5]; omega)
  have t2 := catS _ _ _ g2 (by omega) (by omega)
  have g5 : bs (wHere ++ 32 :: Lib.decDigits ch) ++ bs (ceTail cv cn) = bs y := by rw [bs_append, HY.out]; unfold ceTxt; simp [cw]
  have m0 : IntKind.i64.max = 9223372036854775807 := rfl
  have s0 := SS W (Kept.refl _ _)
  have hlt : A < W.heap.size := lt_of_block HAW.out
  clear h hL
  go_enter Tryz.func123, Tryz.ntmps123
  go_upto_region 1 with fail
  rw [← hW, ← HAe.out]
  clear hW
  go_region_held3 (fun w' => w'.cell? ⟨A, 2, none⟩ = some (.int .i64 0) ∧ w'.cell? ⟨A, 3, none⟩ = some (.int .i64 ch) ∧ w'.cell? ⟨1, 0, none⟩ = some (.string ⟨#[104, 101, 114, 101]⟩)) (first | assumption | go_keep) (first | (go_at_call 105; go_fit (I1 W.drew ((Kept.refl _ _).drew)); rintro e wa ⟨rfl, ka⟩; have Ka : Hid (Kept Nil W wa) := ((Kept.refl _ _).drew).trans ka; have sa := SS wa Ka.out))
  obtain ⟨x0, x1, x4⟩ := ST wa Ka.out
  obtain ⟨x2, x3, _⟩ := SS wa Ka.out
  clear t1 t2 g1 g2
  go_wp2_with fail
  go_fit (TA wa Ka.out)
  rintro _ wc ⟨rfl, kc⟩
  have Kc : Hid (Kept Nil W wc) := Ka.out.trans kc
  clear kc
  go_wp2
  go_ret
  exact ⟨rfl, KW.out.trans Kc.out⟩
set_option maxRecDepth 100000 in
set_option maxHeartbeats 2000000 in
theorem text_mov (cv : List UInt8) (cn ch cg : Nat) (w : World) (h : Ce.Ok ⟨cv, cn, 1, ch, cg⟩) (hL : LW w) :
    Calls Tryz.prog 123 #[ceV ⟨cv, cn, 1, ch, cg⟩] w fun e w' => e = .returned (.string (bs (ceTxt ⟨cv, cn, 1, ch, cg⟩))) ∧ Kept Nil w w' := by
  obtain ⟨y, HY⟩ : ∃ y, Hid (y = ceTxt ⟨cv, cn, 1, ch, cg⟩) := ⟨_, rfl⟩
  rw [← HY.out]
  have hch : ch ≤ 999999 := h.h
  have hcn : cn ≤ 999999 := h.n
  have hcv : cv.length ≤ 32 := h.v
  have hcg : cg ≤ 4 := (h.g1 (by simp)).2
  unfold ceV
  obtain ⟨W, hW⟩ : ∃ W, W = w.alloc (.cells #[.string (bs cv), .int .i64 cn, .int .i64 1, .int .i64 ch, .int .i64 cg] 131) := ⟨_, rfl⟩
  obtain ⟨A, HAe⟩ : ∃ A, Hid (A = w.heap.size) := ⟨_, rfl⟩
  have KW : Hid (Kept Nil w W) := by rw [hW]; exact (Kept.refl _ _).alloc _
  have HAW : Hid (W.heap[A]? = some (.cells #[.string (bs cv), .int .i64 cn, .int .i64 1, .int .i64 ch, .int .i64 cg] 131 (0, 0))) := by rw [hW, HAe.out]; exact blk_new _ _
  have HLW : Hid (LW W) := hL.kept KW.out
  have SS : ∀ X, Kept Nil W X → X.cell? ⟨A, 2, none⟩ = some (.int .i64 1) ∧ X.cell? ⟨A, 3, none⟩ = some (.int .i64 ch) ∧ X.cell? ⟨1, 1, none⟩ = some (.string ⟨#[109, 111, 118, 105, 110, 103]⟩) := fun X kX =>
    ⟨blk_at (kX.block _ _ HAW.out (fun x => x.elim)) 2 rfl, blk_at (kX.block _ _ HAW.out (fun x => x.elim)) 3 rfl, (HLW.out.kept kX).c1⟩
  have ST : ∀ X, Kept Nil W X → X.cell? ⟨A, 0, none⟩ = some (.string (bs cv)) ∧ X.cell? ⟨A, 1, none⟩ = some (.int .i64 cn) ∧ X.cell? ⟨A, 4, none⟩ = some (.int .i64 cg) := fun X kX =>
    ⟨blk_at (kX.block _ _ HAW.out (fun x => x.elim)) 0 rfl, blk_at (kX.block _ _ HAW.out (fun x => x.elim)) 1 rfl, blk_at (kX.block _ _ HAW.out (fun x => x.elim)) 4 rfl⟩
  have I1 : ∀ X, Kept Nil W X → Calls Tryz.prog 105 #[.int .i64 ch] X fun e w' => e = .returned (.string (bs (Lib.decDigits ch))) ∧ Kept Nil X w' := fun X kX => by
    have := itoa_any ch (by omega) (by omega) X (HLW.out.kept kX).l
    rw [itoa_nat] at this
    exact this
  have I2 : ∀ X, Kept Nil W X → Calls Tryz.prog 105 #[.int .i64 cg] X fun e w' => e = .returned (.string (bs (Lib.decDigits cg))) ∧ Kept Nil X w' := fun X kX => by
    have := itoa_any cg (by omega) (by omega) X (HLW.out.kept kX).l
    rw [itoa_nat] at this
    exact this
  have TA : ∀ X, Kept Nil W X → Calls Tryz.prog 156 #[.agg #[.string (bs cv), .int .i64 cn]] X fun e w' => e = .returned (.string (bs (ceTail cv cn))) ∧ Kept Nil X w' := fun X kX => tail_any cv cn X hcv hcn (HLW.out.kept kX).l
  have g1 : (⟨#[109, 111, 118, 105, 110, 103]⟩ : ByteArray) ++ (⟨#[32]⟩ : ByteArray) = bs (wMov ++ [32]) := bs_append wMov [32]
  have g2 : bs (wMov ++ [32]) ++ bs (Lib.decDigits ch) = bs (wMov ++ 32 :: Lib.decDigits ch) := by rw [bs_append]; simp
  have zt : (bs (ceTail cv cn)).size ≤ 41 := by
    rw [bs_size]
    unfold ceTail
    have := digits_len6 hcn
    split
    · simp
    · simp; omega
  have z1 : (bs (Lib.decDigits ch)).size ≤ 6 := by rw [bs_size]; exact digits_len6 hch
  have z2 : (bs (wMov ++ 32 :: Lib.decDigits ch)).size ≤ 20 := by rw [bs_size] at z1 ⊢; simp [wMov]; omega
  have z3 : (bs (wMov ++ [32])).size ≤ 20 := by rw [bs_size]; decide
  have z4 : (⟨#[109, 111, 118, 105, 110, 103]⟩ : ByteArray).size ≤ 20 := by decide
  have z5 : (⟨#[32]⟩ : ByteArray).size = 1 := rfl
  have t1 := catS _ _ _ g1 (by omega) (by rw [z5]; omega)
  have t2 := catS _ _ _ g2 (by omega) (by omega)
  have g3 : (⟨#[32]⟩ : ByteArray) ++ bs (Lib.decDigits cg) = bs (32 :: Lib.decDigits cg) := bs_append [32] _
  have g4 : bs (wMov ++ 32 :: Lib.decDigits ch) ++ bs (32 :: Lib.decDigits cg) = bs (wMov ++ 32 :: (Lib.decDigits ch ++ 32 :: Lib.decDigits cg)) := by rw [bs_append]; simp
  have g5 : bs (wMov ++ 32 :: (Lib.decDigits ch ++ 32 :: Lib.decDigits cg)) ++ bs (ceTail cv cn) = bs y := by rw [bs_append, HY.out]; unfold ceTxt; simp [cw]
  have zg : (bs (Lib.decDigits cg)).size ≤ 6 := by rw [bs_size]; exact digits_len6 (by omega)
  have zh : (bs (32 :: Lib.decDigits cg)).size ≤ 7 := by rw [bs_size] at zg ⊢; simp; omega
  have zi : (bs (wMov ++ 32 :: (Lib.decDigits ch ++ 32 :: Lib.decDigits cg))).size ≤ 40 := by rw [bs_size] at zg z1 ⊢; simp [wMov]; omega
  have m0 : IntKind.i64.max = 9223372036854775807 := rfl
  have s0 := SS W (Kept.refl _ _)
  have hlt : A < W.heap.size := lt_of_block HAW.out
  clear h hL
  go_enter Tryz.func123, Tryz.ntmps123
  go_upto_region 1 with fail
  rw [← hW, ← HAe.out]
  clear hW
  go_region_held3 (fun w' => w'.cell? ⟨A, 2, none⟩ = some (.int .i64 1) ∧ w'.cell? ⟨A, 3, none⟩ = some (.int .i64 ch) ∧ w'.cell? ⟨1, 1, none⟩ = some (.string ⟨#[109, 111, 118, 105, 110, 103]⟩)) (first | assumption | go_keep) (first | (go_at_call 105; go_fit (I1 W.drew ((Kept.refl _ _).drew)); rintro e wa ⟨rfl, ka⟩; have Ka : Hid (Kept Nil W wa) := ((Kept.refl _ _).drew).trans ka; have sa := SS wa Ka.out))
  obtain ⟨x0, x1, x4⟩ := ST wa Ka.out
  obtain ⟨x2, x3, _⟩ := SS wa Ka.out
  clear t1 t2 g1 g2
  go_wp2_with fail
  go_fit (I2 wa Ka.out)
  rintro _ wb ⟨rfl, kb⟩
  have Kb : Hid (Kept Nil W wb) := Ka.out.trans kb
  clear kb
  obtain ⟨y0, y1, y4⟩ := ST wb Kb.out
  clear x0 x1 x2 x3 x4
  go_wp2_with fail
  go_fit (TA wb Kb.out)
  rintro _ wc ⟨rfl, kc⟩
  have Kc : Hid (Kept Nil W wc) := Kb.out.trans kc
  clear kc
  go_wp2
  go_ret
  exact ⟨rfl, KW.out.trans Kc.out⟩
set_option maxRecDepth 100000 in
set_option maxHeartbeats 2000000 in
theorem text_gon (cv : List UInt8) (cn ch cg : Nat) (w : World) (h : Ce.Ok ⟨cv, cn, 2, ch, cg⟩) (hL : LW w) :
    Calls Tryz.prog 123 #[ceV ⟨cv, cn, 2, ch, cg⟩] w fun e w' => e = .returned (.string (bs (ceTxt ⟨cv, cn, 2, ch, cg⟩))) ∧ Kept Nil w w' := by
  obtain ⟨y, HY⟩ : ∃ y, Hid (y = ceTxt ⟨cv, cn, 2, ch, cg⟩) := ⟨_, rfl⟩
  rw [← HY.out]
  have hch : ch ≤ 999999 := h.h
  have hcn : cn ≤ 999999 := h.n
  have hcv : cv.length ≤ 32 := h.v
  have hcg : cg ≤ 4 := (h.g1 (by simp)).2
  unfold ceV
  obtain ⟨W, hW⟩ : ∃ W, W = w.alloc (.cells #[.string (bs cv), .int .i64 cn, .int .i64 2, .int .i64 ch, .int .i64 cg] 131) := ⟨_, rfl⟩
  obtain ⟨A, HAe⟩ : ∃ A, Hid (A = w.heap.size) := ⟨_, rfl⟩
  have KW : Hid (Kept Nil w W) := by rw [hW]; exact (Kept.refl _ _).alloc _
  have HAW : Hid (W.heap[A]? = some (.cells #[.string (bs cv), .int .i64 cn, .int .i64 2, .int .i64 ch, .int .i64 cg] 131 (0, 0))) := by rw [hW, HAe.out]; exact blk_new _ _
  have HLW : Hid (LW W) := hL.kept KW.out
  have SS : ∀ X, Kept Nil W X → X.cell? ⟨A, 2, none⟩ = some (.int .i64 2) ∧ X.cell? ⟨A, 3, none⟩ = some (.int .i64 ch) ∧ X.cell? ⟨1, 2, none⟩ = some (.string ⟨#[103, 111, 110, 101]⟩) := fun X kX =>
    ⟨blk_at (kX.block _ _ HAW.out (fun x => x.elim)) 2 rfl, blk_at (kX.block _ _ HAW.out (fun x => x.elim)) 3 rfl, (HLW.out.kept kX).c2⟩
  have ST : ∀ X, Kept Nil W X → X.cell? ⟨A, 0, none⟩ = some (.string (bs cv)) ∧ X.cell? ⟨A, 1, none⟩ = some (.int .i64 cn) ∧ X.cell? ⟨A, 4, none⟩ = some (.int .i64 cg) := fun X kX =>
    ⟨blk_at (kX.block _ _ HAW.out (fun x => x.elim)) 0 rfl, blk_at (kX.block _ _ HAW.out (fun x => x.elim)) 1 rfl, blk_at (kX.block _ _ HAW.out (fun x => x.elim)) 4 rfl⟩
  have I1 : ∀ X, Kept Nil W X → Calls Tryz.prog 105 #[.int .i64 ch] X fun e w' => e = .returned (.string (bs (Lib.decDigits ch))) ∧ Kept Nil X w' := fun X kX => by
    have := itoa_any ch (by omega) (by omega) X (HLW.out.kept kX).l
    rw [itoa_nat] at this
    exact this
  have I2 : ∀ X, Kept Nil W X → Calls Tryz.prog 105 #[.int .i64 cg] X fun e w' => e = .returned (.string (bs (Lib.decDigits cg))) ∧ Kept Nil X w' := fun X kX => by
    have := itoa_any cg (by omega) (by omega) X (HLW.out.kept kX).l
    rw [itoa_nat] at this
    exact this
  have TA : ∀ X, Kept Nil W X → Calls Tryz.prog 156 #[.agg #[.string (bs cv), .int .i64 cn]] X fun e w' => e = .returned (.string (bs (ceTail cv cn))) ∧ Kept Nil X w' := fun X kX => tail_any cv cn X hcv hcn (HLW.out.kept kX).l
  have g1 : (⟨#[103, 111, 110, 101]⟩ : ByteArray) ++ (⟨#[32]⟩ : ByteArray) = bs (wGon ++ [32]) := bs_append wGon [32]
  have g2 : bs (wGon ++ [32]) ++ bs (Lib.decDigits ch) = bs (wGon ++ 32 :: Lib.decDigits ch) := by rw [bs_append]; simp
  have zt : (bs (ceTail cv cn)).size ≤ 41 := by
    rw [bs_size]
    unfold ceTail
    have := digits_len6 hcn
    split
    · simp
    · simp; omega
  have z1 : (bs (Lib.decDigits ch)).size ≤ 6 := by rw [bs_size]; exact digits_len6 hch
  have z2 : (bs (wGon ++ 32 :: Lib.decDigits ch)).size ≤ 20 := by rw [bs_size] at z1 ⊢; simp [wGon]; omega
  have z3 : (bs (wGon ++ [32])).size ≤ 20 := by rw [bs_size]; decide
  have z4 : (⟨#[103, 111, 110, 101]⟩ : ByteArray).size ≤ 20 := by decide
  have z5 : (⟨#[32]⟩ : ByteArray).size = 1 := rfl
  have t1 := catS _ _ _ g1 (by omega) (by rw [z5]; omega)
  have t2 := catS _ _ _ g2 (by omega) (by omega)
  have g3 : (⟨#[32]⟩ : ByteArray) ++ bs (Lib.decDigits cg) = bs (32 :: Lib.decDigits cg) := bs_append [32] _
  have g4 : bs (wGon ++ 32 :: Lib.decDigits ch) ++ bs (32 :: Lib.decDigits cg) = bs (wGon ++ 32 :: (Lib.decDigits ch ++ 32 :: Lib.decDigits cg)) := by rw [bs_append]; simp
  have g5 : bs (wGon ++ 32 :: (Lib.decDigits ch ++ 32 :: Lib.decDigits cg)) ++ bs (ceTail cv cn) = bs y := by rw [bs_append, HY.out]; unfold ceTxt; simp [cw]
  have zg : (bs (Lib.decDigits cg)).size ≤ 6 := by rw [bs_size]; exact digits_len6 (by omega)
  have zh : (bs (32 :: Lib.decDigits cg)).size ≤ 7 := by rw [bs_size] at zg ⊢; simp; omega
  have zi : (bs (wGon ++ 32 :: (Lib.decDigits ch ++ 32 :: Lib.decDigits cg))).size ≤ 40 := by rw [bs_size] at zg z1 ⊢; simp [wGon]; omega
  have m0 : IntKind.i64.max = 9223372036854775807 := rfl
  have s0 := SS W (Kept.refl _ _)
  have hlt : A < W.heap.size := lt_of_block HAW.out
  clear h hL
  go_enter Tryz.func123, Tryz.ntmps123
  go_upto_region 1 with fail
  rw [← hW, ← HAe.out]
  clear hW
  go_region_held3 (fun w' => w'.cell? ⟨A, 2, none⟩ = some (.int .i64 2) ∧ w'.cell? ⟨A, 3, none⟩ = some (.int .i64 ch) ∧ w'.cell? ⟨1, 2, none⟩ = some (.string ⟨#[103, 111, 110, 101]⟩)) (first | assumption | go_keep) (first | (go_at_call 105; go_fit (I1 W.drew ((Kept.refl _ _).drew)); rintro e wa ⟨rfl, ka⟩; have Ka : Hid (Kept Nil W wa) := ((Kept.refl _ _).drew).trans ka; have sa := SS wa Ka.out))
  obtain ⟨x0, x1, x4⟩ := ST wa Ka.out
  obtain ⟨x2, x3, _⟩ := SS wa Ka.out
  clear t1 t2 g1 g2
  go_wp2_with fail
  go_fit (I2 wa Ka.out)
  rintro _ wb ⟨rfl, kb⟩
  have Kb : Hid (Kept Nil W wb) := Ka.out.trans kb
  clear kb
  obtain ⟨y0, y1, y4⟩ := ST wb Kb.out
  clear x0 x1 x2 x3 x4
  go_wp2_with fail
  go_fit (TA wb Kb.out)
  rintro _ wc ⟨rfl, kc⟩
  have Kc : Hid (Kept Nil W wc) := Kb.out.trans kc
  clear kc
  go_wp2
  go_ret
  exact ⟨rfl, KW.out.trans Kc.out⟩
theorem text_any (c : Ce) (w : World) (h : c.Ok) (hL : LW w) :
    Calls Tryz.prog 123 #[ceV c] w fun e w' => e = .returned (.string (bs (ceTxt c))) ∧ Kept Nil w w' := by
  obtain ⟨cv, cn, cs, ch, cg⟩ := c
  have hs : cs ≤ 2 := h.s
  rcases (show cs = 0 ∨ cs = 1 ∨ cs = 2 by omega) with rfl | rfl | rfl
  · exact text_here cv cn ch cg w h hL
  · exact text_mov cv cn ch cg w h hL
  · exact text_gon cv cn ch cg w h hL
end Go.Proofs.YtflnjlbafchnaaaGreatDoor

/-
  Whole structs out of and into a block, as laws of the walk: the world behind a store is any world with the block's new cells.
-/
namespace Go.Proofs.YtflnjlbafchnaaaGreatDoor
open Go.RowKit

theorem rng_blk {w : World} {b : Nat} {cs : Array Value} {t : TypeId} (h : w.heap[b]? = some (.cells cs t (0, 0))) : w.rangeAt b 0 cs.toList := by
  intro j v hj
  rw [Nat.zero_add, blk_cell h j, ← hj]
  simp
theorem there_blk {w : World} {b n : Nat} {cs : Array Value} {t : TypeId} (h : w.heap[b]? = some (.cells cs t (0, 0))) (hn : n = cs.size) : w.there b 0 n := by
  intro j hj
  rw [Nat.zero_add]
  refine ⟨?_, blk_free h j⟩
  rw [blk_cell h j]
  simp; omega
theorem blk_setCellsW {b : Nat} {t : TypeId} : ∀ (vs : List Value) (o : Nat) (w : World) (cs : Array Value), w.heap[b]? = some (.cells cs t (0, 0)) → ∃ cs', (w.setCells b o vs).heap[b]? = some (.cells cs' t (0, 0)) ∧ cs'.size = cs.size ∧ ∀ i, cs'[i]? = if o ≤ i ∧ i < o + vs.length ∧ i < cs.size then vs[i - o]? else cs[i]?
  | [], o, w, cs, h => ⟨cs, h, rfl, fun i => by rw [if_neg (by simp; omega)]⟩
  | v :: r, o, w, cs, h => by
    obtain ⟨cs', h1, h2, h3⟩ := blk_setCellsW r (o + 1) _ _ (blk_set h o v)
    refine ⟨cs', h1, by simpa using h2, fun i => ?_⟩
    rw [h3 i]
    simp only [Array.size_setIfInBounds, List.length_cons]
    by_cases hi : i = o
    · subst hi
      rw [if_neg (by omega)]
      by_cases hs : i < cs.size
      · rw [if_pos (by omega)]
        simp [hs]
      · rw [if_neg (by omega)]
        simp [hs]
    · by_cases hc : o + 1 ≤ i ∧ i < o + 1 + r.length ∧ i < cs.size
      · rw [if_pos hc, if_pos (by omega), show i - o = (i - (o + 1)) + 1 by omega, List.getElem?_cons_succ]
      · rw [if_neg hc, if_neg (by omega)]
        simp [Ne.symm hi]
theorem blk_setAll {w : World} {b : Nat} {t : TypeId} {cs news : Array Value} (h : w.heap[b]? = some (.cells cs t (0, 0))) (hs : cs.size = news.size) : (w.setCells b 0 news.toList).heap[b]? = some (.cells news t (0, 0)) := by
  obtain ⟨cs', h1, h2, h3⟩ := blk_setCellsW news.toList 0 w cs h
  rw [h1]
  have e : cs' = news := by
    apply Array.ext_getElem?
    intro i
    rw [h3 i]
    by_cases hi : i < cs.size
    · rw [if_pos ⟨Nat.zero_le _, by simp; omega, hi⟩]
      simp
    · rw [if_neg (by omega)]
      rw [Array.getElem?_eq_none (by omega), Array.getElem?_eq_none (by omega)]
  rw [e]
theorem kept_setCells {X : Nat → Obj → Prop} {b : Nat} : ∀ (vs : List Value) (o : Nat) {a w : World}, Kept X a w → (∀ o', X b o') → Kept X a (w.setCells b o vs)
  | [], _, _, _, h, _ => h
  | v :: r, o, _, _, h, hX => kept_setCells r (o + 1) (h.setCell (fun _ => hX _) v) hX
theorem size_setCellsW {b : Nat} : ∀ (vs : List Value) (o : Nat) (w : World), (w.setCells b o vs).heap.size = w.heap.size
  | [], _, _ => rfl
  | v :: r, o, w => by rw [World.setCells, size_setCellsW r]; simp

/-- The next operation is a load of a whole variable of this type. -/
theorem atLoad (ty : TypeId) {P : Program} {ops : Array Oper} {rest : List Oper} {a : Act} {w : World} {Q : Exit → Act → World → Prop} {dst : Option Tmp} {x : Operand} {tp : TypeId} {pos : String} {af : Array Edge}
    (h : wpList P ops Q (⟨dst, .load ty x, tp, pos, af, none⟩ :: rest) a w) : wpList P ops Q (⟨dst, .load ty x, tp, pos, af, none⟩ :: rest) a w := h
theorem atStore (ty : TypeId) {P : Program} {ops : Array Oper} {rest : List Oper} {a : Act} {w : World} {Q : Exit → Act → World → Prop} {dst : Option Tmp} {x y : Operand} {tp : TypeId} {pos : String} {af : Array Edge}
    (h : wpList P ops Q (⟨dst, .store ty x y, tp, pos, af, none⟩ :: rest) a w) : wpList P ops Q (⟨dst, .store ty x y, tp, pos, af, none⟩ :: rest) a w := h
theorem wpList_loadW {P : Program} {ops : Array Oper} {rest : List Oper} {op : Oper} {a : Act} {w : World} {Q : Exit → Act → World → Prop} (hgd : op.guard = none) (ty : TypeId) (x : Operand) (ho : op.op = .load ty x)
    (b : Nat) (hx : a.eval x = .pointer (some ⟨b, 0, none⟩)) (cs : Array Value) (t : TypeId) (d : TypeDesc) (hb : w.heap[b]? = some (.cells cs t (0, 0)))
    (hu : P.underlying ty = some d) (hd : d.isRow = true) {n : Nat} (hi : (P.info? ty).map (·.size) = some n) (hn : cs.size = n)
    (h : wpList P ops Q rest (a.put op.dst (.agg cs)) w) : wpList P ops Q (op :: rest) a w :=
  wpList_load_mid hgd ty x ho b 0 hx cs.toList d (rng_blk hb) hu hd (by rw [hi, ← hn]; simp) (by simpa using h)
theorem wpList_storeW {P : Program} {ops : Array Oper} {rest : List Oper} {op : Oper} {a : Act} {w : World} {Q : Exit → Act → World → Prop} (hgd : op.guard = none) (ty : TypeId) (x y : Operand) (ho : op.op = .store ty x y)
    (b : Nat) (cells olds : Array Value) (t : TypeId) (hx : a.eval x = .pointer (some ⟨b, 0, none⟩)) (hy : a.eval y = .agg cells) (hb : w.heap[b]? = some (.cells olds t (0, 0))) (hs : olds.size = cells.size)
    {n : Nat} (hi : (P.info? ty).map (·.size) = some n) (hn : cells.size = n) (h1 : cells.all (·.oneCell') = true)
    (h : ∀ w', w'.heap[b]? = some (.cells cells t (0, 0)) → Kept (One b) w w' → w'.heap.size = w.heap.size → wpList P ops Q rest (a.put op.dst undef) w') : wpList P ops Q (op :: rest) a w :=
  wpList_store_mid hgd ty x y ho b 0 cells hx hy (there_blk hb hs.symm) (by rw [hi, hn]) h1 (h _ (blk_setAll hb hs) (kept_setCells _ _ (Kept.refl _ _) (fun _ => rfl)) (size_setCellsW _ _ _))
theorem results_cellW {fn : Func} {p : Tmp} {ty : TypeId} {P : Program} {w : World} {tmps : Array Value} {b : Nat} {cs : Array Value} {t : TypeId} {d : TypeDesc} (h : fn.results = #[.cell p ty]) (hp : tmps.getD p undef = .pointer (some ⟨b, 0, none⟩))
    (hb : w.heap[b]? = some (.cells cs t (0, 0))) (hu : P.underlying ty = some d) (hd : d.isRow = true) {n : Nat} (hi : (P.info? ty).map (·.size) = some n) (hn : cs.size = n) : (results fn tmps).run P w = .ok (.agg cs) w := by
  have hl := run_loadVar_mid (P := P) w b 0 ty cs.toList d (rng_blk hb) hu hd (by rw [hi, ← hn]; simp)
  simp only [Array.toArray_toList] at hl
  have hp' : tmps[p]?.getD undef = .pointer (some ⟨b, 0, none⟩) := by simpa using hp
  simp [results, h, hp', asAddr, hl]
theorem one17 {v0 v1 v2 v3 v4 v5 v6 v7 v8 v9 v10 v11 v12 v13 v14 v15 v16 : Value} (h0 : v0.oneCell' = true) (h1 : v1.oneCell' = true) (h2 : v2.oneCell' = true) (h3 : v3.oneCell' = true) (h4 : v4.oneCell' = true) (h5 : v5.oneCell' = true) (h6 : v6.oneCell' = true) (h7 : v7.oneCell' = true) (h8 : v8.oneCell' = true) (h9 : v9.oneCell' = true) (h10 : v10.oneCell' = true) (h11 : v11.oneCell' = true) (h12 : v12.oneCell' = true) (h13 : v13.oneCell' = true) (h14 : v14.oneCell' = true) (h15 : v15.oneCell' = true) (h16 : v16.oneCell' = true) : (#[v0, v1, v2, v3, v4, v5, v6, v7, v8, v9, v10, v11, v12, v13, v14, v15, v16] : Array Value).all (·.oneCell') = true := by simp [h0, h1, h2, h3, h4, h5, h6, h7, h8, h9, h10, h11, h12, h13, h14, h15, h16]
theorem blk_new1 (w : World) (o1 o2 : Obj) : ((w.alloc o1).alloc o2).heap[w.heap.size + 1]? = some o2 := by
  have h := blk_new (w.alloc o1) o2
  rwa [show (w.alloc o1).heap.size = w.heap.size + 1 by simp] at h
end Go.Proofs.YtflnjlbafchnaaaGreatDoor

/-
  Cells: swapCommand, Next (the program).
-/
namespace Go.Proofs.YtflnjlbafchnaaaGreatDoor
open Go.RowKit

theorem gput4 {w : World} {R : Nat} {t : TypeId} {p0 p1 p2 p3 x0 x1 x2 x3 : Value} (h : w.heap[R]? = some (.cells #[p0, p1, p2, p3] t (0, 0))) : ((((w.setCell ⟨R, 0, none⟩ x0).setCell ⟨R, 1, none⟩ x1).setCell ⟨R, 2, none⟩ x2).setCell ⟨R, 3, none⟩ x3).heap[R]? = some (.cells #[x0, x1, x2, x3] t (0, 0)) := by
  have h0 := blk_set h 0 x0
  have h1 := blk_set h0 1 x1
  have h2 := blk_set h1 2 x2
  have h3 := blk_set h2 3 x3
  simpa using h3
set_option maxRecDepth 100000 in
set_option maxHeartbeats 4000000 in
theorem cswap_any (k : List UInt8) (c : Ce) (m : Int) (w : World) (hk : k.length ≤ 1000) (hc : c.Ok) (hL : LW w) :
    Calls Tryz.prog 78 #[.string (bs k), ceV c, .int .i64 m] w fun e w' => e = .returned (cdV (swapC (cKey k) (ceTxt c) m)) ∧ Kept Nil w w' := by
  obtain ⟨W, hW⟩ : ∃ W, W = (w.alloc (.cells #[.string (bs c.v), .int .i64 c.n, .int .i64 c.s, .int .i64 c.h, .int .i64 c.g] 131)).alloc (.cells #[.int .i64 0, .string ⟨#[]⟩, .string ⟨#[]⟩, .int .i64 0] 31) := ⟨_, rfl⟩
  obtain ⟨R, HRe⟩ : ∃ A, Hid (A = w.heap.size + 1) := ⟨_, rfl⟩
  obtain ⟨A, HAe⟩ : ∃ A, Hid (A = w.heap.size) := ⟨_, rfl⟩
  have KW : Hid (Kept Nil w W) := by rw [hW]; exact ((Kept.refl _ _).alloc _).alloc _
  have HA : Hid (CeAt W A c) := by rw [hW, HAe.out]; exact blk_past (blk_new _ _) _
  have HR : Hid (W.heap[R]? = some (.cells #[.int .i64 0, .string ⟨#[]⟩, .string ⟨#[]⟩, .int .i64 0] 31 (0, 0))) := by rw [hW, HRe.out]; exact blk_new1 _ _ _
  have HRw : Hid (w.heap.size ≤ R) := by show _ ≤ _; rw [HRe.out]; omega
  have HLW : Hid (LW W) := hL.kept KW.out
  have CK := fun X => cellKey_any k (by omega) X
  have TX := fun (X : World) (kX : Kept Nil W X) => text_any c X hc (HLW.out.kept kX)
  unfold ceV at TX
  obtain ⟨t, Ht⟩ : ∃ t, Hid (t = ceTxt c) := ⟨_, rfl⟩
  obtain ⟨y, Hy⟩ : ∃ t, Hid (t = cKey k) := ⟨_, rfl⟩
  rw [← Ht.out] at TX ⊢
  rw [← Hy.out]
  have CK' : ∀ X, Calls Tryz.prog 122 #[.string (bs k)] X fun e w' => e = .returned (.string (bs y)) ∧ w' = X := fun X => by rw [Hy.out]; exact CK X
  clear CK hL
  have a0 : W.cell? ⟨A, 0, none⟩ = some (.string (bs c.v)) := blk_at HA.out 0 rfl
  have a1 : W.cell? ⟨A, 1, none⟩ = some (.int .i64 c.n) := blk_at HA.out 1 rfl
  have a2 : W.cell? ⟨A, 2, none⟩ = some (.int .i64 c.s) := blk_at HA.out 2 rfl
  have a3 : W.cell? ⟨A, 3, none⟩ = some (.int .i64 c.h) := blk_at HA.out 3 rfl
  have a4 : W.cell? ⟨A, 4, none⟩ = some (.int .i64 c.g) := blk_at HA.out 4 rfl
  have hlA : A < W.heap.size := lt_of_block HA.out
  have hlR : R < W.heap.size := lt_of_block HR.out
  unfold ceV
  go_enter Tryz.func78, Tryz.ntmps78
  go_upto_region 1 with fail
  rw [← hW, ← HRe.out, ← HAe.out]
  clear hW
  go_region_with (first | (go_at_call 122; go_must (go_fit (CK' _)); rintro _ wq ⟨rfl, rfl⟩) | (go_at_call 123; go_must (go_fit (TX _ (by repeat (first | exact Kept.refl _ _ | refine Kept.drew ?_)))); rintro _ wa ⟨rfl, ka⟩; have Ka : Hid (Kept Nil W wa) := Kept.trans (by repeat (first | exact Kept.refl _ _ | refine Kept.drew ?_)) ka; have HRa : Hid (wa.heap[R]? = some (.cells #[.int .i64 0, .string ⟨#[]⟩, .string ⟨#[]⟩, .int .i64 0] 31 (0, 0))) := Ka.out.block _ _ HR.out (fun x => x); clear ka; have n0 : wa.cell? ⟨R, 0, none⟩ = some (.int .i64 0) := blk_at HRa.out 0 rfl; have o0 := blk_free HRa.out 0; have n1 : wa.cell? ⟨R, 1, none⟩ = some (.string ⟨#[]⟩) := blk_at HRa.out 1 rfl; have o1 := blk_free HRa.out 1; have n2 : wa.cell? ⟨R, 2, none⟩ = some (.string ⟨#[]⟩) := blk_at HRa.out 2 rfl; have o2 := blk_free HRa.out 2; have n3 : wa.cell? ⟨R, 3, none⟩ = some (.int .i64 0) := blk_at HRa.out 3 rfl; have o3 := blk_free HRa.out 3))
  all_goals
    obtain ⟨Y, hY⟩ : ∃ Y, Y = (((wa.setCell ⟨R, 0, none⟩ (.int .i64 4)).setCell ⟨R, 1, none⟩ (.string (bs y))).setCell ⟨R, 2, none⟩ (.string (bs t))).setCell ⟨R, 3, none⟩ (.int .i64 m) := ⟨_, rfl⟩
    have HY : Hid (Y.heap[R]? = some (.cells #[.int .i64 4, .string (bs y), .string (bs t), .int .i64 m] 31 (0, 0)) ∧ Kept Nil w Y) := by rw [hY]; exact ⟨gput4 HRa.out, ((((KW.out.trans Ka.out).setNew (p := ⟨R, 0, none⟩) HRw.out _).setNew (p := ⟨R, 1, none⟩) HRw.out _).setNew (p := ⟨R, 2, none⟩) HRw.out _).setNew (p := ⟨R, 3, none⟩) HRw.out _⟩
    go_wp2
    rw [← hY]
    have j0 := blk_at HY.out.1 0 rfl
    have j1 := blk_at HY.out.1 1 rfl
    have j2 := blk_at HY.out.1 2 rfl
    have j3 := blk_at HY.out.1 3 rfl
    exact bodyPost_ret (v := cdV (swapC y t m)) (by simp [results, Tryz.results78, go_sem, j0, j1, j2, j3, cdV, swapC]) rfl ⟨rfl, HY.out.2⟩
end Go.Proofs.YtflnjlbafchnaaaGreatDoor
