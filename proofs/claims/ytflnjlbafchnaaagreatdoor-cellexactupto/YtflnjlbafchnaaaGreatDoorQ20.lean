/-
  Joined: WCx2.
-/
import Derived.Test.YtflnjlbafchnaaaGreatDoorQ18
import Derived.Test.YtflnjlbafchnaaaGreatDoorQ19
import Derived.BigQuiet
import Derived.BigRegion
/-
  Cells: the document's job in memory; ends, Status, writes (the document's).
-/
namespace Go.Proofs.YtflnjlbafchnaaaGreatDoor
open Go.RowKit

def JdAt (w : World) (b : Nat) (j : Jb) (K : Jk) : Prop := w.heap[b]? = some (.cells #[.int .i64 j.at', .int .i64 j.tg, .int .i64 j.kd, .string (bs j.k), .string (bs j.v), .int .i64 j.m, .int .i64 ((j.ph : Int) + 1), .int .i64 j.sn.s, .int .i64 j.sn.h, .int .i64 j.sn.g, .int .i64 j.sn.n, .string (bs j.sn.v), .int .i64 j.nx.s, .int .i64 j.nx.h, .int .i64 j.nx.g, .int .i64 j.nx.n, .string (bs j.nx.v), .int .i64 j.sv, .int .i64 j.sp, .bool j.ow, .int .i64 j.st, .int .i64 j.rs.kd, .string (bs j.rs.v), .int .i64 j.rs.n, .slice K.ro j.rs.ks.length K.rc, .int .i64 j.re.kd, .string (bs j.re.v), .int .i64 j.re.n, .slice K.eo j.re.ks.length K.ec] 142 (0, 0))
theorem JdAt.kept {w w' : World} {b : Nat} {j : Jb} {K : Jk} (h : JdAt w b j K) (k : Kept Nil w w') : JdAt w' b j K := k.block _ _ h (fun x => x)
theorem JdAt.keptX {X : Nat → Obj → Prop} {w w' : World} {b : Nat} {j : Jb} {K : Jk} (h : JdAt w b j K) (k : Kept X w w') (hX : ∀ o, ¬ X b o) : JdAt w' b j K := k.block _ _ h (hX _)
theorem JdAt.drew {w : World} {b : Nat} {j : Jb} {K : Jk} (h : JdAt w b j K) : JdAt w.drew b j K := h
theorem JdAt.s0 {w : World} {b : Nat} {j : Jb} {K : Jk} (h : JdAt w b j K) (x : Nat) : JdAt (w.setCell ⟨b, 0, none⟩ (.int .i64 x)) b { j with at' := x } K := blk_set h 0 _
theorem JdAt.s6 {w : World} {b : Nat} {j : Jb} {K : Jk} (h : JdAt w b j K) (x : Nat) : JdAt (w.setCell ⟨b, 6, none⟩ (.int .i64 ((x : Int) + 1))) b { j with ph := x } K := blk_set h 6 _
theorem JdAt.s7 {w : World} {b : Nat} {j : Jb} {K : Jk} (h : JdAt w b j K) (x : Nat) : JdAt (w.setCell ⟨b, 7, none⟩ (.int .i64 x)) b { j with sn := { j.sn with s := x } } K := blk_set h 7 _
theorem JdAt.s8 {w : World} {b : Nat} {j : Jb} {K : Jk} (h : JdAt w b j K) (x : Nat) : JdAt (w.setCell ⟨b, 8, none⟩ (.int .i64 x)) b { j with sn := { j.sn with h := x } } K := blk_set h 8 _
theorem JdAt.s9 {w : World} {b : Nat} {j : Jb} {K : Jk} (h : JdAt w b j K) (x : Nat) : JdAt (w.setCell ⟨b, 9, none⟩ (.int .i64 x)) b { j with sn := { j.sn with g := x } } K := blk_set h 9 _
theorem JdAt.s10 {w : World} {b : Nat} {j : Jb} {K : Jk} (h : JdAt w b j K) (x : Nat) : JdAt (w.setCell ⟨b, 10, none⟩ (.int .i64 x)) b { j with sn := { j.sn with n := x } } K := blk_set h 10 _
theorem JdAt.s11 {w : World} {b : Nat} {j : Jb} {K : Jk} (h : JdAt w b j K) (x : List UInt8) : JdAt (w.setCell ⟨b, 11, none⟩ (.string (bs x))) b { j with sn := { j.sn with v := x } } K := blk_set h 11 _
theorem JdAt.s12 {w : World} {b : Nat} {j : Jb} {K : Jk} (h : JdAt w b j K) (x : Nat) : JdAt (w.setCell ⟨b, 12, none⟩ (.int .i64 x)) b { j with nx := { j.nx with s := x } } K := blk_set h 12 _
theorem JdAt.s13 {w : World} {b : Nat} {j : Jb} {K : Jk} (h : JdAt w b j K) (x : Nat) : JdAt (w.setCell ⟨b, 13, none⟩ (.int .i64 x)) b { j with nx := { j.nx with h := x } } K := blk_set h 13 _
theorem JdAt.s14 {w : World} {b : Nat} {j : Jb} {K : Jk} (h : JdAt w b j K) (x : Nat) : JdAt (w.setCell ⟨b, 14, none⟩ (.int .i64 x)) b { j with nx := { j.nx with g := x } } K := blk_set h 14 _
theorem JdAt.s15 {w : World} {b : Nat} {j : Jb} {K : Jk} (h : JdAt w b j K) (x : Nat) : JdAt (w.setCell ⟨b, 15, none⟩ (.int .i64 x)) b { j with nx := { j.nx with n := x } } K := blk_set h 15 _
theorem JdAt.s16 {w : World} {b : Nat} {j : Jb} {K : Jk} (h : JdAt w b j K) (x : List UInt8) : JdAt (w.setCell ⟨b, 16, none⟩ (.string (bs x))) b { j with nx := { j.nx with v := x } } K := blk_set h 16 _
theorem JdAt.s17 {w : World} {b : Nat} {j : Jb} {K : Jk} (h : JdAt w b j K) (x : Int) : JdAt (w.setCell ⟨b, 17, none⟩ (.int .i64 x)) b { j with sv := x } K := blk_set h 17 _
theorem JdAt.s18 {w : World} {b : Nat} {j : Jb} {K : Jk} (h : JdAt w b j K) (x : Int) : JdAt (w.setCell ⟨b, 18, none⟩ (.int .i64 x)) b { j with sp := x } K := blk_set h 18 _
theorem JdAt.s19 {w : World} {b : Nat} {j : Jb} {K : Jk} (h : JdAt w b j K) (x : Bool) : JdAt (w.setCell ⟨b, 19, none⟩ (.bool x)) b { j with ow := x } K := blk_set h 19 _
theorem JdAt.s20 {w : World} {b : Nat} {j : Jb} {K : Jk} (h : JdAt w b j K) (x : Nat) : JdAt (w.setCell ⟨b, 20, none⟩ (.int .i64 x)) b { j with st := x } K := blk_set h 20 _
theorem JdAt.s21 {w : World} {b : Nat} {j : Jb} {K : Jk} (h : JdAt w b j K) (x : Int) : JdAt (w.setCell ⟨b, 21, none⟩ (.int .i64 x)) b { j with rs := { j.rs with kd := x } } K := blk_set h 21 _
theorem JdAt.s22 {w : World} {b : Nat} {j : Jb} {K : Jk} (h : JdAt w b j K) (x : List UInt8) : JdAt (w.setCell ⟨b, 22, none⟩ (.string (bs x))) b { j with rs := { j.rs with v := x } } K := blk_set h 22 _
theorem JdAt.s23 {w : World} {b : Nat} {j : Jb} {K : Jk} (h : JdAt w b j K) (x : Int) : JdAt (w.setCell ⟨b, 23, none⟩ (.int .i64 x)) b { j with rs := { j.rs with n := x } } K := blk_set h 23 _
theorem JdAt.s24 {w : World} {b : Nat} {j : Jb} {K : Jk} (h : JdAt w b j K) (o : Option Addr) (c : Nat) (ks : List (List UInt8)) : JdAt (w.setCell ⟨b, 24, none⟩ (.slice o ks.length c)) b { j with rs := { j.rs with ks := ks } } { K with ro := o, rc := c } := blk_set h 24 _
theorem JdAt.rs4 {w : World} {b : Nat} {j : Jb} {K : Jk} (h : JdAt w b j K) (r : Rr) (ko : Option Addr) (kc : Nat) : JdAt ((((w.setCell ⟨b, 21, none⟩ (.int .i64 r.kd)).setCell ⟨b, 22, none⟩ (.string (bs r.v))).setCell ⟨b, 23, none⟩ (.int .i64 r.n)).setCell ⟨b, 24, none⟩ (.slice ko r.ks.length kc)) b { j with rs := r } { K with ro := ko, rc := kc } := by
  have h0 := h.s21 r.kd
  have h1 := h0.s22 r.v
  have h2 := h1.s23 r.n
  have h3 := h2.s24 ko kc r.ks
  exact h3
theorem JdAt.s25 {w : World} {b : Nat} {j : Jb} {K : Jk} (h : JdAt w b j K) (x : Int) : JdAt (w.setCell ⟨b, 25, none⟩ (.int .i64 x)) b { j with re := { j.re with kd := x } } K := blk_set h 25 _
theorem JdAt.s26 {w : World} {b : Nat} {j : Jb} {K : Jk} (h : JdAt w b j K) (x : List UInt8) : JdAt (w.setCell ⟨b, 26, none⟩ (.string (bs x))) b { j with re := { j.re with v := x } } K := blk_set h 26 _
theorem JdAt.s27 {w : World} {b : Nat} {j : Jb} {K : Jk} (h : JdAt w b j K) (x : Int) : JdAt (w.setCell ⟨b, 27, none⟩ (.int .i64 x)) b { j with re := { j.re with n := x } } K := blk_set h 27 _
theorem JdAt.s28 {w : World} {b : Nat} {j : Jb} {K : Jk} (h : JdAt w b j K) (o : Option Addr) (c : Nat) (ks : List (List UInt8)) : JdAt (w.setCell ⟨b, 28, none⟩ (.slice o ks.length c)) b { j with re := { j.re with ks := ks } } { K with eo := o, ec := c } := blk_set h 28 _
theorem JdAt.re4 {w : World} {b : Nat} {j : Jb} {K : Jk} (h : JdAt w b j K) (r : Rr) (ko : Option Addr) (kc : Nat) : JdAt ((((w.setCell ⟨b, 25, none⟩ (.int .i64 r.kd)).setCell ⟨b, 26, none⟩ (.string (bs r.v))).setCell ⟨b, 27, none⟩ (.int .i64 r.n)).setCell ⟨b, 28, none⟩ (.slice ko r.ks.length kc)) b { j with re := r } { K with eo := ko, ec := kc } := by
  have h0 := h.s25 r.kd
  have h1 := h0.s26 r.v
  have h2 := h1.s27 r.n
  have h3 := h2.s28 ko kc r.ks
  exact h3
theorem JdAt.sn5 {w : World} {b : Nat} {j : Jb} {K : Jk} (h : JdAt w b j K) (c : Ce) : JdAt (((((w.setCell ⟨b, 7, none⟩ (.int .i64 c.s)).setCell ⟨b, 8, none⟩ (.int .i64 c.h)).setCell ⟨b, 9, none⟩ (.int .i64 c.g)).setCell ⟨b, 10, none⟩ (.int .i64 c.n)).setCell ⟨b, 11, none⟩ (.string (bs c.v))) b { j with sn := c } K := by
  have h0 := h.s7 c.s
  have h1 := h0.s8 c.h
  have h2 := h1.s9 c.g
  have h3 := h2.s10 c.n
  have h4 := h3.s11 c.v
  exact h4
theorem JdAt.nx5 {w : World} {b : Nat} {j : Jb} {K : Jk} (h : JdAt w b j K) (c : Ce) : JdAt (((((w.setCell ⟨b, 12, none⟩ (.int .i64 c.s)).setCell ⟨b, 13, none⟩ (.int .i64 c.h)).setCell ⟨b, 14, none⟩ (.int .i64 c.g)).setCell ⟨b, 15, none⟩ (.int .i64 c.n)).setCell ⟨b, 16, none⟩ (.string (bs c.v))) b { j with nx := c } K := by
  have h0 := h.s12 c.s
  have h1 := h0.s13 c.h
  have h2 := h1.s14 c.g
  have h3 := h2.s15 c.n
  have h4 := h3.s16 c.v
  exact h4
def JdPost (w : World) (b : Nat) (j : Jb) (e : Ending) (w' : World) : Prop := e = .returned (.tuple #[]) ∧ (∃ K, JdAt w' b j K) ∧ Kept (One b) w w'
set_option maxRecDepth 100000 in
set_option maxHeartbeats 4000000 in
theorem jends_any (w : World) (b : Nat) (j : Jb) (K : Jk) (h : JdAt w b j K) (r : Rr) (ko : Option Addr) (kc : Nat) :
    Calls Tryz.prog 94 #[.pointer (some ⟨b, 0, none⟩), rrV r ko kc] w (JdPost w b (j.fin r)) := by
  obtain ⟨W, hW⟩ : ∃ W, W = w.alloc (.cells #[.int .i64 r.kd, .string (bs r.v), .int .i64 r.n, .slice ko r.ks.length kc] 50) := ⟨_, rfl⟩
  obtain ⟨A, HAe⟩ : ∃ A, Hid (A = w.heap.size) := ⟨_, rfl⟩
  have KW : Hid (Kept Nil w W) := by rw [hW]; exact (Kept.refl _ _).alloc _
  have HA : Hid (W.heap[A]? = some (.cells #[.int .i64 r.kd, .string (bs r.v), .int .i64 r.n, .slice ko r.ks.length kc] 50 (0, 0))) := by rw [hW, HAe.out]; exact blk_new _ _
  have HJ : Hid (JdAt W b j K) := h.kept KW.out
  have hlb : b < W.heap.size := lt_of_block HJ.out
  have hlA : A < W.heap.size := lt_of_block HA.out
  have hbA : b ≠ A := by rw [HAe.out]; have := lt_of_block h; omega
  have hAb : A ≠ b := fun e => hbA e.symm
  have a0 : W.cell? ⟨A, 0, none⟩ = some (.int .i64 r.kd) := blk_at HA.out 0 rfl
  have a1 : W.cell? ⟨A, 1, none⟩ = some (.string (bs r.v)) := blk_at HA.out 1 rfl
  have a2 : W.cell? ⟨A, 2, none⟩ = some (.int .i64 r.n) := blk_at HA.out 2 rfl
  have a3 : W.cell? ⟨A, 3, none⟩ = some (.slice ko r.ks.length kc) := blk_at HA.out 3 rfl
  have q6 : W.cell? ⟨b, 6, none⟩ = some (.int .i64 ((j.ph : Int) + 1)) := blk_at HJ.out 6 rfl
  have f6 : W.frozen? ⟨b, 6, none⟩ = false := blk_free HJ.out 6
  have q20 : W.cell? ⟨b, 20, none⟩ = some (.int .i64 j.st) := blk_at HJ.out 20 rfl
  have f20 : W.frozen? ⟨b, 20, none⟩ = false := blk_free HJ.out 20
  have q21 : W.cell? ⟨b, 21, none⟩ = some (.int .i64 j.rs.kd) := blk_at HJ.out 21 rfl
  have f21 : W.frozen? ⟨b, 21, none⟩ = false := blk_free HJ.out 21
  have q22 : W.cell? ⟨b, 22, none⟩ = some (.string (bs j.rs.v)) := blk_at HJ.out 22 rfl
  have f22 : W.frozen? ⟨b, 22, none⟩ = false := blk_free HJ.out 22
  have q23 : W.cell? ⟨b, 23, none⟩ = some (.int .i64 j.rs.n) := blk_at HJ.out 23 rfl
  have f23 : W.frozen? ⟨b, 23, none⟩ = false := blk_free HJ.out 23
  have q24 : W.cell? ⟨b, 24, none⟩ = some (.slice K.ro j.rs.ks.length K.rc) := blk_at HJ.out 24 rfl
  have f24 : W.frozen? ⟨b, 24, none⟩ = false := blk_free HJ.out 24
  obtain ⟨Y, hY⟩ : ∃ Y, Y = ((((((W.setCell ⟨b, 6, none⟩ (.int .i64 8)).setCell ⟨b, 20, none⟩ (.int .i64 2)).setCell ⟨b, 21, none⟩ (.int .i64 r.kd)).setCell ⟨b, 22, none⟩ (.string (bs r.v))).setCell ⟨b, 23, none⟩ (.int .i64 r.n)).setCell ⟨b, 24, none⟩ (.slice ko r.ks.length kc)) := ⟨_, rfl⟩
  have HY : Hid ((∃ K, JdAt Y b (j.fin r) K) ∧ Kept (One b) w Y) := by rw [hY]; exact ⟨⟨_, ((HJ.out.s6 7).s20 2).rs4 r ko kc⟩, (((((((kept_oneN KW.out).setCell (p := ⟨b, 6, none⟩) (fun _ => rfl) _).setCell (p := ⟨b, 20, none⟩) (fun _ => rfl) _).setCell (p := ⟨b, 21, none⟩) (fun _ => rfl) _).setCell (p := ⟨b, 22, none⟩) (fun _ => rfl) _).setCell (p := ⟨b, 23, none⟩) (fun _ => rfl) _).setCell (p := ⟨b, 24, none⟩) (fun _ => rfl) _)⟩
  obtain ⟨u, Hu⟩ : ∃ u, Hid (u = j.fin r) := ⟨_, rfl⟩
  rw [← Hu.out] at HY ⊢
  clear h Hu
  unfold rrV
  go_enter Tryz.func94, Tryz.ntmps94
  go_upto_region 1 with fail
  rw [← hW, ← HAe.out]
  clear hW
  go_wp2
  rw [← hY]
  go_end0
  exact ⟨rfl, HY.out⟩
set_option maxRecDepth 100000 in
set_option maxHeartbeats 4000000 in
theorem jwrites_any (w : World) (b : Nat) (j : Jb) (K : Jk) (h : JdAt w b j K) (r : Rr) (ko : Option Addr) (kc : Nat) :
    Calls Tryz.prog 93 #[.pointer (some ⟨b, 0, none⟩), rrV r ko kc] w (JdPost w b (j.hasWritten r)) := by
  obtain ⟨W, hW⟩ : ∃ W, W = w.alloc (.cells #[.int .i64 r.kd, .string (bs r.v), .int .i64 r.n, .slice ko r.ks.length kc] 50) := ⟨_, rfl⟩
  obtain ⟨A, HAe⟩ : ∃ A, Hid (A = w.heap.size) := ⟨_, rfl⟩
  have KW : Hid (Kept Nil w W) := by rw [hW]; exact (Kept.refl _ _).alloc _
  have HA : Hid (W.heap[A]? = some (.cells #[.int .i64 r.kd, .string (bs r.v), .int .i64 r.n, .slice ko r.ks.length kc] 50 (0, 0))) := by rw [hW, HAe.out]; exact blk_new _ _
  have HJ : Hid (JdAt W b j K) := h.kept KW.out
  have hlb : b < W.heap.size := lt_of_block HJ.out
  have hlA : A < W.heap.size := lt_of_block HA.out
  have hbA : b ≠ A := by rw [HAe.out]; have := lt_of_block h; omega
  have hAb : A ≠ b := fun e => hbA e.symm
  have a0 : W.cell? ⟨A, 0, none⟩ = some (.int .i64 r.kd) := blk_at HA.out 0 rfl
  have a1 : W.cell? ⟨A, 1, none⟩ = some (.string (bs r.v)) := blk_at HA.out 1 rfl
  have a2 : W.cell? ⟨A, 2, none⟩ = some (.int .i64 r.n) := blk_at HA.out 2 rfl
  have a3 : W.cell? ⟨A, 3, none⟩ = some (.slice ko r.ks.length kc) := blk_at HA.out 3 rfl
  have q1 : W.cell? ⟨b, 1, none⟩ = some (.int .i64 j.tg) := blk_at HJ.out 1 rfl
  have q6 : W.cell? ⟨b, 6, none⟩ = some (.int .i64 ((j.ph : Int) + 1)) := blk_at HJ.out 6 rfl
  have q7 : W.cell? ⟨b, 7, none⟩ = some (.int .i64 j.sn.s) := blk_at HJ.out 7 rfl
  have q8 : W.cell? ⟨b, 8, none⟩ = some (.int .i64 j.sn.h) := blk_at HJ.out 8 rfl
  have q9 : W.cell? ⟨b, 9, none⟩ = some (.int .i64 j.sn.g) := blk_at HJ.out 9 rfl
  have q10 : W.cell? ⟨b, 10, none⟩ = some (.int .i64 j.sn.n) := blk_at HJ.out 10 rfl
  have q11 : W.cell? ⟨b, 11, none⟩ = some (.string (bs j.sn.v)) := blk_at HJ.out 11 rfl
  have q12 : W.cell? ⟨b, 12, none⟩ = some (.int .i64 j.nx.s) := blk_at HJ.out 12 rfl
  have q13 : W.cell? ⟨b, 13, none⟩ = some (.int .i64 j.nx.h) := blk_at HJ.out 13 rfl
  have q14 : W.cell? ⟨b, 14, none⟩ = some (.int .i64 j.nx.g) := blk_at HJ.out 14 rfl
  have q15 : W.cell? ⟨b, 15, none⟩ = some (.int .i64 j.nx.n) := blk_at HJ.out 15 rfl
  have q16 : W.cell? ⟨b, 16, none⟩ = some (.string (bs j.nx.v)) := blk_at HJ.out 16 rfl
  have q17 : W.cell? ⟨b, 17, none⟩ = some (.int .i64 j.sv) := blk_at HJ.out 17 rfl
  have q19 : W.cell? ⟨b, 19, none⟩ = some (.bool j.ow) := blk_at HJ.out 19 rfl
  have q20 : W.cell? ⟨b, 20, none⟩ = some (.int .i64 j.st) := blk_at HJ.out 20 rfl
  have q25 : W.cell? ⟨b, 25, none⟩ = some (.int .i64 j.re.kd) := blk_at HJ.out 25 rfl
  have q26 : W.cell? ⟨b, 26, none⟩ = some (.string (bs j.re.v)) := blk_at HJ.out 26 rfl
  have q27 : W.cell? ⟨b, 27, none⟩ = some (.int .i64 j.re.n) := blk_at HJ.out 27 rfl
  have q28 : W.cell? ⟨b, 28, none⟩ = some (.slice K.eo j.re.ks.length K.ec) := blk_at HJ.out 28 rfl
  have f6 : W.frozen? ⟨b, 6, none⟩ = false := blk_free HJ.out 6
  have f7 : W.frozen? ⟨b, 7, none⟩ = false := blk_free HJ.out 7
  have f8 : W.frozen? ⟨b, 8, none⟩ = false := blk_free HJ.out 8
  have f9 : W.frozen? ⟨b, 9, none⟩ = false := blk_free HJ.out 9
  have f10 : W.frozen? ⟨b, 10, none⟩ = false := blk_free HJ.out 10
  have f11 : W.frozen? ⟨b, 11, none⟩ = false := blk_free HJ.out 11
  have f17 : W.frozen? ⟨b, 17, none⟩ = false := blk_free HJ.out 17
  have f19 : W.frozen? ⟨b, 19, none⟩ = false := blk_free HJ.out 19
  have f20 : W.frozen? ⟨b, 20, none⟩ = false := blk_free HJ.out 20
  have EN1 : Calls Tryz.prog 94 #[.pointer (some ⟨b, 0, none⟩), .agg #[.int .i64 j.re.kd, .string (bs j.re.v), .int .i64 j.re.n, .slice K.eo j.re.ks.length K.ec]] W (JdPost W b (j.fin j.re)) := jends_any W b j K HJ.out j.re K.eo K.ec
  have EN4 : Calls Tryz.prog 94 #[.pointer (some ⟨b, 0, none⟩), .agg #[.int .i64 4, .string ⟨#[]⟩, .int .i64 0, .slice none 0 0]] W (JdPost W b (j.finK 4)) := jends_any W b j K HJ.out ⟨4, [], 0, []⟩ none 0
  obtain ⟨u, Hu⟩ : ∃ u, Hid (u = j.hasWritten r) := ⟨_, rfl⟩
  rw [← Hu.out]
  clear h
  unfold rrV
  by_cases c1 : r.kd = 1
  · have hc1 : (r.kd == 1) = true := by simp [c1]
    by_cases c2 : 0 < j.tg
    · have hc2 : (0 : Int) < j.tg := by omega
      have HU2 : Hid (u = { j with sn := j.nx, sv := r.n, ow := true, ph := 4 }) := by show _ = _; rw [Hu.out]; exact if_pos ⟨c1, c2⟩
      obtain ⟨Y, hY⟩ : ∃ Y, Y = ((((((((W.setCell ⟨b, 7, none⟩ (.int .i64 j.nx.s)).setCell ⟨b, 8, none⟩ (.int .i64 j.nx.h)).setCell ⟨b, 9, none⟩ (.int .i64 j.nx.g)).setCell ⟨b, 10, none⟩ (.int .i64 j.nx.n)).setCell ⟨b, 11, none⟩ (.string (bs j.nx.v))).setCell ⟨b, 17, none⟩ (.int .i64 r.n)).setCell ⟨b, 19, none⟩ (.bool true)).setCell ⟨b, 6, none⟩ (.int .i64 5)) := ⟨_, rfl⟩
      have HY : Hid ((∃ K, JdAt Y b u K) ∧ Kept (One b) w Y) := by rw [hY, HU2.out]; exact ⟨⟨_, (((HJ.out.sn5 j.nx).s17 r.n).s19 true).s6 4⟩, (((((((((kept_oneN KW.out).setCell (p := ⟨b, 7, none⟩) (fun _ => rfl) _).setCell (p := ⟨b, 8, none⟩) (fun _ => rfl) _).setCell (p := ⟨b, 9, none⟩) (fun _ => rfl) _).setCell (p := ⟨b, 10, none⟩) (fun _ => rfl) _).setCell (p := ⟨b, 11, none⟩) (fun _ => rfl) _).setCell (p := ⟨b, 17, none⟩) (fun _ => rfl) _).setCell (p := ⟨b, 19, none⟩) (fun _ => rfl) _).setCell (p := ⟨b, 6, none⟩) (fun _ => rfl) _)⟩
      clear HU2 EN1 EN4 c1 c2
      go_enter Tryz.func93, Tryz.ntmps93
      go_upto_region 1 with fail
      rw [← hW, ← HAe.out]
      clear hW
      go_wp2
      rw [← hY]
      go_end0
      exact ⟨rfl, HY.out⟩
    · have hc2 : ¬ (0 : Int) < j.tg := by omega
      have HU2 : Hid (u = j.fin j.re) := by show _ = _; rw [Hu.out]; exact (if_neg (fun e => c2 e.2)).trans (if_pos c1)
      clear c1 c2
      go_enter Tryz.func93, Tryz.ntmps93
      go_upto_region 1 with fail
      rw [← hW, ← HAe.out]
      clear hW
      go_wp2_with fail
      go_fit EN1
      rintro _ w1 ⟨rfl, h1, k1⟩
      have HY : Hid ((∃ K, JdAt w1 b u K) ∧ Kept (One b) w w1) := ⟨by rw [HU2.out]; exact h1, (kept_oneN KW.out).trans k1⟩
      clear h1 k1 HU2 EN1 EN4
      go_wp2
      go_end0
      exact ⟨rfl, HY.out⟩
  · have hc1 : (r.kd == 1) = false := by simp [c1]
    by_cases c4 : r.kd = 4
    · have hc4 : (r.kd == 4) = true := by simp [c4]
      have HU2 : Hid (u = j.finK 4) := by show _ = _; rw [Hu.out]; exact (if_neg (fun e => c1 e.1)).trans ((if_neg c1).trans (if_pos c4))
      clear c1 c4
      go_enter Tryz.func93, Tryz.ntmps93
      go_upto_region 1 with fail
      rw [← hW, ← HAe.out]
      clear hW
      go_wp2_with fail
      go_fit EN4
      rintro _ w1 ⟨rfl, h1, k1⟩
      have HY : Hid ((∃ K, JdAt w1 b u K) ∧ Kept (One b) w w1) := ⟨by rw [HU2.out]; exact h1, (kept_oneN KW.out).trans k1⟩
      clear h1 k1 HU2 EN1 EN4
      go_wp2
      go_end0
      exact ⟨rfl, HY.out⟩
    · have hc4 : (r.kd == 4) = false := by simp [c4]
      by_cases c5 : 5 < r.kd
      · by_cases c2 : j.tg = 0
        · have hc2 : ((j.tg : Int) == 0) = true := by simp [c2]
          have HU2 : Hid (u = { j with st := 3, ph := 7 }) := by show _ = _; rw [Hu.out]; exact (if_neg (fun e => c1 e.1)).trans ((if_neg c1).trans ((if_neg c4).trans (if_pos ⟨c5, c2⟩)))
          obtain ⟨Y, hY⟩ : ∃ Y, Y = ((W.setCell ⟨b, 6, none⟩ (.int .i64 8)).setCell ⟨b, 20, none⟩ (.int .i64 3)) := ⟨_, rfl⟩
          have HY : Hid ((∃ K, JdAt Y b u K) ∧ Kept (One b) w Y) := by rw [hY, HU2.out]; exact ⟨⟨_, (HJ.out.s6 7).s20 3⟩, (((kept_oneN KW.out).setCell (p := ⟨b, 6, none⟩) (fun _ => rfl) _).setCell (p := ⟨b, 20, none⟩) (fun _ => rfl) _)⟩
          clear HU2 EN1 EN4 c1 c4 c2
          go_enter Tryz.func93, Tryz.ntmps93
          go_upto_region 1 with fail
          rw [← hW, ← HAe.out]
          clear hW
          go_wp2
          rw [← hY]
          go_end0
          exact ⟨rfl, HY.out⟩
        · have hc2 : ((j.tg : Int) == 0) = false := by simp [c2]
          have HU2 : Hid (u = { j with ph := 0 }) := by show _ = _; rw [Hu.out]; exact (if_neg (fun e => c1 e.1)).trans ((if_neg c1).trans ((if_neg c4).trans (if_neg (fun e => c2 e.2))))
          obtain ⟨Y, hY⟩ : ∃ Y, Y = (W.setCell ⟨b, 6, none⟩ (.int .i64 1)) := ⟨_, rfl⟩
          have HY : Hid ((∃ K, JdAt Y b u K) ∧ Kept (One b) w Y) := by rw [hY, HU2.out]; exact ⟨⟨_, HJ.out.s6 0⟩, ((kept_oneN KW.out).setCell (p := ⟨b, 6, none⟩) (fun _ => rfl) _)⟩
          clear HU2 EN1 EN4 c1 c4 c2
          go_enter Tryz.func93, Tryz.ntmps93
          go_upto_region 1 with fail
          rw [← hW, ← HAe.out]
          clear hW
          go_wp2
          rw [← hY]
          go_end0
          exact ⟨rfl, HY.out⟩
      · have c5' : ¬ (5 : Int) < r.kd := c5
        have HU2 : Hid (u = { j with ph := 0 }) := by show _ = _; rw [Hu.out]; exact (if_neg (fun e => c1 e.1)).trans ((if_neg c1).trans ((if_neg c4).trans (if_neg (fun e => c5 e.1))))
        obtain ⟨Y, hY⟩ : ∃ Y, Y = (W.setCell ⟨b, 6, none⟩ (.int .i64 1)) := ⟨_, rfl⟩
        have HY : Hid ((∃ K, JdAt Y b u K) ∧ Kept (One b) w Y) := by rw [hY, HU2.out]; exact ⟨⟨_, HJ.out.s6 0⟩, ((kept_oneN KW.out).setCell (p := ⟨b, 6, none⟩) (fun _ => rfl) _)⟩
        clear HU2 EN1 EN4 c1 c4 c5
        go_enter Tryz.func93, Tryz.ntmps93
        go_upto_region 1 with fail
        rw [← hW, ← HAe.out]
        clear hW
        go_wp2
        rw [← hY]
        go_end0
        exact ⟨rfl, HY.out⟩
end Go.Proofs.YtflnjlbafchnaaaGreatDoor
