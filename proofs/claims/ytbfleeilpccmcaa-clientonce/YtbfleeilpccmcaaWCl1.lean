/-
  A client in memory, and its small methods: turn, forget, request, Look, Done, Next, Tick.
-/
import Derived.Test.YtbfleeilpccmcaaWSx3
import Derived.Test.YtbfleeilpccmcaaWTabS
import Derived.Test.YtbfleeilpccmcaaWCmdR
namespace Go.Proofs.Ytbfleeilpccmcaa
open Go.RowKit

/-- A client. -/
structure Cl where
  nx : Nat
  pat : Int
  se : Int
  nu : Int
  wt : Bool
  si : Int
  la : Int
  ol : Int
  st : Int
  ck : Int
  ckey : List UInt8
  cval : List UInt8
  ci : Int
  rk : Int
  rval : List UInt8
  rver : Int
  ks : List (List UInt8)
/-- A client's cells: its nodes are n, and lie at an; its result's keys lie at ko. -/
def clV (c : Cl) (an : Option Addr) (n cn : Nat) (ko : Option Addr) (kc : Nat) : Array Value :=
  #[.slice an n cn, .int .i64 c.nx, .int .i64 c.pat, .int .i64 c.se, .int .i64 c.nu, .bool c.wt, .int .i64 c.si, .int .i64 c.la, .int .i64 c.ol, .int .i64 c.st, .int .i64 c.ck, .string (bs c.ckey), .string (bs c.cval), .int .i64 c.ci, .int .i64 c.rk, .string (bs c.rval), .int .i64 c.rver, .slice ko c.ks.length kc]
def ClAt (w : World) (b : Nat) (c : Cl) (an : Option Addr) (n cn : Nat) (ko : Option Addr) (kc : Nat) : Prop := w.heap[b]? = some (.cells (clV c an n cn ko kc) 63 (0, 0))

def turnC (c : Cl) (n : Nat) : Cl := { c with wt := false, nx := (c.nx + 1) % n }
def forgetC (c : Cl) : Cl := { c with wt := false, ol := c.la }
def goes (c : Cl) : Bool := decide (c.st = 1) && !c.wt
def nextC (c : Cl) : Cl := if goes c then { c with la := c.la + 1, wt := true, si := 0 } else c
def tickC (c : Cl) (n : Nat) : Cl := if c.wt then (if c.si + 1 = c.pat then turnC { c with si := c.si + 1 } n else { c with si := c.si + 1 }) else c
def doneC (c : Cl) : Cl := if c.st = 2 then { c with st := 0, rk := 0, rval := [], rver := 0, ks := [] } else c
/-- What is asked. -/
def reqV (c : Cl) : Array Value := if c.se = 0 then #[.int .i64 0, .int .i64 0, .int .i64 0, .string (bs []), .string (bs []), .int .i64 0, .int .i64 0] else #[.int .i64 c.se, .int .i64 (c.nu + 1), .int .i64 c.ck, .string (bs c.ckey), .string (bs c.cval), .int .i64 c.ci, .int .i64 0]
theorem ClAt.kept {w w' : World} {b n cn kc : Nat} {c : Cl} {an ko : Option Addr} (h : ClAt w b c an n cn ko kc) (k : Kept Nil w w') : ClAt w' b c an n cn ko kc := k.block _ _ h (fun x => x.elim)
theorem ClAt.past {w : World} {b n cn kc : Nat} {c : Cl} {an ko : Option Addr} (h : ClAt w b c an n cn ko kc) (o : Obj) : ClAt (w.alloc o) b c an n cn ko kc := blk_past h o

theorem ClAt.s1 {w : World} {b n cn kc : Nat} {c : Cl} {an ko : Option Addr} (h : ClAt w b c an n cn ko kc) (x : Nat) : ClAt (w.setCell ⟨b, 1, none⟩ (.int .i64 x)) b { c with nx := x } an n cn ko kc := blk_set h 1 _
theorem ClAt.s3 {w : World} {b n cn kc : Nat} {c : Cl} {an ko : Option Addr} (h : ClAt w b c an n cn ko kc) (x : Int) : ClAt (w.setCell ⟨b, 3, none⟩ (.int .i64 x)) b { c with se := x } an n cn ko kc := blk_set h 3 _
theorem ClAt.s4 {w : World} {b n cn kc : Nat} {c : Cl} {an ko : Option Addr} (h : ClAt w b c an n cn ko kc) (x : Int) : ClAt (w.setCell ⟨b, 4, none⟩ (.int .i64 x)) b { c with nu := x } an n cn ko kc := blk_set h 4 _
theorem ClAt.s5 {w : World} {b n cn kc : Nat} {c : Cl} {an ko : Option Addr} (h : ClAt w b c an n cn ko kc) (x : Bool) : ClAt (w.setCell ⟨b, 5, none⟩ (.bool x)) b { c with wt := x } an n cn ko kc := blk_set h 5 _
theorem ClAt.s6 {w : World} {b n cn kc : Nat} {c : Cl} {an ko : Option Addr} (h : ClAt w b c an n cn ko kc) (x : Int) : ClAt (w.setCell ⟨b, 6, none⟩ (.int .i64 x)) b { c with si := x } an n cn ko kc := blk_set h 6 _
theorem ClAt.s7 {w : World} {b n cn kc : Nat} {c : Cl} {an ko : Option Addr} (h : ClAt w b c an n cn ko kc) (x : Int) : ClAt (w.setCell ⟨b, 7, none⟩ (.int .i64 x)) b { c with la := x } an n cn ko kc := blk_set h 7 _
theorem ClAt.s8 {w : World} {b n cn kc : Nat} {c : Cl} {an ko : Option Addr} (h : ClAt w b c an n cn ko kc) (x : Int) : ClAt (w.setCell ⟨b, 8, none⟩ (.int .i64 x)) b { c with ol := x } an n cn ko kc := blk_set h 8 _
theorem ClAt.s9 {w : World} {b n cn kc : Nat} {c : Cl} {an ko : Option Addr} (h : ClAt w b c an n cn ko kc) (x : Int) : ClAt (w.setCell ⟨b, 9, none⟩ (.int .i64 x)) b { c with st := x } an n cn ko kc := blk_set h 9 _
theorem ClAt.s10 {w : World} {b n cn kc : Nat} {c : Cl} {an ko : Option Addr} (h : ClAt w b c an n cn ko kc) (x : Int) : ClAt (w.setCell ⟨b, 10, none⟩ (.int .i64 x)) b { c with ck := x } an n cn ko kc := blk_set h 10 _
theorem ClAt.s11 {w : World} {b n cn kc : Nat} {c : Cl} {an ko : Option Addr} (h : ClAt w b c an n cn ko kc) (x : List UInt8) : ClAt (w.setCell ⟨b, 11, none⟩ (.string (bs x))) b { c with ckey := x } an n cn ko kc := blk_set h 11 _
theorem ClAt.s12 {w : World} {b n cn kc : Nat} {c : Cl} {an ko : Option Addr} (h : ClAt w b c an n cn ko kc) (x : List UInt8) : ClAt (w.setCell ⟨b, 12, none⟩ (.string (bs x))) b { c with cval := x } an n cn ko kc := blk_set h 12 _
theorem ClAt.s13 {w : World} {b n cn kc : Nat} {c : Cl} {an ko : Option Addr} (h : ClAt w b c an n cn ko kc) (x : Int) : ClAt (w.setCell ⟨b, 13, none⟩ (.int .i64 x)) b { c with ci := x } an n cn ko kc := blk_set h 13 _
theorem ClAt.s14 {w : World} {b n cn kc : Nat} {c : Cl} {an ko : Option Addr} (h : ClAt w b c an n cn ko kc) (x : Int) : ClAt (w.setCell ⟨b, 14, none⟩ (.int .i64 x)) b { c with rk := x } an n cn ko kc := blk_set h 14 _
theorem ClAt.s15 {w : World} {b n cn kc : Nat} {c : Cl} {an ko : Option Addr} (h : ClAt w b c an n cn ko kc) (x : List UInt8) : ClAt (w.setCell ⟨b, 15, none⟩ (.string (bs x))) b { c with rval := x } an n cn ko kc := blk_set h 15 _
theorem ClAt.s16 {w : World} {b n cn kc : Nat} {c : Cl} {an ko : Option Addr} (h : ClAt w b c an n cn ko kc) (x : Int) : ClAt (w.setCell ⟨b, 16, none⟩ (.int .i64 x)) b { c with rver := x } an n cn ko kc := blk_set h 16 _
theorem ClAt.s17 {w : World} {b n cn kc : Nat} {c : Cl} {an ko : Option Addr} (h : ClAt w b c an n cn ko kc) (x : List (List UInt8)) (ko' : Option Addr) (kc' : Nat) : ClAt (w.setCell ⟨b, 17, none⟩ (.slice ko' x.length kc')) b { c with ks := x } an n cn ko' kc' := blk_set h 17 _
theorem ClAt.oth {w : World} {b n cn kc : Nat} {c : Cl} {an ko : Option Addr} (h : ClAt w b c an n cn ko kc) {a : Addr} (ha : b ≠ a.block) (u : Value) : ClAt (w.setCell a u) b c an n cn ko kc := blk_other h ha u
theorem ClAt.drew {w : World} {b n cn kc : Nat} {c : Cl} {an ko : Option Addr} (h : ClAt w b c an n cn ko kc) : ClAt w.drew b c an n cn ko kc := h
theorem put4 {w : World} {R : Nat} {t : TypeId} {p0 p1 p2 p3 x0 x1 x2 x3 : Value} (h : w.heap[R]? = some (.cells #[p0, p1, p2, p3] t (0, 0))) : ((((w.setCell ⟨R, 0, none⟩ x0).setCell ⟨R, 1, none⟩ x1).setCell ⟨R, 2, none⟩ x2).setCell ⟨R, 3, none⟩ x3).heap[R]? = some (.cells #[x0, x1, x2, x3] t (0, 0)) := by
  have h0 := blk_set h 0 x0
  have h1 := blk_set h0 1 x1
  have h2 := blk_set h1 2 x2
  have h3 := blk_set h2 3 x3
  simpa using h3
theorem put5 {w : World} {R : Nat} {t : TypeId} {p0 p1 p2 p3 p4 x0 x1 x2 x3 x4 : Value} (h : w.heap[R]? = some (.cells #[p0, p1, p2, p3, p4] t (0, 0))) : (((((w.setCell ⟨R, 0, none⟩ x0).setCell ⟨R, 1, none⟩ x1).setCell ⟨R, 2, none⟩ x2).setCell ⟨R, 3, none⟩ x3).setCell ⟨R, 4, none⟩ x4).heap[R]? = some (.cells #[x0, x1, x2, x3, x4] t (0, 0)) := by
  have h0 := blk_set h 0 x0
  have h1 := blk_set h0 1 x1
  have h2 := blk_set h1 2 x2
  have h3 := blk_set h2 3 x3
  have h4 := blk_set h3 4 x4
  simpa using h4
theorem put7 {w : World} {R : Nat} {t : TypeId} {p0 p1 p2 p3 p4 p5 p6 x0 x1 x2 x3 x4 x5 x6 : Value} (h : w.heap[R]? = some (.cells #[p0, p1, p2, p3, p4, p5, p6] t (0, 0))) : (((((((w.setCell ⟨R, 0, none⟩ x0).setCell ⟨R, 1, none⟩ x1).setCell ⟨R, 2, none⟩ x2).setCell ⟨R, 3, none⟩ x3).setCell ⟨R, 4, none⟩ x4).setCell ⟨R, 5, none⟩ x5).setCell ⟨R, 6, none⟩ x6).heap[R]? = some (.cells #[x0, x1, x2, x3, x4, x5, x6] t (0, 0)) := by
  have h0 := blk_set h 0 x0
  have h1 := blk_set h0 1 x1
  have h2 := blk_set h1 2 x2
  have h3 := blk_set h2 3 x3
  have h4 := blk_set h3 4 x4
  have h5 := blk_set h4 5 x5
  have h6 := blk_set h5 6 x6
  simpa using h6
theorem put9 {w : World} {R : Nat} {t : TypeId} {p0 p1 p2 p3 p4 p5 p6 p7 p8 x0 x1 x2 x3 x4 x5 x6 x7 x8 : Value} (h : w.heap[R]? = some (.cells #[p0, p1, p2, p3, p4, p5, p6, p7, p8] t (0, 0))) : (((((((((w.setCell ⟨R, 0, none⟩ x0).setCell ⟨R, 1, none⟩ x1).setCell ⟨R, 2, none⟩ x2).setCell ⟨R, 3, none⟩ x3).setCell ⟨R, 4, none⟩ x4).setCell ⟨R, 5, none⟩ x5).setCell ⟨R, 6, none⟩ x6).setCell ⟨R, 7, none⟩ x7).setCell ⟨R, 8, none⟩ x8).heap[R]? = some (.cells #[x0, x1, x2, x3, x4, x5, x6, x7, x8] t (0, 0)) := by
  have h0 := blk_set h 0 x0
  have h1 := blk_set h0 1 x1
  have h2 := blk_set h1 2 x2
  have h3 := blk_set h2 3 x3
  have h4 := blk_set h3 4 x4
  have h5 := blk_set h4 5 x5
  have h6 := blk_set h5 6 x6
  have h7 := blk_set h6 7 x7
  have h8 := blk_set h7 8 x8
  simpa using h8
theorem blk_drew {w : World} {b : Nat} {o : Obj} (h : w.heap[b]? = some o) : w.drew.heap[b]? = some o := h
theorem next_mod (x n : Nat) : (((x : Int) + 1) % n) = (((x + 1) % n : Nat) : Int) := by
  rw [Int.natCast_emod, Int.natCast_add]
  rfl

set_option maxRecDepth 100000 in
set_option maxHeartbeats 2000000 in
theorem turn_any (b n cn kc : Nat) (c : Cl) (an ko : Option Addr) (w : World) (h : ClAt w b c an n cn ko kc) (hx : c.nx < n) (hn : n ≤ 9) :
    Calls Try.prog 31 #[.pointer (some ⟨b, 0, none⟩)] w fun e w' => e = .returned (.tuple #[]) ∧ ClAt w' b (turnC c n) an n cn ko kc ∧ Kept (One b) w w' := by
  have q0 : w.cell? ⟨b, 0, none⟩ = some (.slice an n cn) := blk_at h 0 rfl
  have q1 : w.cell? ⟨b, 1, none⟩ = some (.int .i64 c.nx) := blk_at h 1 rfl
  have q5 : w.cell? ⟨b, 5, none⟩ = some (.bool c.wt) := blk_at h 5 rfl
  have f1 : w.frozen? ⟨b, 1, none⟩ = false := blk_free h 1
  have f5 : w.frozen? ⟨b, 5, none⟩ = false := blk_free h 5
  have hn0 : (n : Int) ≠ 0 := by omega
  have hn1 : (n : Int) ≤ 9 := by omega
  have hx1 : (c.nx : Int) < 9 := by omega
  have hx0 : (0 : Int) ≤ c.nx := by omega
  obtain ⟨Y, hY⟩ : ∃ Y, Y = ((w.setCell ⟨b, 5, none⟩ (.bool false)).setCell ⟨b, 1, none⟩ (.int .i64 (((c.nx : Int) + 1) % n))).drew := ⟨_, rfl⟩
  have HY : Hid (ClAt Y b (turnC c n) an n cn ko kc ∧ Kept (One b) w Y) := by
    rw [hY, next_mod]
    exact ⟨((h.s5 _).s1 _), (((Kept.refl _ _).setCell (p := ⟨b, 5, none⟩) (fun _ => rfl) _).setCell (p := ⟨b, 1, none⟩) (fun _ => rfl) _).drew⟩
  clear h hx hn
  go_enter Try.func31, Try.ntmps31
  go_wp2
  go_region
  all_goals
    go_wp2
    rw [← hY]
    go_end0
    exact ⟨rfl, HY.out⟩
set_option maxRecDepth 100000 in
set_option maxHeartbeats 2000000 in
theorem forget_any (b n cn kc : Nat) (c : Cl) (an ko : Option Addr) (w : World) (h : ClAt w b c an n cn ko kc) :
    Calls Try.prog 21 #[.pointer (some ⟨b, 0, none⟩)] w fun e w' => e = .returned (.tuple #[]) ∧ ClAt w' b (forgetC c) an n cn ko kc ∧ Kept (One b) w w' := by
  have q5 : w.cell? ⟨b, 5, none⟩ = some (.bool c.wt) := blk_at h 5 rfl
  have q7 : w.cell? ⟨b, 7, none⟩ = some (.int .i64 c.la) := blk_at h 7 rfl
  have q8 : w.cell? ⟨b, 8, none⟩ = some (.int .i64 c.ol) := blk_at h 8 rfl
  have f5 : w.frozen? ⟨b, 5, none⟩ = false := blk_free h 5
  have f8 : w.frozen? ⟨b, 8, none⟩ = false := blk_free h 8
  have H : Hid (ClAt w b c an n cn ko kc) := h
  clear h
  go_enter Try.func21, Try.ntmps21
  go_wp2
  go_end0
  exact ⟨rfl, ((H.out.s5 _).s8 _), (((Kept.refl _ _).setCell (p := ⟨b, 5, none⟩) (fun _ => rfl) _).setCell (p := ⟨b, 8, none⟩) (fun _ => rfl) _)⟩
set_option maxRecDepth 100000 in
set_option maxHeartbeats 2000000 in
theorem request_any (b n cn kc : Nat) (c : Cl) (an ko : Option Addr) (w : World) (h : ClAt w b c an n cn ko kc) (hu : 0 ≤ c.nu) (hu2 : c.nu ≤ 4611686018427387904) :
    Calls Try.prog 22 #[.pointer (some ⟨b, 0, none⟩)] w fun e w' => e = .returned (.agg (reqV c)) ∧ Kept Nil w w' := by
  obtain ⟨W, hW⟩ : ∃ W, W = w.alloc (.cells #[.int .i64 0, .int .i64 0, .int .i64 0, .string ⟨#[]⟩, .string ⟨#[]⟩, .int .i64 0, .int .i64 0] 32) := ⟨_, rfl⟩
  obtain ⟨R, HRe⟩ : ∃ R, Hid (R = w.heap.size) := ⟨_, rfl⟩
  have HR : Hid (W.heap[R]? = some (.cells #[.int .i64 0, .int .i64 0, .int .i64 0, .string ⟨#[]⟩, .string ⟨#[]⟩, .int .i64 0, .int .i64 0] 32 (0, 0))) := by rw [hW, HRe.out]; exact blk_new _ _
  have HW : Hid (ClAt W b c an n cn ko kc) := by rw [hW]; exact h.past _
  have KW : Hid (Kept Nil w W) := by rw [hW]; exact (Kept.refl _ _).alloc _
  have hRn : w.heap.size ≤ R := by have := HRe.out; omega
  have hbR : b ≠ R := by have := lt_of_block h; have := HRe.out; omega
  have hRb : R ≠ b := fun e => hbR e.symm
  have q3 : W.cell? ⟨b, 3, none⟩ = some (.int .i64 c.se) := blk_at HW.out 3 rfl
  have q4 : W.cell? ⟨b, 4, none⟩ = some (.int .i64 c.nu) := blk_at HW.out 4 rfl
  have q10 : W.cell? ⟨b, 10, none⟩ = some (.int .i64 c.ck) := blk_at HW.out 10 rfl
  have q11 : W.cell? ⟨b, 11, none⟩ = some (.string (bs c.ckey)) := blk_at HW.out 11 rfl
  have q12 : W.cell? ⟨b, 12, none⟩ = some (.string (bs c.cval)) := blk_at HW.out 12 rfl
  have q13 : W.cell? ⟨b, 13, none⟩ = some (.int .i64 c.ci) := blk_at HW.out 13 rfl
  have r0 : W.cell? ⟨R, 0, none⟩ = some (.int .i64 0) := blk_at HR.out 0 rfl
  have r1 : W.cell? ⟨R, 1, none⟩ = some (.int .i64 0) := blk_at HR.out 1 rfl
  have r2 : W.cell? ⟨R, 2, none⟩ = some (.int .i64 0) := blk_at HR.out 2 rfl
  have r3 : W.cell? ⟨R, 3, none⟩ = some (.string ⟨#[]⟩) := blk_at HR.out 3 rfl
  have r4 : W.cell? ⟨R, 4, none⟩ = some (.string ⟨#[]⟩) := blk_at HR.out 4 rfl
  have r5 : W.cell? ⟨R, 5, none⟩ = some (.int .i64 0) := blk_at HR.out 5 rfl
  have r6 : W.cell? ⟨R, 6, none⟩ = some (.int .i64 0) := blk_at HR.out 6 rfl
  have z0 : W.frozen? ⟨R, 0, none⟩ = false := blk_free HR.out 0
  have z1 : W.frozen? ⟨R, 1, none⟩ = false := blk_free HR.out 1
  have z2 : W.frozen? ⟨R, 2, none⟩ = false := blk_free HR.out 2
  have z3 : W.frozen? ⟨R, 3, none⟩ = false := blk_free HR.out 3
  have z4 : W.frozen? ⟨R, 4, none⟩ = false := blk_free HR.out 4
  have z5 : W.frozen? ⟨R, 5, none⟩ = false := blk_free HR.out 5
  have z6 : W.frozen? ⟨R, 6, none⟩ = false := blk_free HR.out 6
  clear h
  by_cases hs : c.se = 0
  · have HV : Hid (reqV c = #[.int .i64 0, .int .i64 0, .int .i64 0, .string ⟨#[]⟩, .string ⟨#[]⟩, .int .i64 0, .int .i64 0]) := by show reqV c = _; unfold reqV; rw [if_pos hs]; rfl
    rw [HV.out]
    rw [hs] at q3
    clear hs
    go_enter Try.func22, Try.ntmps22
    go_upto_region 1 with fail
    rw [← hW, ← HRe.out]
    clear hW
    obtain ⟨V, hV⟩ : ∃ V, V = (((((((W.setCell ⟨R, 0, none⟩ (.int .i64 0)).setCell ⟨R, 1, none⟩ (.int .i64 0)).setCell ⟨R, 2, none⟩ (.int .i64 0)).setCell ⟨R, 3, none⟩ (.string ⟨#[]⟩)).setCell ⟨R, 4, none⟩ (.string ⟨#[]⟩)).setCell ⟨R, 5, none⟩ (.int .i64 0)).setCell ⟨R, 6, none⟩ (.int .i64 0)) := ⟨_, rfl⟩
    have BR : Hid (V.heap[R]? = some (.cells #[.int .i64 0, .int .i64 0, .int .i64 0, .string ⟨#[]⟩, .string ⟨#[]⟩, .int .i64 0, .int .i64 0] 32 (0, 0))) := by rw [hV]; exact (put7 HR.out)
    have KV : Hid (Kept Nil w V) := by rw [hV]; exact (((((((KW.out.setNew (p := ⟨R, 0, none⟩) hRn _).setNew (p := ⟨R, 1, none⟩) hRn _).setNew (p := ⟨R, 2, none⟩) hRn _).setNew (p := ⟨R, 3, none⟩) hRn _).setNew (p := ⟨R, 4, none⟩) hRn _).setNew (p := ⟨R, 5, none⟩) hRn _).setNew (p := ⟨R, 6, none⟩) hRn _)
    go_wp2
    rw [← hV]
    clear hV
    have j0 : V.cell? ⟨R, 0, none⟩ = some (.int .i64 0) := blk_at BR.out 0 rfl
    have j1 : V.cell? ⟨R, 1, none⟩ = some (.int .i64 0) := blk_at BR.out 1 rfl
    have j2 : V.cell? ⟨R, 2, none⟩ = some (.int .i64 0) := blk_at BR.out 2 rfl
    have j3 : V.cell? ⟨R, 3, none⟩ = some (.string ⟨#[]⟩) := blk_at BR.out 3 rfl
    have j4 : V.cell? ⟨R, 4, none⟩ = some (.string ⟨#[]⟩) := blk_at BR.out 4 rfl
    have j5 : V.cell? ⟨R, 5, none⟩ = some (.int .i64 0) := blk_at BR.out 5 rfl
    have j6 : V.cell? ⟨R, 6, none⟩ = some (.int .i64 0) := blk_at BR.out 6 rfl
    exact bodyPost_ret (v := .agg #[.int .i64 0, .int .i64 0, .int .i64 0, .string ⟨#[]⟩, .string ⟨#[]⟩, .int .i64 0, .int .i64 0]) (by simp [results, Try.results22, go_sem, j0, j1, j2, j3, j4, j5, j6]) rfl ⟨rfl, KV.out⟩
  · have HV : Hid (reqV c = #[.int .i64 c.se, .int .i64 (c.nu + 1), .int .i64 c.ck, .string (bs c.ckey), .string (bs c.cval), .int .i64 c.ci, .int .i64 0]) := by show reqV c = _; unfold reqV; rw [if_neg hs]
    rw [HV.out]
    have hs' : (c.se == 0) = false := by simpa using hs
    go_enter Try.func22, Try.ntmps22
    go_upto_region 1 with fail
    rw [← hW, ← HRe.out]
    clear hW
    obtain ⟨V, hV⟩ : ∃ V, V = (((((((W.setCell ⟨R, 0, none⟩ (.int .i64 c.se)).setCell ⟨R, 1, none⟩ (.int .i64 (c.nu + 1))).setCell ⟨R, 2, none⟩ (.int .i64 c.ck)).setCell ⟨R, 3, none⟩ (.string (bs c.ckey))).setCell ⟨R, 4, none⟩ (.string (bs c.cval))).setCell ⟨R, 5, none⟩ (.int .i64 c.ci)).setCell ⟨R, 6, none⟩ (.int .i64 0)).drew := ⟨_, rfl⟩
    have BR : Hid (V.heap[R]? = some (.cells #[.int .i64 c.se, .int .i64 (c.nu + 1), .int .i64 c.ck, .string (bs c.ckey), .string (bs c.cval), .int .i64 c.ci, .int .i64 0] 32 (0, 0))) := by rw [hV]; exact (blk_drew (put7 HR.out))
    have KV : Hid (Kept Nil w V) := by rw [hV]; exact (((((((KW.out.setNew (p := ⟨R, 0, none⟩) hRn _).setNew (p := ⟨R, 1, none⟩) hRn _).setNew (p := ⟨R, 2, none⟩) hRn _).setNew (p := ⟨R, 3, none⟩) hRn _).setNew (p := ⟨R, 4, none⟩) hRn _).setNew (p := ⟨R, 5, none⟩) hRn _).setNew (p := ⟨R, 6, none⟩) hRn _).drew
    go_wp2
    go_region
    all_goals go_wp2
    all_goals
      rw [← hV]
      clear hV
      have j0 : V.cell? ⟨R, 0, none⟩ = some (.int .i64 c.se) := blk_at BR.out 0 rfl
      have j1 : V.cell? ⟨R, 1, none⟩ = some (.int .i64 (c.nu + 1)) := blk_at BR.out 1 rfl
      have j2 : V.cell? ⟨R, 2, none⟩ = some (.int .i64 c.ck) := blk_at BR.out 2 rfl
      have j3 : V.cell? ⟨R, 3, none⟩ = some (.string (bs c.ckey)) := blk_at BR.out 3 rfl
      have j4 : V.cell? ⟨R, 4, none⟩ = some (.string (bs c.cval)) := blk_at BR.out 4 rfl
      have j5 : V.cell? ⟨R, 5, none⟩ = some (.int .i64 c.ci) := blk_at BR.out 5 rfl
      have j6 : V.cell? ⟨R, 6, none⟩ = some (.int .i64 0) := blk_at BR.out 6 rfl
      exact bodyPost_ret (v := .agg #[.int .i64 c.se, .int .i64 (c.nu + 1), .int .i64 c.ck, .string (bs c.ckey), .string (bs c.cval), .int .i64 c.ci, .int .i64 0]) (by simp [results, Try.results22, go_sem, j0, j1, j2, j3, j4, j5, j6]) rfl ⟨rfl, KV.out⟩
set_option maxRecDepth 100000 in
set_option maxHeartbeats 2000000 in
theorem look_any (b n cn kc : Nat) (c : Cl) (an ko : Option Addr) (l : List Int) (B : Nat) (w : World) (h : ClAt w b c an n cn ko kc) (hr : IntRow B w an l) (hl : l.length = n) (hx : c.nx < l.length) :
    Calls Try.prog 12 #[.pointer (some ⟨b, 0, none⟩)] w fun e w' => e = .returned (.agg #[.int .i64 c.se, .int .i64 c.nu, .int .i64 l[c.nx], .bool c.wt, .bool (c.st == 1)]) ∧ Kept Nil w w' := by
  obtain ⟨W, hW⟩ : ∃ W, W = w.alloc (.cells #[.int .i64 0, .int .i64 0, .int .i64 0, .bool false, .bool false] 49) := ⟨_, rfl⟩
  obtain ⟨R, HRe⟩ : ∃ R, Hid (R = w.heap.size) := ⟨_, rfl⟩
  have HR : Hid (W.heap[R]? = some (.cells #[.int .i64 0, .int .i64 0, .int .i64 0, .bool false, .bool false] 49 (0, 0))) := by rw [hW, HRe.out]; exact blk_new _ _
  have HW : Hid (ClAt W b c an n cn ko kc) := by rw [hW]; exact h.past _
  have KW : Hid (Kept Nil w W) := by rw [hW]; exact (Kept.refl _ _).alloc _
  have hRn : w.heap.size ≤ R := by have := HRe.out; omega
  have hbR : b ≠ R := by have := lt_of_block h; have := HRe.out; omega
  have hRb : R ≠ b := fun e => hbR e.symm
  obtain ⟨a, rfl, hab, hcell⟩ := hr.nil KW.out c.nx hx
  have q0 : W.cell? ⟨b, 0, none⟩ = some (.slice (some a) n cn) := blk_at HW.out 0 rfl
  have q1 : W.cell? ⟨b, 1, none⟩ = some (.int .i64 c.nx) := blk_at HW.out 1 rfl
  have q3 : W.cell? ⟨b, 3, none⟩ = some (.int .i64 c.se) := blk_at HW.out 3 rfl
  have q4 : W.cell? ⟨b, 4, none⟩ = some (.int .i64 c.nu) := blk_at HW.out 4 rfl
  have q5 : W.cell? ⟨b, 5, none⟩ = some (.bool c.wt) := blk_at HW.out 5 rfl
  have q9 : W.cell? ⟨b, 9, none⟩ = some (.int .i64 c.st) := blk_at HW.out 9 rfl
  have r0 : W.cell? ⟨R, 0, none⟩ = some (.int .i64 0) := blk_at HR.out 0 rfl
  have r1 : W.cell? ⟨R, 1, none⟩ = some (.int .i64 0) := blk_at HR.out 1 rfl
  have r2 : W.cell? ⟨R, 2, none⟩ = some (.int .i64 0) := blk_at HR.out 2 rfl
  have r3 : W.cell? ⟨R, 3, none⟩ = some (.bool false) := blk_at HR.out 3 rfl
  have r4 : W.cell? ⟨R, 4, none⟩ = some (.bool false) := blk_at HR.out 4 rfl
  have z0 : W.frozen? ⟨R, 0, none⟩ = false := blk_free HR.out 0
  have z1 : W.frozen? ⟨R, 1, none⟩ = false := blk_free HR.out 1
  have z2 : W.frozen? ⟨R, 2, none⟩ = false := blk_free HR.out 2
  have z3 : W.frozen? ⟨R, 3, none⟩ = false := blk_free HR.out 3
  have z4 : W.frozen? ⟨R, 4, none⟩ = false := blk_free HR.out 4
  have hx1 : (c.nx : Int) < n := by omega
  have hx0 : (0 : Int) ≤ c.nx := by omega
  clear h hr hl
  go_enter Try.func12, Try.ntmps12
  go_upto_region 1 with fail
  rw [← hW, ← HRe.out]
  clear hW
  obtain ⟨V, hV⟩ : ∃ V, V = (((((W.setCell ⟨R, 0, none⟩ (.int .i64 c.se)).setCell ⟨R, 1, none⟩ (.int .i64 c.nu)).setCell ⟨R, 2, none⟩ (.int .i64 (l[c.nx]'hx))).setCell ⟨R, 3, none⟩ (.bool c.wt)).setCell ⟨R, 4, none⟩ (.bool (c.st == 1))).drew := ⟨_, rfl⟩
  have BR : Hid (V.heap[R]? = some (.cells #[.int .i64 c.se, .int .i64 c.nu, .int .i64 (l[c.nx]'hx), .bool c.wt, .bool (c.st == 1)] 49 (0, 0))) := by rw [hV]; exact (blk_drew (put5 HR.out))
  have KV : Hid (Kept Nil w V) := by rw [hV]; exact (((((KW.out.setNew (p := ⟨R, 0, none⟩) hRn _).setNew (p := ⟨R, 1, none⟩) hRn _).setNew (p := ⟨R, 2, none⟩) hRn _).setNew (p := ⟨R, 3, none⟩) hRn _).setNew (p := ⟨R, 4, none⟩) hRn _).drew
  go_region
  all_goals go_wp2
  all_goals
    rw [← hV]
    clear hV
    have j0 : V.cell? ⟨R, 0, none⟩ = some (.int .i64 c.se) := blk_at BR.out 0 rfl
    have j1 : V.cell? ⟨R, 1, none⟩ = some (.int .i64 c.nu) := blk_at BR.out 1 rfl
    have j2 : V.cell? ⟨R, 2, none⟩ = some (.int .i64 (l[c.nx]'hx)) := blk_at BR.out 2 rfl
    have j3 : V.cell? ⟨R, 3, none⟩ = some (.bool c.wt) := blk_at BR.out 3 rfl
    have j4 : V.cell? ⟨R, 4, none⟩ = some (.bool (c.st == 1)) := blk_at BR.out 4 rfl
    exact bodyPost_ret (v := .agg #[.int .i64 c.se, .int .i64 c.nu, .int .i64 (l[c.nx]'hx), .bool c.wt, .bool (c.st == 1)]) (by simp [results, Try.results12, go_sem, j0, j1, j2, j3, j4]) rfl ⟨rfl, KV.out⟩

end Go.Proofs.Ytbfleeilpccmcaa
