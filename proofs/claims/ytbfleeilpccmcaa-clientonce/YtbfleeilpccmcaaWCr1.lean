/-
  The document's client in memory: on, Tick, Look.
-/
import Derived.Test.YtbfleeilpccmcaaWCl4
namespace Go.Proofs.Ytbfleeilpccmcaa
open Go.RowKit

/-- The document's client. -/
structure Rl where
  nx : Nat
  pat : Int
  wt : Bool
  si : Int
  la : Int
  fi : Int
  se : Int
  nu : Int
  bu : Bool
  go : Bool
  k : Int
  key : List UInt8
  val : List UInt8
  i : Int
  rk : Int
  rval : List UInt8
  rver : Int
  m : Nat
  ro : Option Addr
  rc : Nat
def rV (r : Rl) (an : Option Addr) (n cn : Nat) : Array Value := #[.slice an n cn, .int .i64 r.nx, .int .i64 r.pat, .bool r.wt, .int .i64 r.si, .int .i64 r.la, .int .i64 r.fi, .int .i64 r.se, .int .i64 r.nu, .bool r.bu, .bool r.go, .int .i64 r.k, .string (bs r.key), .string (bs r.val), .int .i64 r.i, .int .i64 r.rk, .string (bs r.rval), .int .i64 r.rver, .slice r.ro r.m r.rc]
def RAt (w : World) (y : Nat) (r : Rl) (an : Option Addr) (n cn : Nat) : Prop := w.heap[y]? = some (.cells (rV r an n cn) 67 (0, 0))
/-- The program's client and the document's stand alike. -/
structure Sim (c : Cl) (r : Rl) : Prop where
  nx : r.nx = c.nx
  pat : r.pat = c.pat
  wt : r.wt = c.wt
  si : r.si = c.si
  la : r.la = c.la
  fi : r.fi = c.ol + 1
  se : r.se = c.se
  nu : r.nu = c.nu
  bu : r.bu = (c.st == 1)
  go : r.go = (c.st == 2)
  cmd : c.st = 1 → r.k = c.ck ∧ r.key = c.ckey ∧ r.val = c.cval ∧ r.i = c.ci
  res : c.st = 2 → r.rk = c.rk ∧ r.rval = c.rval ∧ r.rver = c.rver ∧ r.m = c.ks.length
theorem RAt.kept {w w' : World} {y n cn : Nat} {r : Rl} {an : Option Addr} (h : RAt w y r an n cn) (k : Kept Nil w w') : RAt w' y r an n cn := k.block _ _ h (fun x => x.elim)
theorem RAt.past {w : World} {y n cn : Nat} {r : Rl} {an : Option Addr} (h : RAt w y r an n cn) (o : Obj) : RAt (w.alloc o) y r an n cn := blk_past h o
theorem RAt.oth {w : World} {y n cn : Nat} {r : Rl} {an : Option Addr} (h : RAt w y r an n cn) {a : Addr} (ha : y ≠ a.block) (u : Value) : RAt (w.setCell a u) y r an n cn := blk_other h ha u
theorem RAt.drew {w : World} {y n cn : Nat} {r : Rl} {an : Option Addr} (h : RAt w y r an n cn) : RAt w.drew y r an n cn := h
theorem RAt.s1 {w : World} {y n cn : Nat} {r : Rl} {an : Option Addr} (h : RAt w y r an n cn) (x : Nat) : RAt (w.setCell ⟨y, 1, none⟩ (.int .i64 x)) y { r with nx := x } an n cn := blk_set h 1 _
theorem RAt.s2 {w : World} {y n cn : Nat} {r : Rl} {an : Option Addr} (h : RAt w y r an n cn) (x : Int) : RAt (w.setCell ⟨y, 2, none⟩ (.int .i64 x)) y { r with pat := x } an n cn := blk_set h 2 _
theorem RAt.s3 {w : World} {y n cn : Nat} {r : Rl} {an : Option Addr} (h : RAt w y r an n cn) (x : Bool) : RAt (w.setCell ⟨y, 3, none⟩ (.bool x)) y { r with wt := x } an n cn := blk_set h 3 _
theorem RAt.s4 {w : World} {y n cn : Nat} {r : Rl} {an : Option Addr} (h : RAt w y r an n cn) (x : Int) : RAt (w.setCell ⟨y, 4, none⟩ (.int .i64 x)) y { r with si := x } an n cn := blk_set h 4 _
theorem RAt.s5 {w : World} {y n cn : Nat} {r : Rl} {an : Option Addr} (h : RAt w y r an n cn) (x : Int) : RAt (w.setCell ⟨y, 5, none⟩ (.int .i64 x)) y { r with la := x } an n cn := blk_set h 5 _
theorem RAt.s6 {w : World} {y n cn : Nat} {r : Rl} {an : Option Addr} (h : RAt w y r an n cn) (x : Int) : RAt (w.setCell ⟨y, 6, none⟩ (.int .i64 x)) y { r with fi := x } an n cn := blk_set h 6 _
theorem RAt.s7 {w : World} {y n cn : Nat} {r : Rl} {an : Option Addr} (h : RAt w y r an n cn) (x : Int) : RAt (w.setCell ⟨y, 7, none⟩ (.int .i64 x)) y { r with se := x } an n cn := blk_set h 7 _
theorem RAt.s8 {w : World} {y n cn : Nat} {r : Rl} {an : Option Addr} (h : RAt w y r an n cn) (x : Int) : RAt (w.setCell ⟨y, 8, none⟩ (.int .i64 x)) y { r with nu := x } an n cn := blk_set h 8 _
theorem RAt.s9 {w : World} {y n cn : Nat} {r : Rl} {an : Option Addr} (h : RAt w y r an n cn) (x : Bool) : RAt (w.setCell ⟨y, 9, none⟩ (.bool x)) y { r with bu := x } an n cn := blk_set h 9 _
theorem RAt.s10 {w : World} {y n cn : Nat} {r : Rl} {an : Option Addr} (h : RAt w y r an n cn) (x : Bool) : RAt (w.setCell ⟨y, 10, none⟩ (.bool x)) y { r with go := x } an n cn := blk_set h 10 _
theorem RAt.s11 {w : World} {y n cn : Nat} {r : Rl} {an : Option Addr} (h : RAt w y r an n cn) (x : Int) : RAt (w.setCell ⟨y, 11, none⟩ (.int .i64 x)) y { r with k := x } an n cn := blk_set h 11 _
theorem RAt.s12 {w : World} {y n cn : Nat} {r : Rl} {an : Option Addr} (h : RAt w y r an n cn) (x : List UInt8) : RAt (w.setCell ⟨y, 12, none⟩ (.string (bs x))) y { r with key := x } an n cn := blk_set h 12 _
theorem RAt.s13 {w : World} {y n cn : Nat} {r : Rl} {an : Option Addr} (h : RAt w y r an n cn) (x : List UInt8) : RAt (w.setCell ⟨y, 13, none⟩ (.string (bs x))) y { r with val := x } an n cn := blk_set h 13 _
theorem RAt.s14 {w : World} {y n cn : Nat} {r : Rl} {an : Option Addr} (h : RAt w y r an n cn) (x : Int) : RAt (w.setCell ⟨y, 14, none⟩ (.int .i64 x)) y { r with i := x } an n cn := blk_set h 14 _
theorem RAt.s15 {w : World} {y n cn : Nat} {r : Rl} {an : Option Addr} (h : RAt w y r an n cn) (x : Int) : RAt (w.setCell ⟨y, 15, none⟩ (.int .i64 x)) y { r with rk := x } an n cn := blk_set h 15 _
theorem RAt.s16 {w : World} {y n cn : Nat} {r : Rl} {an : Option Addr} (h : RAt w y r an n cn) (x : List UInt8) : RAt (w.setCell ⟨y, 16, none⟩ (.string (bs x))) y { r with rval := x } an n cn := blk_set h 16 _
theorem RAt.s17 {w : World} {y n cn : Nat} {r : Rl} {an : Option Addr} (h : RAt w y r an n cn) (x : Int) : RAt (w.setCell ⟨y, 17, none⟩ (.int .i64 x)) y { r with rver := x } an n cn := blk_set h 17 _
theorem RAt.s18 {w : World} {y n cn : Nat} {r : Rl} {an : Option Addr} (h : RAt w y r an n cn) (ro : Option Addr) (m rc : Nat) : RAt (w.setCell ⟨y, 18, none⟩ (.slice ro m rc)) y { r with m := m, ro := ro, rc := rc } an n cn := blk_set h 18 _
theorem Sim.turn {c : Cl} {r : Rl} {n : Nat} (h : Sim c r) (hx : c.nx < n) : Sim (turnC c n) { r with wt := false, nx := if r.nx + 1 = n then 0 else r.nx + 1 } := by
  refine ⟨?_, h.pat, rfl, h.si, h.la, h.fi, h.se, h.nu, h.bu, h.go, h.cmd, h.res⟩
  show (if r.nx + 1 = n then 0 else r.nx + 1) = (c.nx + 1) % n
  rw [h.nx]
  split
  · rename_i e; rw [e, Nat.mod_self]
  · rw [Nat.mod_eq_of_lt (by omega)]
set_option maxRecDepth 100000 in
set_option maxHeartbeats 2000000 in
theorem on_any (y n cn : Nat) (c : Cl) (r : Rl) (an : Option Addr) (w : World) (h : RAt w y r an n cn) (hs : Sim c r) (hx : c.nx < n) (hn : n ≤ 9) :
    Calls Try.prog 37 #[.pointer (some ⟨y, 0, none⟩)] w fun e w' => e = .returned (.tuple #[]) ∧ (∃ r', RAt w' y r' an n cn ∧ Sim (turnC c n) r' ∧ r'.m = r.m ∧ r'.ro = r.ro ∧ r'.rc = r.rc) ∧ Kept (One y) w w' := by
  have q0 : w.cell? ⟨y, 0, none⟩ = some (.slice an n cn) := blk_at h 0 rfl
  have q1 : w.cell? ⟨y, 1, none⟩ = some (.int .i64 r.nx) := blk_at h 1 rfl
  have q3 : w.cell? ⟨y, 3, none⟩ = some (.bool r.wt) := blk_at h 3 rfl
  have f1 : w.frozen? ⟨y, 1, none⟩ = false := blk_free h 1
  have f3 : w.frozen? ⟨y, 3, none⟩ = false := blk_free h 3
  have hn1 : (n : Int) ≤ 9 := by omega
  have hx1 : (r.nx : Int) < 9 := by have := hs.nx; omega
  have hx0 : (0 : Int) ≤ r.nx := by omega
  have HT : Hid (Sim (turnC c n) { r with wt := false, nx := if r.nx + 1 = n then 0 else r.nx + 1 }) := hs.turn hx
  by_cases he : r.nx + 1 = n
  · have he' : ((r.nx : Int) + 1 == n) = true := by simp; omega
    obtain ⟨Y, hY⟩ : ∃ Y, Y = (((w.setCell ⟨y, 3, none⟩ (.bool false)).setCell ⟨y, 1, none⟩ (.int .i64 ((r.nx : Int) + 1))).setCell ⟨y, 1, none⟩ (.int .i64 0)).drew := ⟨_, rfl⟩
    have HY : Hid (RAt Y y { r with wt := false, nx := if r.nx + 1 = n then 0 else r.nx + 1 } an n cn ∧ Kept (One y) w Y) := by
      rw [hY, if_pos he]
      exact ⟨(((h.s3 false).s1 (r.nx + 1)).s1 0).drew, ((((Kept.refl _ _).setCell (p := ⟨y, 3, none⟩) (fun _ => rfl) _).setCell (p := ⟨y, 1, none⟩) (fun _ => rfl) _).setCell (p := ⟨y, 1, none⟩) (fun _ => rfl) _).drew⟩
    clear h hs hx hn
    go_enter Try.func37, Try.ntmps37
    go_wp2
    go_region
    all_goals
      go_wp2
      rw [← hY]
      go_end0
      exact ⟨rfl, ⟨_, HY.out.1, HT.out, rfl, rfl, rfl⟩, HY.out.2⟩
  · have he' : ((r.nx : Int) + 1 == n) = false := by simp; omega
    obtain ⟨Y, hY⟩ : ∃ Y, Y = ((w.setCell ⟨y, 3, none⟩ (.bool false)).setCell ⟨y, 1, none⟩ (.int .i64 ((r.nx : Int) + 1))).drew := ⟨_, rfl⟩
    have HY : Hid (RAt Y y { r with wt := false, nx := if r.nx + 1 = n then 0 else r.nx + 1 } an n cn ∧ Kept (One y) w Y) := by
      rw [hY, if_neg he]
      exact ⟨((h.s3 false).s1 (r.nx + 1)).drew, (((Kept.refl _ _).setCell (p := ⟨y, 3, none⟩) (fun _ => rfl) _).setCell (p := ⟨y, 1, none⟩) (fun _ => rfl) _).drew⟩
    clear h hs hx hn
    go_enter Try.func37, Try.ntmps37
    go_wp2
    go_region
    all_goals
      go_wp2
      rw [← hY]
      go_end0
      exact ⟨rfl, ⟨_, HY.out.1, HT.out, rfl, rfl, rfl⟩, HY.out.2⟩
set_option maxRecDepth 100000 in
set_option maxHeartbeats 2000000 in
theorem rtick_any (y n cn : Nat) (c : Cl) (r : Rl) (an : Option Addr) (w : World) (h : RAt w y r an n cn) (hs : Sim c r) (hx : c.nx < n) (hn : n ≤ 9) (h0 : 0 ≤ c.si) (h1 : c.si ≤ 1000) (hp : c.wt = true → c.si < c.pat) :
    Calls Try.prog 26 #[.pointer (some ⟨y, 0, none⟩)] w fun e w' => e = .returned (.tuple #[]) ∧ (∃ r', RAt w' y r' an n cn ∧ Sim (tickC c n) r' ∧ r'.m = r.m ∧ r'.ro = r.ro ∧ r'.rc = r.rc) ∧ Kept (One y) w w' := by
  have h0' : 0 ≤ r.si := by have := hs.si; omega
  have h1' : r.si ≤ 1000 := by have := hs.si; omega
  cases ht : c.wt with
  | false =>
    have HE : Hid (tickC c n = c) := by show _ = _; unfold tickC; rw [ht]; rfl
    rw [HE.out]
    have H : Hid (RAt w y r an n cn ∧ Sim c r) := ⟨h, hs⟩
    have q3 : w.cell? ⟨y, 3, none⟩ = some (.bool false) := by rw [← ht, ← hs.wt]; exact blk_at h 3 rfl
    clear h hs hx hn h0 h1 ht hp
    go_enter Try.func26, Try.ntmps26
    go_wp2
    go_end0
    exact ⟨rfl, ⟨r, H.out.1, H.out.2, rfl, rfl, rfl⟩, Kept.refl _ _⟩
  | true =>
    have hp2 := hp ht
    have q3 : w.cell? ⟨y, 3, none⟩ = some (.bool true) := by rw [← ht, ← hs.wt]; exact blk_at h 3 rfl
    have q2 : w.cell? ⟨y, 2, none⟩ = some (.int .i64 r.pat) := blk_at h 2 rfl
    have q4 : w.cell? ⟨y, 4, none⟩ = some (.int .i64 r.si) := blk_at h 4 rfl
    have f4 : w.frozen? ⟨y, 4, none⟩ = false := blk_free h 4
    obtain ⟨Y, hY⟩ : ∃ Y, Y = (w.setCell ⟨y, 4, none⟩ (.int .i64 (r.si + 1))).drew := ⟨_, rfl⟩
    have HS : Hid (Sim { c with si := c.si + 1 } { r with si := r.si + 1 }) := ⟨hs.nx, hs.pat, hs.wt, by show r.si + 1 = c.si + 1; rw [hs.si], hs.la, hs.fi, hs.se, hs.nu, hs.bu, hs.go, hs.cmd, hs.res⟩
    have HY : Hid (RAt Y y { r with si := r.si + 1 } an n cn ∧ Kept (One y) w Y) := by
      rw [hY]
      exact ⟨(h.s4 (r.si + 1)).drew, ((Kept.refl _ _).setCell (p := ⟨y, 4, none⟩) (fun _ => rfl) _).drew⟩
    by_cases he : c.si + 1 = c.pat
    · have HE : Hid (tickC c n = turnC { c with si := c.si + 1 } n) := by show _ = _; unfold tickC; rw [ht, if_pos rfl, if_pos he]
      rw [HE.out]
      have TY := on_any y n cn _ _ an Y HY.out.1 HS.out hx hn
      have hge : r.si + 1 ≥ r.pat := by have := hs.si; have := hs.pat; omega
      clear h hs hx hn ht he hp hp2
      go_enter Try.func26, Try.ntmps26
      go_wp2
      go_region
      all_goals
        rw [← hY]
        clear hY
        go_wp2_with fail
        go_fit TY
        rintro e w2 ⟨rfl, h2, k2⟩
        have H2 : Hid (_ ∧ _) := ⟨h2, HY.out.2.trans k2⟩
        clear h2 k2
        go_wp2
        go_end0
        exact ⟨rfl, H2.out⟩
    · have HE : Hid (tickC c n = { c with si := c.si + 1 }) := by show _ = _; unfold tickC; rw [ht, if_pos rfl, if_neg he]
      rw [HE.out]
      have hge : ¬ r.si + 1 ≥ r.pat := by have := hs.si; have := hs.pat; omega
      clear h hs hx hn ht hp
      go_enter Try.func26, Try.ntmps26
      go_wp2
      go_region
      all_goals
        rw [← hY]
        clear hY
        go_wp2
        go_end0
        exact ⟨rfl, ⟨_, HY.out.1, HS.out, rfl, rfl, rfl⟩, HY.out.2⟩
set_option maxRecDepth 100000 in
set_option maxHeartbeats 2000000 in
theorem rlook_any (y n cn : Nat) (c : Cl) (r : Rl) (an : Option Addr) (l : List Int) (B : Nat) (nd : Int) (w : World) (h : RAt w y r an n cn) (hs : Sim c r) (hr : IntRow B w an l) (hl : l.length = n) (hx : c.nx < l.length) (hnd : l[c.nx] = nd) :
    Calls Try.prog 13 #[.pointer (some ⟨y, 0, none⟩)] w fun e w' => e = .returned (.agg #[.int .i64 c.se, .int .i64 c.nu, .int .i64 nd, .bool c.wt, .bool (c.st == 1)]) ∧ Kept Nil w w' := by
  obtain ⟨W, hW⟩ : ∃ W, W = w.alloc (.cells #[.int .i64 0, .int .i64 0, .int .i64 0, .bool false, .bool false] 49) := ⟨_, rfl⟩
  obtain ⟨R, HRe⟩ : ∃ R, Hid (R = w.heap.size) := ⟨_, rfl⟩
  have HR : Hid (W.heap[R]? = some (.cells #[.int .i64 0, .int .i64 0, .int .i64 0, .bool false, .bool false] 49 (0, 0))) := by rw [hW, HRe.out]; exact blk_new _ _
  have HW : Hid (RAt W y r an n cn) := by rw [hW]; exact h.past _
  have KW : Hid (Kept Nil w W) := by rw [hW]; exact (Kept.refl _ _).alloc _
  have hRn : w.heap.size ≤ R := by have := HRe.out; omega
  have hbR : y ≠ R := by have := lt_of_block h; have := HRe.out; omega
  have hRb : R ≠ y := fun e => hbR e.symm
  obtain ⟨a, rfl, hab, hcell⟩ := hr.nil KW.out c.nx hx
  rw [hnd, ← hs.nx] at hcell
  rw [← hs.se, ← hs.nu, ← hs.wt, ← hs.bu]
  have q0 : W.cell? ⟨y, 0, none⟩ = some (.slice (some a) n cn) := blk_at HW.out 0 rfl
  have q1 : W.cell? ⟨y, 1, none⟩ = some (.int .i64 r.nx) := blk_at HW.out 1 rfl
  have q3 : W.cell? ⟨y, 3, none⟩ = some (.bool r.wt) := blk_at HW.out 3 rfl
  have q7 : W.cell? ⟨y, 7, none⟩ = some (.int .i64 r.se) := blk_at HW.out 7 rfl
  have q8 : W.cell? ⟨y, 8, none⟩ = some (.int .i64 r.nu) := blk_at HW.out 8 rfl
  have q9 : W.cell? ⟨y, 9, none⟩ = some (.bool r.bu) := blk_at HW.out 9 rfl
  have r0 : W.cell? ⟨R, 0, none⟩ = some (.int .i64 0) := blk_at HR.out 0 rfl
  have r1 : W.cell? ⟨R, 1, none⟩ = some (.int .i64 0) := blk_at HR.out 1 rfl
  have r2 : W.cell? ⟨R, 2, none⟩ = some (.int .i64 0) := blk_at HR.out 2 rfl
  have r3 : W.cell? ⟨R, 3, none⟩ = some (.bool false) := blk_at HR.out 3 rfl
  have r4 : W.cell? ⟨R, 4, none⟩ = some (.bool false) := blk_at HR.out 4 rfl
  have z0 : W.frozen? ⟨R, 0, none⟩ = false := blk_free HR.out 0
  have z1 : W.frozen? ⟨R, 1, none⟩ = false := blk_free HR.out 1
  have z2 : W.frozen? ⟨R, 2, none⟩ = false := blk_free HR.out 2
  have z3 : W.frozen? ⟨R, 3, none⟩ = false := blk_free HR.out 3
  have z4 : W.frozen? ⟨R, 4, none⟩ = false := blk_free HR.out 4
  have hx1 : (r.nx : Int) < n := by have := hs.nx; omega
  have hx0 : (0 : Int) ≤ r.nx := by omega
  clear h hr hl hs
  go_enter Try.func13, Try.ntmps13
  go_upto_region 1 with fail
  rw [← hW, ← HRe.out]
  clear hW
  obtain ⟨V, hV⟩ : ∃ V, V = (((((W.setCell ⟨R, 0, none⟩ (.int .i64 r.se)).setCell ⟨R, 1, none⟩ (.int .i64 r.nu)).setCell ⟨R, 2, none⟩ (.int .i64 nd)).setCell ⟨R, 3, none⟩ (.bool r.wt)).setCell ⟨R, 4, none⟩ (.bool r.bu)).drew := ⟨_, rfl⟩
  have BR : Hid (V.heap[R]? = some (.cells #[.int .i64 r.se, .int .i64 r.nu, .int .i64 nd, .bool r.wt, .bool r.bu] 49 (0, 0))) := by rw [hV]; exact (blk_drew (put5 HR.out))
  have KV : Hid (Kept Nil w V) := by rw [hV]; exact (((((KW.out.setNew (p := ⟨R, 0, none⟩) hRn _).setNew (p := ⟨R, 1, none⟩) hRn _).setNew (p := ⟨R, 2, none⟩) hRn _).setNew (p := ⟨R, 3, none⟩) hRn _).setNew (p := ⟨R, 4, none⟩) hRn _).drew
  go_region
  all_goals go_wp2
  all_goals
    rw [← hV]
    clear hV
    have j0 : V.cell? ⟨R, 0, none⟩ = some (.int .i64 r.se) := blk_at BR.out 0 rfl
    have j1 : V.cell? ⟨R, 1, none⟩ = some (.int .i64 r.nu) := blk_at BR.out 1 rfl
    have j2 : V.cell? ⟨R, 2, none⟩ = some (.int .i64 nd) := blk_at BR.out 2 rfl
    have j3 : V.cell? ⟨R, 3, none⟩ = some (.bool r.wt) := blk_at BR.out 3 rfl
    have j4 : V.cell? ⟨R, 4, none⟩ = some (.bool r.bu) := blk_at BR.out 4 rfl
    exact bodyPost_ret (v := .agg #[.int .i64 r.se, .int .i64 r.nu, .int .i64 nd, .bool r.wt, .bool r.bu]) (by simp [results, Try.results13, go_sem, j0, j1, j2, j3, j4]) rfl ⟨rfl, KV.out⟩

end Go.Proofs.Ytbfleeilpccmcaa
