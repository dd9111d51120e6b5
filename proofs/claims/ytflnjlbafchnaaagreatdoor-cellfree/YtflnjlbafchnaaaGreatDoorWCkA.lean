/-
  Joined: WCk1, WCj3, WCk5.
-/
import Derived.Test.YtflnjlbafchnaaaGreatDoorWTmB
import Derived.Test.YtflnjlbafchnaaaGreatDoorWChB
import Derived.Deep.DeepCutAuto
import Derived.Deep.DeepFit
import Derived.Deep.RegionLaw
import Derived.Deep.RegionHeld3
import Derived.Test.YtflnjlbafchnaaaGreatDoorWOld
/-
  The laws of cells: pick, sameResult, jobOf.
-/
namespace Go.Proofs.YtflnjlbafchnaaaGreatDoor
open Go.RowKit

theorem pickT_val (c n : Int) (hn : 0 < n) : c % n = if c.tmod n < 0 then c.tmod n + n else c.tmod n := by
  have h1 := Int.emod_nonneg c (show n ≠ 0 by omega)
  have h2 := Int.emod_lt_of_pos c hn
  have h3 := Int.tmod_eq_emod (a := c) (b := n)
  have h4 : (n.natAbs : Int) = n := by omega
  split at h3 <;> split <;> omega
set_option maxRecDepth 100000 in
theorem pickT_any (c n : Int) (w : World) (hn : 0 < n) (hn2 : n ≤ 9223372036854775807) :
    Calls Tryz.prog 20 #[.int .i64 c, .int .i64 n] w fun e w' => e = .returned (.int .i64 (c % n)) ∧ w' = w := by
  have hv := pickT_val c n hn
  have h1 := Int.emod_nonneg c (show n ≠ 0 by omega)
  have h2 := Int.emod_lt_of_pos c hn
  have hne : (n == 0) = false := by simp; omega
  by_cases hneg : c.tmod n < 0
  · rw [if_pos hneg] at hv
    have HV : Hid (c % n = c.tmod n + n) := hv
    rw [hv] at h1 h2
    clear hv
    go_enter Tryz.func20, Tryz.ntmps20
    go_wp2
    go_ret
    rw [HV.out]
    exact ⟨rfl, rfl⟩
  · rw [if_neg hneg] at hv
    have HV : Hid (c % n = c.tmod n) := hv
    rw [hv] at h1 h2
    clear hv
    go_enter Tryz.func20, Tryz.ntmps20
    go_wp2
    go_ret
    rw [HV.out]
    exact ⟨rfl, rfl⟩
set_option maxRecDepth 100000 in
set_option maxHeartbeats 4000000 in
theorem csame_any (r : Rr) (hr : r.ks = []) (ko so : Option Addr) (kc sc : Nat) (w : World) :
    Calls Tryz.prog 40 #[rrV r ko kc, rrV r so sc] w fun e w' => e = .returned (.bool true) ∧ Kept Nil w w' := by
  obtain ⟨kd, v, n, ks⟩ := r
  simp only at hr
  subst hr
  obtain ⟨W, hW⟩ : ∃ W, W = (w.alloc (.cells #[.int .i64 kd, .string (bs v), .int .i64 n, .slice ko 0 kc] 50)).alloc (.cells #[.int .i64 kd, .string (bs v), .int .i64 n, .slice so 0 sc] 50) := ⟨_, rfl⟩
  have KW : Hid (Kept Nil w W) := by rw [hW]; exact ((Kept.refl _ _).alloc _).alloc _
  have HA : Hid (W.heap[w.heap.size]? = some (.cells #[.int .i64 kd, .string (bs v), .int .i64 n, .slice ko 0 kc] 50 (0, 0))) := by rw [hW]; exact blk_past (blk_new _ _) _
  have HB : Hid (W.heap[w.heap.size + 1]? = some (.cells #[.int .i64 kd, .string (bs v), .int .i64 n, .slice so 0 sc] 50 (0, 0))) := by
    rw [hW]
    have := blk_new (w.alloc (.cells #[.int .i64 kd, .string (bs v), .int .i64 n, .slice ko 0 kc] 50)) (.cells #[.int .i64 kd, .string (bs v), .int .i64 n, .slice so 0 sc] 50)
    show _ = _
    simpa using this
  obtain ⟨B, HBe⟩ : ∃ A, Hid (A = w.heap.size + 1) := ⟨_, rfl⟩
  obtain ⟨A, HAe⟩ : ∃ A, Hid (A = w.heap.size) := ⟨_, rfl⟩
  rw [← HAe.out] at HA
  rw [← HBe.out] at HB
  have a0 : W.cell? ⟨A, 0, none⟩ = some (.int .i64 kd) := blk_at HA.out 0 rfl
  have a1 : W.cell? ⟨A, 1, none⟩ = some (.string (bs v)) := blk_at HA.out 1 rfl
  have a2 : W.cell? ⟨A, 2, none⟩ = some (.int .i64 n) := blk_at HA.out 2 rfl
  have a3 : W.cell? ⟨A, 3, none⟩ = some (.slice ko 0 kc) := blk_at HA.out 3 rfl
  have b0 : W.cell? ⟨B, 0, none⟩ = some (.int .i64 kd) := blk_at HB.out 0 rfl
  have b1 : W.cell? ⟨B, 1, none⟩ = some (.string (bs v)) := blk_at HB.out 1 rfl
  have b2 : W.cell? ⟨B, 2, none⟩ = some (.int .i64 n) := blk_at HB.out 2 rfl
  have b3 : W.cell? ⟨B, 3, none⟩ = some (.slice so 0 sc) := blk_at HB.out 3 rfl
  have e1 : (kd != kd) = false := by simp
  have e2 : ((bs v).toList != (bs v).toList) = false := by simp
  have e3 : (n != n) = false := by simp
  unfold rrV
  go_enter Tryz.func40, Tryz.ntmps40
  go_upto_region 1 with fail
  rw [← hW, ← HBe.out, ← HAe.out]
  clear hW
  go_wp2_with fail
  go_loopw [5] (fun u wr => u = .int .i64 0 ∧ wr = W) (fun _ _ => 0)
  case atStart => exact ⟨rfl, rfl⟩
  case round =>
    obtain ⟨rfl, hw⟩ := hrel
    subst hw
    have hirr : ¬ (0 : Int) < ((0 : Nat) : Int) := by omega
    go_wp2
    go_ret
    exact ⟨rfl, KW.out⟩
/-! ### jobOf -/
/-- What was given: any job. -/
structure Br where
  kd : Int
  k : List UInt8
  v : List UInt8
  m : Int
  tg : Int
  at' : Int
/-- What was begun: a job's command, and where it began. -/
structure Bg where
  kd : Int
  k : List UInt8
  v : List UInt8
  m : Int
  tg : Nat
  at' : Nat
structure BgOk (x : Bg) : Prop where
  kd : 1 ≤ x.kd ∧ x.kd ≤ 5
  k : x.k ∈ abc
  v : x.v.length ≤ 3
  m : 0 ≤ x.m ∧ x.m ≤ 3
  c : isCmd x.kd x.k x.v x.m = true
  tg : x.tg ≤ 3
  t2 : 0 < x.tg → x.kd = 2
  at' : 1 ≤ x.at' ∧ x.at' ≤ 3
def bgV (x : Bg) : Value := .agg #[.int .i64 x.kd, .string (bs x.k), .string (bs x.v), .int .i64 x.m, .int .i64 x.tg, .int .i64 x.at']
def brV (r : Br) : Value := .agg #[.int .i64 r.kd, .string (bs r.k), .string (bs r.v), .int .i64 r.m, .int .i64 r.tg, .int .i64 r.at']
theorem abc_at {n : Nat} (h : n < 3) : ByteArray.extract ⟨#[97, 98, 99]⟩ n (n + 1) = bs (abc[n]'h) := by
  rcases (show n = 0 ∨ n = 1 ∨ n = 2 by omega) with rfl | rfl | rfl <;> kernel_rfl
theorem cmd_is {kd : Int} {k v : List UInt8} {m : Int} (hkd : 1 ≤ kd ∧ kd ≤ 5) (hk : k ∈ abc) (hv : v.length ≤ 3) (hm : 0 ≤ m ∧ m ≤ 3) (h0 : kd ≠ 4 → m = 0) (h1 : kd = 2 ∨ kd = 3 → v = []) : isCmd kd k v m = true := by
  have hl := abc_len hk
  have hne : k.isEmpty = false := by cases k with | nil => simp at hl | cons _ _ => rfl
  have hn : isNum m = true := by unfold isNum; simp; omega
  unfold isCmd
  rw [hn, hne]
  rcases (show kd = 1 ∨ kd = 2 ∨ kd = 3 ∨ kd = 4 ∨ kd = 5 by omega) with e | e | e | e | e
  · subst e; rw [h0 (by omega)]; simp; omega
  · subst e; rw [h0 (by omega), h1 (.inl rfl)]; simp; omega
  · subst e; rw [h0 (by omega), h1 (.inr rfl)]; simp; omega
  · subst e; simp; omega
  · subst e; rw [h0 (by omega)]; simp; omega
def CoAt (W : World) (A : Nat) (kd : Int) (k v : List UInt8) (m : Int) : Prop := W.heap[A]? = some (.cells #[.int .i64 kd, .string (bs k), .string (bs v), .int .i64 m] 31 (0, 0))
theorem CoAt.s0 {W : World} {A : Nat} {kd : Int} {k v : List UInt8} {m : Int} (h : CoAt W A kd k v m) (x : Int) : CoAt (W.setCell ⟨A, 0, none⟩ (.int .i64 x)) A x k v m := blk_set h 0 _
theorem CoAt.s1 {W : World} {A : Nat} {kd : Int} {k v : List UInt8} {m : Int} (h : CoAt W A kd k v m) (x : List UInt8) : CoAt (W.setCell ⟨A, 1, none⟩ (.string (bs x))) A kd x v m := blk_set h 1 _
theorem CoAt.s2 {W : World} {A : Nat} {kd : Int} {k v : List UInt8} {m : Int} (h : CoAt W A kd k v m) (x : List UInt8) : CoAt (W.setCell ⟨A, 2, none⟩ (.string (bs x))) A kd k x m := blk_set h 2 _
theorem CoAt.s3 {W : World} {A : Nat} {kd : Int} {k v : List UInt8} {m : Int} (h : CoAt W A kd k v m) (x : Int) : CoAt (W.setCell ⟨A, 3, none⟩ (.int .i64 x)) A kd k v x := blk_set h 3 _
/-- The command in the making. -/
structure CoS (W X : World) (A : Nat) (kd : Int) (k v : List UInt8) (m : Int) : Prop where
  co : CoAt X A kd k v m
  kp : Kept (One A) W X
theorem CoS.s0 {W X : World} {A : Nat} {kd : Int} {k v : List UInt8} {m : Int} (h : CoS W X A kd k v m) (x : Int) : CoS W (X.setCell ⟨A, 0, none⟩ (.int .i64 x)) A x k v m := ⟨h.co.s0 x, h.kp.setCell (p := ⟨A, 0, none⟩) (fun _ => rfl) _⟩
theorem CoS.s1 {W X : World} {A : Nat} {kd : Int} {k v : List UInt8} {m : Int} (h : CoS W X A kd k v m) (x : List UInt8) : CoS W (X.setCell ⟨A, 1, none⟩ (.string (bs x))) A kd x v m := ⟨h.co.s1 x, h.kp.setCell (p := ⟨A, 1, none⟩) (fun _ => rfl) _⟩
theorem CoS.s2 {W X : World} {A : Nat} {kd : Int} {k v : List UInt8} {m : Int} (h : CoS W X A kd k v m) (x : List UInt8) : CoS W (X.setCell ⟨A, 2, none⟩ (.string (bs x))) A kd k x m := ⟨h.co.s2 x, h.kp.setCell (p := ⟨A, 2, none⟩) (fun _ => rfl) _⟩
theorem CoS.s3 {W X : World} {A : Nat} {kd : Int} {k v : List UInt8} {m : Int} (h : CoS W X A kd k v m) (x : Int) : CoS W (X.setCell ⟨A, 3, none⟩ (.int .i64 x)) A kd k v x := ⟨h.co.s3 x, h.kp.setCell (p := ⟨A, 3, none⟩) (fun _ => rfl) _⟩
end Go.Proofs.YtflnjlbafchnaaaGreatDoor

/-
  Cells: some jobs on three maps, in memory.
-/
namespace Go.Proofs.YtflnjlbafchnaaaGreatDoor
open Go.RowKit

/-! ### rows -/
/-- A row of one's own is touched by no append to one of another type, nor by what is kept. -/
def TyG (n0 : Nat) (t : TypeId) : Nat → Obj → Prop := fun g o => n0 ≤ g ∧ ∃ cs fr, o = .cells cs t fr
theorem kept_grown {n0 : Nat} {t : TypeId} {w w' : World} {v : Value} {size n : Nat} {xs : List Value} (h : w.ownsRow n0 t size v n xs) (hg : w.grownBy w' v.ownBlock) : Kept (TyG n0 t) w w' :=
  ⟨hg.os, hg.tape, hg.output, hg.size, fun k o ho hx => grown_blk hg ho (fun e => hx (by
    rcases h.2 with ⟨e1, _⟩ | ⟨g, cap, cur, e1, h2, h3, _⟩
    · rw [e1] at e; simp [Value.ownBlock] at e
    · rw [e1] at e
      have e2 : g = k := by simpa [Value.ownBlock] using e
      subst e2
      rw [h3] at ho
      cases ho
      exact ⟨h2, _, _, rfl⟩))⟩
theorem own_ty {n0 B : Nat} {t e : TypeId} {w w' : World} {v : Value} {size n : Nat} {xs : List Value} (h : w.ownsRow B e size v n xs) (hk : Kept (TyG n0 t) w w') (hne : e ≠ t) : w'.ownsRow B e size v n xs :=
  own_kept h hk (fun k cs _ x => by obtain ⟨_, _, _, x⟩ := x; simp at x; exact hne x.2.1)
theorem one_ty {b : Nat} {X X' : World} {cs : Array Value} {t : TypeId} {fr : Nat × Nat} (k : Kept (One b) X X') (hb : X.heap[b]? = some (.cells cs t fr)) : Kept (TyG 0 t) X X' :=
  ⟨k.os, k.tape, k.output, k.size, fun q o hq hx => k.block q o hq (fun e => hx (by
    have e' : q = b := e
    subst e'
    rw [hb] at hq
    cases hq
    exact ⟨Nat.zero_le _, _, _, rfl⟩))⟩
theorem Kept.grown0 {w w1 w2 : World} {v : Value} (k : Kept Nil w w1) (hg : w1.grownBy w2 v.ownBlock) (hb : ∀ g, v.ownBlock = some g → w.heap.size ≤ g) : Kept Nil w w2 :=
  ⟨hg.os.trans k.os, hg.tape.trans k.tape, hg.output.trans k.output, Nat.le_trans k.size hg.size, fun q o hq _ => grown_blk hg (k.block q o hq (fun x => x)) (fun e => by have := hb q e; have := lt_of_block hq; omega)⟩
theorem Kept.grownB {w w1 w2 : World} {n0 size n : Nat} {t : TypeId} {v : Value} {xs : List Value} (k : Kept Nil w w1) (h : w1.ownsRow n0 t size v n xs) (hg : w1.grownBy w2 v.ownBlock) (hn : w.heap.size ≤ n0) : Kept Nil w w2 :=
  k.grown0 hg (fun g e => Nat.le_trans hn (World.ownsRow.lt h g e).1)
theorem one_src (w : World) (t st : TypeId) (v : Value) (hu : Tryz.prog.underlying st = some (.slice t)) (hv : v.oneCell' = true) : Src Tryz.prog 1 st (.slice (some ⟨w.heap.size, 0, .none⟩) 1 1) 1 [v] (w.alloc (.cells #[v] t)) := by
  refine Src.ofSlice _ hu ⟨w.heap.size, 0, .none⟩ 1 1 _ rfl ?_ (fun u hu => by simp at hu; subst hu; exact hv)
  intro j u hj
  rw [addr_addE, blk_cell (blk_new w (.cells #[v] t)), ← hj]
  simp
theorem own_cell {B c n s : Nat} {t : TypeId} {w : World} {a : Addr} {xs : List Value} (h : w.ownsRow B t s (.slice (some a) n c) n xs) {j : Nat} {u : Value} (hj : xs[j]? = some u) : w.cell? (a.add j) = some u := by
  rcases h.2 with ⟨h1, _⟩ | ⟨g, cap, cur, h1, h2, h3, h4⟩
  · simp at h1
  · simp only [Value.slice.injEq, Option.some.injEq] at h1
    have hc := World.ownsRow.cells h (g := g) (by rw [h1.1]; rfl) j u hj
    rw [← h1.1] at hc
    exact hc
theorem own_some {B c n s : Nat} {t : TypeId} {w : World} {ao : Option Addr} {xs : List Value} (h : w.ownsRow B t s (.slice ao n c) n xs) (hn : 0 < n) : ∃ g, ao = some ⟨g, 0, none⟩ ∧ B ≤ g ∧ ∃ cs, w.heap[g]? = some (.cells cs t (0, 0)) := by
  rcases h.2 with ⟨h1, _⟩ | ⟨g, cap, cur, h1, h2, h3, h4⟩
  · simp at h1; omega
  · simp only [Value.slice.injEq] at h1
    exact ⟨g, h1.1, h2, cur, h3⟩
theorem OwnP.nilc {B c : Nat} {w : World} {ao : Option Addr} {ps : List Pr} (h : OwnP B w ao c ps) : ao = none → ps = [] ∧ c = 0 := fun e => by
  rcases h.2 with ⟨h1, h2⟩ | ⟨g, cap, cur, h1, _⟩
  · simp only [Value.slice.injEq] at h1
    exact ⟨List.eq_nil_of_length_eq_zero h1.2.1, h1.2.2⟩
  · rw [e] at h1
    simp at h1
theorem pairs_fit {ps : List Pr} (h : pairsOk ps = true) : Fit ps := fun p hp => by
  have := (prOk_iff ((pairs_ok h).2.2 p hp))
  unfold maxLen
  omega
theorem apR_v (kd : Int) (ck val : List UInt8) (m : Int) (ps : List Pr) : (apR kd ck val m ps).v.length ≤ 64 := by
  unfold apR
  split
  · rename_i h
    simp only [Bool.and_eq_true] at h
    have hs := (spot_ok h.1 ck).2.2.2
    unfold doR putRr swapRr putRr tellRr dropRr
    (repeat' split) <;> first | exact hs | exact Nat.zero_le _
  · exact Nat.zero_le _
/-! ### the spread -/
def bgC (x : Bg) : List Value := [.int .i64 x.kd, .string (bs x.k), .string (bs x.v), .int .i64 x.m, .int .i64 x.tg, .int .i64 x.at']
def jpV (d : Nat) : Value := .pointer (some ⟨d, 0, none⟩)
/-- One map: where it lies. -/
structure Ml where
  ao : Option Addr
  c : Nat
  ps : List Pr
def mlV (m : Ml) : Value := .slice m.ao m.ps.length m.c
structure Lo where
  jo : Option Addr
  jc : Nat
  ds : List Nat
  wo : Option Addr
  wc : Nat
  xs : List Bg
def BegR (n0 : Nat) (w : World) (wo : Option Addr) (wc : Nat) (xs : List Bg) : Prop := w.ownsRow n0 91 6 (.slice wo xs.length wc) xs.length (xs.flatMap bgC)
def JRow (n0 : Nat) (w : World) (jo : Option Addr) (jc : Nat) (ds : List Nat) : Prop := w.ownsRow n0 67 1 (.slice jo ds.length jc) ds.length (ds.map jpV)
/-- What a step may touch. -/
def XC (n0 : Nat) : Nat → Obj → Prop := fun g o => n0 ≤ g ∧ ∃ cs fr t, o = .cells cs t fr ∧ (t = 135 ∨ t = 55)
theorem XC.off {n0 g : Nat} {cs : Array Value} {t : TypeId} {fr : Nat × Nat} (h1 : t ≠ 135) (h2 : t ≠ 55) : ¬ XC n0 g (.cells cs t fr) := fun ⟨_, c2, f2, t2, e, h⟩ => by
  simp only [Obj.cells.injEq] at e
  rcases h with h | h
  · exact h1 (e.2.1.trans h)
  · exact h2 (e.2.1.trans h)
theorem own_xc {n0 B : Nat} {e : TypeId} {w w' : World} {v : Value} {size n : Nat} {xs : List Value} (h : w.ownsRow B e size v n xs) (hk : Kept (XC n0) w w') (h1 : e ≠ 135) (h2 : e ≠ 55) : w'.ownsRow B e size v n xs :=
  own_kept h hk (fun _ _ _ x => XC.off h1 h2 x)
theorem Kept.xc {n0 : Nat} {a X Y : World} (h : Kept Nil a X) (k : Kept (XC n0) X Y) (hn : a.heap.size ≤ n0) : Kept Nil a Y :=
  ⟨k.os.trans h.os, k.tape.trans h.tape, k.output.trans h.output, Nat.le_trans h.size k.size, fun q o hq _ => k.block q o (h.block q o hq (fun x => x)) (fun x => by have := x.1; have := lt_of_block hq; omega)⟩
/-- Jobs on three maps, in memory; w: the elder world. -/
structure CM (w X : World) (sb mb : Nat) (L : Lo) (ns : List Ml) (J : Nat → Jb) : Prop where
  sp : X.heap[sb]? = some (.cells #[.slice (some ⟨mb, 0, none⟩) 3 3, .slice L.jo L.ds.length L.jc, .slice L.wo L.xs.length L.wc] 94 (0, 0))
  mp : X.heap[mb]? = some (.cells (ns.map mlV).toArray 55 (0, 0))
  row : ∀ m ∈ ns, OwnP w.heap.size X m.ao m.c m.ps
  jr : JRow w.heap.size X L.jo L.jc L.ds
  wr : BegR w.heap.size X L.wo L.wc L.xs
  jb : ∀ i, (hi : i < L.ds.length) → ∃ K, JbAt X L.ds[i] (J i) K
  inj : ∀ i j, (hi : i < L.ds.length) → (hj : j < L.ds.length) → i ≠ j → L.ds[i] ≠ L.ds[j]
  ge : ∀ i, (hi : i < L.ds.length) → w.heap.size ≤ L.ds[i]
  sbw : w.heap.size ≤ sb
  mbw : w.heap.size ≤ mb
  kw : Kept Nil w X
variable {w X X' : World} {sb mb : Nat} {L : Lo} {ns : List Ml} {J : Nat → Jb}
theorem CM.next (h : CM w X sb mb L ns J) (k : Kept Nil X X') : CM w X' sb mb L ns J :=
  ⟨k.block _ _ h.sp (fun x => x), k.block _ _ h.mp (fun x => x), fun m hm => (h.row m hm).kept k, own_kept h.jr k (fun _ _ _ x => x), own_kept h.wr k (fun _ _ _ x => x), fun i hi => by obtain ⟨K, hK⟩ := h.jb i hi; exact ⟨K, hK.kept k⟩, h.inj, h.ge, h.sbw, h.mbw, h.kw.trans k⟩
theorem one_xc {n0 b : Nat} {X X' : World} {cs : Array Value} {t : TypeId} {fr : Nat × Nat} (k : Kept (One b) X X') (hb : X.heap[b]? = some (.cells cs t fr)) (hn : n0 ≤ b) (ht : t = 135 ∨ t = 55) : Kept (XC n0) X X' :=
  ⟨k.os, k.tape, k.output, k.size, fun q o hq hx => k.block q o hq (fun e => hx (by
    have e' : q = b := e
    subst e'
    rw [hb] at hq
    cases hq
    exact ⟨hn, _, _, _, rfl, ht⟩))⟩
theorem mls_set (ns : List Ml) (i : Nat) (m : Ml) : ((ns.set i m).map mlV).toArray = (ns.map mlV).toArray.setIfInBounds i (mlV m) := by
  rw [List.map_set]
  simp
/-- A map is written. -/
theorem CM.put (h : CM w X sb mb L ns J) {i : Nat} {m : Ml} (hm : OwnP w.heap.size X m.ao m.c m.ps) : CM w (X.setCell ⟨mb, i, none⟩ (mlV m)) sb mb L (ns.set i m) J ∧ Kept (XC w.heap.size) X (X.setCell ⟨mb, i, none⟩ (mlV m)) := by
  have hk : Kept (One mb) X (X.setCell ⟨mb, i, none⟩ (mlV m)) := (Kept.refl _ _).setCell (p := ⟨mb, i, none⟩) (fun _ => rfl) _
  have hx := one_xc (n0 := w.heap.size) hk h.mp h.mbw (.inr rfl)
  refine ⟨⟨hx.block _ _ h.sp (XC.off (by decide) (by decide)), ?_, fun x hxx => ?_, own_xc h.jr hx (by decide) (by decide), own_xc h.wr hx (by decide) (by decide), fun j hj => ?_, h.inj, h.ge, h.sbw, h.mbw, h.kw.xc hx (Nat.le_refl _)⟩, hx⟩
  · rw [mls_set]
    exact blk_set h.mp i _
  · rcases List.mem_or_eq_of_mem_set hxx with hxx | hxx
    · exact own_xc (h.row x hxx) hx (by decide) (by decide)
    · rw [hxx]; exact own_xc hm hx (by decide) (by decide)
  · obtain ⟨K, hK⟩ := h.jb j hj
    refine ⟨K, hk.block _ _ hK (fun e => ?_)⟩
    have e' : L.ds[j] = mb := e
    have hmp := h.mp
    unfold JbAt at hK
    rw [e', hmp] at hK
    simp at hK
/-- A job is answered. -/
theorem CM.ans (h : CM w X sb mb L ns J) {i : Nat} (hi : i < L.ds.length) {j : Jb} {e : Ending} (hp : JPost X L.ds[i] j e X') : e = .returned (.tuple #[]) ∧ CM w X' sb mb L ns (updj J i j) ∧ Kept (XC w.heap.size) X X' := by
  obtain ⟨he, ⟨K, hK⟩, hk⟩ := hp
  obtain ⟨K0, hK0⟩ := h.jb i hi
  have hx := one_xc (n0 := w.heap.size) hk hK0 (h.ge i hi) (.inl rfl)
  refine ⟨he, ⟨hx.block _ _ h.sp (XC.off (by decide) (by decide)), hk.block _ _ h.mp (fun e => ?_), fun x hxx => own_xc (h.row x hxx) hx (by decide) (by decide), own_xc h.jr hx (by decide) (by decide), own_xc h.wr hx (by decide) (by decide), fun x hxl => ?_, h.inj, h.ge, h.sbw, h.mbw, h.kw.xc hx (Nat.le_refl _)⟩, hx⟩
  · have e' : mb = L.ds[i] := e
    have hmp := h.mp
    unfold JbAt at hK0
    rw [e', hK0] at hmp
    simp at hmp
  · by_cases ex : x = i
    · subst ex
      rw [updj_at]
      exact ⟨K, hK⟩
    · rw [updj_ne J _ ex]
      obtain ⟨K1, hK1⟩ := h.jb x hxl
      exact ⟨K1, hk.block _ _ hK1 (fun e => h.inj x i hxl hi ex e)⟩
theorem CM.job (h : CM w X sb mb L ns J) {i : Nat} (hi : i < L.ds.length) {a : Addr} (ha : L.jo = some a) : X.cell? (a.add i) = some (.pointer (some ⟨L.ds[i], 0, none⟩)) := by
  have hr := h.jr
  unfold JRow at hr
  rw [ha] at hr
  exact own_cell hr (by rw [List.getElem?_map, List.getElem?_eq_getElem hi]; rfl)
theorem CM.map (h : CM w X sb mb L ns J) {i : Nat} (hi : i < ns.length) : X.cell? ⟨mb, i, none⟩ = some (mlV ns[i]) := by
  refine blk_at h.mp i ?_
  rw [List.getElem?_toArray, List.getElem?_map, List.getElem?_eq_getElem hi]
  rfl
theorem CM.mrow (h : CM w X sb mb L ns J) (hok : ∀ ps ∈ ns.map Ml.ps, pairsOk ps = true) : MRow X (some ⟨mb, 0, none⟩) (ns.map Ml.ps) := fun i hi => by
  rw [List.length_map] at hi
  have ho := hok _ (List.mem_map.2 ⟨_, List.getElem_mem hi, rfl⟩)
  have hr := h.row _ (List.getElem_mem hi)
  refine ⟨⟨mb, 0, none⟩, ns[i].ao, ns[i].c, rfl, lt_of_block h.mp, ?_, ?_, ?_, ?_⟩
  · rw [addr_addE]
    have := h.map hi
    simp only [List.getElem_map]
    simpa [mlV] using this
  · simp only [List.getElem_map]
    exact hr.row (pairs_fit ho)
  · simp only [List.getElem_map]
    exact hr.nilc
  · simp only [List.getElem_map]
    have := (pairs_ok ho).1
    omega
end Go.Proofs.YtflnjlbafchnaaaGreatDoor

/-
  The laws of cells: rows of jobs that were given; what is begun.
-/
namespace Go.Proofs.YtflnjlbafchnaaaGreatDoor
open Go.RowKit

theorem flat_at {α : Type} (f : α → List Value) (k : Nat) (hf : ∀ x, (f x).length = k) : ∀ (xs : List α) (j : Nat) (hj : j < xs.length) (i : Nat), i < k → (xs.flatMap f)[j * k + i]? = (f xs[j])[i]?
  | [], j, hj, i, _ => by simp at hj
  | x :: t, 0, hj, i, hi => by
    simp only [List.flatMap_cons, Nat.zero_mul, Nat.zero_add, List.getElem_cons_zero]
    rw [List.getElem?_append_left (by rw [hf]; exact hi)]
  | x :: t, j + 1, hj, i, hi => by
    have h := flat_at f k hf t j (by simpa using hj) i hi
    simp only [List.flatMap_cons, List.getElem_cons_succ]
    rw [List.getElem?_append_right (by rw [hf, Nat.add_mul]; omega), hf, show (j + 1) * k + i - k = j * k + i by rw [Nat.add_mul]; omega]
    exact h
theorem flat_len {α : Type} (f : α → List Value) (k : Nat) (hf : ∀ x, (f x).length = k) : ∀ (xs : List α), (xs.flatMap f).length = xs.length * k
  | [] => by simp
  | x :: t => by
    have h := flat_len f k hf t
    simp only [List.flatMap_cons, List.length_append, hf, h, List.length_cons, Nat.add_mul]
    omega
def brC (r : Br) : List Value := [.int .i64 r.kd, .string (bs r.k), .string (bs r.v), .int .i64 r.m, .int .i64 r.tg, .int .i64 r.at']
/-- Jobs that were given, in a row. -/
def BrRow (B : Nat) (w : World) (ao : Option Addr) (rs : List Br) : Prop := ∀ j, (hj : j < rs.length) → ∃ a, ao = some a ∧ a.block < B ∧ w.cell? (a.add (j * 6)) = some (.int .i64 rs[j].kd) ∧ w.cell? ⟨(a.add (j * 6)).block, (a.add (j * 6)).off + 1, none⟩ = some (.string (bs rs[j].k)) ∧ w.cell? ⟨(a.add (j * 6)).block, (a.add (j * 6)).off + 2, none⟩ = some (.string (bs rs[j].v)) ∧ w.cell? ⟨(a.add (j * 6)).block, (a.add (j * 6)).off + 3, none⟩ = some (.int .i64 rs[j].m) ∧ w.cell? ⟨(a.add (j * 6)).block, (a.add (j * 6)).off + 4, none⟩ = some (.int .i64 rs[j].tg) ∧ w.cell? ⟨(a.add (j * 6)).block, (a.add (j * 6)).off + 5, none⟩ = some (.int .i64 rs[j].at') ∧ (rs[j].k.length : Int) ≤ 140737488355328 ∧ (rs[j].v.length : Int) ≤ 140737488355328
theorem BrRow.kept {B : Nat} {w w' : World} {ao : Option Addr} {rs : List Br} (h : BrRow B w ao rs) (k : Kept Nil w w') : BrRow B w' ao rs := fun j hj => by
  obtain ⟨a, e, hb, c0, c1, c2, c3, c4, c5, l⟩ := h j hj
  exact ⟨a, e, hb, cell_kept k (fun _ x => x) c0, cell_kept k (fun _ x => x) c1, cell_kept k (fun _ x => x) c2, cell_kept k (fun _ x => x) c3, cell_kept k (fun _ x => x) c4, cell_kept k (fun _ x => x) c5, l⟩
theorem brC_one (rs : List Br) : ∀ v ∈ rs.flatMap brC, v.oneCell' = true := fun u hu => by
  obtain ⟨o, _, hu⟩ := List.mem_flatMap.1 hu
  simp [brC] at hu
  rcases hu with rfl | rfl | rfl | rfl | rfl | rfl <;> rfl
theorem BrRow.src {B c : Nat} {w : World} {ao : Option Addr} {rs : List Br} (h : BrRow B w ao rs) : Src Tryz.prog 6 87 (.slice ao rs.length c) rs.length (rs.flatMap brC) w := by
  cases hes : rs with
  | nil =>
    cases ao with
    | none => exact Src.ofNil _ Tryz.underlying87 c
    | some a => exact Src.ofSlice _ Tryz.underlying87 a 0 c [] rfl (fun j u hj => by simp at hj) (fun u hu => by simp at hu)
  | cons x t =>
    rw [← hes]
    obtain ⟨a, rfl, _⟩ := h 0 (by rw [hes]; simp)
    refine Src.ofSlice _ Tryz.underlying87 a rs.length c _ (flat_len brC 6 (fun _ => rfl) rs) ?_ (brC_one rs)
    intro j u hj
    have hlt : j < rs.length * 6 := by have := (List.getElem?_eq_some_iff.1 hj).1; rwa [flat_len brC 6 (fun _ => rfl)] at this
    obtain ⟨a', e, _, q0, q1, q2, q3, q4, q5, _⟩ := h (j / 6) (by omega)
    simp only [Option.some.injEq] at e
    subst e
    have ex := fun i hi => flat_at brC 6 (fun _ => rfl) rs (j / 6) (by omega) i hi
    have hadd : ∀ r, 0 < r → j = j / 6 * 6 + r → a.add j = ⟨(a.add (j / 6 * 6)).block, (a.add (j / 6 * 6)).off + r, none⟩ := fun r hr hj => by
      generalize j / 6 * 6 = m at hj ⊢
      rw [hj, ← addr_add2]
      exact add_posE _ hr
    rcases (show j = j / 6 * 6 + 0 ∨ j = j / 6 * 6 + 1 ∨ j = j / 6 * 6 + 2 ∨ j = j / 6 * 6 + 3 ∨ j = j / 6 * 6 + 4 ∨ j = j / 6 * 6 + 5 by omega) with e | e | e | e | e | e
    · rw [e, ex 0 (by omega)] at hj; rw [e, Nat.add_zero]; simp [brC] at hj; rw [← hj]; exact q0
    · rw [e, ex 1 (by omega)] at hj; rw [hadd 1 (by omega) e]; simp [brC] at hj; rw [← hj]; exact q1
    · rw [e, ex 2 (by omega)] at hj; rw [hadd 2 (by omega) e]; simp [brC] at hj; rw [← hj]; exact q2
    · rw [e, ex 3 (by omega)] at hj; rw [hadd 3 (by omega) e]; simp [brC] at hj; rw [← hj]; exact q3
    · rw [e, ex 4 (by omega)] at hj; rw [hadd 4 (by omega) e]; simp [brC] at hj; rw [← hj]; exact q4
    · rw [e, ex 5 (by omega)] at hj; rw [hadd 5 (by omega) e]; simp [brC] at hj; rw [← hj]; exact q5
/-- An owned row of such. -/
theorem BrRow.own {B c : Nat} {w : World} {ao : Option Addr} {rs : List Br} (h : w.ownsRow B 91 6 (.slice ao rs.length c) rs.length (rs.flatMap brC)) (hl : ∀ r ∈ rs, (r.k.length : Int) ≤ 140737488355328 ∧ (r.v.length : Int) ≤ 140737488355328) : BrRow w.heap.size w ao rs := fun j hj => by
  obtain ⟨g, rfl, _, cs, hb⟩ := own_some h (by omega)
  have ex := fun i hi => flat_at brC 6 (fun _ => rfl) rs j hj i hi
  have hc : ∀ i, i < 6 → w.cell? ⟨g, j * 6 + i, none⟩ = (brC rs[j])[i]? := fun i hi => by
    have hlt : i < (brC rs[j]).length := hi
    have := own_cell h (j := j * 6 + i) (u := (brC rs[j])[i]) (by rw [ex i hi]; exact List.getElem?_eq_getElem hlt)
    rw [addr_addE] at this
    rw [List.getElem?_eq_getElem hlt]
    simpa using this
  refine ⟨⟨g, 0, none⟩, rfl, lt_of_block hb, ?_, ?_, ?_, ?_, ?_, ?_, hl _ (List.getElem_mem hj)⟩
  · rw [addr_addE]; exact hc 0 (by omega)
  · rw [addr_addE]; exact hc 1 (by omega)
  · rw [addr_addE]; exact hc 2 (by omega)
  · rw [addr_addE]; exact hc 3 (by omega)
  · rw [addr_addE]; exact hc 4 (by omega)
  · rw [addr_addE]; exact hc 5 (by omega)
theorem Tryz.infoJp : (Tryz.prog.info? 67).map (fun i => (i.zero, i.size, i.bytes)) = some (some (.pointer none), 1, 8) := by kernel_rfl
theorem Tryz.infoBg : (Tryz.prog.info? 91).map (fun i => (i.zero, i.size, i.bytes)) = some (some (.agg #[.int .i64 0, .string ⟨#[]⟩, .string ⟨#[]⟩, .int .i64 0, .int .i64 0, .int .i64 0]), 6, 64) := by kernel_rfl
/-! ### one more that begins -/
def XB (n0 : Nat) : Nat → Obj → Prop := fun g o => n0 ≤ g ∧ ∃ cs fr t, o = .cells cs t fr ∧ (t = 67 ∨ t = 91 ∨ t = 94)
theorem XB.off {n0 g : Nat} {cs : Array Value} {t : TypeId} {fr : Nat × Nat} (h1 : t ≠ 67) (h2 : t ≠ 91) (h3 : t ≠ 94) : ¬ XB n0 g (.cells cs t fr) := fun ⟨_, c2, f2, t2, e, h⟩ => by
  simp only [Obj.cells.injEq] at e
  rcases h with h | h | h
  · exact h1 (e.2.1.trans h)
  · exact h2 (e.2.1.trans h)
  · exact h3 (e.2.1.trans h)
theorem ty_xb {n0 : Nat} {t : TypeId} {X Y : World} (k : Kept (TyG n0 t) X Y) (ht : t = 67 ∨ t = 91 ∨ t = 94) : Kept (XB n0) X Y := k.mono (fun _ _ ⟨h, cs, fr, e⟩ => ⟨h, cs, fr, t, e, ht⟩)
theorem one_tyG {n0 b : Nat} {X X' : World} {cs : Array Value} {t : TypeId} {fr : Nat × Nat} (k : Kept (One b) X X') (hb : X.heap[b]? = some (.cells cs t fr)) (hn : n0 ≤ b) : Kept (TyG n0 t) X X' :=
  ⟨k.os, k.tape, k.output, k.size, fun q o hq hx => k.block q o hq (fun e => hx (by
    have e' : q = b := e
    subst e'
    rw [hb] at hq
    cases hq
    exact ⟨hn, _, _, rfl⟩))⟩
theorem xb_nil {n0 : Nat} {X Y : World} (k : Kept Nil X Y) : Kept (XB n0) X Y := k.mono (fun _ _ x => x.elim)
theorem Kept.xb {n0 : Nat} {a X Y : World} (h : Kept Nil a X) (k : Kept (XB n0) X Y) (hn : a.heap.size ≤ n0) : Kept Nil a Y :=
  ⟨k.os.trans h.os, k.tape.trans h.tape, k.output.trans h.output, Nat.le_trans h.size k.size, fun q o hq _ => k.block q o (h.block q o hq (fun x => x)) (fun x => by have := x.1; have := lt_of_block hq; omega)⟩
theorem own_xb {n0 B : Nat} {e : TypeId} {w w' : World} {v : Value} {size n : Nat} {xs : List Value} (h : w.ownsRow B e size v n xs) (hk : Kept (XB n0) w w') (h1 : e ≠ 67) (h2 : e ≠ 91) (h3 : e ≠ 94) : w'.ownsRow B e size v n xs :=
  own_kept h hk (fun _ _ _ x => XB.off h1 h2 h3 x)
variable {w X X' : World} {sb mb : Nat} {L : Lo} {ns : List Ml} {J : Nat → Jb}
theorem CM.grow (h : CM w X sb mb L ns J) (k : Kept (XB w.heap.size) X X') {b : Nat} {j : Jb} {K : Jk} (hj : JbAt X b j K) (hb : ∀ i, (hi : i < L.ds.length) → L.ds[i] ≠ b) (hbw : w.heap.size ≤ b) {jo wo : Option Addr} {jc wc : Nat} {xs : List Bg}
    (sp : X'.heap[sb]? = some (.cells #[.slice (some ⟨mb, 0, none⟩) 3 3, .slice jo (L.ds ++ [b]).length jc, .slice wo xs.length wc] 94 (0, 0)))
    (jr : JRow w.heap.size X' jo jc (L.ds ++ [b])) (wr : BegR w.heap.size X' wo wc xs) : CM w X' sb mb ⟨jo, jc, L.ds ++ [b], wo, wc, xs⟩ ns (updj J L.ds.length j) := by
  refine ⟨sp, k.block _ _ h.mp (XB.off (by decide) (by decide) (by decide)), fun m hm => own_xb (h.row m hm) k (by decide) (by decide) (by decide), jr, wr, fun i hi => ?_, fun i i' hi hi' hne => ?_, fun i hi => ?_, h.sbw, h.mbw, h.kw.xb k (Nat.le_refl _)⟩
  · have hi' : i < (L.ds ++ [b]).length := hi
    rw [List.length_append, List.length_singleton] at hi'
    by_cases e : i = L.ds.length
    · subst e
      rw [updj_at]
      refine ⟨K, k.block _ _ ?_ (XB.off (by decide) (by decide) (by decide))⟩
      simp only [List.getElem_append_right (Nat.le_refl _), Nat.sub_self, List.getElem_singleton]
      exact hj
    · rw [updj_ne J _ e]
      obtain ⟨K1, h1⟩ := h.jb i (by omega)
      refine ⟨K1, k.block _ _ ?_ (XB.off (by decide) (by decide) (by decide))⟩
      simp only [List.getElem_append_left (show i < L.ds.length by omega)]
      exact h1
  · have a1 : i < (L.ds ++ [b]).length := hi
    have a2 : i' < (L.ds ++ [b]).length := hi'
    rw [List.length_append, List.length_singleton] at a1 a2
    show (L.ds ++ [b])[i] ≠ (L.ds ++ [b])[i']
    by_cases e : i < L.ds.length
    · rw [List.getElem_append_left e]
      by_cases e' : i' < L.ds.length
      · rw [List.getElem_append_left e']
        exact h.inj i i' e e' hne
      · rw [List.getElem_append_right (by omega)]
        simp only [List.getElem_singleton]
        exact hb i e
    · rw [List.getElem_append_right (by omega)]
      have e' : i' < L.ds.length := by omega
      rw [List.getElem_append_left e']
      simp only [List.getElem_singleton]
      exact (hb i' e').symm
  · have a1 : i < (L.ds ++ [b]).length := hi
    rw [List.length_append, List.length_singleton] at a1
    show w.heap.size ≤ (L.ds ++ [b])[i]
    by_cases e : i < L.ds.length
    · rw [List.getElem_append_left e]
      exact h.ge i e
    · rw [List.getElem_append_right (by omega)]
      simp only [List.getElem_singleton]
      exact hbw
/-- An elder world still. -/
theorem CM.elder {w0 : World} (h : CM w X sb mb L ns J) (k : Kept Nil w0 w) : CM w0 X sb mb L ns J :=
  ⟨h.sp, h.mp, fun m hm => own_mono (h.row m hm) k.size, own_mono h.jr k.size, own_mono h.wr k.size, h.jb, h.inj, fun i hi => Nat.le_trans k.size (h.ge i hi), Nat.le_trans k.size h.sbw, Nat.le_trans k.size h.mbw, k.trans h.kw⟩
theorem BegR.push {n0 wc n : Nat} {w : World} {wo : Option Addr} {xs : List Bg} {x : Bg} (hn : n = xs.length) (h : w.ownsRow n0 91 6 (.slice wo (n + 1) wc) (n + 1) (xs.flatMap bgC ++ bgC x)) : BegR n0 w wo wc (xs ++ [x]) := by
  subst hn
  show World.ownsRow _ _ _ _ _ _ _
  rw [List.length_append, List.flatMap_append]
  simpa using h
theorem JRow.push {n0 jc n : Nat} {w : World} {jo : Option Addr} {ds : List Nat} {b : Nat} (hn : n = ds.length) (h : w.ownsRow n0 67 1 (.slice jo (n + 1) jc) (n + 1) (ds.map jpV ++ [.pointer (some ⟨b, 0, none⟩)])) : JRow n0 w jo jc (ds ++ [b]) := by
  subst hn
  show World.ownsRow _ _ _ _ _ _ _
  rw [List.length_append, List.map_append]
  exact h
theorem bg_src (w : World) (x : Bg) : Src Tryz.prog 6 87 (.slice (some ⟨w.heap.size, 0, .none⟩) 1 1) 1 (bgC x) (w.alloc (.cells #[.int .i64 x.kd, .string (bs x.k), .string (bs x.v), .int .i64 x.m, .int .i64 x.tg, .int .i64 x.at'] 91)) := by
  refine Src.ofSlice _ Tryz.underlying87 ⟨w.heap.size, 0, .none⟩ 1 1 _ rfl ?_ (fun u hu => by simp [bgC] at hu; rcases hu with rfl | rfl | rfl | rfl | rfl | rfl <;> rfl)
  intro j u hj
  rw [addr_addE, blk_cell (blk_new w (.cells #[.int .i64 x.kd, .string (bs x.k), .string (bs x.v), .int .i64 x.m, .int .i64 x.tg, .int .i64 x.at'] 91)), ← hj]
  simp [bgC]
/-- What those that were begun are. -/
structure BgI (rs : List Br) (L : Lo) (J : Nat → Jb) : Prop where
  len : L.xs.length = L.ds.length
  new : ∀ i, (hi : i < L.xs.length) → BgOk L.xs[i] ∧ J i = Jb.new L.xs[i].kd L.xs[i].k L.xs[i].v L.xs[i].m L.xs[i].tg L.xs[i].at' ∧ ∃ h : i < rs.length, (L.xs[i].at' : Int) = 1 + rs[i].at' % 3
theorem BgI.push {rs : List Br} (h : BgI rs L J) {jo wo : Option Addr} {jc wc b : Nat} {x : Bg} (hx : BgOk x) {hn : L.ds.length < rs.length} (hat : (x.at' : Int) = 1 + (rs[L.ds.length]'hn).at' % 3) : BgI rs ⟨jo, jc, L.ds ++ [b], wo, wc, L.xs ++ [x]⟩ (updj J L.ds.length (Jb.new x.kd x.k x.v x.m x.tg x.at')) := by
  have hl := h.len
  refine ⟨by simp [hl], fun i hi => ?_⟩
  have a1 : i < (L.xs ++ [x]).length := hi
  rw [List.length_append, List.length_singleton] at a1
  by_cases e : i < L.xs.length
  · have ee : (L.xs ++ [x])[i] = L.xs[i] := List.getElem_append_left e
    obtain ⟨q1, q2, q3, q4⟩ := h.new i e
    show BgOk (L.xs ++ [x])[i] ∧ _
    simp only [ee]
    exact ⟨q1, by rw [updj_ne J _ (by omega)]; exact q2, q3, q4⟩
  · have ei : i = L.xs.length := by omega
    have ee : (L.xs ++ [x])[i] = x := by
      rw [List.getElem_append_right (by omega)]
      simp
    show BgOk (L.xs ++ [x])[i] ∧ _
    simp only [ee]
    have e2 : i = L.ds.length := by omega
    subst e2
    exact ⟨hx, updj_at _ _ _, hn, hat⟩
theorem BgOk.jbL {x : Bg} (h : BgOk x) : JbL (Jb.new x.kd x.k x.v x.m x.tg x.at') := by
  have hk := abc_len h.k
  have hv := h.v
  have hm := h.m
  have ht := h.tg
  have ha := h.at'
  refine ⟨Jb.Ok.new h.kd (by omega) (by omega) (by omega) (by omega) (by omega) (by omega) (by omega), h.k, h.v, ?_⟩
  exact ⟨Int.le_refl _, Int.le_refl _⟩
theorem BgI.run {rs : List Br} (h : BgI rs L J) : CR [[], [], []] J L.ds.length (fun _ => []) (fun _ => 0) 0 := by
  have hl := h.len
  refine CR.first (fun i hi => ?_) (fun i hi => ?_) (fun i hi => ?_)
  · obtain ⟨q1, q2, _⟩ := h.new i (by omega)
    rw [q2]
    exact q1.jbL
  · obtain ⟨q1, q2, _⟩ := h.new i (by omega)
    exact ⟨_, _, _, _, _, _, q2, q1.at'.1, q1.at'.2, q1.tg⟩
  · obtain ⟨q1, q2, _⟩ := h.new i (by omega)
    rw [q2]
    exact q1.c
def nil3 : List Ml := [⟨none, 0, []⟩, ⟨none, 0, []⟩, ⟨none, 0, []⟩]
end Go.Proofs.YtflnjlbafchnaaaGreatDoor
