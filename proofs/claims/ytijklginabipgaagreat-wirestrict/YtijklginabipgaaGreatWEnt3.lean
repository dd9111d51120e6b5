/-
  An entry read by the program's reader.
-/
import Derived.Test.YtijklginabipgaaGreatWEnt2
namespace Go.Proofs.YtijklginabipgaaGreat
open Go.RowKit

def rdEntEnd (x : En) (l : List UInt8) : Except Int (En × List UInt8) := if x.ok then .ok (x, l) else .error 6
def rdEnt (l : List UInt8) : Except Int (En × List UInt8) :=
  rdThen (rdNum l) fun ix l => rdThen (rdNum l) fun tm l => rdThen (rdNum l) fun kd l => rdThen (rdText 256 l) fun dt l => rdEntEnd ⟨ix, tm, kd, dt⟩ l
def EnV : En → World → Value → Prop := fun x _ v => v = .agg #[.int .i64 x.ix, .int .i64 x.tm, .int .i64 x.kd, .string (bs x.dt)]

set_option maxRecDepth 100000 in
set_option maxHeartbeats 4000000 in
theorem rEntry_any (p : Addr) (l : List UInt8) (w : World) (hl : Left p w l) :
    Calls Tryz.prog 22 #[.pointer (some p)] w (RdPost p w (rdEnt l) (EnV)) := by
  have HB : Hid (p.block < w.heap.size) := cell_lt hl.cell
  have HN : Hid (_) := blk_new w (.cells #[.int .i64 0, .int .i64 0, .int .i64 0, .string (bs [])] 32)
  have HX : Hid (¬ One p.block w.heap.size (.cells #[.int .i64 0, .int .i64 0, .int .i64 0, .string (bs [])] 32 (0, 0))) := fun (e : w.heap.size = p.block) => by have := HB.out; omega
  have hla := hl.alloc (.cells #[.int .i64 0, .int .i64 0, .int .i64 0, .string (bs [])] 32)
  clear hl
  cases r1 : rdNum l with
  | error c =>
    have HR : Hid (rdEnt l = .error c) := rdThen_no r1
    go_enter Tryz.func22, Tryz.ntmps22
    go_wp2_with fail
    refine (number_no hla r1).mono ?_
    rintro e w1 ⟨rfl, k1⟩
    go_wp2
    unfold bodyPost RdPost
    rw [HR.out]
    exact ⟨rfl, rfl, (((Kept.refl _ _).alloc _).trans k1)⟩
  | ok x1 =>
  obtain ⟨ix, l1⟩ := x1
  cases r2 : rdNum l1 with
  | error c =>
    have HR : Hid (rdEnt l = .error c) := (rdThen_ok r1).trans (rdThen_no r2)
    go_enter Tryz.func22, Tryz.ntmps22
    go_wp2_with fail
    refine (number_ok hla r1).mono ?_
    rintro e w1 ⟨rfl, c1, z1, k1⟩
    go_wp2_with fail
    refine (number_no ⟨c1, z1⟩ r2).mono ?_
    rintro e w2 ⟨rfl, k2⟩
    go_wp2
    unfold bodyPost RdPost
    rw [HR.out]
    exact ⟨rfl, rfl, ((((Kept.refl _ _).alloc _).trans k1).trans k2)⟩
  | ok x2 =>
  obtain ⟨tm, l2⟩ := x2
  cases r3 : rdNum l2 with
  | error c =>
    have HR : Hid (rdEnt l = .error c) := (rdThen_ok r1).trans ((rdThen_ok r2).trans (rdThen_no r3))
    go_enter Tryz.func22, Tryz.ntmps22
    go_wp2_with fail
    refine (number_ok hla r1).mono ?_
    rintro e w1 ⟨rfl, c1, z1, k1⟩
    go_wp2_with fail
    refine (number_ok ⟨c1, z1⟩ r2).mono ?_
    rintro e w2 ⟨rfl, c2, z2, k2⟩
    go_wp2_with fail
    refine (number_no ⟨c2, z2⟩ r3).mono ?_
    rintro e w3 ⟨rfl, k3⟩
    go_wp2
    unfold bodyPost RdPost
    rw [HR.out]
    exact ⟨rfl, rfl, (((((Kept.refl _ _).alloc _).trans k1).trans k2).trans k3)⟩
  | ok x3 =>
  obtain ⟨kd, l3⟩ := x3
  cases r4 : rdText 256 l3 with
  | error c =>
    have HR : Hid (rdEnt l = .error c) := (rdThen_ok r1).trans ((rdThen_ok r2).trans ((rdThen_ok r3).trans (rdThen_no r4)))
    go_enter Tryz.func22, Tryz.ntmps22
    go_wp2_with fail
    refine (number_ok hla r1).mono ?_
    rintro e w1 ⟨rfl, c1, z1, k1⟩
    go_wp2_with fail
    refine (number_ok ⟨c1, z1⟩ r2).mono ?_
    rintro e w2 ⟨rfl, c2, z2, k2⟩
    go_wp2_with fail
    refine (number_ok ⟨c2, z2⟩ r3).mono ?_
    rintro e w3 ⟨rfl, c3, z3, k3⟩
    go_wp2_with fail
    refine (text_no ⟨c3, z3⟩ r4).mono ?_
    rintro e w4 ⟨rfl, k4⟩
    go_wp2
    unfold bodyPost RdPost
    rw [HR.out]
    exact ⟨rfl, rfl, ((((((Kept.refl _ _).alloc _).trans k1).trans k2).trans k3).trans k4)⟩
  | ok x4 =>
  obtain ⟨dt, l4⟩ := x4
  have HI := fun w => isEntry_any ix tm kd dt w (by have := rdText_le r4; unfold maxLen; omega)
  cases hok : En.ok ⟨ix, tm, kd, dt⟩ with
  | false =>
    rw [hok] at HI
    have HR : Hid (rdEnt l = .error 6) := (rdThen_ok r1).trans ((rdThen_ok r2).trans ((rdThen_ok r3).trans ((rdThen_ok r4).trans (if_neg (by rw [hok]; decide)))))
    clear hok
    go_enter Tryz.func22, Tryz.ntmps22
    go_wp2_with fail
    refine (number_ok hla r1).mono ?_
    rintro e w1 ⟨rfl, c1, z1, k1⟩
    go_wp2_with fail
    refine (number_ok ⟨c1, z1⟩ r2).mono ?_
    rintro e w2 ⟨rfl, c2, z2, k2⟩
    go_wp2_with fail
    refine (number_ok ⟨c2, z2⟩ r3).mono ?_
    rintro e w3 ⟨rfl, c3, z3, k3⟩
    go_wp2_with fail
    refine (text_ok ⟨c3, z3⟩ r4).mono ?_
    rintro e w4 ⟨rfl, c4, z4, k4⟩
    have hkk : Kept (One p.block) w w4 := ((((((Kept.refl _ _).alloc _).trans k1).trans k2).trans k3).trans k4)
    go_wp2_with fail
    refine (HI _).mono ?_
    rintro e wi ⟨rfl, ki⟩
    go_wp2_with (go_at_call 47; go_must (refine (must_no _ _).mono ?_); rintro e w99 ⟨rfl, rfl⟩)
    unfold bodyPost RdPost
    rw [HR.out]
    exact ⟨rfl, rfl, (hkk.alloc _).trans (ki.mono (fun _ _ x => x.elim))⟩
  | true =>
    rw [hok] at HI
    have HR : Hid (rdEnt l = .ok (⟨ix, tm, kd, dt⟩, l4)) := (rdThen_ok r1).trans ((rdThen_ok r2).trans ((rdThen_ok r3).trans ((rdThen_ok r4).trans (if_pos hok))))
    clear hok
    go_enter Tryz.func22, Tryz.ntmps22
    go_wp2_with fail
    refine (number_ok hla r1).mono ?_
    rintro e w1 ⟨rfl, c1, z1, k1⟩
    go_wp2_with fail
    refine (number_ok ⟨c1, z1⟩ r2).mono ?_
    rintro e w2 ⟨rfl, c2, z2, k2⟩
    go_wp2_with fail
    refine (number_ok ⟨c2, z2⟩ r3).mono ?_
    rintro e w3 ⟨rfl, c3, z3, k3⟩
    go_wp2_with fail
    refine (text_ok ⟨c3, z3⟩ r4).mono ?_
    rintro e w4 ⟨rfl, c4, z4, k4⟩
    have HNn : Hid (_) := k4.block _ _ (k3.block _ _ (k2.block _ _ (k1.block _ _ (HN.out) HX.out) HX.out) HX.out) HX.out
    have hkk : Kept (One p.block) w w4 := ((((((Kept.refl _ _).alloc _).trans k1).trans k2).trans k3).trans k4)
    have hln : Left p w4 l4 := ⟨c4, z4⟩
    go_wp2_with fail
    refine (HI _).mono ?_
    rintro e wi ⟨rfl, ki⟩
    have hq := ki.block _ _ (blk_new w4 _) (fun x => x.elim)
    have hbr := ki.block _ _ (blk_past HNn.out _) (fun x => x.elim)
    have q0 := blk_at hq 0 rfl
    have q1 := blk_at hq 1 rfl
    have q2 := blk_at hq 2 rfl
    have q3 := blk_at hq 3 rfl
    have g0 := blk_at hbr 0 rfl
    have g1 := blk_at hbr 1 rfl
    have g2 := blk_at hbr 2 rfl
    have g3 := blk_at hbr 3 rfl
    have f0 := blk_free hbr 0
    have f1 := blk_free hbr 1
    have f2 := blk_free hbr 2
    have f3 := blk_free hbr 3
    go_wp2_with (go_at_call 47; go_must (refine (must_ok _ _).mono ?_); rintro e w99 ⟨rfl, rfl⟩)
    go_wp2
    refine bodyPost_ret (v := .agg #[.int .i64 ix, .int .i64 tm, .int .i64 kd, .string (bs dt)]) (by simp [results, Tryz.results22, go_sem, g0, g1, g2, g3]) rfl ?_
    unfold RdPost
    rw [HR.out]
    have hl9 : Left p w99 l4 := (hln.alloc _).kept ki
    have hk9 : Kept (One p.block) w w99 := (hkk.alloc _).trans (ki.mono (fun _ _ x => x.elim))
    have hne : p.block ≠ w.heap.size := Nat.ne_of_lt HB.out
    exact ⟨⟨_, rfl, rfl⟩, ((((hl9.other hne _).other hne _).other hne _).other hne _), ((((hk9.setNew (Nat.le_refl _) _).setNew (Nat.le_refl _) _).setNew (Nat.le_refl _) _).setNew (Nat.le_refl _) _)⟩

end Go.Proofs.YtijklginabipgaaGreat
