/-
  The laws of cells: jobOf, the walk.
-/
import Derived.Test.YtflnjlbafchnaaaGreatDoorWCkA
namespace Go.Proofs.YtflnjlbafchnaaaGreatDoor
open Go.RowKit

set_option maxRecDepth 100000 in
theorem pickN_any (c n : Int) (w : World) (hn : 0 < n) (hn2 : n ≤ 9223372036854775807) :
    Calls Tryz.prog 20 #[.int .i64 c, .int .i64 n] w fun e w' => ∃ q : Nat, e = .returned (.int .i64 q) ∧ (q : Int) < n ∧ w' = w := by
  refine (pickT_any c n w hn hn2).mono ?_
  rintro e w' ⟨rfl, rfl⟩
  have h1 := Int.emod_nonneg c (show n ≠ 0 by omega)
  have h2 := Int.emod_lt_of_pos c hn
  exact ⟨(c % n).toNat, by rw [Int.toNat_of_nonneg h1], by omega, rfl⟩
theorem gdrewK {w : World} {R : Nat} {o : Obj} (h : w.heap[R]? = some o) : w.drew.heap[R]? = some o := h
theorem put6 {w : World} {R : Nat} {t : TypeId} {p0 p1 p2 p3 p4 p5 x0 x1 x2 x3 x4 x5 : Value} (h : w.heap[R]? = some (.cells #[p0, p1, p2, p3, p4, p5] t (0, 0))) : ((((((w.setCell ⟨R, 0, none⟩ x0).setCell ⟨R, 1, none⟩ x1).setCell ⟨R, 2, none⟩ x2).setCell ⟨R, 3, none⟩ x3).setCell ⟨R, 4, none⟩ x4).setCell ⟨R, 5, none⟩ x5).drew.heap[R]? = some (.cells #[x0, x1, x2, x3, x4, x5] t (0, 0)) := by
  have h0 := blk_set h 0 x0
  have h1 := blk_set h0 1 x1
  have h2 := blk_set h1 2 x2
  have h3 := blk_set h2 3 x3
  have h4 := blk_set h3 4 x4
  have h5 := blk_set h4 5 x5
  exact gdrewK (by simpa using h5)
def JoPost (w : World) (at' : Int) (e : Ending) (w' : World) : Prop := ∃ x, e = .returned (bgV x) ∧ BgOk x ∧ (x.at' : Int) = 1 + at' % 3 ∧ Kept Nil w w'
set_option maxRecDepth 100000 in
set_option maxHeartbeats 8000000 in
theorem jobOf_any (kd : Int) (k v : List UInt8) (m tg at' : Int) (w : World) (_hk : (k.length : Int) ≤ 140737488355328) (_hv : (v.length : Int) ≤ 140737488355328) :
    Calls Tryz.prog 42 #[.agg #[.int .i64 kd, .string (bs k), .string (bs v), .int .i64 m, .int .i64 tg, .int .i64 at']] w (JoPost w at') := by
  obtain ⟨W0, hW0⟩ : ∃ W, W = (w.alloc (.cells #[.int .i64 kd, .string (bs k), .string (bs v), .int .i64 m, .int .i64 tg, .int .i64 at'] 91)).alloc (.cells #[.int .i64 0, .string ⟨#[]⟩, .string ⟨#[]⟩, .int .i64 0, .int .i64 0, .int .i64 0] 91) := ⟨_, rfl⟩
  have KW0 : Hid (Kept Nil w W0) := by rw [hW0]; exact ((Kept.refl _ _).alloc _).alloc _
  have HA : Hid (W0.heap[w.heap.size]? = some (.cells #[.int .i64 kd, .string (bs k), .string (bs v), .int .i64 m, .int .i64 tg, .int .i64 at'] 91 (0, 0))) := by rw [hW0]; exact blk_past (blk_new _ _) _
  have HB : Hid (W0.heap[w.heap.size + 1]? = some (.cells #[.int .i64 0, .string ⟨#[]⟩, .string ⟨#[]⟩, .int .i64 0, .int .i64 0, .int .i64 0] 91 (0, 0))) := by
    rw [hW0]
    have := blk_new (w.alloc (.cells #[.int .i64 kd, .string (bs k), .string (bs v), .int .i64 m, .int .i64 tg, .int .i64 at'] 91)) (.cells #[.int .i64 0, .string ⟨#[]⟩, .string ⟨#[]⟩, .int .i64 0, .int .i64 0, .int .i64 0] 91)
    show _ = _
    simpa using this
  obtain ⟨B, HBe⟩ : ∃ A, Hid (A = w.heap.size + 1) := ⟨_, rfl⟩
  obtain ⟨A, HAe⟩ : ∃ A, Hid (A = w.heap.size) := ⟨_, rfl⟩
  rw [← HAe.out] at HA
  rw [← HBe.out] at HB
  have HBw : Hid (w.heap.size ≤ B) := by show _ ≤ _; rw [HBe.out]; omega
  obtain ⟨W, hW⟩ : ∃ W, W = W0.alloc (.cells #[.int .i64 kd, .string (bs k), .string (bs v), .int .i64 m] 31) := ⟨_, rfl⟩
  obtain ⟨C, HCe⟩ : ∃ A, Hid (A = W0.heap.size) := ⟨_, rfl⟩
  have HC0 : Hid (CoS W W C kd k v m) := ⟨by rw [hW, HCe.out]; exact blk_new _ _, Kept.refl _ _⟩
  have KW : Hid (Kept Nil w W) := by rw [hW]; exact KW0.out.alloc _
  have HCw : Hid (w.heap.size ≤ C) := by show _ ≤ _; rw [HCe.out]; exact KW0.out.size
  have hAC : A ≠ C := by rw [HCe.out]; have := lt_of_block HA.out; omega
  have hBC : B ≠ C := by rw [HCe.out]; have := lt_of_block HB.out; omega
  have hCA : C ≠ A := fun e => hAC e.symm
  have hCB : C ≠ B := fun e => hBC e.symm
  have HAW : ∀ X, Kept (One C) W X → X.heap[A]? = some (.cells #[.int .i64 kd, .string (bs k), .string (bs v), .int .i64 m, .int .i64 tg, .int .i64 at'] 91 (0, 0)) := fun X kX => kX.block _ _ (by rw [hW]; exact blk_past HA.out _) (fun e => hAC e)
  have HBW : ∀ X, Kept (One C) W X → X.heap[B]? = some (.cells #[.int .i64 0, .string ⟨#[]⟩, .string ⟨#[]⟩, .int .i64 0, .int .i64 0, .int .i64 0] 91 (0, 0)) := fun X kX => kX.block _ _ (by rw [hW]; exact blk_past HB.out _) (fun e => hBC e)
  have HAX : Hid (∀ X, Kept (One C) W X → X.heap[A]? = some (.cells #[.int .i64 kd, .string (bs k), .string (bs v), .int .i64 m, .int .i64 tg, .int .i64 at'] 91 (0, 0))) := HAW
  have HBX : Hid (∀ X, Kept (One C) W X → X.heap[B]? = some (.cells #[.int .i64 0, .string ⟨#[]⟩, .string ⟨#[]⟩, .int .i64 0, .int .i64 0, .int .i64 0] 91 (0, 0))) := HBW
  clear HAW HBW
  have p0 : W0.cell? ⟨A, 0, none⟩ = some (.int .i64 kd) := blk_at HA.out 0 rfl
  have p1 : W0.cell? ⟨A, 1, none⟩ = some (.string (bs k)) := blk_at HA.out 1 rfl
  have p2 : W0.cell? ⟨A, 2, none⟩ = some (.string (bs v)) := blk_at HA.out 2 rfl
  have p3 : W0.cell? ⟨A, 3, none⟩ = some (.int .i64 m) := blk_at HA.out 3 rfl
  go_enter Tryz.func42, Tryz.ntmps42
  go_upto_region 1 with fail
  rw [← hW0, ← HBe.out, ← HAe.out]
  clear hW0
  go_upto_region 2 with fail
  rw [← hW, ← HCe.out]
  clear hW p0 p1 p2 p3
  have q1 : W.cell? ⟨C, 1, none⟩ = some (.string (bs k)) := blk_at HC0.out.co 1 rfl
  have f1 := blk_free HC0.out.co 1
  have PK := pickN_any (k.length : Int) 3 W (by decide) (by decide)
  have hks : (bs k).size = k.length := bs_size k
  go_wp2_with fail
  go_fit PK
  rintro _ _ ⟨q, rfl, hq3, hw1⟩
  rw [hw1]
  clear PK hw1
  have hqn : q < 3 := by omega
  have hext := abc_at hqn
  obtain ⟨ky, HKY⟩ : ∃ ky, Hid (ky = abc[q]'hqn) := ⟨_, rfl⟩
  rw [← HKY.out] at hext
  have HKA : Hid (ky ∈ abc) := by rw [HKY.out]; exact List.getElem_mem hqn
  have hq5 : (q : Int) + 1 ≤ 3 := by omega
  obtain ⟨X1, hX1⟩ : ∃ X, X = W.setCell ⟨C, 1, none⟩ (.string (bs ky)) := ⟨_, rfl⟩
  have HC1 : Hid (CoS W X1 C kd ky v m) := by rw [hX1]; exact HC0.out.s1 ky
  go_upto_region 4 with fail
  rw [← hX1]
  clear hX1 q1 f1 hext HKY
  have q0 : X1.cell? ⟨C, 0, none⟩ = some (.int .i64 kd) := blk_at HC1.out.co 0 rfl
  have f0 := blk_free HC1.out.co 0
  have PK := pickN_any (wrap64 (kd - 1)) 5 X1 (by decide) (by decide)
  go_wp2_with fail
  go_fit PK
  rintro _ _ ⟨d, rfl, hd5, hw1⟩
  rw [hw1]
  clear PK hw1
  have hwd : (1 : Int) + (d : Int) ≤ 5 := by omega
  obtain ⟨X2, hX2⟩ : ∃ X, X = X1.setCell ⟨C, 0, none⟩ (.int .i64 (1 + (d : Int))) := ⟨_, rfl⟩
  have HC2 : Hid (CoS W X2 C (1 + (d : Int)) ky v m) := by rw [hX2]; exact HC1.out.s0 _
  go_upto_region 5 with fail
  rw [← hX2]
  clear hX2 q0 f0 HC1
  have q2 : X2.cell? ⟨C, 2, none⟩ = some (.string (bs v)) := blk_at HC2.out.co 2 rfl
  have f2 := blk_free HC2.out.co 2
  have hvs : (bs v).size = v.length := bs_size v
  obtain ⟨kd1, HKD⟩ : ∃ x : Int, Hid (x = 1 + (d : Int)) := ⟨_, rfl⟩
  rw [← HKD.out] at HC2
  have HKD5 : Hid (1 ≤ kd1 ∧ kd1 ≤ 5) := by rw [HKD.out]; exact ⟨by omega, by omega⟩
  go_upto_if 27 with fail
  go_cut [] (fun wc => Hid (∃ v1, v1.length ≤ 3 ∧ CoS W wc C kd1 ky v1 m))
  case first =>
    by_cases c3 : v.length ≤ 3
    · have c3i : decide ((3 : Int) < v.length) = false := decide_eq_false (by omega)
      (try rw [c3i])
      go_wp2
      go_meet
      exact ⟨v, c3, HC2.out⟩
    · have c3i : decide ((3 : Int) < v.length) = true := decide_eq_true (by omega)
      have c3j : (3 : Int) ≤ v.length := by omega
      have hx3 : (bs v).extract 0 3 = bs (v.take 3) := bs_take v 3
      (try rw [c3i])
      obtain ⟨X3, hX3⟩ : ∃ X, X = X2.setCell ⟨C, 2, none⟩ (.string (bs (v.take 3))) := ⟨_, rfl⟩
      have HC3 : Hid (CoS W X3 C kd1 ky (v.take 3) m) := by rw [hX3]; exact HC2.out.s2 _
      go_wp2
      rw [← hX3]
      go_meet
      exact ⟨v.take 3, by rw [List.length_take]; omega, HC3.out⟩
  case rest =>
    obtain ⟨v1, hv1, hC3⟩ := hcut.out
    rename World => X3
    have HC3 : Hid (CoS W X3 C kd1 ky v1 m) := hC3
    clear hcut hC3 q2 f2 HC2
    have q3 : X3.cell? ⟨C, 3, none⟩ = some (.int .i64 m) := blk_at HC3.out.co 3 rfl
    have f3 := blk_free HC3.out.co 3
    have PK := pickN_any m 4 X3 (by decide) (by decide)
    go_wp2_with fail
    go_fit PK
    rintro _ _ ⟨e, rfl, he4, hw1⟩
    rw [hw1]
    clear PK hw1
    obtain ⟨X4, hX4⟩ : ∃ X, X = X3.setCell ⟨C, 3, none⟩ (.int .i64 (e : Int)) := ⟨_, rfl⟩
    have HC4 : Hid (CoS W X4 C kd1 ky v1 (e : Int)) := by rw [hX4]; exact HC3.out.s3 _
    go_upto_region 8 with fail
    rw [← hX4]
    clear hX4 q3 f3 HC3
    have a4 : X4.cell? ⟨A, 4, none⟩ = some (.int .i64 tg) := blk_at (HAX.out X4 HC4.out.kp) 4 rfl
    have PK := pickN_any tg 6 X4 (by decide) (by decide)
    go_wp2_with fail
    go_fit PK
    rintro _ _ ⟨g, rfl, hg6, hw1⟩
    rw [hw1]
    clear PK hw1 a4
    go_upto_if 41 with fail
    go_cut [5] (fun u wc => ∃ t : Nat, u = .int .i64 t ∧ Hid (t ≤ 3) ∧ wc = X4)
    case first =>
      by_cases c3 : g ≤ 3
      · have c3i : decide ((3 : Int) < g) = false := decide_eq_false (by omega)
        (try rw [c3i])
        go_wp2
        go_meet
        exact ⟨g, rfl, c3, rfl⟩
      · have c3i : decide ((3 : Int) < g) = true := decide_eq_true (by omega)
        (try rw [c3i])
        go_wp2
        go_meet
        exact ⟨0, rfl, by show (0 : Nat) ≤ 3; omega, rfl⟩
    case rest =>
      obtain ⟨t, rfl, HT3, hw1⟩ := hcut
      rw [hw1]
      clear hw1 g hg6
      have q0 : X4.cell? ⟨C, 0, none⟩ = some (.int .i64 kd1) := blk_at HC4.out.co 0 rfl
      have f0 := blk_free HC4.out.co 0
      go_upto_if 43 with fail
      go_cut [] (fun wc => Hid (∃ kd2, (1 ≤ kd2 ∧ kd2 ≤ 5) ∧ (0 < t → kd2 = 2) ∧ CoS W wc C kd2 ky v1 (e : Int)))
      case first =>
        by_cases c0 : 0 < t
        · have c0i : decide ((0 : Int) < t) = true := decide_eq_true (by omega)
          (try rw [c0i])
          obtain ⟨X5, hX5⟩ : ∃ X, X = X4.setCell ⟨C, 0, none⟩ (.int .i64 2) := ⟨_, rfl⟩
          have HC5 : Hid (CoS W X5 C 2 ky v1 (e : Int)) := by rw [hX5]; exact HC4.out.s0 _
          go_wp2
          rw [← hX5]
          go_meet
          exact ⟨2, by omega, fun _ => rfl, HC5.out⟩
        · have c0i : decide ((0 : Int) < t) = false := decide_eq_false (by omega)
          (try rw [c0i])
          go_wp2
          go_meet
          exact ⟨kd1, HKD5.out, fun h => absurd h c0, HC4.out⟩
      case rest =>
        obtain ⟨kd2, hkd2, hk2, hC5⟩ := hcut.out
        rename World => X5
        have HC5 : Hid (CoS W X5 C kd2 ky v1 (e : Int)) := hC5
        have HK2 : Hid ((1 ≤ kd2 ∧ kd2 ≤ 5) ∧ (0 < t → kd2 = 2)) := ⟨hkd2, hk2⟩
        clear hcut hC5 q0 f0 HC4 hkd2 hk2
        have q0 : X5.cell? ⟨C, 0, none⟩ = some (.int .i64 kd2) := blk_at HC5.out.co 0 rfl
        have q3 : X5.cell? ⟨C, 3, none⟩ = some (.int .i64 (e : Int)) := blk_at HC5.out.co 3 rfl
        have f3 := blk_free HC5.out.co 3
        go_upto_if 47 with fail
        go_cut [] (fun wc => Hid (∃ m2 : Int, (0 ≤ m2 ∧ m2 ≤ 3) ∧ (kd2 ≠ 4 → m2 = 0) ∧ CoS W wc C kd2 ky v1 m2))
        case first =>
          by_cases c4 : kd2 = 4
          · have c4i : (kd2 != 4) = false := by simp [c4]
            (try rw [c4i])
            go_wp2
            go_meet
            exact ⟨e, by omega, fun h => absurd c4 h, HC5.out⟩
          · have c4i : (kd2 != 4) = true := by simp [c4]
            (try rw [c4i])
            obtain ⟨X6, hX6⟩ : ∃ X, X = X5.setCell ⟨C, 3, none⟩ (.int .i64 0) := ⟨_, rfl⟩
            have HC6 : Hid (CoS W X6 C kd2 ky v1 0) := by rw [hX6]; exact HC5.out.s3 _
            go_wp2
            rw [← hX6]
            go_meet
            exact ⟨0, by omega, fun _ => rfl, HC6.out⟩
        case rest =>
          obtain ⟨m2, hm2, hm0, hC6⟩ := hcut.out
          rename World => X6
          have HC6 : Hid (CoS W X6 C kd2 ky v1 m2) := hC6
          have HM2 : Hid ((0 ≤ m2 ∧ m2 ≤ 3) ∧ (kd2 ≠ 4 → m2 = 0)) := ⟨hm2, hm0⟩
          clear hcut hC6 q0 q3 f3 HC5 hm2 hm0
          have q0 : X6.cell? ⟨C, 0, none⟩ = some (.int .i64 kd2) := blk_at HC6.out.co 0 rfl
          have f2 := blk_free HC6.out.co 2
          have q2 : X6.cell? ⟨C, 2, none⟩ = some (.string (bs v1)) := blk_at HC6.out.co 2 rfl
          go_upto_region 15 with fail
          obtain ⟨tb, HTB⟩ : ∃ b, Hid (b = decide (kd2 = 2 ∨ kd2 = 3)) := ⟨_, rfl⟩
          go_cut [56] (fun x wc => x = .bool tb ∧ wc = X6)
          case first =>
            by_cases c2 : kd2 = 2
            · have e2 : (kd2 == 2) = true := by simp [c2]
              have HTT : Hid (tb = true) := by show _ = _; rw [HTB.out]; exact decide_eq_true (.inl c2)
              clear c2
              go_wp2
              go_meet
              exact ⟨by rw [HTT.out], rfl⟩
            · have e2 : (kd2 == 2) = false := by simp [c2]
              by_cases c3 : kd2 = 3
              · have e3 : (kd2 == 3) = true := by simp [c3]
                have HTT : Hid (tb = true) := by show _ = _; rw [HTB.out]; exact decide_eq_true (.inr c3)
                clear c2 c3
                go_wp2
                go_meet
                exact ⟨by rw [HTT.out], rfl⟩
              · have e3 : (kd2 == 3) = false := by simp [c3]
                have HTT : Hid (tb = false) := by show _ = _; rw [HTB.out]; exact decide_eq_false (fun h => h.elim c2 c3)
                clear c2 c3
                go_wp2
                go_meet
                exact ⟨by rw [HTT.out], rfl⟩
          case rest =>
          obtain ⟨rfl, hw9⟩ := hcut
          rw [hw9]
          clear hw9
          go_upto_if 56 with fail
          go_cut [] (fun wc => Hid (∃ v2, v2.length ≤ 3 ∧ (kd2 = 2 ∨ kd2 = 3 → v2 = []) ∧ CoS W wc C kd2 ky v2 m2))
          case first =>
            cases tb with
            | true =>
              obtain ⟨X7, hX7⟩ : ∃ X, X = X6.setCell ⟨C, 2, none⟩ (.string ⟨#[]⟩) := ⟨_, rfl⟩
              have HC7 : Hid (CoS W X7 C kd2 ky [] m2) := by rw [hX7]; exact HC6.out.s2 []
              go_wp2
              rw [← hX7]
              go_meet
              exact ⟨[], by simp, fun _ => rfl, HC7.out⟩
            | false =>
              go_wp2
              go_meet
              exact ⟨v1, hv1, fun h => absurd h (of_decide_eq_false HTB.out.symm), HC6.out⟩
          case rest =>
            obtain ⟨v2, hv2, hv0, hC7⟩ := hcut.out
            rename World => X7
            have HC7 : Hid (CoS W X7 C kd2 ky v2 m2) := hC7
            have HV2 : Hid (v2.length ≤ 3 ∧ (kd2 = 2 ∨ kd2 = 3 → v2 = [])) := ⟨hv2, hv0⟩
            clear hcut hC7 q0 q2 f2 HC6 hv2 hv0 hv1
            have HBB : Hid (X7.heap[B]? = some (.cells #[.int .i64 0, .string ⟨#[]⟩, .string ⟨#[]⟩, .int .i64 0, .int .i64 0, .int .i64 0] 91 (0, 0))) := HBX.out X7 HC7.out.kp
            have q0 : X7.cell? ⟨C, 0, none⟩ = some (.int .i64 kd2) := blk_at HC7.out.co 0 rfl
            have q1 : X7.cell? ⟨C, 1, none⟩ = some (.string (bs ky)) := blk_at HC7.out.co 1 rfl
            have q2 : X7.cell? ⟨C, 2, none⟩ = some (.string (bs v2)) := blk_at HC7.out.co 2 rfl
            have q3 : X7.cell? ⟨C, 3, none⟩ = some (.int .i64 m2) := blk_at HC7.out.co 3 rfl
            have a5 : X7.cell? ⟨A, 5, none⟩ = some (.int .i64 at') := blk_at (HAX.out X7 HC7.out.kp) 5 rfl
            have y0 : X7.cell? ⟨B, 0, none⟩ = some (.int .i64 0) := blk_at HBB.out 0 rfl
            have y1 : X7.cell? ⟨B, 1, none⟩ = some (.string ⟨#[]⟩) := blk_at HBB.out 1 rfl
            have y2 : X7.cell? ⟨B, 2, none⟩ = some (.string ⟨#[]⟩) := blk_at HBB.out 2 rfl
            have y3 : X7.cell? ⟨B, 3, none⟩ = some (.int .i64 0) := blk_at HBB.out 3 rfl
            have y4 : X7.cell? ⟨B, 4, none⟩ = some (.int .i64 0) := blk_at HBB.out 4 rfl
            have y5 : X7.cell? ⟨B, 5, none⟩ = some (.int .i64 0) := blk_at HBB.out 5 rfl
            have z0 := blk_free HBB.out 0
            have z1 := blk_free HBB.out 1
            have z2 := blk_free HBB.out 2
            have z3 := blk_free HBB.out 3
            have z4 := blk_free HBB.out 4
            have z5 := blk_free HBB.out 5
            have hlA : A < X7.heap.size := lt_of_block (HAX.out X7 HC7.out.kp)
            have hlB : B < X7.heap.size := lt_of_block HBB.out
            have hlC : C < X7.heap.size := lt_of_block HC7.out.co
            obtain ⟨u, Hu⟩ : ∃ u : Nat, Hid ((u : Int) = at' % 3) := ⟨(at' % 3).toNat, by show _ = _; have := Int.emod_nonneg at' (show (3 : Int) ≠ 0 by decide); omega⟩
            have hu3 : (u : Int) < 3 := by rw [Hu.out]; exact Int.emod_lt_of_pos _ (by decide)
            have PK := fun Y => pickT_any at' 3 Y (by decide) (by decide)
            rw [← Hu.out] at PK
            have hwu : IntKind.i64.wrap (1 + (u : Int)) = 1 + (u : Int) := by rw [IntKind.wrap_i64]; omega
            obtain ⟨Y, hY⟩ : ∃ Y, Y = ((((((X7.setCell ⟨B, 0, none⟩ (.int .i64 kd2)).setCell ⟨B, 1, none⟩ (.string (bs ky))).setCell ⟨B, 2, none⟩ (.string (bs v2))).setCell ⟨B, 3, none⟩ (.int .i64 m2)).setCell ⟨B, 4, none⟩ (.int .i64 t)).setCell ⟨B, 5, none⟩ (.int .i64 (1 + (u : Int)))).drew := ⟨_, rfl⟩
            have HY : Hid (Y.heap[B]? = some (.cells #[.int .i64 kd2, .string (bs ky), .string (bs v2), .int .i64 m2, .int .i64 t, .int .i64 (1 + (u : Int))] 91 (0, 0)) ∧ Kept Nil w Y) := by
              rw [hY]
              have kX := KW.out.under HC7.out.kp HCw.out
              exact ⟨put6 HBB.out, ((((((kX.setNew (p := ⟨B, 0, none⟩) HBw.out _).setNew (p := ⟨B, 1, none⟩) HBw.out _).setNew (p := ⟨B, 2, none⟩) HBw.out _).setNew (p := ⟨B, 3, none⟩) HBw.out _).setNew (p := ⟨B, 4, none⟩) HBw.out _).setNew (p := ⟨B, 5, none⟩) HBw.out _).drew⟩
            have HX : Hid (BgOk ⟨kd2, ky, v2, m2, t, 1 + u⟩) := ⟨HK2.out.1, HKA.out, HV2.out.1, HM2.out.1, cmd_is HK2.out.1 HKA.out HV2.out.1 HM2.out.1 HM2.out.2 HV2.out.2, HT3.out, HK2.out.2, by show 1 ≤ 1 + u ∧ 1 + u ≤ 3; omega⟩
            go_upto_region 17 with fail
            go_region_with (first | (go_at_call 20; go_must (go_fit (PK _)); rintro _ _ ⟨rfl, hw9⟩; rw [hw9]; clear hw9))
            all_goals
              rw [← hY]
              go_wp2
              have j0 := blk_at HY.out.1 0 rfl
              have j1 := blk_at HY.out.1 1 rfl
              have j2 := blk_at HY.out.1 2 rfl
              have j3 := blk_at HY.out.1 3 rfl
              have j4 := blk_at HY.out.1 4 rfl
              have j5 := blk_at HY.out.1 5 rfl
              have e1u : ((1 + u : Nat) : Int) = 1 + (u : Int) := by omega
              exact bodyPost_ret (v := bgV ⟨kd2, ky, v2, m2, t, 1 + u⟩) (by simp [results, Tryz.results42, go_sem, j0, j1, j2, j3, j4, j5, bgV, e1u]) rfl ⟨_, rfl, HX.out, by rw [← Hu.out]; exact e1u, HY.out.2⟩
end Go.Proofs.YtflnjlbafchnaaaGreatDoor
