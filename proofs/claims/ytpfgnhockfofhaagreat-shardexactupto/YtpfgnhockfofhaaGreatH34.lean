/-
  Joined: WSs7.
-/
import Derived.Test.YtpfgnhockfofhaaGreatH33
/-
  The document's shards: what is on its way is moved.
-/
namespace Go.Proofs.YtpfgnhockfofhaaGreat
open Go.RowKit
set_option maxRecDepth 100000 in
set_option maxHeartbeats 8000000 in
theorem move_none (K : List (List UInt8)) (M : Nat) (Gs : Nat → Nat → Prop) (b hb ch cw : Nat) (hs : Nat → Nat) (aw : Option Addr) (S : Sd) (kd hh ot nn : Int) (ky up vl : List UInt8) (w : World) (x : SyX Gs w b hb ch hs aw cw S) (inv : Inv K M S) (hz : S.wy.length = 0) :
    Calls Tryz.prog 21 #[.pointer (some ⟨b, 0, none⟩), .agg #[.int .i64 kd, .int .i64 hh, .int .i64 ot, .int .i64 nn, .string (bs ky), .string (bs up), .string (bs vl)]] w fun e w' => e = .returned (.tuple #[]) ∧ SyPost Gs w b hb ch hs (carryS kd nn S) w' := by
  obtain ⟨i2, hi2, hx0, hx1, hx2⟩ := info_parts Tryz.infoOwnPk
  have hwl := inv.wl
  have HIn : Hid (Inv K M S) := inv
  have HX : Hid (SyX Gs w b hb ch hs aw cw S) := x
  obtain ⟨W, hW⟩ : ∃ W, W = w.alloc (.cells #[.int .i64 kd, .int .i64 hh, .int .i64 ot, .int .i64 nn, .string (bs ky), .string (bs up), .string (bs vl)] 34) := ⟨_, rfl⟩
  obtain ⟨A, HA⟩ : ∃ A : Nat, Hid (A = w.heap.size) := ⟨_, rfl⟩
  have KW : Hid (Kept Nil w W) := by rw [hW]; exact (Kept.refl _ _).alloc _
  have HAW : Hid (W.heap[A]? = some (.cells #[.int .i64 kd, .int .i64 hh, .int .i64 ot, .int .i64 nn, .string (bs ky), .string (bs up), .string (bs vl)] 34 (0, 0))) := by rw [hW, HA.out]; exact blk_new _ _
  have HXW : Hid (SyX Gs W b hb ch hs aw cw S) := x.kept KW.out
  have p0 : W.cell? ⟨A, 0, none⟩ = some (.int .i64 kd) := blk_at HAW.out 0 rfl
  have p3 : W.cell? ⟨A, 3, none⟩ = some (.int .i64 nn) := blk_at HAW.out 3 rfl
  have s1 : W.cell? ⟨b, 1, none⟩ = some (.slice aw S.wy.length cw) := blk_at HXW.out.blk 1 rfl
  have hbW : b < W.heap.size := lt_of_block HXW.out.blk
  have hAW : A < W.heap.size := lt_of_block HAW.out
  obtain ⟨T, HT⟩ : ∃ T, Hid (T = carryS kd nn S) := ⟨_, rfl⟩
  rw [← HT.out]
  have HTe : Hid (T = S) := by
    show _ = _
    rw [HT.out]
    unfold carryS
    rw [List.getElem?_eq_none (by omega)]
  have hzi : (S.wy.length : Int) = 0 := by omega
  clear hz
  clear x inv
  go_enter Tryz.func21, Tryz.ntmps21
  go_upto_region 1 with fail
  rw [← hW, ← HA.out]
  clear hW
  go_wp2
  refine bodyPost_ret (results_none rfl _ _ _) rfl ?_
  rw [HTe.out]
  exact ⟨rfl, SyPost.same HX.out KW.out⟩
set_option maxRecDepth 100000 in
set_option maxHeartbeats 8000000 in
theorem move_big (K : List (List UInt8)) (M : Nat) (Gs : Nat → Nat → Prop) (b hb ch cw : Nat) (hs : Nat → Nat) (aw : Option Addr) (S : Sd) (kd hh ot nn : Int) (ky up vl : List UInt8) (w : World) (x : SyX Gs w b hb ch hs aw cw S) (inv : Inv K M S) (hz : ¬ S.wy.length = 0) (hk : kd > 8) :
    Calls Tryz.prog 21 #[.pointer (some ⟨b, 0, none⟩), .agg #[.int .i64 kd, .int .i64 hh, .int .i64 ot, .int .i64 nn, .string (bs ky), .string (bs up), .string (bs vl)]] w fun e w' => e = .returned (.tuple #[]) ∧ SyPost Gs w b hb ch hs (carryS kd nn S) w' := by
  obtain ⟨i2, hi2, hx0, hx1, hx2⟩ := info_parts Tryz.infoOwnPk
  have hwl := inv.wl
  have HIn : Hid (Inv K M S) := inv
  have HX : Hid (SyX Gs w b hb ch hs aw cw S) := x
  obtain ⟨W, hW⟩ : ∃ W, W = w.alloc (.cells #[.int .i64 kd, .int .i64 hh, .int .i64 ot, .int .i64 nn, .string (bs ky), .string (bs up), .string (bs vl)] 34) := ⟨_, rfl⟩
  obtain ⟨A, HA⟩ : ∃ A : Nat, Hid (A = w.heap.size) := ⟨_, rfl⟩
  have KW : Hid (Kept Nil w W) := by rw [hW]; exact (Kept.refl _ _).alloc _
  have HAW : Hid (W.heap[A]? = some (.cells #[.int .i64 kd, .int .i64 hh, .int .i64 ot, .int .i64 nn, .string (bs ky), .string (bs up), .string (bs vl)] 34 (0, 0))) := by rw [hW, HA.out]; exact blk_new _ _
  have HXW : Hid (SyX Gs W b hb ch hs aw cw S) := x.kept KW.out
  have p0 : W.cell? ⟨A, 0, none⟩ = some (.int .i64 kd) := blk_at HAW.out 0 rfl
  have p3 : W.cell? ⟨A, 3, none⟩ = some (.int .i64 nn) := blk_at HAW.out 3 rfl
  have s1 : W.cell? ⟨b, 1, none⟩ = some (.slice aw S.wy.length cw) := blk_at HXW.out.blk 1 rfl
  have hbW : b < W.heap.size := lt_of_block HXW.out.blk
  have hAW : A < W.heap.size := lt_of_block HAW.out
  obtain ⟨T, HT⟩ : ∃ T, Hid (T = carryS kd nn S) := ⟨_, rfl⟩
  rw [← HT.out]
  have HTe : Hid (T = S) := by
    show _ = _
    rw [HT.out]
    unfold carryS
    split
    · rfl
    · rw [if_neg (by omega), if_neg (by omega), if_neg (by omega)]
  have hzi : ¬ (S.wy.length : Int) = 0 := by omega
  clear hz
  clear x inv
  go_enter Tryz.func21, Tryz.ntmps21
  go_upto_region 1 with fail
  rw [← hW, ← HA.out]
  clear hW
  go_wp2
  all_goals
    refine bodyPost_ret (results_none rfl _ _ _) rfl ?_
    rw [HTe.out]
    exact ⟨rfl, SyPost.same HX.out KW.out⟩
set_option maxRecDepth 100000 in
set_option maxHeartbeats 8000000 in
theorem move_double (K : List (List UInt8)) (M : Nat) (Gs : Nat → Nat → Prop) (b hb ch cw : Nat) (hs : Nat → Nat) (aw : Option Addr) (S : Sd) (hh ot nn : Int) (ky up vl : List UInt8) (w : World) (x : SyX Gs w b hb ch hs aw cw S) (inv : Inv K M S) (hM : M ≤ 1900000) (hz : ¬ S.wy.length = 0) :
    Calls Tryz.prog 21 #[.pointer (some ⟨b, 0, none⟩), .agg #[.int .i64 8, .int .i64 hh, .int .i64 ot, .int .i64 nn, .string (bs ky), .string (bs up), .string (bs vl)]] w fun e w' => e = .returned (.tuple #[]) ∧ SyPost Gs w b hb ch hs (carryS 8 nn S) w' := by
  obtain ⟨i2, hi2, hx0, hx1, hx2⟩ := info_parts Tryz.infoOwnPk
  have hwl := inv.wl
  have HIn : Hid (Inv K M S) := inv
  have HX : Hid (SyX Gs w b hb ch hs aw cw S) := x
  obtain ⟨W, hW⟩ : ∃ W, W = w.alloc (.cells #[.int .i64 8, .int .i64 hh, .int .i64 ot, .int .i64 nn, .string (bs ky), .string (bs up), .string (bs vl)] 34) := ⟨_, rfl⟩
  obtain ⟨A, HA⟩ : ∃ A : Nat, Hid (A = w.heap.size) := ⟨_, rfl⟩
  have KW : Hid (Kept Nil w W) := by rw [hW]; exact (Kept.refl _ _).alloc _
  have HAW : Hid (W.heap[A]? = some (.cells #[.int .i64 8, .int .i64 hh, .int .i64 ot, .int .i64 nn, .string (bs ky), .string (bs up), .string (bs vl)] 34 (0, 0))) := by rw [hW, HA.out]; exact blk_new _ _
  have HXW : Hid (SyX Gs W b hb ch hs aw cw S) := x.kept KW.out
  have p0 : W.cell? ⟨A, 0, none⟩ = some (.int .i64 8) := blk_at HAW.out 0 rfl
  have p3 : W.cell? ⟨A, 3, none⟩ = some (.int .i64 nn) := blk_at HAW.out 3 rfl
  have s1 : W.cell? ⟨b, 1, none⟩ = some (.slice aw S.wy.length cw) := blk_at HXW.out.blk 1 rfl
  have hbW : b < W.heap.size := lt_of_block HXW.out.blk
  have hAW : A < W.heap.size := lt_of_block HAW.out
  obtain ⟨T, HT⟩ : ∃ T, Hid (T = carryS 8 nn S) := ⟨_, rfl⟩
  rw [← HT.out]
  obtain ⟨at', HAt⟩ : ∃ at', Hid (at' = atW nn S.wy.length) := ⟨_, rfl⟩
  have hat : at' < S.wy.length := by rw [HAt.out]; exact atW_lt nn (by omega)
  obtain ⟨p, HP⟩ : ∃ p, Hid (S.wy[at']? = some p) := ⟨S.wy[at'], List.getElem?_eq_getElem hat⟩
  have HTe : Hid (T = { S with wy := S.wy ++ [p] }) := by
    show _ = _
    rw [HT.out]
    unfold carryS
    rw [← HAt.out, HP.out]
    rfl
  obtain ⟨m0, m1, m2⟩ := mod_mod nn S.wy.length (by omega)
  rw [← HAt.out] at m2
  obtain ⟨g, o, cur, eaw, hcur, hlc, hcm, hcs, hcat⟩ := HXW.out.wy.block (by omega)
  unfold maxLen at hcm
  obtain ⟨hpl, hpe⟩ := List.getElem?_eq_some_iff.1 HP.out
  obtain ⟨pe0, pe1, pe2, pe3, pe4⟩ := pkCells_at S.wy at' hpl
  rw [hpe] at pe0 pe1 pe2 pe3 pe4
  have hcell : ∀ i v, (pkCells S.wy)[at' * 5 + i]? = some v → i < 5 → W.cell? ⟨g, o + (at' * 5 + i), none⟩ = some v := fun i v h hi => by rw [blk_cell hcur, hcat _ (by omega), h]
  have q0 : W.cell? ⟨g, o + at' * 5, none⟩ = some (.int .i64 p.fr) := hcell 0 _ pe0 (by omega)
  have q1 : W.cell? ⟨g, o + at' * 5 + 1, none⟩ = some (.int .i64 p.ds) := hcell 1 _ pe1 (by omega)
  have q2 : W.cell? ⟨g, o + at' * 5 + 2, none⟩ = some (.int .i64 p.nu) := hcell 2 _ pe2 (by omega)
  have q3 : W.cell? ⟨g, o + at' * 5 + 3, none⟩ = some (.bool p.ak) := hcell 3 _ pe3 (by omega)
  have q4 : W.cell? ⟨g, o + at' * 5 + 4, none⟩ = some (.string (bs p.bd)) := hcell 4 _ pe4 (by omega)
  have hgl : g < W.heap.size := lt_of_block hcur
  have HCW : Hid (W.heap[g]? = some (.cells cur 86 (0, 0))) := hcur
  have HAT : Hid (∀ j, j < S.wy.length * 5 → cur[o + j]? = (pkCells S.wy)[j]?) := hcat
  have HCS : Hid (S.wy.length ≤ cw ∧ cw ≤ 9223372036854775807 ∧ o + cw * 5 ≤ cur.size) := ⟨hlc, by omega, hcs⟩
  subst eaw
  have hzi : ¬ (S.wy.length : Int) = 0 := by omega
  have hmp : (0 : Int) < (S.wy.length : Int) := by omega
  have hati : (at' : Int) < (S.wy.length : Int) := by omega
  obtain ⟨q, HQ⟩ : ∃ q : Int, Hid (q = nn.tmod S.wy.length) := ⟨_, rfl⟩
  have hwr : IntKind.i64.wrap (q + (S.wy.length : Int)) = q + (S.wy.length : Int) := by rw [IntKind.wrap_i64]; have := HQ.out; omega
  have hq1 : nn.tmod (S.wy.length : Int) = q := HQ.out.symm
  rw [← HQ.out] at m0 m1 m2
  obtain ⟨Y, hY⟩ : ∃ Y, Y = W.alloc (.cells #[.int .i64 p.fr, .int .i64 p.ds, .int .i64 p.nu, .bool p.ak, .string (bs p.bd)] 86) := ⟨_, rfl⟩
  obtain ⟨R, HR⟩ : ∃ R : Nat, Hid (R = W.heap.size) := ⟨_, rfl⟩
  have KY : Hid (Kept Nil w Y) := by rw [hY]; exact KW.out.alloc _
  have KWY : Hid (Kept Nil W Y) := by rw [hY]; exact (Kept.refl _ _).alloc _
  have HRY : Hid (Y.heap[R]? = some (.cells #[.int .i64 p.fr, .int .i64 p.ds, .int .i64 p.nu, .bool p.ak, .string (bs p.bd)] 86 (0, 0))) := by rw [hY, HR.out]; exact blk_new _ _
  have HXY : Hid (SyX Gs Y b hb ch hs (some ⟨g, o, none⟩) cw S) := HX.out.kept KY.out
  have HAY : Hid (Y.heap[A]? = _) := KWY.out.block _ _ HAW.out (fun e => e)
  have HRB : Hid (w.heap.size ≤ R ∧ R < Y.heap.size) := ⟨by rw [HR.out]; exact KW.out.size, lt_of_block HRY.out⟩
  clear pe0 pe1 pe2 pe3 pe4 hcell hcat hpe hcs hcm hlc hcur
  clear x inv
  go_enter Tryz.func21, Tryz.ntmps21
  go_upto_region 1 with fail
  rw [← hW, ← HA.out]
  clear hW
  go_upto_region 5 with fail
  rw [← hY, ← HR.out]
  clear hY q0 q1 q2 q3 q4 s1 p0 p3
  have y0 := blk_at HAY.out 0 rfl
  have y1 : Y.cell? ⟨b, 1, none⟩ = some (.slice (some ⟨g, o, none⟩) S.wy.length cw) := blk_at HXY.out.blk 1 rfl
  have hbY : b < Y.heap.size := lt_of_block HXY.out.blk
  have hAY : A < Y.heap.size := lt_of_block HAY.out
  have hRY : R < Y.heap.size := HRB.out.2
  have z0 := blk_at HRY.out 0 rfl
  have z1 := blk_at HRY.out 1 rfl
  have z2 := blk_at HRY.out 2 rfl
  have z3 := blk_at HRY.out 3 rfl
  have z4 := blk_at HRY.out 4 rfl
  have HLL : Hid (S.wy.length + 1 ≤ maxLen ∧ (S.wy.length + 1) * 48 ≤ 140737488355328) := by constructor <;> (try unfold maxLen) <;> omega
  obtain ⟨U, hU⟩ : ∃ U, U = Y.drew.alloc (.cells #[.int .i64 p.fr, .int .i64 p.ds, .int .i64 p.nu, .bool p.ak, .string (bs p.bd)] 86) := ⟨_, rfl⟩
  have HWe : Hid ((Y.alloc (.cells #[.int .i64 p.fr, .int .i64 p.ds, .int .i64 p.nu, .bool p.ak, .string (bs p.bd)] 86)).drew = U) := hU.symm
  have HWf : Hid (Y.drew.alloc (.cells #[.int .i64 p.fr, .int .i64 p.ds, .int .i64 p.nu, .bool p.ak, .string (bs p.bd)] 86) = U) := hU.symm
  have KU : Hid (Kept Nil Y U) := by rw [hU]; exact (Kept.refl _ _).drew.alloc _
  have SR : Hid (Src Tryz.prog 5 44 (.slice (some ⟨Y.heap.size, 0, none⟩) 1 1) 1 [.int .i64 p.fr, .int .i64 p.ds, .int .i64 p.nu, .bool p.ak, .string (bs p.bd)] U) := by rw [hU]; exact oneOwnPk_src Y.drew p
  have HRW : Hid (RowAt U 86 5 (.slice (some ⟨g, o, none⟩) S.wy.length cw) S.wy.length (pkCells S.wy)) := HXY.out.wy.keptX KU.out (fun _ _ _ e => e)
  have HBW : Hid (U.heap[b]? = some (.cells #[.slice (some ⟨hb, 0, none⟩) S.n ch, .slice (some ⟨g, o, none⟩) S.wy.length cw] 56 (0, 0))) := KU.out.block _ _ HXY.out.blk (fun e => e)
  have HPC : Hid (pkCells [p] = [.int .i64 p.fr, .int .i64 p.ds, .int .i64 p.nu, .bool p.ak, .string (bs p.bd)]) := by show _ = _; simp [pkCells, pkCell]
  clear hU
  go_upto_region 6 with fail
  go_region_law ((first | rw [HWf.out] | rw [HWe.out]); refine step_append_row rfl (.tmp 46) (.tmp 48) 44 44 rfl 86 i2 (.agg #[.int .i64 0, .int .i64 0, .int .i64 0, .bool false, .string ⟨#[]⟩]) 5 48 Tryz.underlying44 hi2 hx0 hx1 hx2 rfl (.slice (some ⟨g, o, none⟩) S.wy.length cw) S.wy.length (pkCells S.wy) (by simp [Act.eval]) HRW.out (.slice (some ⟨Y.heap.size, 0, none⟩) 1 1) 1 [.int .i64 p.fr, .int .i64 p.ds, .int .i64 p.nu, .bool p.ak, .string (bs p.bd)] (by simp [Act.eval]) SR.out HLL.out.1 HLL.out.2 ?_; intro a6 c6 w6 r6 g6 t6; have HF : Hid (SyPost Gs Y b hb ch hs { S with wy := S.wy ++ [p] } (w6.setCell ⟨b, 1, none⟩ (.slice a6 (S.wy.length + 1) c6))) := HXY.out.more (ps := [p]) KU.out (by rw [HPC.out]; exact r6) g6 t6; have s6 : w6.heap[b]? = some (.cells #[.slice (some ⟨hb, 0, none⟩) S.n ch, .slice (some ⟨g, o, none⟩) S.wy.length cw] 56 (0, 0)) := (by rw [g6.block b (lt_of_block HBW.out) (fun e => by obtain ⟨_, e2⟩ := HRW.out.tp e.symm HBW.out; cases e2)]; exact HBW.out); have e6 : w6.cell? ⟨b, 1, none⟩ = some (.slice (some ⟨g, o, none⟩) S.wy.length cw) := blk_at s6 1 rfl; have f6 : w6.frozen? ⟨b, 1, none⟩ = false := blk_free s6 _; clear r6 g6 t6 s6)
  all_goals
    go_wp2
    refine bodyPost_ret (results_none rfl _ _ _) rfl ?_
    rw [HTe.out]
    exact ⟨rfl, SyPost.trans (fun _ _ hg => .inl hg) (KY.out.mono (fun _ _ e => e.elim)) HF.out⟩
set_option maxRecDepth 100000 in
set_option maxHeartbeats 8000000 in
theorem move_lose (K : List (List UInt8)) (M : Nat) (Gs : Nat → Nat → Prop) (b hb ch cw : Nat) (hs : Nat → Nat) (aw : Option Addr) (S : Sd) (hh ot nn : Int) (ky up vl : List UInt8) (w : World) (x : SyX Gs w b hb ch hs aw cw S) (inv : Inv K M S) (hM : M ≤ 1900000) (hz : ¬ S.wy.length = 0) :
    Calls Tryz.prog 21 #[.pointer (some ⟨b, 0, none⟩), .agg #[.int .i64 7, .int .i64 hh, .int .i64 ot, .int .i64 nn, .string (bs ky), .string (bs up), .string (bs vl)]] w fun e w' => e = .returned (.tuple #[]) ∧ SyPost Gs w b hb ch hs (carryS 7 nn S) w' := by
  obtain ⟨i2, hi2, hx0, hx1, hx2⟩ := info_parts Tryz.infoOwnPk
  have hwl := inv.wl
  have HIn : Hid (Inv K M S) := inv
  have HX : Hid (SyX Gs w b hb ch hs aw cw S) := x
  obtain ⟨W, hW⟩ : ∃ W, W = w.alloc (.cells #[.int .i64 7, .int .i64 hh, .int .i64 ot, .int .i64 nn, .string (bs ky), .string (bs up), .string (bs vl)] 34) := ⟨_, rfl⟩
  obtain ⟨A, HA⟩ : ∃ A : Nat, Hid (A = w.heap.size) := ⟨_, rfl⟩
  have KW : Hid (Kept Nil w W) := by rw [hW]; exact (Kept.refl _ _).alloc _
  have HAW : Hid (W.heap[A]? = some (.cells #[.int .i64 7, .int .i64 hh, .int .i64 ot, .int .i64 nn, .string (bs ky), .string (bs up), .string (bs vl)] 34 (0, 0))) := by rw [hW, HA.out]; exact blk_new _ _
  have HXW : Hid (SyX Gs W b hb ch hs aw cw S) := x.kept KW.out
  have p0 : W.cell? ⟨A, 0, none⟩ = some (.int .i64 7) := blk_at HAW.out 0 rfl
  have p3 : W.cell? ⟨A, 3, none⟩ = some (.int .i64 nn) := blk_at HAW.out 3 rfl
  have s1 : W.cell? ⟨b, 1, none⟩ = some (.slice aw S.wy.length cw) := blk_at HXW.out.blk 1 rfl
  have hbW : b < W.heap.size := lt_of_block HXW.out.blk
  have hAW : A < W.heap.size := lt_of_block HAW.out
  obtain ⟨T, HT⟩ : ∃ T, Hid (T = carryS 7 nn S) := ⟨_, rfl⟩
  rw [← HT.out]
  obtain ⟨at', HAt⟩ : ∃ at', Hid (at' = atW nn S.wy.length) := ⟨_, rfl⟩
  have hat : at' < S.wy.length := by rw [HAt.out]; exact atW_lt nn (by omega)
  obtain ⟨p, HP⟩ : ∃ p, Hid (S.wy[at']? = some p) := ⟨S.wy[at'], List.getElem?_eq_getElem hat⟩
  have HTe : Hid (T = dropW at' S) := by
    show _ = _
    rw [HT.out]
    unfold carryS
    rw [← HAt.out, HP.out]
    rfl
  obtain ⟨m0, m1, m2⟩ := mod_mod nn S.wy.length (by omega)
  rw [← HAt.out] at m2
  obtain ⟨g, o, cur, eaw, hcur, hlc, hcm, hcs, hcat⟩ := HXW.out.wy.block (by omega)
  unfold maxLen at hcm
  obtain ⟨hpl, hpe⟩ := List.getElem?_eq_some_iff.1 HP.out
  obtain ⟨pe0, pe1, pe2, pe3, pe4⟩ := pkCells_at S.wy at' hpl
  rw [hpe] at pe0 pe1 pe2 pe3 pe4
  have hcell : ∀ i v, (pkCells S.wy)[at' * 5 + i]? = some v → i < 5 → W.cell? ⟨g, o + (at' * 5 + i), none⟩ = some v := fun i v h hi => by rw [blk_cell hcur, hcat _ (by omega), h]
  have q0 : W.cell? ⟨g, o + at' * 5, none⟩ = some (.int .i64 p.fr) := hcell 0 _ pe0 (by omega)
  have q1 : W.cell? ⟨g, o + at' * 5 + 1, none⟩ = some (.int .i64 p.ds) := hcell 1 _ pe1 (by omega)
  have q2 : W.cell? ⟨g, o + at' * 5 + 2, none⟩ = some (.int .i64 p.nu) := hcell 2 _ pe2 (by omega)
  have q3 : W.cell? ⟨g, o + at' * 5 + 3, none⟩ = some (.bool p.ak) := hcell 3 _ pe3 (by omega)
  have q4 : W.cell? ⟨g, o + at' * 5 + 4, none⟩ = some (.string (bs p.bd)) := hcell 4 _ pe4 (by omega)
  have hgl : g < W.heap.size := lt_of_block hcur
  have HCW : Hid (W.heap[g]? = some (.cells cur 86 (0, 0))) := hcur
  have HAT : Hid (∀ j, j < S.wy.length * 5 → cur[o + j]? = (pkCells S.wy)[j]?) := hcat
  have HCS : Hid (S.wy.length ≤ cw ∧ cw ≤ 9223372036854775807 ∧ o + cw * 5 ≤ cur.size) := ⟨hlc, by omega, hcs⟩
  subst eaw
  have hzi : ¬ (S.wy.length : Int) = 0 := by omega
  have hmp : (0 : Int) < (S.wy.length : Int) := by omega
  have hati : (at' : Int) < (S.wy.length : Int) := by omega
  obtain ⟨q, HQ⟩ : ∃ q : Int, Hid (q = nn.tmod S.wy.length) := ⟨_, rfl⟩
  have hwr : IntKind.i64.wrap (q + (S.wy.length : Int)) = q + (S.wy.length : Int) := by rw [IntKind.wrap_i64]; have := HQ.out; omega
  have hq1 : nn.tmod (S.wy.length : Int) = q := HQ.out.symm
  rw [← HQ.out] at m0 m1 m2
  obtain ⟨Y, hY⟩ : ∃ Y, Y = W.alloc (.cells #[.int .i64 p.fr, .int .i64 p.ds, .int .i64 p.nu, .bool p.ak, .string (bs p.bd)] 86) := ⟨_, rfl⟩
  obtain ⟨R, HR⟩ : ∃ R : Nat, Hid (R = W.heap.size) := ⟨_, rfl⟩
  have KY : Hid (Kept Nil w Y) := by rw [hY]; exact KW.out.alloc _
  have KWY : Hid (Kept Nil W Y) := by rw [hY]; exact (Kept.refl _ _).alloc _
  have HRY : Hid (Y.heap[R]? = some (.cells #[.int .i64 p.fr, .int .i64 p.ds, .int .i64 p.nu, .bool p.ak, .string (bs p.bd)] 86 (0, 0))) := by rw [hY, HR.out]; exact blk_new _ _
  have HXY : Hid (SyX Gs Y b hb ch hs (some ⟨g, o, none⟩) cw S) := HX.out.kept KY.out
  have HAY : Hid (Y.heap[A]? = _) := KWY.out.block _ _ HAW.out (fun e => e)
  have HRB : Hid (w.heap.size ≤ R ∧ R < Y.heap.size) := ⟨by rw [HR.out]; exact KW.out.size, lt_of_block HRY.out⟩
  clear pe0 pe1 pe2 pe3 pe4 hcell hcat hpe hcs hcm hlc hcur
  clear x inv
  go_enter Tryz.func21, Tryz.ntmps21
  go_upto_region 1 with fail
  rw [← hW, ← HA.out]
  clear hW
  go_upto_region 5 with fail
  rw [← hY, ← HR.out]
  clear hY q0 q1 q2 q3 q4 s1 p0 p3
  have y0 := blk_at HAY.out 0 rfl
  have y1 : Y.cell? ⟨b, 1, none⟩ = some (.slice (some ⟨g, o, none⟩) S.wy.length cw) := blk_at HXY.out.blk 1 rfl
  have hbY : b < Y.heap.size := lt_of_block HXY.out.blk
  have hAY : A < Y.heap.size := lt_of_block HAY.out
  have hRY : R < Y.heap.size := HRB.out.2
  have SR1 : Hid (Src Tryz.prog 5 44 (.slice (some ⟨g, o, none⟩) at' cw) at' (pkCells (S.wy.take at')) Y) := by
    refine Src.ofSlice _ Tryz.underlying44 ⟨g, o, .none⟩ at' cw _ (by rw [pkCells_len, List.length_take, Nat.min_eq_left (by omega)]) (fun j u hj => ?_) (pkCells_one _)
    have h1 : j < at' * 5 := by have := (List.getElem?_eq_some_iff.1 hj).1; rwa [pkCells_len, List.length_take, Nat.min_eq_left (by omega)] at this
    rw [Addr.add_lit, blk_cell (KWY.out.block _ _ HCW.out (fun e => e)), ← hj, pkCells_take, List.getElem?_take, if_pos h1, ← HAT.out _ (by omega)]
  have hc1 := HCS.out
  have hkc : at' ≤ cw := by omega
  have hkci : (at' : Int) ≤ (cw : Int) := by omega
  have hw1 : IntKind.i64.wrap ((at' : Int) + 1) = (at' : Int) + 1 := by rw [IntKind.wrap_i64]; omega
  have hge0 : (0 : Int) ≤ (at' : Int) + 1 := by omega
  have hti : ((at' : Int) + 1).toNat = at' + 1 := by omega
  have hk1n : at' + 1 ≤ S.wy.length := by omega
  have hk1ni : (at' : Int) + 1 ≤ (S.wy.length : Int) := by omega
  have hnc : S.wy.length ≤ cw := hc1.1
  have hnci : (S.wy.length : Int) ≤ (cw : Int) := by omega
  clear hc1
  by_cases hcc : cw = at' + 1
  · have HLE : Hid (S.wy.length = at' + 1) := by show _ = _; omega
    subst hcc
    have SR2 : Hid (∀ X, Kept Nil Y X → Src Tryz.prog 5 44 (.slice (some ⟨g, o, none⟩) 0 0) 0 (pkCells (S.wy.drop (at' + 1))) X) := fun X kX => by
      have e : S.wy.drop (at' + 1) = [] := List.drop_eq_nil_of_le (by have := HCS.out.1; omega)
      rw [e]
      exact Src.ofSlice _ Tryz.underlying44 ⟨g, o, .none⟩ 0 0 _ rfl (fun j u hj => by simp [pkCells] at hj) (fun u hu => by cases hu)
    have HLL1 : Hid (0 + at' ≤ maxLen ∧ (0 + at') * 48 ≤ 140737488355328) := by constructor <;> (try unfold maxLen) <;> omega
    have HLL2 : Hid (at' + 0 ≤ maxLen ∧ (at' + 0) * 48 ≤ 140737488355328) := by constructor <;> (try unfold maxLen) <;> omega
    go_upto_region 9 with (at_builtin; go_must (refine wpList_append_src _ rfl _ _ 44 44 rfl Y.heap.size 86 i2 (.agg #[.int .i64 0, .int .i64 0, .int .i64 0, .bool false, .string ⟨#[]⟩]) 5 48 Tryz.underlying44 hi2 hx0 hx1 hx2 rfl (.slice none 0 0) 0 [] rfl (World.ownsRow_nil _ _ _ _) (.slice (some ⟨g, o, none⟩) at' (at' + 1)) at' (pkCells (S.wy.take at')) rfl SR1.out HLL1.out.1 HLL1.out.2 (Nat.le_refl _) ?_); intro a6 c6 w6 ho6 hg6; simp only [Nat.zero_add, List.nil_append] at ho6; have HO6 : Hid (w6.ownsRow Y.heap.size 86 5 (.slice a6 at' c6) at' (pkCells (S.wy.take at'))) := ho6; have K6 : Hid (Kept Nil Y w6) := (Kept.refl _ _).grown hg6 (fun q hq => by simp [Value.ownBlock] at hq); have t6 : w6.cell? ⟨b, 1, none⟩ = some (.slice (some ⟨g, o, none⟩) S.wy.length (at' + 1)) := cell_kept K6.out (fun _ x => x) y1; have hb6 : b < w6.heap.size := World.block_lt_of_cell? w6 _ t6; clear ho6 hg6)
    (try simp only [Nat.zero_add])
    go_upto_region 10 with (at_builtin; go_must (refine wpList_append_src _ rfl _ _ 44 44 rfl Y.heap.size 86 i2 (.agg #[.int .i64 0, .int .i64 0, .int .i64 0, .bool false, .string ⟨#[]⟩]) 5 48 Tryz.underlying44 hi2 hx0 hx1 hx2 rfl (.slice a6 at' c6) at' (pkCells (S.wy.take at')) rfl HO6.out (.slice (some ⟨g, o, none⟩) 0 0) 0 (pkCells (S.wy.drop (at' + 1))) rfl (SR2.out w6 K6.out) HLL2.out.1 HLL2.out.2 K6.out.size ?_); intro a7 c7 w7 ho7 hg7; have K7 : Hid (Kept Nil Y w7) := K6.out.grown hg7 (fun q hq => own_row HO6.out q hq); have HF : Hid (SyX (famN Gs 10 Y w7) (w7.setCell ⟨b, 1, none⟩ (.slice a7 (at') c7)) b hb ch hs a7 c7 (dropW at' S) ∧ Kept (TG (Gs 10)) Y (w7.setCell ⟨b, 1, none⟩ (.slice a7 (at') c7))) := HXY.out.dropped hat K7.out (by omega) ho7; have HB7 : Hid (w7.heap[b]? = _) := K7.out.block _ _ HXY.out.blk (fun e => e); have e7 := blk_at HB7.out 1 rfl; have f7 : w7.frozen? ⟨b, 1, none⟩ = false := blk_free HB7.out _; have hb7 : b < w7.heap.size := lt_of_block HB7.out; have HR7 : Hid (w7.heap[R]? = some (.cells #[.int .i64 p.fr, .int .i64 p.ds, .int .i64 p.nu, .bool p.ak, .string (bs p.bd)] 86 (0, 0))) := K7.out.block _ _ HRY.out (fun e => e); have HA7 : Hid (w7.heap[A]? = _) := K7.out.block _ _ HAY.out (fun e => e); clear ho7 hg7)
    obtain ⟨V, hV⟩ : ∃ V, V = w7.setCell ⟨b, 1, none⟩ (.slice a7 (at') c7) := ⟨_, rfl⟩
    rw [← hV] at HF ⊢
    have hRb : R ≠ b := fun e => by have h1 := HR7.out; rw [e, HB7.out] at h1; cases h1
    have hAb : A ≠ b := fun e => by have h1 := HA7.out; rw [e, HB7.out] at h1; cases h1
    have HRV : Hid (V.heap[R]? = some (.cells #[.int .i64 p.fr, .int .i64 p.ds, .int .i64 p.nu, .bool p.ak, .string (bs p.bd)] 86 (0, 0))) := by rw [hV]; exact blk_other HR7.out hRb _
    have HAV : Hid (V.heap[A]? = some (.cells #[.int .i64 7, .int .i64 hh, .int .i64 ot, .int .i64 nn, .string (bs ky), .string (bs up), .string (bs vl)] 34 (0, 0))) := by rw [hV]; exact blk_other HA7.out hAb _
    have hw7 : Y.heap.size ≤ w7.heap.size := K7.out.size
    clear hV e7 f7 t6 hb6 hb7
    have v0 := blk_at HAV.out 0 rfl
    have v1 : V.cell? ⟨R, 1, none⟩ = some (.int .i64 p.ds) := blk_at HRV.out 1 rfl
    have vh : V.cell? ⟨b, 0, none⟩ = some (.slice (some ⟨hb, 0, none⟩) S.n ch) := blk_at HF.out.1.blk 0 rfl
    have hbV : b < V.heap.size := lt_of_block HF.out.1.blk
    have hAV : A < V.heap.size := lt_of_block HAV.out
    have hRV : R < V.heap.size := lt_of_block HRV.out
    go_quiet (fail)
    go_wp2
    all_goals
      refine bodyPost_ret (results_none rfl _ _ _) rfl ?_
      rw [HTe.out]
      exact ⟨rfl, SyPost.trans (fun _ _ hg => .inl hg) (KY.out.mono (fun _ _ e => e.elim)) (SyPost.trans (Gs1 := famN Gs 10 Y w7) (w1 := V) (fun _ _ hg => famN_sub hg) (HF.out.2.mono (fun _ _ e => ⟨10, e⟩)) (SyPost.same HF.out.1 ((Kept.refl _ _).drewN _)))⟩

  · have SR2 : Hid (∀ X, Kept Nil Y X → Src Tryz.prog 5 44 (.slice (some ⟨g, o + (at' + 1) * 5, none⟩) (S.wy.length - (at' + 1)) (cw - (at' + 1))) (S.wy.length - (at' + 1)) (pkCells (S.wy.drop (at' + 1))) X) := fun X kX => by
      refine Src.ofSlice _ Tryz.underlying44 ⟨g, o + (at' + 1) * 5, .none⟩ _ _ _ (by rw [pkCells_len, List.length_drop]) (fun j u hj => ?_) (pkCells_one _)
      have h1 : j < (S.wy.length - (at' + 1)) * 5 := by have := (List.getElem?_eq_some_iff.1 hj).1; rwa [pkCells_len, List.length_drop] at this
      rw [Addr.add_lit, blk_cell (kX.block _ _ (KWY.out.block _ _ HCW.out (fun e => e)) (fun e => e)), ← hj, pkCells_drop, List.getElem?_drop, ← HAT.out _ (by omega)]
      congr 1; omega
    have HLL1 : Hid (0 + at' ≤ maxLen ∧ (0 + at') * 48 ≤ 140737488355328) := by constructor <;> (try unfold maxLen) <;> omega
    have HLL2 : Hid (at' + (S.wy.length - (at' + 1)) ≤ maxLen ∧ (at' + (S.wy.length - (at' + 1))) * 48 ≤ 140737488355328) := by constructor <;> (try unfold maxLen) <;> omega
    go_upto_region 9 with (at_builtin; go_must (refine wpList_append_src _ rfl _ _ 44 44 rfl Y.heap.size 86 i2 (.agg #[.int .i64 0, .int .i64 0, .int .i64 0, .bool false, .string ⟨#[]⟩]) 5 48 Tryz.underlying44 hi2 hx0 hx1 hx2 rfl (.slice none 0 0) 0 [] rfl (World.ownsRow_nil _ _ _ _) (.slice (some ⟨g, o, none⟩) at' cw) at' (pkCells (S.wy.take at')) rfl SR1.out HLL1.out.1 HLL1.out.2 (Nat.le_refl _) ?_); intro a6 c6 w6 ho6 hg6; simp only [Nat.zero_add, List.nil_append] at ho6; have HO6 : Hid (w6.ownsRow Y.heap.size 86 5 (.slice a6 at' c6) at' (pkCells (S.wy.take at'))) := ho6; have K6 : Hid (Kept Nil Y w6) := (Kept.refl _ _).grown hg6 (fun q hq => by simp [Value.ownBlock] at hq); have t6 : w6.cell? ⟨b, 1, none⟩ = some (.slice (some ⟨g, o, none⟩) S.wy.length cw) := cell_kept K6.out (fun _ x => x) y1; have hb6 : b < w6.heap.size := World.block_lt_of_cell? w6 _ t6; clear ho6 hg6)
    (try simp only [Nat.zero_add])
    go_upto_region 10 with (at_builtin; go_must (refine wpList_append_src _ rfl _ _ 44 44 rfl Y.heap.size 86 i2 (.agg #[.int .i64 0, .int .i64 0, .int .i64 0, .bool false, .string ⟨#[]⟩]) 5 48 Tryz.underlying44 hi2 hx0 hx1 hx2 rfl (.slice a6 at' c6) at' (pkCells (S.wy.take at')) rfl HO6.out (.slice (some ⟨g, o + (at' + 1) * 5, none⟩) (S.wy.length - (at' + 1)) (cw - (at' + 1))) (S.wy.length - (at' + 1)) (pkCells (S.wy.drop (at' + 1))) rfl (SR2.out w6 K6.out) HLL2.out.1 HLL2.out.2 K6.out.size ?_); intro a7 c7 w7 ho7 hg7; have K7 : Hid (Kept Nil Y w7) := K6.out.grown hg7 (fun q hq => own_row HO6.out q hq); have HF : Hid (SyX (famN Gs 10 Y w7) (w7.setCell ⟨b, 1, none⟩ (.slice a7 (at' + (S.wy.length - (at' + 1))) c7)) b hb ch hs a7 c7 (dropW at' S) ∧ Kept (TG (Gs 10)) Y (w7.setCell ⟨b, 1, none⟩ (.slice a7 (at' + (S.wy.length - (at' + 1))) c7))) := HXY.out.dropped hat K7.out (by omega) ho7; have HB7 : Hid (w7.heap[b]? = _) := K7.out.block _ _ HXY.out.blk (fun e => e); have e7 := blk_at HB7.out 1 rfl; have f7 : w7.frozen? ⟨b, 1, none⟩ = false := blk_free HB7.out _; have hb7 : b < w7.heap.size := lt_of_block HB7.out; have HR7 : Hid (w7.heap[R]? = some (.cells #[.int .i64 p.fr, .int .i64 p.ds, .int .i64 p.nu, .bool p.ak, .string (bs p.bd)] 86 (0, 0))) := K7.out.block _ _ HRY.out (fun e => e); have HA7 : Hid (w7.heap[A]? = _) := K7.out.block _ _ HAY.out (fun e => e); clear ho7 hg7)
    obtain ⟨V, hV⟩ : ∃ V, V = w7.setCell ⟨b, 1, none⟩ (.slice a7 (at' + (S.wy.length - (at' + 1))) c7) := ⟨_, rfl⟩
    rw [← hV] at HF ⊢
    have hRb : R ≠ b := fun e => by have h1 := HR7.out; rw [e, HB7.out] at h1; cases h1
    have hAb : A ≠ b := fun e => by have h1 := HA7.out; rw [e, HB7.out] at h1; cases h1
    have HRV : Hid (V.heap[R]? = some (.cells #[.int .i64 p.fr, .int .i64 p.ds, .int .i64 p.nu, .bool p.ak, .string (bs p.bd)] 86 (0, 0))) := by rw [hV]; exact blk_other HR7.out hRb _
    have HAV : Hid (V.heap[A]? = some (.cells #[.int .i64 7, .int .i64 hh, .int .i64 ot, .int .i64 nn, .string (bs ky), .string (bs up), .string (bs vl)] 34 (0, 0))) := by rw [hV]; exact blk_other HA7.out hAb _
    have hw7 : Y.heap.size ≤ w7.heap.size := K7.out.size
    clear hV e7 f7 t6 hb6 hb7
    have v0 := blk_at HAV.out 0 rfl
    have v1 : V.cell? ⟨R, 1, none⟩ = some (.int .i64 p.ds) := blk_at HRV.out 1 rfl
    have vh : V.cell? ⟨b, 0, none⟩ = some (.slice (some ⟨hb, 0, none⟩) S.n ch) := blk_at HF.out.1.blk 0 rfl
    have hbV : b < V.heap.size := lt_of_block HF.out.1.blk
    have hAV : A < V.heap.size := lt_of_block HAV.out
    have hRV : R < V.heap.size := lt_of_block HRV.out
    go_quiet (fail)
    go_wp2
    all_goals
      refine bodyPost_ret (results_none rfl _ _ _) rfl ?_
      rw [HTe.out]
      exact ⟨rfl, SyPost.trans (fun _ _ hg => .inl hg) (KY.out.mono (fun _ _ e => e.elim)) (SyPost.trans (Gs1 := famN Gs 10 Y w7) (w1 := V) (fun _ _ hg => famN_sub hg) (HF.out.2.mono (fun _ _ e => ⟨10, e⟩)) (SyPost.same HF.out.1 ((Kept.refl _ _).drewN _)))⟩

end Go.Proofs.YtpfgnhockfofhaaGreat
